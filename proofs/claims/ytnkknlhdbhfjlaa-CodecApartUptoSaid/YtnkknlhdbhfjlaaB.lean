/-
  Laid by wip/prune.py out of wip/data: Wrong Own May.
-/
import Derived.Test.YtnkknlhdbhfjlaaA
namespace Go.Proofs.Ytnkknlhdbhfjlaa
open Go.RowKit

theorem beq_zero (n : Nat) : ((n : Int) == 0) = decide (n = 0) := by
  rw [Bool.eq_iff_iff]
  simp
theorem toList_nil (s : ByteArray) : s.toList = [] ↔ s.size = 0 := by
  have h : s.toList = s.data.toList := ByteArray.toList_eq s
  have h2 := size_list s
  rw [h]
  constructor
  · intro h; rw [h] at h2; simpa using h2.symm
  · intro h; exact List.eq_nil_of_length_eq_zero (by omega)
set_option maxRecDepth 8000 in
set_option maxHeartbeats 1000000 in
theorem wrong_0 (v : V) (x : X) (w : World) (h : Is w v x) (h0 : v.k = 0) :
    Calls Try.prog 27 #[x.v] w fun e w' => e = .returned (.bool (!v.own)) ∧ Below w.heap.size w w' := by
  obtain ⟨ka, kc, la, lc, rfl, h1, h2, h3, h4⟩ := h.open
  simp only [X.v]
  rw [h0]
  obtain ⟨n, hn⟩ : ∃ n, n = v.n := ⟨_, rfl⟩
  obtain ⟨s, hs⟩ : ∃ s, s = v.s := ⟨_, rfl⟩
  obtain ⟨kn, hkn⟩ : ∃ n, n = v.ks.length := ⟨_, rfl⟩
  obtain ⟨ln, hln⟩ : ∃ n, n = v.l.length := ⟨_, rfl⟩
  rw [← hn, ← hs, ← hkn, ← hln]
  have HW : Hid (v.own = decide (n = 0 ∧ s.size = 0 ∧ kn = 0 ∧ ln = 0)) := by
    show v.own = _
    unfold V.own
    rw [if_pos (by omega), ← hn, ← hs, ← hkn, ← hln]
  have HT := Lib.hid (toList_nil s)
  clear h h0 h1 h2 h3 h4 hn hs hkn hln
  go_enter Try.func27, Try.ntmps27
  go_wp2_with fail
  go_quiet (fail)
  go_wp2_with fail
  all_goals go_ret
  all_goals refine ⟨ret_bool ?_, (below_alloc w _).trans (below_drewN _ _ _)⟩
  all_goals rw [HW.out]
  all_goals have hT := HT.out
  all_goals simp_all
  all_goals exact beq_zero _
set_option maxRecDepth 8000 in
set_option maxHeartbeats 1000000 in
theorem wrong_1 (v : V) (x : X) (w : World) (h : Is w v x) (h0 : v.k = 1) :
    Calls Try.prog 27 #[x.v] w fun e w' => e = .returned (.bool (!v.own)) ∧ Below w.heap.size w w' := by
  obtain ⟨ka, kc, la, lc, rfl, h1, h2, h3, h4⟩ := h.open
  simp only [X.v]
  rw [h0]
  obtain ⟨n, hn⟩ : ∃ n, n = v.n := ⟨_, rfl⟩
  obtain ⟨s, hs⟩ : ∃ s, s = v.s := ⟨_, rfl⟩
  obtain ⟨kn, hkn⟩ : ∃ n, n = v.ks.length := ⟨_, rfl⟩
  obtain ⟨ln, hln⟩ : ∃ n, n = v.l.length := ⟨_, rfl⟩
  rw [← hn, ← hs, ← hkn, ← hln]
  have HW : Hid (v.own = decide (n = 0 ∧ s.size = 0 ∧ kn = 0 ∧ ln = 0)) := by
    show v.own = _
    unfold V.own
    rw [if_pos (by omega), ← hn, ← hs, ← hkn, ← hln]
  have HT := Lib.hid (toList_nil s)
  clear h h0 h1 h2 h3 h4 hn hs hkn hln
  go_enter Try.func27, Try.ntmps27
  go_wp2_with fail
  go_quiet (fail)
  go_wp2_with fail
  all_goals go_ret
  all_goals refine ⟨ret_bool ?_, (below_alloc w _).trans (below_drewN _ _ _)⟩
  all_goals rw [HW.out]
  all_goals have hT := HT.out
  all_goals simp_all
  all_goals exact beq_zero _
set_option maxRecDepth 8000 in
set_option maxHeartbeats 1000000 in
theorem wrong_2 (v : V) (x : X) (w : World) (h : Is w v x) (h0 : v.k = 2) :
    Calls Try.prog 27 #[x.v] w fun e w' => e = .returned (.bool (!v.own)) ∧ Below w.heap.size w w' := by
  obtain ⟨ka, kc, la, lc, rfl, h1, h2, h3, h4⟩ := h.open
  simp only [X.v]
  rw [h0]
  obtain ⟨n, hn⟩ : ∃ n, n = v.n := ⟨_, rfl⟩
  obtain ⟨s, hs⟩ : ∃ s, s = v.s := ⟨_, rfl⟩
  obtain ⟨kn, hkn⟩ : ∃ n, n = v.ks.length := ⟨_, rfl⟩
  obtain ⟨ln, hln⟩ : ∃ n, n = v.l.length := ⟨_, rfl⟩
  rw [← hn, ← hs, ← hkn, ← hln]
  have HW : Hid (v.own = decide ((n = 0 ∨ n = 1) ∧ s.size = 0 ∧ kn = 0 ∧ ln = 0)) := by
    show v.own = _
    unfold V.own
    rw [if_neg (by omega), if_pos (by omega), ← hn, ← hs, ← hkn, ← hln]
  have HT := Lib.hid (toList_nil s)
  clear h h0 h1 h2 h3 h4 hn hs hkn hln
  go_enter Try.func27, Try.ntmps27
  go_wp2_with fail
  go_quiet (fail)
  go_wp2_with fail
  all_goals go_ret
  all_goals refine ⟨ret_bool ?_, (below_alloc w _).trans (below_drewN _ _ _)⟩
  all_goals rw [HW.out]
  all_goals have hT := HT.out
  all_goals simp_all
  all_goals exact beq_zero _
set_option maxRecDepth 8000 in
set_option maxHeartbeats 1000000 in
theorem wrong_3 (v : V) (x : X) (w : World) (h : Is w v x) (h0 : v.k = 3) :
    Calls Try.prog 27 #[x.v] w fun e w' => e = .returned (.bool (!v.own)) ∧ Below w.heap.size w w' := by
  obtain ⟨ka, kc, la, lc, rfl, h1, h2, h3, h4⟩ := h.open
  simp only [X.v]
  rw [h0]
  obtain ⟨n, hn⟩ : ∃ n, n = v.n := ⟨_, rfl⟩
  obtain ⟨s, hs⟩ : ∃ s, s = v.s := ⟨_, rfl⟩
  obtain ⟨kn, hkn⟩ : ∃ n, n = v.ks.length := ⟨_, rfl⟩
  obtain ⟨ln, hln⟩ : ∃ n, n = v.l.length := ⟨_, rfl⟩
  rw [← hn, ← hs, ← hkn, ← hln]
  have HW : Hid (v.own = decide ((-9007199254740991 ≤ n ∧ n ≤ 9007199254740991) ∧ s.size = 0 ∧ kn = 0 ∧ ln = 0)) := by
    show v.own = _
    unfold V.own
    rw [if_neg (by omega), if_neg (by omega), if_pos (by omega), ← hn, ← hs, ← hkn, ← hln]
  have HT := Lib.hid (toList_nil s)
  clear h h0 h1 h2 h3 h4 hn hs hkn hln
  go_enter Try.func27, Try.ntmps27
  go_wp2_with fail
  go_quiet (fail)
  go_wp2_with fail
  all_goals go_ret
  all_goals refine ⟨ret_bool ?_, (below_alloc w _).trans (below_drewN _ _ _)⟩
  all_goals rw [HW.out]
  all_goals have hT := HT.out
  all_goals simp_all
  all_goals exact beq_zero _
set_option maxRecDepth 8000 in
set_option maxHeartbeats 1000000 in
theorem wrong_5 (v : V) (x : X) (w : World) (h : Is w v x) (h0 : v.k = 5) :
    Calls Try.prog 27 #[x.v] w fun e w' => e = .returned (.bool (!v.own)) ∧ Below w.heap.size w w' := by
  obtain ⟨ka, kc, la, lc, rfl, h1, h2, h3, h4⟩ := h.open
  simp only [X.v]
  rw [h0]
  obtain ⟨n, hn⟩ : ∃ n, n = v.n := ⟨_, rfl⟩
  obtain ⟨s, hs⟩ : ∃ s, s = v.s := ⟨_, rfl⟩
  obtain ⟨kn, hkn⟩ : ∃ n, n = v.ks.length := ⟨_, rfl⟩
  obtain ⟨ln, hln⟩ : ∃ n, n = v.l.length := ⟨_, rfl⟩
  rw [← hn, ← hs, ← hkn, ← hln]
  have HW : Hid (v.own = decide (n = 0 ∧ s.size = 0 ∧ kn = 0)) := by
    show v.own = _
    unfold V.own
    rw [if_neg (by omega), if_neg (by omega), if_neg (by omega), if_neg (by omega), if_pos (by omega), ← hn, ← hs, ← hkn]
  have HT := Lib.hid (toList_nil s)
  clear h h0 h1 h2 h3 h4 hn hs hkn hln
  go_enter Try.func27, Try.ntmps27
  go_wp2_with fail
  go_quiet (fail)
  go_wp2_with fail
  all_goals go_ret
  all_goals refine ⟨ret_bool ?_, (below_alloc w _).trans (below_drewN _ _ _)⟩
  all_goals rw [HW.out]
  all_goals have hT := HT.out
  all_goals simp_all
  all_goals exact beq_zero _
set_option maxRecDepth 8000 in
set_option maxHeartbeats 1000000 in
theorem wrong_4 (v : V) (x : X) (w : World) (h : Is w v x) (hb : v.bulk ≤ 4194304) (h0 : v.k = 4) :
    Calls Try.prog 27 #[x.v] w fun e w' => e = .returned (.bool (!v.own)) ∧ Below w.heap.size w w' := by
  obtain ⟨ka, kc, la, lc, rfl, h1, h2, h3, h4⟩ := h.open
  have hsz : v.s.size ≤ 4194304 := by
    cases v
    simp only [V.bulk, V.s] at *
    omega
  simp only [X.v]
  rw [h0]
  obtain ⟨n, hn⟩ : ∃ n, n = v.n := ⟨_, rfl⟩
  obtain ⟨s, hs⟩ : ∃ s, s = v.s := ⟨_, rfl⟩
  obtain ⟨kn, hkn⟩ : ∃ n, n = v.ks.length := ⟨_, rfl⟩
  obtain ⟨ln, hln⟩ : ∃ n, n = v.l.length := ⟨_, rfl⟩
  rw [← hn, ← hs, ← hkn, ← hln]
  rw [← hs] at hsz
  have HC := Lib.hid fun w => check_any s w (by unfold maxLen; omega)
  have HW : Hid (v.own = decide (n = 0 ∧ s.size % 2 = 0 ∧ kn = 0 ∧ ln = 0)) := by
    show v.own = _
    unfold V.own
    rw [if_neg (by omega), if_neg (by omega), if_neg (by omega), if_pos (by omega), ← hn, ← hs, ← hkn, ← hln]
  clear h h0 h1 h2 h3 h4 hn hs hkn hln hb
  go_enter Try.func27, Try.ntmps27
  go_wp2_with fail
  go_quiet (fail)
  go_wp2_with fail
  refine (HC.out _).mono ?_
  rintro e w' ⟨rfl, rfl⟩
  go_wp2_with fail
  all_goals go_ret
  all_goals refine ⟨ret_bool ?_, (below_alloc w _).trans (below_drewN _ _ _)⟩
  all_goals rw [HW.out]
  all_goals simp_all
  all_goals exact beq_zero _
set_option maxRecDepth 8000 in
set_option maxHeartbeats 1000000 in
theorem wrong_6 (v : V) (x : X) (w : World) (h : Is w v x) (hb : v.bulk ≤ 4194304) (h0 : v.k = 6) :
    Calls Try.prog 27 #[x.v] w fun e w' => e = .returned (.bool (!v.own)) ∧ Below w.heap.size w w' := by
  obtain ⟨ka, kc, la, lc, rfl, h1, h2, h3, h4⟩ := h.open
  have hsz : keysBulk v.ks ≤ 4194304 := by
    cases v
    simp only [V.bulk, V.ks] at *
    omega
  have hwl : v.ks.length ≤ 4194304 := Nat.le_trans (length_le_keysBulk _) hsz
  have HD := Lib.hid fun w' (hb' : Below w.heap.size w w') => distinct_any ka v.ks kc w' (h3.below hb') hsz
  simp only [X.v]
  rw [h0]
  obtain ⟨n, hn⟩ : ∃ n, n = v.n := ⟨_, rfl⟩
  obtain ⟨s, hs⟩ : ∃ s, s = v.s := ⟨_, rfl⟩
  obtain ⟨ln, hln⟩ : ∃ n, n = v.l.length := ⟨_, rfl⟩
  have HT := Lib.hid (toList_nil s)
  rw [← hn, ← hs, ← hln]
  have HW : Hid (v.own = decide (n = 0 ∧ s.size = 0 ∧ v.ks.length = ln ∧ okKeys v.ks)) := by
    show v.own = _
    unfold V.own
    rw [if_neg (by omega), if_neg (by omega), if_neg (by omega), if_neg (by omega), if_neg (by omega), if_pos (by omega), ← hn, ← hs, ← hln]
  generalize v.ks = ks at *
  by_cases hl : ks.length = ln
  · subst hl
    clear h h0 h1 h2 h3 h4 hn hs hln hb hsz
    generalize ks.length = kn at *
    go_enter Try.func27, Try.ntmps27
    go_wp2_with fail
    go_quiet (fail)
    go_wp2_with fail
    refine (HD.out _ ((below_alloc w _).trans (below_drewN _ _ _))).mono ?_
    rintro e w1 ⟨rfl, hb1⟩
    have hb2 := Lib.hid (((below_alloc w (.cells #[.int .i64 6, .int .i64 n, .string s, .slice ka kn kc, .slice la kn lc] 25)).trans (below_drewN _ _ nq)).trans (hb1.mono (by simp)))
    clear hb1
    obtain ⟨B, hB⟩ : ∃ B : Bool, B = decide (okKeys ks) := ⟨_, rfl⟩
    rw [← hB]
    have HB := Lib.hid hB
    clear hB
    go_wp2_with fail
    all_goals go_ret
    all_goals refine ⟨ret_bool ?_, hb2.out⟩
    all_goals rw [HW.out]
    all_goals have hT := HT.out
    all_goals have hB := HB.out
    all_goals simp_all
  · have hl' : ((ks.length : Int) == (ln : Int)) = false := by rw [beq_eq_false_iff_ne]; omega
    have hl'' := Lib.hid hl
    generalize hkl : ks.length = kn at *
    clear h h0 h1 h2 h3 h4 hn hs hln hb hsz HD hl hkl
    go_enter Try.func27, Try.ntmps27
    go_wp2_with fail
    go_quiet (fail)
    go_wp2_with fail
    all_goals go_ret
    all_goals refine ⟨ret_bool ?_, (below_alloc w _).trans (below_drewN _ _ _)⟩
    all_goals rw [HW.out]
    all_goals have hl := hl''.out
    all_goals simp_all
set_option maxRecDepth 8000 in
set_option maxHeartbeats 1000000 in
theorem wrong_x (v : V) (x : X) (w : World) (h : Is w v x) (h0 : ¬ v.k = 0 ∧ ¬ v.k = 1 ∧ ¬ v.k = 2 ∧ ¬ v.k = 3 ∧ ¬ v.k = 4 ∧ ¬ v.k = 5 ∧ ¬ v.k = 6) :
    Calls Try.prog 27 #[x.v] w fun e w' => e = .returned (.bool (!v.own)) ∧ Below w.heap.size w w' := by
  obtain ⟨ka, kc, la, lc, rfl, h1, h2, h3, h4⟩ := h.open
  have HW : Hid (v.own = false) := by
    show v.own = _
    unfold V.own
    rw [if_neg (by omega), if_neg (by omega), if_neg (by omega), if_neg (by omega), if_neg (by omega), if_neg (by omega)]
  simp only [X.v]
  obtain ⟨k, hk⟩ : ∃ n, n = v.k := ⟨_, rfl⟩
  obtain ⟨n, hn⟩ : ∃ n, n = v.n := ⟨_, rfl⟩
  obtain ⟨s, hs⟩ : ∃ s, s = v.s := ⟨_, rfl⟩
  obtain ⟨kn, hkn⟩ : ∃ n, n = v.ks.length := ⟨_, rfl⟩
  obtain ⟨ln, hln⟩ : ∃ n, n = v.l.length := ⟨_, rfl⟩
  rw [← hk, ← hn, ← hs, ← hkn, ← hln]
  rw [← hk] at h0
  have hbe : ∀ m : Int, ¬ k = m → (k == m) = false := fun m hm => by rw [beq_eq_false_iff_ne]; exact hm
  have b0 := hbe 0 (by omega)
  have b1 := hbe 1 (by omega)
  have b2 := hbe 2 (by omega)
  have b3 := hbe 3 (by omega)
  have b4 := hbe 4 (by omega)
  have b5 := hbe 5 (by omega)
  have b6 := hbe 6 (by omega)
  clear h h0 h1 h2 h3 h4 hn hs hkn hln hbe hk
  go_enter Try.func27, Try.ntmps27
  go_wp2_with fail
  go_quiet (fail)
  go_wp2_with fail
  all_goals go_ret
  all_goals exact ⟨by rw [HW.out]; rfl, (below_alloc w _).trans (below_drewN _ _ _)⟩
theorem wrong_any (v : V) (x : X) (w : World) (h : Is w v x) (hb : v.bulk ≤ 4194304) :
    Calls Try.prog 27 #[x.v] w fun e w' => e = .returned (.bool (!v.own)) ∧ Below w.heap.size w w' := by
  by_cases h0 : v.k = 0
  · exact wrong_0 v x w h h0
  by_cases h1 : v.k = 1
  · exact wrong_1 v x w h h1
  by_cases h2 : v.k = 2
  · exact wrong_2 v x w h h2
  by_cases h3 : v.k = 3
  · exact wrong_3 v x w h h3
  by_cases h4 : v.k = 4
  · exact wrong_4 v x w h hb h4
  by_cases h5 : v.k = 5
  · exact wrong_5 v x w h h5
  by_cases h6 : v.k = 6
  · exact wrong_6 v x w h hb h6
  exact wrong_x v x w h ⟨h0, h1, h2, h3, h4, h5, h6⟩
set_option maxRecDepth 100000 in
set_option maxHeartbeats 1000000 in
theorem own_0 (v : V) (x : X) (w : World) (h : Is w v x) (h0 : v.k = 0) :
    Calls Try.prog 49 #[x.v] w fun e w' => e = .returned (.bool v.own) ∧ Below w.heap.size w w' := by
  obtain ⟨ka, kc, la, lc, rfl, h1, h2, h3, h4⟩ := h.open
  simp only [X.v]
  rw [h0]
  obtain ⟨n, hn⟩ : ∃ n, n = v.n := ⟨_, rfl⟩
  obtain ⟨s, hs⟩ : ∃ s, s = v.s := ⟨_, rfl⟩
  obtain ⟨kn, hkn⟩ : ∃ n, n = v.ks.length := ⟨_, rfl⟩
  obtain ⟨ln, hln⟩ : ∃ n, n = v.l.length := ⟨_, rfl⟩
  rw [← hn, ← hs, ← hkn, ← hln]
  have HW : Hid (v.own = decide (n = 0 ∧ s.size = 0 ∧ kn = 0 ∧ ln = 0)) := by
    show v.own = _
    unfold V.own
    rw [if_pos (by omega), ← hn, ← hs, ← hkn, ← hln]
  have HT := Lib.hid (toList_nil s)
  clear h h0 h1 h2 h3 h4 hn hs hkn hln
  go_enter Try.func49, Try.ntmps49
  go_wp2_with fail
  all_goals go_ret
  all_goals refine ⟨ret_bool ?_, below_alloc w _⟩
  all_goals rw [HW.out]
  all_goals have hT := HT.out
  all_goals simp_all
  all_goals exact beq_zero _
set_option maxRecDepth 100000 in
set_option maxHeartbeats 1000000 in
theorem own_1 (v : V) (x : X) (w : World) (h : Is w v x) (h0 : v.k = 1) :
    Calls Try.prog 49 #[x.v] w fun e w' => e = .returned (.bool v.own) ∧ Below w.heap.size w w' := by
  obtain ⟨ka, kc, la, lc, rfl, h1, h2, h3, h4⟩ := h.open
  simp only [X.v]
  rw [h0]
  obtain ⟨n, hn⟩ : ∃ n, n = v.n := ⟨_, rfl⟩
  obtain ⟨s, hs⟩ : ∃ s, s = v.s := ⟨_, rfl⟩
  obtain ⟨kn, hkn⟩ : ∃ n, n = v.ks.length := ⟨_, rfl⟩
  obtain ⟨ln, hln⟩ : ∃ n, n = v.l.length := ⟨_, rfl⟩
  rw [← hn, ← hs, ← hkn, ← hln]
  have HW : Hid (v.own = decide (n = 0 ∧ s.size = 0 ∧ kn = 0 ∧ ln = 0)) := by
    show v.own = _
    unfold V.own
    rw [if_pos (by omega), ← hn, ← hs, ← hkn, ← hln]
  have HT := Lib.hid (toList_nil s)
  clear h h0 h1 h2 h3 h4 hn hs hkn hln
  go_enter Try.func49, Try.ntmps49
  go_wp2_with fail
  all_goals go_ret
  all_goals refine ⟨ret_bool ?_, below_alloc w _⟩
  all_goals rw [HW.out]
  all_goals have hT := HT.out
  all_goals simp_all
  all_goals exact beq_zero _
set_option maxRecDepth 100000 in
set_option maxHeartbeats 1000000 in
theorem own_2 (v : V) (x : X) (w : World) (h : Is w v x) (h0 : v.k = 2) :
    Calls Try.prog 49 #[x.v] w fun e w' => e = .returned (.bool v.own) ∧ Below w.heap.size w w' := by
  obtain ⟨ka, kc, la, lc, rfl, h1, h2, h3, h4⟩ := h.open
  simp only [X.v]
  rw [h0]
  obtain ⟨n, hn⟩ : ∃ n, n = v.n := ⟨_, rfl⟩
  obtain ⟨s, hs⟩ : ∃ s, s = v.s := ⟨_, rfl⟩
  obtain ⟨kn, hkn⟩ : ∃ n, n = v.ks.length := ⟨_, rfl⟩
  obtain ⟨ln, hln⟩ : ∃ n, n = v.l.length := ⟨_, rfl⟩
  rw [← hn, ← hs, ← hkn, ← hln]
  have HW : Hid (v.own = decide ((n = 0 ∨ n = 1) ∧ s.size = 0 ∧ kn = 0 ∧ ln = 0)) := by
    show v.own = _
    unfold V.own
    rw [if_neg (by omega), if_pos (by omega), ← hn, ← hs, ← hkn, ← hln]
  have HT := Lib.hid (toList_nil s)
  clear h h0 h1 h2 h3 h4 hn hs hkn hln
  go_enter Try.func49, Try.ntmps49
  go_wp2_with fail
  all_goals go_ret
  all_goals refine ⟨ret_bool ?_, below_alloc w _⟩
  all_goals rw [HW.out]
  all_goals have hT := HT.out
  all_goals simp_all
  all_goals exact beq_zero _
set_option maxRecDepth 100000 in
set_option maxHeartbeats 1000000 in
theorem own_3 (v : V) (x : X) (w : World) (h : Is w v x) (h0 : v.k = 3) :
    Calls Try.prog 49 #[x.v] w fun e w' => e = .returned (.bool v.own) ∧ Below w.heap.size w w' := by
  obtain ⟨ka, kc, la, lc, rfl, h1, h2, h3, h4⟩ := h.open
  simp only [X.v]
  rw [h0]
  obtain ⟨n, hn⟩ : ∃ n, n = v.n := ⟨_, rfl⟩
  obtain ⟨s, hs⟩ : ∃ s, s = v.s := ⟨_, rfl⟩
  obtain ⟨kn, hkn⟩ : ∃ n, n = v.ks.length := ⟨_, rfl⟩
  obtain ⟨ln, hln⟩ : ∃ n, n = v.l.length := ⟨_, rfl⟩
  rw [← hn, ← hs, ← hkn, ← hln]
  have HW : Hid (v.own = decide ((-9007199254740991 ≤ n ∧ n ≤ 9007199254740991) ∧ s.size = 0 ∧ kn = 0 ∧ ln = 0)) := by
    show v.own = _
    unfold V.own
    rw [if_neg (by omega), if_neg (by omega), if_pos (by omega), ← hn, ← hs, ← hkn, ← hln]
  have HT := Lib.hid (toList_nil s)
  clear h h0 h1 h2 h3 h4 hn hs hkn hln
  go_enter Try.func49, Try.ntmps49
  go_wp2_with fail
  all_goals go_ret
  all_goals refine ⟨ret_bool ?_, below_alloc w _⟩
  all_goals rw [HW.out]
  all_goals have hT := HT.out
  all_goals simp_all
  all_goals first | exact beq_zero _ | (intros; omega)
set_option maxRecDepth 100000 in
set_option maxHeartbeats 1000000 in
theorem own_5 (v : V) (x : X) (w : World) (h : Is w v x) (h0 : v.k = 5) :
    Calls Try.prog 49 #[x.v] w fun e w' => e = .returned (.bool v.own) ∧ Below w.heap.size w w' := by
  obtain ⟨ka, kc, la, lc, rfl, h1, h2, h3, h4⟩ := h.open
  simp only [X.v]
  rw [h0]
  obtain ⟨n, hn⟩ : ∃ n, n = v.n := ⟨_, rfl⟩
  obtain ⟨s, hs⟩ : ∃ s, s = v.s := ⟨_, rfl⟩
  obtain ⟨kn, hkn⟩ : ∃ n, n = v.ks.length := ⟨_, rfl⟩
  obtain ⟨ln, hln⟩ : ∃ n, n = v.l.length := ⟨_, rfl⟩
  rw [← hn, ← hs, ← hkn, ← hln]
  have HW : Hid (v.own = decide (n = 0 ∧ s.size = 0 ∧ kn = 0)) := by
    show v.own = _
    unfold V.own
    rw [if_neg (by omega), if_neg (by omega), if_neg (by omega), if_neg (by omega), if_pos (by omega), ← hn, ← hs, ← hkn]
  have HT := Lib.hid (toList_nil s)
  clear h h0 h1 h2 h3 h4 hn hs hkn hln
  go_enter Try.func49, Try.ntmps49
  go_wp2_with fail
  all_goals go_ret
  all_goals refine ⟨ret_bool ?_, below_alloc w _⟩
  all_goals rw [HW.out]
  all_goals have hT := HT.out
  all_goals simp_all
  all_goals exact beq_zero _
set_option maxRecDepth 100000 in
set_option maxHeartbeats 1000000 in
theorem own_4 (v : V) (x : X) (w : World) (h : Is w v x) (hb : v.bulk ≤ 4194304) (h0 : v.k = 4) :
    Calls Try.prog 49 #[x.v] w fun e w' => e = .returned (.bool v.own) ∧ Below w.heap.size w w' := by
  obtain ⟨ka, kc, la, lc, rfl, h1, h2, h3, h4⟩ := h.open
  have hsz : v.s.size ≤ 4194304 := by
    cases v
    simp only [V.bulk, V.s] at *
    omega
  simp only [X.v]
  rw [h0]
  obtain ⟨n, hn⟩ : ∃ n, n = v.n := ⟨_, rfl⟩
  obtain ⟨s, hs⟩ : ∃ s, s = v.s := ⟨_, rfl⟩
  obtain ⟨kn, hkn⟩ : ∃ n, n = v.ks.length := ⟨_, rfl⟩
  obtain ⟨ln, hln⟩ : ∃ n, n = v.l.length := ⟨_, rfl⟩
  rw [← hn, ← hs, ← hkn, ← hln]
  rw [← hs] at hsz
  have HC := Lib.hid fun w => refCheck_any s w (by unfold maxLen; omega)
  have HW : Hid (v.own = decide (n = 0 ∧ s.size % 2 = 0 ∧ kn = 0 ∧ ln = 0)) := by
    show v.own = _
    unfold V.own
    rw [if_neg (by omega), if_neg (by omega), if_neg (by omega), if_pos (by omega), ← hn, ← hs, ← hkn, ← hln]
  clear h h0 h1 h2 h3 h4 hn hs hkn hln hb
  go_enter Try.func49, Try.ntmps49
  go_wp2_with (go_at_call 55; refine (HC.out _).mono ?_; rintro e w' ⟨rfl, rfl⟩)
  all_goals go_ret
  all_goals refine ⟨ret_bool ?_, below_alloc w _⟩
  all_goals rw [HW.out]
  all_goals simp_all
  all_goals exact beq_zero _
set_option maxRecDepth 100000 in
set_option maxHeartbeats 1000000 in
theorem own_6 (v : V) (x : X) (w : World) (h : Is w v x) (hb : v.bulk ≤ 4194304) (h0 : v.k = 6) :
    Calls Try.prog 49 #[x.v] w fun e w' => e = .returned (.bool v.own) ∧ Below w.heap.size w w' := by
  have HK := Lib.hid fun w' (hb' : Below w.heap.size w w') => refKeys_any v x w' (Is.below hb' _ _ h) hb
  obtain ⟨ka, kc, la, lc, rfl, h1, h2, h3, h4⟩ := h.open
  simp only [X.v] at *
  rw [h0] at HK ⊢
  obtain ⟨n, hn⟩ : ∃ n, n = v.n := ⟨_, rfl⟩
  obtain ⟨s, hs⟩ : ∃ s, s = v.s := ⟨_, rfl⟩
  obtain ⟨kn, hkn⟩ : ∃ n, n = v.ks.length := ⟨_, rfl⟩
  obtain ⟨ln, hln⟩ : ∃ n, n = v.l.length := ⟨_, rfl⟩
  rw [← hn, ← hs] at HK ⊢
  obtain ⟨K, hK⟩ : ∃ K : Bool, K = decide (v.ks.length = v.l.length ∧ okKeys v.ks) := ⟨_, rfl⟩
  rw [← hK] at HK
  have HW : Hid (v.own = (decide (n = 0 ∧ s.size = 0) && K)) := by
    show v.own = _
    unfold V.own
    rw [if_neg (by omega), if_neg (by omega), if_neg (by omega), if_neg (by omega), if_neg (by omega), if_pos (by omega), ← hn, ← hs, hK, Bool.eq_iff_iff]
    simp [and_assoc]
  rw [← hkn, ← hln] at HK ⊢
  have hT := toList_nil s
  clear h h0 h1 h2 h3 h4 hn hs hkn hln hb hK
  by_cases hn : n = 0
  · by_cases hs : s.size = 0
    · have hse := hT.2 hs
      have HW2 : Hid (v.own = K) := by
        show v.own = K
        rw [HW.out, hn, hs]
        simp
      clear hT HW hs
      subst hn
      go_enter Try.func49, Try.ntmps49
      go_wp2_with fail
      refine (HK.out _ (below_alloc w _)).mono ?_
      rintro e w1 ⟨rfl, hb1⟩
      have hb2 := (below_alloc w (.cells #[.int .i64 6, .int .i64 0, .string s, .slice ka kn kc, .slice la ln lc] 25)).trans (hb1.mono (by simp))
      clear hb1
      go_wp2_with fail
      go_ret
      exact ⟨by rw [HW2.out]; rfl, hb2⟩
    · have hse : s.toList.isEmpty = false := by
        rw [Bool.eq_false_iff]
        intro h
        exact hs (hT.1 (List.isEmpty_iff.1 h))
      have hse2 : ¬ s.toList = [] := fun h => hs (hT.1 h)
      have HW2 : Hid (v.own = false) := by
        show v.own = false
        rw [HW.out]
        simp [hn, hs]
      clear hT HW hs HK
      subst hn
      go_enter Try.func49, Try.ntmps49
      go_wp2_with fail
      go_ret
      exact ⟨by rw [HW2.out]; rfl, below_alloc w _⟩
  · have hnb : (n == 0) = false := by rw [beq_eq_false_iff_ne]; exact hn
    have HW2 : Hid (v.own = false) := by
      show v.own = false
      rw [HW.out]
      simp [hn]
    clear hT HW HK hn
    go_enter Try.func49, Try.ntmps49
    go_wp2_with fail
    go_ret
    exact ⟨by rw [HW2.out]; rfl, below_alloc w _⟩
set_option maxRecDepth 100000 in
set_option maxHeartbeats 1000000 in
theorem own_x (v : V) (x : X) (w : World) (h : Is w v x) (h0 : ¬ v.k = 0 ∧ ¬ v.k = 1 ∧ ¬ v.k = 2 ∧ ¬ v.k = 3 ∧ ¬ v.k = 4 ∧ ¬ v.k = 5 ∧ ¬ v.k = 6) :
    Calls Try.prog 49 #[x.v] w fun e w' => e = .returned (.bool v.own) ∧ Below w.heap.size w w' := by
  obtain ⟨ka, kc, la, lc, rfl, h1, h2, h3, h4⟩ := h.open
  have HW : Hid (v.own = false) := by
    show v.own = _
    unfold V.own
    rw [if_neg (by omega), if_neg (by omega), if_neg (by omega), if_neg (by omega), if_neg (by omega), if_neg (by omega)]
  simp only [X.v]
  obtain ⟨k, hk⟩ : ∃ n, n = v.k := ⟨_, rfl⟩
  rw [← hk] at h0 ⊢
  have hbe : ∀ m : Int, ¬ k = m → (k == m) = false := fun m hm => by rw [beq_eq_false_iff_ne]; exact hm
  have b0 := hbe 0 (by omega)
  have b1 := hbe 1 (by omega)
  have b2 := hbe 2 (by omega)
  have b3 := hbe 3 (by omega)
  have b4 := hbe 4 (by omega)
  have b5 := hbe 5 (by omega)
  have b6 := hbe 6 (by omega)
  clear h h0 h1 h2 h3 h4 hbe hk
  go_enter Try.func49, Try.ntmps49
  go_wp2_with fail
  go_ret
  exact ⟨by rw [HW.out]; rfl, below_alloc w _⟩
theorem refOwn_any (v : V) (x : X) (w : World) (h : Is w v x) (hb : v.bulk ≤ 4194304) :
    Calls Try.prog 49 #[x.v] w fun e w' => e = .returned (.bool v.own) ∧ Below w.heap.size w w' := by
  by_cases h0 : v.k = 0
  · exact own_0 v x w h h0
  by_cases h1 : v.k = 1
  · exact own_1 v x w h h1
  by_cases h2 : v.k = 2
  · exact own_2 v x w h h2
  by_cases h3 : v.k = 3
  · exact own_3 v x w h h3
  by_cases h4 : v.k = 4
  · exact own_4 v x w h hb h4
  by_cases h5 : v.k = 5
  · exact own_5 v x w h h5
  by_cases h6 : v.k = 6
  · exact own_6 v x w h hb h6
  exact own_x v x w h ⟨h0, h1, h2, h3, h4, h5, h6⟩
theorem mays_snoc (l : List V) (j : Nat) (h : j < l.length) : V.mays (l.take (j + 1)) = (V.mays (l.take j) && l[j].may) := by
  rw [snoc_get l j h, mays_append]
  simp [V.mays]
theorem mays_false {l : List V} {j : Nat} (h : j < l.length) (h1 : l[j].may = false) : V.mays l = false := by
  rw [mays_all]
  rw [Bool.eq_false_iff]
  intro h2
  have := List.all_eq_true.1 h2 l[j] (List.getElem_mem h)
  rw [h1] at this
  cases this
set_option maxRecDepth 8000 in
set_option maxHeartbeats 1000000 in
theorem refMay_any : ∀ (v : V) (x : X) (w : World), Is w v x → v.bulk ≤ 4194304 →
    Calls Try.prog 32 #[x.v] w fun e w' => e = .returned (.bool v.may) ∧ Below w.heap.size w w' := by
  refine V.ind fun k n s ks l ih => ?_
  intro x w h hbk
  have HO := Lib.hid fun w' (hb' : Below w.heap.size w w') => refOwn_any _ x w' (Is.below hb' _ _ h) hbk
  have HM := Lib.hid (may_eq (.mk k n s ks l))
  obtain ⟨ka, kc, la, lc, rfl, h1, h2, h3, h4⟩ := h.open
  obtain ⟨B, hB⟩ : ∃ B, B = V.own (.mk k n s ks l) := ⟨_, rfl⟩
  rw [← hB] at HO HM
  simp only [V.k, V.n, V.s, V.ks, V.l] at *
  have hbl : V.bulks l ≤ 4194304 := by
    simp only [V.bulk] at hbk
    omega
  have hll : l.length ≤ 4194304 := Nat.le_trans (length_le_bulks l) hbl
  clear hbk hB h
  unfold X.v at *
  simp only at *
  cases B with
  | false =>
    go_enter Try.func32, Try.ntmps32
    go_wp2_with fail
    refine (HO.out _ (below_alloc w _)).mono ?_
    rintro e w1 ⟨rfl, hb1⟩
    go_wp2_with fail
    go_ret
    exact ⟨by rw [HM.out]; rfl, (below_alloc w _).trans (hb1.mono (by simp))⟩
  | true =>
    go_enter Try.func32, Try.ntmps32
    go_wp2_with fail
    refine (HO.out _ (below_alloc w _)).mono ?_
    rintro e w1 ⟨rfl, hb1⟩
    have hb0 := (below_alloc w (.cells #[.int .i64 k, .int .i64 n, .string s, .slice ka ks.length kc, .slice la l.length lc] 25)).trans (hb1.mono (by simp))
    have hc4 : w1.cell? ⟨w.heap.size, 4, none⟩ = some (.slice la l.length lc) := (hb1.cell (p := ⟨w.heap.size, 4, none⟩) (by simp)).trans (by simp)
    clear hb1 HO
    go_wp2_with fail
    go_loopw [11] (fun i wr => ∃ j : Nat, j ≤ l.length ∧ i = .int .i64 j ∧ Hid (V.mays (l.take j) = true) ∧ Below w.heap.size w wr)
      (fun i _ => l.length - (intOf i).toNat)
    case atStart => exact ⟨0, Nat.zero_le _, rfl, rfl, hb0⟩
    case round =>
      obtain ⟨j, hj, rfl, hm, hb⟩ := hrel
      clear hc4 hb0
      by_cases hlt : j < l.length
      · obtain ⟨g, o, rfl, hg, y, hy, hv⟩ := h4.at_ hlt
        have hy' := hy.below hg hb
        obtain ⟨c0, c1, c2, c3, c4⟩ := hy'
        obtain ⟨ka', kc', la', lc', rfl, h1', h2', h3', h4'⟩ := hv.open
        have hr := Lib.hid fun w' (hb' : Below w.heap.size w w') => ih l[j] (List.getElem_mem hlt) _ w' (Is.below hb' _ _ hv) (Nat.le_trans (bulk_le_of_mem (List.getElem_mem hlt)) hbl)
        have hs := Lib.hid (mays_snoc l j hlt)
        have hf := Lib.hid (mays_false hlt)
        simp only at *
        generalize l[j] = u at *
        clear hv hy
        obtain ⟨M, hM⟩ : ∃ M, M = u.may := ⟨_, rfl⟩
        have HMM := Lib.hid hM
        rw [← hM] at hr
        clear hM
        cases M with
        | true =>
          go_wp2_with fail
          refine (hr.out _ (hb.alloc (by have := hb.size; omega) _)).mono ?_
          rintro e w2 ⟨rfl, hb2⟩
          have hb3 := (hb.alloc (B := w.heap.size) (by have := hb.size; omega) (.cells #[.int .i64 u.k, .int .i64 u.n, .string u.s, .slice ka' u.ks.length kc', .slice la' u.l.length lc'] 25)).trans (hb2.mono (by have := hb.size; simp; omega))
          clear c0 c1 c2 c3 c4 hb2 hb
          go_wp2_with fail
          go_roundw
          case rel => exact ⟨j + 1, by omega, by go_num, by show V.mays _ = true; rw [hs.out, hm.out, ← HMM.out]; rfl, hb3⟩
          case measure => simp [intOf]; omega
        | false =>
          have HV := Lib.hid (hf.out HMM.out.symm)
          go_wp2_with fail
          refine (hr.out _ (hb.alloc (by have := hb.size; omega) _)).mono ?_
          rintro e w2 ⟨rfl, hb2⟩
          have hb3 := (hb.alloc (B := w.heap.size) (by have := hb.size; omega) (.cells #[.int .i64 u.k, .int .i64 u.n, .string u.s, .slice ka' u.ks.length kc', .slice la' u.l.length lc'] 25)).trans (hb2.mono (by have := hb.size; simp; omega))
          clear c0 c1 c2 c3 c4 hb2 hb
          go_wp2_with fail
          go_ret
          exact ⟨by rw [HM.out, HV.out]; rfl, hb3⟩
      · obtain rfl : j = l.length := by omega
        rw [List.take_length] at hm
        go_wp2_with fail
        go_ret
        exact ⟨by rw [HM.out, hm.out]; rfl, hb⟩
theorem refChk_any (v : V) (x : X) (w : World) (h : Is w v x) (hbk : v.bulk ≤ 4194304) :
    Calls Try.prog 19 #[x.v] w fun e w' => e = .returned (.int .i64 v.chk) ∧ Below w.heap.size w w' := by
  have HM := Lib.hid fun w' (hb' : Below w.heap.size w w') => refMay_any v x w' (Is.below hb' _ _ h) hbk
  have HD := Lib.hid fun w' (hb' : Below w.heap.size w w') => refDeep_any v x w' (Is.below hb' _ _ h) hbk
  have hd : v.deep ≤ 4194304 := Nat.le_trans (deep_le_size v) (Nat.le_trans (size_le_bulk v) hbk)
  have HC : Hid (v.chk = if v.may = true then (if 20 < v.deep then 31 else 0) else 30) := Lib.hid rfl
  generalize v.may = M at *
  generalize v.deep = D at *
  obtain ⟨k, n, s, ka, kn, kc, la, ln, lc⟩ := x
  simp only [X.v] at *
  clear h hbk
  cases M with
  | false =>
    go_enter Try.func19, Try.ntmps19
    go_wp2_with fail
    refine (HM.out _ (below_alloc w _)).mono ?_
    rintro e w1 ⟨rfl, hb1⟩
    go_wp2_with fail
    go_ret
    exact ⟨by rw [HC.out]; rfl, (below_alloc w _).trans (hb1.mono (by simp))⟩
  | true =>
    by_cases h20 : 20 < D
    all_goals
      go_enter Try.func19, Try.ntmps19
      go_wp2_with fail
      refine (HM.out _ (below_alloc w _)).mono ?_
      rintro e w1 ⟨rfl, hb1⟩
      have hb0 := (below_alloc w (.cells #[.int .i64 k, .int .i64 n, .string s, .slice ka kn kc, .slice la ln lc] 25)).trans (hb1.mono (by simp))
      have c0 : w1.cell? ⟨w.heap.size, 0, none⟩ = some (.int .i64 k) := (hb1.cell (p := ⟨w.heap.size, 0, none⟩) (by simp)).trans (by simp)
      have c1 : w1.cell? ⟨w.heap.size, 1, none⟩ = some (.int .i64 n) := (hb1.cell (p := ⟨w.heap.size, 1, none⟩) (by simp)).trans (by simp)
      have c2 : w1.cell? ⟨w.heap.size, 2, none⟩ = some (.string s) := (hb1.cell (p := ⟨w.heap.size, 2, none⟩) (by simp)).trans (by simp)
      have c3 : w1.cell? ⟨w.heap.size, 3, none⟩ = some (.slice ka kn kc) := (hb1.cell (p := ⟨w.heap.size, 3, none⟩) (by simp)).trans (by simp)
      have c4 : w1.cell? ⟨w.heap.size, 4, none⟩ = some (.slice la ln lc) := (hb1.cell (p := ⟨w.heap.size, 4, none⟩) (by simp)).trans (by simp)
      clear hb1
      go_wp2_with fail
      refine (HD.out _ hb0).mono ?_
      rintro e w2 ⟨rfl, hb2⟩
      have hb3 := hb0.trans (hb2.mono hb0.size)
      clear c0 c1 c2 c3 c4 hb2 hb0
      go_wp2_with fail
      go_ret
      exact ⟨by rw [HC.out]; simp [h20], hb3⟩
end Go.Proofs.Ytnkknlhdbhfjlaa
