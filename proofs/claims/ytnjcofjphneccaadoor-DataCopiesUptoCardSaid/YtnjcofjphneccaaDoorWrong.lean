/-
  wrong, distinct, by contract.
-/
import Derived.Test.YtnjcofjphneccaaDoorMem
import Derived.Test.YtnjcofjphneccaaDoorDist
namespace Go.Proofs.YtnjcofjphneccaaDoor
open Go.RowKit

theorem beq_zero (n : Nat) : ((n : Int) == 0) = decide (n = 0) := by
  rw [Bool.eq_iff_iff]
  simp
theorem toList_nil (s : ByteArray) : s.toList = [] ↔ s.size = 0 := by
  have h : s.toList = s.data.toList := ByteArray.toList_eq s
  have h2 := size_list s
  rw [h]
  constructor
  · intro h; rw [h] at h2; simpa using h2.symm
  · intro h; exact List.eq_nil_of_length_eq_zero (by omega)

set_option maxRecDepth 8000 in
set_option maxHeartbeats 1000000 in
theorem wrong_0 (v : V) (x : X) (w : World) (h : Is w v x) (h0 : v.k = 0) :
    Calls Tryd.prog 27 #[x.v] w fun e w' => e = .returned (.bool (!v.own)) ∧ Below w.heap.size w w' := by
  obtain ⟨ka, kc, la, lc, rfl, h1, h2, h3, h4⟩ := h.open
  simp only [X.v]
  rw [h0]
  obtain ⟨n, hn⟩ : ∃ n, n = v.n := ⟨_, rfl⟩
  obtain ⟨s, hs⟩ : ∃ s, s = v.s := ⟨_, rfl⟩
  obtain ⟨kn, hkn⟩ : ∃ n, n = v.ks.length := ⟨_, rfl⟩
  obtain ⟨ln, hln⟩ : ∃ n, n = v.l.length := ⟨_, rfl⟩
  rw [← hn, ← hs, ← hkn, ← hln]
  have HW : Hid (v.own = decide (n = 0 ∧ s.size = 0 ∧ kn = 0 ∧ ln = 0)) := by
    show v.own = _
    unfold V.own
    rw [if_pos (by omega), ← hn, ← hs, ← hkn, ← hln]
  have HT := Lib.hid (toList_nil s)
  clear h h0 h1 h2 h3 h4 hn hs hkn hln
  go_enter Tryd.func27, Tryd.ntmps27
  go_wp2_with fail
  go_quiet (fail)
  go_wp2_with fail
  all_goals go_ret
  all_goals refine ⟨ret_bool ?_, (below_alloc w _).trans (below_drewN _ _ _)⟩
  all_goals rw [HW.out]
  all_goals have hT := HT.out
  all_goals simp_all
  all_goals exact beq_zero _

set_option maxRecDepth 8000 in
set_option maxHeartbeats 1000000 in
theorem wrong_1 (v : V) (x : X) (w : World) (h : Is w v x) (h0 : v.k = 1) :
    Calls Tryd.prog 27 #[x.v] w fun e w' => e = .returned (.bool (!v.own)) ∧ Below w.heap.size w w' := by
  obtain ⟨ka, kc, la, lc, rfl, h1, h2, h3, h4⟩ := h.open
  simp only [X.v]
  rw [h0]
  obtain ⟨n, hn⟩ : ∃ n, n = v.n := ⟨_, rfl⟩
  obtain ⟨s, hs⟩ : ∃ s, s = v.s := ⟨_, rfl⟩
  obtain ⟨kn, hkn⟩ : ∃ n, n = v.ks.length := ⟨_, rfl⟩
  obtain ⟨ln, hln⟩ : ∃ n, n = v.l.length := ⟨_, rfl⟩
  rw [← hn, ← hs, ← hkn, ← hln]
  have HW : Hid (v.own = decide (n = 0 ∧ s.size = 0 ∧ kn = 0 ∧ ln = 0)) := by
    show v.own = _
    unfold V.own
    rw [if_pos (by omega), ← hn, ← hs, ← hkn, ← hln]
  have HT := Lib.hid (toList_nil s)
  clear h h0 h1 h2 h3 h4 hn hs hkn hln
  go_enter Tryd.func27, Tryd.ntmps27
  go_wp2_with fail
  go_quiet (fail)
  go_wp2_with fail
  all_goals go_ret
  all_goals refine ⟨ret_bool ?_, (below_alloc w _).trans (below_drewN _ _ _)⟩
  all_goals rw [HW.out]
  all_goals have hT := HT.out
  all_goals simp_all
  all_goals exact beq_zero _

set_option maxRecDepth 8000 in
set_option maxHeartbeats 1000000 in
theorem wrong_2 (v : V) (x : X) (w : World) (h : Is w v x) (h0 : v.k = 2) :
    Calls Tryd.prog 27 #[x.v] w fun e w' => e = .returned (.bool (!v.own)) ∧ Below w.heap.size w w' := by
  obtain ⟨ka, kc, la, lc, rfl, h1, h2, h3, h4⟩ := h.open
  simp only [X.v]
  rw [h0]
  obtain ⟨n, hn⟩ : ∃ n, n = v.n := ⟨_, rfl⟩
  obtain ⟨s, hs⟩ : ∃ s, s = v.s := ⟨_, rfl⟩
  obtain ⟨kn, hkn⟩ : ∃ n, n = v.ks.length := ⟨_, rfl⟩
  obtain ⟨ln, hln⟩ : ∃ n, n = v.l.length := ⟨_, rfl⟩
  rw [← hn, ← hs, ← hkn, ← hln]
  have HW : Hid (v.own = decide ((n = 0 ∨ n = 1) ∧ s.size = 0 ∧ kn = 0 ∧ ln = 0)) := by
    show v.own = _
    unfold V.own
    rw [if_neg (by omega), if_pos (by omega), ← hn, ← hs, ← hkn, ← hln]
  have HT := Lib.hid (toList_nil s)
  clear h h0 h1 h2 h3 h4 hn hs hkn hln
  go_enter Tryd.func27, Tryd.ntmps27
  go_wp2_with fail
  go_quiet (fail)
  go_wp2_with fail
  all_goals go_ret
  all_goals refine ⟨ret_bool ?_, (below_alloc w _).trans (below_drewN _ _ _)⟩
  all_goals rw [HW.out]
  all_goals have hT := HT.out
  all_goals simp_all
  all_goals exact beq_zero _

set_option maxRecDepth 8000 in
set_option maxHeartbeats 1000000 in
theorem wrong_3 (v : V) (x : X) (w : World) (h : Is w v x) (h0 : v.k = 3) :
    Calls Tryd.prog 27 #[x.v] w fun e w' => e = .returned (.bool (!v.own)) ∧ Below w.heap.size w w' := by
  obtain ⟨ka, kc, la, lc, rfl, h1, h2, h3, h4⟩ := h.open
  simp only [X.v]
  rw [h0]
  obtain ⟨n, hn⟩ : ∃ n, n = v.n := ⟨_, rfl⟩
  obtain ⟨s, hs⟩ : ∃ s, s = v.s := ⟨_, rfl⟩
  obtain ⟨kn, hkn⟩ : ∃ n, n = v.ks.length := ⟨_, rfl⟩
  obtain ⟨ln, hln⟩ : ∃ n, n = v.l.length := ⟨_, rfl⟩
  rw [← hn, ← hs, ← hkn, ← hln]
  have HW : Hid (v.own = decide ((-9007199254740991 ≤ n ∧ n ≤ 9007199254740991) ∧ s.size = 0 ∧ kn = 0 ∧ ln = 0)) := by
    show v.own = _
    unfold V.own
    rw [if_neg (by omega), if_neg (by omega), if_pos (by omega), ← hn, ← hs, ← hkn, ← hln]
  have HT := Lib.hid (toList_nil s)
  clear h h0 h1 h2 h3 h4 hn hs hkn hln
  go_enter Tryd.func27, Tryd.ntmps27
  go_wp2_with fail
  go_quiet (fail)
  go_wp2_with fail
  all_goals go_ret
  all_goals refine ⟨ret_bool ?_, (below_alloc w _).trans (below_drewN _ _ _)⟩
  all_goals rw [HW.out]
  all_goals have hT := HT.out
  all_goals simp_all
  all_goals exact beq_zero _

set_option maxRecDepth 8000 in
set_option maxHeartbeats 1000000 in
theorem wrong_5 (v : V) (x : X) (w : World) (h : Is w v x) (h0 : v.k = 5) :
    Calls Tryd.prog 27 #[x.v] w fun e w' => e = .returned (.bool (!v.own)) ∧ Below w.heap.size w w' := by
  obtain ⟨ka, kc, la, lc, rfl, h1, h2, h3, h4⟩ := h.open
  simp only [X.v]
  rw [h0]
  obtain ⟨n, hn⟩ : ∃ n, n = v.n := ⟨_, rfl⟩
  obtain ⟨s, hs⟩ : ∃ s, s = v.s := ⟨_, rfl⟩
  obtain ⟨kn, hkn⟩ : ∃ n, n = v.ks.length := ⟨_, rfl⟩
  obtain ⟨ln, hln⟩ : ∃ n, n = v.l.length := ⟨_, rfl⟩
  rw [← hn, ← hs, ← hkn, ← hln]
  have HW : Hid (v.own = decide (n = 0 ∧ s.size = 0 ∧ kn = 0)) := by
    show v.own = _
    unfold V.own
    rw [if_neg (by omega), if_neg (by omega), if_neg (by omega), if_neg (by omega), if_pos (by omega), ← hn, ← hs, ← hkn]
  have HT := Lib.hid (toList_nil s)
  clear h h0 h1 h2 h3 h4 hn hs hkn hln
  go_enter Tryd.func27, Tryd.ntmps27
  go_wp2_with fail
  go_quiet (fail)
  go_wp2_with fail
  all_goals go_ret
  all_goals refine ⟨ret_bool ?_, (below_alloc w _).trans (below_drewN _ _ _)⟩
  all_goals rw [HW.out]
  all_goals have hT := HT.out
  all_goals simp_all
  all_goals exact beq_zero _

set_option maxRecDepth 8000 in
set_option maxHeartbeats 1000000 in
theorem wrong_4 (v : V) (x : X) (w : World) (h : Is w v x) (hb : v.bulk ≤ 4194304) (h0 : v.k = 4) :
    Calls Tryd.prog 27 #[x.v] w fun e w' => e = .returned (.bool (!v.own)) ∧ Below w.heap.size w w' := by
  obtain ⟨ka, kc, la, lc, rfl, h1, h2, h3, h4⟩ := h.open
  have hsz : v.s.size ≤ 4194304 := by
    cases v
    simp only [V.bulk, V.s] at *
    omega
  simp only [X.v]
  rw [h0]
  obtain ⟨n, hn⟩ : ∃ n, n = v.n := ⟨_, rfl⟩
  obtain ⟨s, hs⟩ : ∃ s, s = v.s := ⟨_, rfl⟩
  obtain ⟨kn, hkn⟩ : ∃ n, n = v.ks.length := ⟨_, rfl⟩
  obtain ⟨ln, hln⟩ : ∃ n, n = v.l.length := ⟨_, rfl⟩
  rw [← hn, ← hs, ← hkn, ← hln]
  rw [← hs] at hsz
  have HC := Lib.hid fun w => check_any s w (by unfold maxLen; omega)
  have HW : Hid (v.own = decide (n = 0 ∧ s.size % 2 = 0 ∧ kn = 0 ∧ ln = 0)) := by
    show v.own = _
    unfold V.own
    rw [if_neg (by omega), if_neg (by omega), if_neg (by omega), if_pos (by omega), ← hn, ← hs, ← hkn, ← hln]
  clear h h0 h1 h2 h3 h4 hn hs hkn hln hb
  go_enter Tryd.func27, Tryd.ntmps27
  go_wp2_with fail
  go_quiet (fail)
  go_wp2_with fail
  refine (HC.out _).mono ?_
  rintro e w' ⟨rfl, rfl⟩
  go_wp2_with fail
  all_goals go_ret
  all_goals refine ⟨ret_bool ?_, (below_alloc w _).trans (below_drewN _ _ _)⟩
  all_goals rw [HW.out]
  all_goals simp_all
  all_goals exact beq_zero _

set_option maxRecDepth 8000 in
set_option maxHeartbeats 1000000 in
theorem wrong_6 (v : V) (x : X) (w : World) (h : Is w v x) (hb : v.bulk ≤ 4194304) (h0 : v.k = 6) :
    Calls Tryd.prog 27 #[x.v] w fun e w' => e = .returned (.bool (!v.own)) ∧ Below w.heap.size w w' := by
  obtain ⟨ka, kc, la, lc, rfl, h1, h2, h3, h4⟩ := h.open
  have hsz : keysBulk v.ks ≤ 4194304 := by
    cases v
    simp only [V.bulk, V.ks] at *
    omega
  have hwl : v.ks.length ≤ 4194304 := Nat.le_trans (length_le_keysBulk _) hsz
  have HD := Lib.hid fun w' (hb' : Below w.heap.size w w') => distinct_any ka v.ks kc w' (h3.below hb') hsz
  simp only [X.v]
  rw [h0]
  obtain ⟨n, hn⟩ : ∃ n, n = v.n := ⟨_, rfl⟩
  obtain ⟨s, hs⟩ : ∃ s, s = v.s := ⟨_, rfl⟩
  obtain ⟨ln, hln⟩ : ∃ n, n = v.l.length := ⟨_, rfl⟩
  have HT := Lib.hid (toList_nil s)
  rw [← hn, ← hs, ← hln]
  have HW : Hid (v.own = decide (n = 0 ∧ s.size = 0 ∧ v.ks.length = ln ∧ okKeys v.ks)) := by
    show v.own = _
    unfold V.own
    rw [if_neg (by omega), if_neg (by omega), if_neg (by omega), if_neg (by omega), if_neg (by omega), if_pos (by omega), ← hn, ← hs, ← hln]
  generalize v.ks = ks at *
  by_cases hl : ks.length = ln
  · subst hl
    clear h h0 h1 h2 h3 h4 hn hs hln hb hsz
    generalize ks.length = kn at *
    go_enter Tryd.func27, Tryd.ntmps27
    go_wp2_with fail
    go_quiet (fail)
    go_wp2_with fail
    refine (HD.out _ ((below_alloc w _).trans (below_drewN _ _ _))).mono ?_
    rintro e w1 ⟨rfl, hb1⟩
    have hb2 := Lib.hid (((below_alloc w (.cells #[.int .i64 6, .int .i64 n, .string s, .slice ka kn kc, .slice la kn lc] 25)).trans (below_drewN _ _ nq)).trans (hb1.mono (by simp)))
    clear hb1
    obtain ⟨B, hB⟩ : ∃ B : Bool, B = decide (okKeys ks) := ⟨_, rfl⟩
    rw [← hB]
    have HB := Lib.hid hB
    clear hB
    go_wp2_with fail
    all_goals go_ret
    all_goals refine ⟨ret_bool ?_, hb2.out⟩
    all_goals rw [HW.out]
    all_goals have hT := HT.out
    all_goals have hB := HB.out
    all_goals simp_all
  · have hl' : ((ks.length : Int) == (ln : Int)) = false := by rw [beq_eq_false_iff_ne]; omega
    have hl'' := Lib.hid hl
    generalize hkl : ks.length = kn at *
    clear h h0 h1 h2 h3 h4 hn hs hln hb hsz HD hl hkl
    go_enter Tryd.func27, Tryd.ntmps27
    go_wp2_with fail
    go_quiet (fail)
    go_wp2_with fail
    all_goals go_ret
    all_goals refine ⟨ret_bool ?_, (below_alloc w _).trans (below_drewN _ _ _)⟩
    all_goals rw [HW.out]
    all_goals have hl := hl''.out
    all_goals simp_all

set_option maxRecDepth 8000 in
set_option maxHeartbeats 1000000 in
theorem wrong_x (v : V) (x : X) (w : World) (h : Is w v x) (h0 : ¬ v.k = 0 ∧ ¬ v.k = 1 ∧ ¬ v.k = 2 ∧ ¬ v.k = 3 ∧ ¬ v.k = 4 ∧ ¬ v.k = 5 ∧ ¬ v.k = 6) :
    Calls Tryd.prog 27 #[x.v] w fun e w' => e = .returned (.bool (!v.own)) ∧ Below w.heap.size w w' := by
  obtain ⟨ka, kc, la, lc, rfl, h1, h2, h3, h4⟩ := h.open
  have HW : Hid (v.own = false) := by
    show v.own = _
    unfold V.own
    rw [if_neg (by omega), if_neg (by omega), if_neg (by omega), if_neg (by omega), if_neg (by omega), if_neg (by omega)]
  simp only [X.v]
  obtain ⟨k, hk⟩ : ∃ n, n = v.k := ⟨_, rfl⟩
  obtain ⟨n, hn⟩ : ∃ n, n = v.n := ⟨_, rfl⟩
  obtain ⟨s, hs⟩ : ∃ s, s = v.s := ⟨_, rfl⟩
  obtain ⟨kn, hkn⟩ : ∃ n, n = v.ks.length := ⟨_, rfl⟩
  obtain ⟨ln, hln⟩ : ∃ n, n = v.l.length := ⟨_, rfl⟩
  rw [← hk, ← hn, ← hs, ← hkn, ← hln]
  rw [← hk] at h0
  have hbe : ∀ m : Int, ¬ k = m → (k == m) = false := fun m hm => by rw [beq_eq_false_iff_ne]; exact hm
  have b0 := hbe 0 (by omega)
  have b1 := hbe 1 (by omega)
  have b2 := hbe 2 (by omega)
  have b3 := hbe 3 (by omega)
  have b4 := hbe 4 (by omega)
  have b5 := hbe 5 (by omega)
  have b6 := hbe 6 (by omega)
  clear h h0 h1 h2 h3 h4 hn hs hkn hln hbe hk
  go_enter Tryd.func27, Tryd.ntmps27
  go_wp2_with fail
  go_quiet (fail)
  go_wp2_with fail
  all_goals go_ret
  all_goals exact ⟨by rw [HW.out]; rfl, (below_alloc w _).trans (below_drewN _ _ _)⟩

theorem wrong_any (v : V) (x : X) (w : World) (h : Is w v x) (hb : v.bulk ≤ 4194304) :
    Calls Tryd.prog 27 #[x.v] w fun e w' => e = .returned (.bool (!v.own)) ∧ Below w.heap.size w w' := by
  by_cases h0 : v.k = 0
  · exact wrong_0 v x w h h0
  by_cases h1 : v.k = 1
  · exact wrong_1 v x w h h1
  by_cases h2 : v.k = 2
  · exact wrong_2 v x w h h2
  by_cases h3 : v.k = 3
  · exact wrong_3 v x w h h3
  by_cases h4 : v.k = 4
  · exact wrong_4 v x w h hb h4
  by_cases h5 : v.k = 5
  · exact wrong_5 v x w h h5
  by_cases h6 : v.k = 6
  · exact wrong_6 v x w h hb h6
  exact wrong_x v x w h ⟨h0, h1, h2, h3, h4, h5, h6⟩
end Go.Proofs.YtnjcofjphneccaaDoor
