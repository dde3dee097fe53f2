/-
  The reference's own, by contract.
-/
import Derived.Test.YtnjcofjphneccaaDoorDeep
import Derived.Test.YtnjcofjphneccaaDoorWrong
namespace Go.Proofs.YtnjcofjphneccaaDoor
open Go.RowKit

set_option maxRecDepth 100000 in
set_option maxHeartbeats 1000000 in
theorem own_0 (v : V) (x : X) (w : World) (h : Is w v x) (h0 : v.k = 0) :
    Calls Tryd.prog 41 #[x.v] w fun e w' => e = .returned (.bool v.own) ∧ Below w.heap.size w w' := by
  obtain ⟨ka, kc, la, lc, rfl, h1, h2, h3, h4⟩ := h.open
  simp only [X.v]
  rw [h0]
  obtain ⟨n, hn⟩ : ∃ n, n = v.n := ⟨_, rfl⟩
  obtain ⟨s, hs⟩ : ∃ s, s = v.s := ⟨_, rfl⟩
  obtain ⟨kn, hkn⟩ : ∃ n, n = v.ks.length := ⟨_, rfl⟩
  obtain ⟨ln, hln⟩ : ∃ n, n = v.l.length := ⟨_, rfl⟩
  rw [← hn, ← hs, ← hkn, ← hln]
  have HW : Hid (v.own = decide (n = 0 ∧ s.size = 0 ∧ kn = 0 ∧ ln = 0)) := by
    show v.own = _
    unfold V.own
    rw [if_pos (by omega), ← hn, ← hs, ← hkn, ← hln]
  have HT := Lib.hid (toList_nil s)
  clear h h0 h1 h2 h3 h4 hn hs hkn hln
  go_enter Tryd.func41, Tryd.ntmps41
  go_wp2_with fail
  all_goals go_ret
  all_goals refine ⟨ret_bool ?_, below_alloc w _⟩
  all_goals rw [HW.out]
  all_goals have hT := HT.out
  all_goals simp_all
  all_goals exact beq_zero _

set_option maxRecDepth 100000 in
set_option maxHeartbeats 1000000 in
theorem own_1 (v : V) (x : X) (w : World) (h : Is w v x) (h0 : v.k = 1) :
    Calls Tryd.prog 41 #[x.v] w fun e w' => e = .returned (.bool v.own) ∧ Below w.heap.size w w' := by
  obtain ⟨ka, kc, la, lc, rfl, h1, h2, h3, h4⟩ := h.open
  simp only [X.v]
  rw [h0]
  obtain ⟨n, hn⟩ : ∃ n, n = v.n := ⟨_, rfl⟩
  obtain ⟨s, hs⟩ : ∃ s, s = v.s := ⟨_, rfl⟩
  obtain ⟨kn, hkn⟩ : ∃ n, n = v.ks.length := ⟨_, rfl⟩
  obtain ⟨ln, hln⟩ : ∃ n, n = v.l.length := ⟨_, rfl⟩
  rw [← hn, ← hs, ← hkn, ← hln]
  have HW : Hid (v.own = decide (n = 0 ∧ s.size = 0 ∧ kn = 0 ∧ ln = 0)) := by
    show v.own = _
    unfold V.own
    rw [if_pos (by omega), ← hn, ← hs, ← hkn, ← hln]
  have HT := Lib.hid (toList_nil s)
  clear h h0 h1 h2 h3 h4 hn hs hkn hln
  go_enter Tryd.func41, Tryd.ntmps41
  go_wp2_with fail
  all_goals go_ret
  all_goals refine ⟨ret_bool ?_, below_alloc w _⟩
  all_goals rw [HW.out]
  all_goals have hT := HT.out
  all_goals simp_all
  all_goals exact beq_zero _

set_option maxRecDepth 100000 in
set_option maxHeartbeats 1000000 in
theorem own_2 (v : V) (x : X) (w : World) (h : Is w v x) (h0 : v.k = 2) :
    Calls Tryd.prog 41 #[x.v] w fun e w' => e = .returned (.bool v.own) ∧ Below w.heap.size w w' := by
  obtain ⟨ka, kc, la, lc, rfl, h1, h2, h3, h4⟩ := h.open
  simp only [X.v]
  rw [h0]
  obtain ⟨n, hn⟩ : ∃ n, n = v.n := ⟨_, rfl⟩
  obtain ⟨s, hs⟩ : ∃ s, s = v.s := ⟨_, rfl⟩
  obtain ⟨kn, hkn⟩ : ∃ n, n = v.ks.length := ⟨_, rfl⟩
  obtain ⟨ln, hln⟩ : ∃ n, n = v.l.length := ⟨_, rfl⟩
  rw [← hn, ← hs, ← hkn, ← hln]
  have HW : Hid (v.own = decide ((n = 0 ∨ n = 1) ∧ s.size = 0 ∧ kn = 0 ∧ ln = 0)) := by
    show v.own = _
    unfold V.own
    rw [if_neg (by omega), if_pos (by omega), ← hn, ← hs, ← hkn, ← hln]
  have HT := Lib.hid (toList_nil s)
  clear h h0 h1 h2 h3 h4 hn hs hkn hln
  go_enter Tryd.func41, Tryd.ntmps41
  go_wp2_with fail
  all_goals go_ret
  all_goals refine ⟨ret_bool ?_, below_alloc w _⟩
  all_goals rw [HW.out]
  all_goals have hT := HT.out
  all_goals simp_all
  all_goals exact beq_zero _

set_option maxRecDepth 100000 in
set_option maxHeartbeats 1000000 in
theorem own_3 (v : V) (x : X) (w : World) (h : Is w v x) (h0 : v.k = 3) :
    Calls Tryd.prog 41 #[x.v] w fun e w' => e = .returned (.bool v.own) ∧ Below w.heap.size w w' := by
  obtain ⟨ka, kc, la, lc, rfl, h1, h2, h3, h4⟩ := h.open
  simp only [X.v]
  rw [h0]
  obtain ⟨n, hn⟩ : ∃ n, n = v.n := ⟨_, rfl⟩
  obtain ⟨s, hs⟩ : ∃ s, s = v.s := ⟨_, rfl⟩
  obtain ⟨kn, hkn⟩ : ∃ n, n = v.ks.length := ⟨_, rfl⟩
  obtain ⟨ln, hln⟩ : ∃ n, n = v.l.length := ⟨_, rfl⟩
  rw [← hn, ← hs, ← hkn, ← hln]
  have HW : Hid (v.own = decide ((-9007199254740991 ≤ n ∧ n ≤ 9007199254740991) ∧ s.size = 0 ∧ kn = 0 ∧ ln = 0)) := by
    show v.own = _
    unfold V.own
    rw [if_neg (by omega), if_neg (by omega), if_pos (by omega), ← hn, ← hs, ← hkn, ← hln]
  have HT := Lib.hid (toList_nil s)
  clear h h0 h1 h2 h3 h4 hn hs hkn hln
  go_enter Tryd.func41, Tryd.ntmps41
  go_wp2_with fail
  all_goals go_ret
  all_goals refine ⟨ret_bool ?_, below_alloc w _⟩
  all_goals rw [HW.out]
  all_goals have hT := HT.out
  all_goals simp_all
  all_goals first | exact beq_zero _ | (intros; omega)

set_option maxRecDepth 100000 in
set_option maxHeartbeats 1000000 in
theorem own_5 (v : V) (x : X) (w : World) (h : Is w v x) (h0 : v.k = 5) :
    Calls Tryd.prog 41 #[x.v] w fun e w' => e = .returned (.bool v.own) ∧ Below w.heap.size w w' := by
  obtain ⟨ka, kc, la, lc, rfl, h1, h2, h3, h4⟩ := h.open
  simp only [X.v]
  rw [h0]
  obtain ⟨n, hn⟩ : ∃ n, n = v.n := ⟨_, rfl⟩
  obtain ⟨s, hs⟩ : ∃ s, s = v.s := ⟨_, rfl⟩
  obtain ⟨kn, hkn⟩ : ∃ n, n = v.ks.length := ⟨_, rfl⟩
  obtain ⟨ln, hln⟩ : ∃ n, n = v.l.length := ⟨_, rfl⟩
  rw [← hn, ← hs, ← hkn, ← hln]
  have HW : Hid (v.own = decide (n = 0 ∧ s.size = 0 ∧ kn = 0)) := by
    show v.own = _
    unfold V.own
    rw [if_neg (by omega), if_neg (by omega), if_neg (by omega), if_neg (by omega), if_pos (by omega), ← hn, ← hs, ← hkn]
  have HT := Lib.hid (toList_nil s)
  clear h h0 h1 h2 h3 h4 hn hs hkn hln
  go_enter Tryd.func41, Tryd.ntmps41
  go_wp2_with fail
  all_goals go_ret
  all_goals refine ⟨ret_bool ?_, below_alloc w _⟩
  all_goals rw [HW.out]
  all_goals have hT := HT.out
  all_goals simp_all
  all_goals exact beq_zero _

set_option maxRecDepth 100000 in
set_option maxHeartbeats 1000000 in
theorem own_4 (v : V) (x : X) (w : World) (h : Is w v x) (hb : v.bulk ≤ 4194304) (h0 : v.k = 4) :
    Calls Tryd.prog 41 #[x.v] w fun e w' => e = .returned (.bool v.own) ∧ Below w.heap.size w w' := by
  obtain ⟨ka, kc, la, lc, rfl, h1, h2, h3, h4⟩ := h.open
  have hsz : v.s.size ≤ 4194304 := by
    cases v
    simp only [V.bulk, V.s] at *
    omega
  simp only [X.v]
  rw [h0]
  obtain ⟨n, hn⟩ : ∃ n, n = v.n := ⟨_, rfl⟩
  obtain ⟨s, hs⟩ : ∃ s, s = v.s := ⟨_, rfl⟩
  obtain ⟨kn, hkn⟩ : ∃ n, n = v.ks.length := ⟨_, rfl⟩
  obtain ⟨ln, hln⟩ : ∃ n, n = v.l.length := ⟨_, rfl⟩
  rw [← hn, ← hs, ← hkn, ← hln]
  rw [← hs] at hsz
  have HC := Lib.hid fun w => refCheck_any s w (by unfold maxLen; omega)
  have HW : Hid (v.own = decide (n = 0 ∧ s.size % 2 = 0 ∧ kn = 0 ∧ ln = 0)) := by
    show v.own = _
    unfold V.own
    rw [if_neg (by omega), if_neg (by omega), if_neg (by omega), if_pos (by omega), ← hn, ← hs, ← hkn, ← hln]
  clear h h0 h1 h2 h3 h4 hn hs hkn hln hb
  go_enter Tryd.func41, Tryd.ntmps41
  go_wp2_with (go_at_call 51; refine (HC.out _).mono ?_; rintro e w' ⟨rfl, rfl⟩)
  all_goals go_ret
  all_goals refine ⟨ret_bool ?_, below_alloc w _⟩
  all_goals rw [HW.out]
  all_goals simp_all
  all_goals exact beq_zero _

set_option maxRecDepth 100000 in
set_option maxHeartbeats 1000000 in
theorem own_6 (v : V) (x : X) (w : World) (h : Is w v x) (hb : v.bulk ≤ 4194304) (h0 : v.k = 6) :
    Calls Tryd.prog 41 #[x.v] w fun e w' => e = .returned (.bool v.own) ∧ Below w.heap.size w w' := by
  have HK := Lib.hid fun w' (hb' : Below w.heap.size w w') => refKeys_any v x w' (Is.below hb' _ _ h) hb
  obtain ⟨ka, kc, la, lc, rfl, h1, h2, h3, h4⟩ := h.open
  simp only [X.v] at *
  rw [h0] at HK ⊢
  obtain ⟨n, hn⟩ : ∃ n, n = v.n := ⟨_, rfl⟩
  obtain ⟨s, hs⟩ : ∃ s, s = v.s := ⟨_, rfl⟩
  obtain ⟨kn, hkn⟩ : ∃ n, n = v.ks.length := ⟨_, rfl⟩
  obtain ⟨ln, hln⟩ : ∃ n, n = v.l.length := ⟨_, rfl⟩
  rw [← hn, ← hs] at HK ⊢
  obtain ⟨K, hK⟩ : ∃ K : Bool, K = decide (v.ks.length = v.l.length ∧ okKeys v.ks) := ⟨_, rfl⟩
  rw [← hK] at HK
  have HW : Hid (v.own = (decide (n = 0 ∧ s.size = 0) && K)) := by
    show v.own = _
    unfold V.own
    rw [if_neg (by omega), if_neg (by omega), if_neg (by omega), if_neg (by omega), if_neg (by omega), if_pos (by omega), ← hn, ← hs, hK, Bool.eq_iff_iff]
    simp [and_assoc]
  rw [← hkn, ← hln] at HK ⊢
  have hT := toList_nil s
  clear h h0 h1 h2 h3 h4 hn hs hkn hln hb hK
  by_cases hn : n = 0
  · by_cases hs : s.size = 0
    · have hse := hT.2 hs
      have HW2 : Hid (v.own = K) := by
        show v.own = K
        rw [HW.out, hn, hs]
        simp
      clear hT HW hs
      subst hn
      go_enter Tryd.func41, Tryd.ntmps41
      go_wp2_with fail
      refine (HK.out _ (below_alloc w _)).mono ?_
      rintro e w1 ⟨rfl, hb1⟩
      have hb2 := (below_alloc w (.cells #[.int .i64 6, .int .i64 0, .string s, .slice ka kn kc, .slice la ln lc] 25)).trans (hb1.mono (by simp))
      clear hb1
      go_wp2_with fail
      go_ret
      exact ⟨by rw [HW2.out]; rfl, hb2⟩
    · have hse : s.toList.isEmpty = false := by
        rw [Bool.eq_false_iff]
        intro h
        exact hs (hT.1 (List.isEmpty_iff.1 h))
      have hse2 : ¬ s.toList = [] := fun h => hs (hT.1 h)
      have HW2 : Hid (v.own = false) := by
        show v.own = false
        rw [HW.out]
        simp [hn, hs]
      clear hT HW hs HK
      subst hn
      go_enter Tryd.func41, Tryd.ntmps41
      go_wp2_with fail
      go_ret
      exact ⟨by rw [HW2.out]; rfl, below_alloc w _⟩
  · have hnb : (n == 0) = false := by rw [beq_eq_false_iff_ne]; exact hn
    have HW2 : Hid (v.own = false) := by
      show v.own = false
      rw [HW.out]
      simp [hn]
    clear hT HW HK hn
    go_enter Tryd.func41, Tryd.ntmps41
    go_wp2_with fail
    go_ret
    exact ⟨by rw [HW2.out]; rfl, below_alloc w _⟩

set_option maxRecDepth 100000 in
set_option maxHeartbeats 1000000 in
theorem own_x (v : V) (x : X) (w : World) (h : Is w v x) (h0 : ¬ v.k = 0 ∧ ¬ v.k = 1 ∧ ¬ v.k = 2 ∧ ¬ v.k = 3 ∧ ¬ v.k = 4 ∧ ¬ v.k = 5 ∧ ¬ v.k = 6) :
    Calls Tryd.prog 41 #[x.v] w fun e w' => e = .returned (.bool v.own) ∧ Below w.heap.size w w' := by
  obtain ⟨ka, kc, la, lc, rfl, h1, h2, h3, h4⟩ := h.open
  have HW : Hid (v.own = false) := by
    show v.own = _
    unfold V.own
    rw [if_neg (by omega), if_neg (by omega), if_neg (by omega), if_neg (by omega), if_neg (by omega), if_neg (by omega)]
  simp only [X.v]
  obtain ⟨k, hk⟩ : ∃ n, n = v.k := ⟨_, rfl⟩
  rw [← hk] at h0 ⊢
  have hbe : ∀ m : Int, ¬ k = m → (k == m) = false := fun m hm => by rw [beq_eq_false_iff_ne]; exact hm
  have b0 := hbe 0 (by omega)
  have b1 := hbe 1 (by omega)
  have b2 := hbe 2 (by omega)
  have b3 := hbe 3 (by omega)
  have b4 := hbe 4 (by omega)
  have b5 := hbe 5 (by omega)
  have b6 := hbe 6 (by omega)
  clear h h0 h1 h2 h3 h4 hbe hk
  go_enter Tryd.func41, Tryd.ntmps41
  go_wp2_with fail
  go_ret
  exact ⟨by rw [HW.out]; rfl, below_alloc w _⟩

theorem refOwn_any (v : V) (x : X) (w : World) (h : Is w v x) (hb : v.bulk ≤ 4194304) :
    Calls Tryd.prog 41 #[x.v] w fun e w' => e = .returned (.bool v.own) ∧ Below w.heap.size w w' := by
  by_cases h0 : v.k = 0
  · exact own_0 v x w h h0
  by_cases h1 : v.k = 1
  · exact own_1 v x w h h1
  by_cases h2 : v.k = 2
  · exact own_2 v x w h h2
  by_cases h3 : v.k = 3
  · exact own_3 v x w h h3
  by_cases h4 : v.k = 4
  · exact own_4 v x w h hb h4
  by_cases h5 : v.k = 5
  · exact own_5 v x w h h5
  by_cases h6 : v.k = 6
  · exact own_6 v x w h hb h6
  exact own_x v x w h ⟨h0, h1, h2, h3, h4, h5, h6⟩
end Go.Proofs.YtnjcofjphneccaaDoor
