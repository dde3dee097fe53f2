/-
  Laid by wip/scope/lay.py out of wip/tree: Vn.
  The reference's expr, kinds of a number of expressions. (gen_vn.py)
-/
import Derived.Test.YtgehgccgologpaaVm
namespace Go.Proofs.Ytgehgccgologpaa.R
open Go.RowKit Go.Proofs.Ytgehgccgologpaa Go.Proofs.Ytgehgccgologpaa.T
set_option maxRecDepth 8000 in
set_option maxHeartbeats 1000000 in
theorem expr_1 (v : V) (hb : v.bulk ≤ 4194304) (hk : v.k = 1) : Tells 79 v (fields (ctch3 v) v && decide (v.l.length = 0)) := by
  intro x w h
  have HO := Lib.hid fun w' (hb' : Below w.heap.size w w') => own_any v x w' (Is.below hb' _ _ h) hb
  have hll : (v.l.length : Int) ≤ 4194304 := by have := length_le_bulks v.l; have := bulk_ge v; omega
  obtain ⟨xka, xkc, xla, xlc, rfl, -, -, -, hrow⟩ := h.open
  obtain ⟨W0, hW0⟩ : ∃ W0, w.alloc (.cells #[.int .i64 v.k, .string v.nm, .int .i64 v.n, .string v.s, .slice xka v.ks.length xkc, .slice xla v.l.length xlc] 25) = W0 := ⟨_, rfl⟩
  have HB0 : Hid (Below w.heap.size w W0) := by rw [← hW0]; exact below_alloc _ _
  have HF : Hid (∀ w', Below W0.heap.size W0 w' → At w' w.heap.size 0 ⟨v.k, v.nm, v.n, v.s, xka, v.ks.length, xkc, xla, v.l.length, xlc⟩) := fun w' hb => by
    have h0 : At W0 w.heap.size 0 ⟨v.k, v.nm, v.n, v.s, xka, v.ks.length, xkc, xla, v.l.length, xlc⟩ := by rw [← hW0]; exact at_row (hp_new rfl) rfl rfl rfl rfl rfl rfl
    exact h0.below (B := W0.heap.size) (by rw [← hW0]; simp) hb
  have HW0 := Lib.hid hW0
  simp only [X.v] at HO ⊢
  rw [hk] at HO HF HW0 ⊢
  clear h hb hW0 hk hrow
  generalize fields (ctch3 v) v = bo at *
  generalize v.nm = nm at *
  generalize v.n = n at *
  generalize v.s = s at *
  generalize v.ks.length = kn at *
  generalize v.l.length = ln at *
  go_enter Try.func79, Try.ntmps79
  go_wp2_with fail
  rw [HW0.out]
  clear HW0
  refine (HO.out _ HB0.out).mono ?_
  rintro e w1 ⟨rfl, hb1⟩
  obtain ⟨c0, c1, c2, c3, c4, c5⟩ := HF.out _ hb1
  dsimp only at c0 c1 c2 c3 c4 c5
  have HBW := Lib.hid (HB0.out.trans (hb1.mono HB0.out.size))
  clear hb1
  cases bo
  · go_wp2_with fail
    go_ret
    exact ⟨rfl, HBW.out⟩
  by_cases hl : ln = 0
  · subst hl
    go_wp2_with fail
    go_ret
    exact ⟨rfl, HBW.out⟩
  · have hq : ((ln : Int) == 0) = false := by rw [beq_eq_false_iff_ne]; omega
    have HD := Lib.hid (decide_eq_false hl)
    clear hl
    go_wp2_with fail
    go_ret
    exact ⟨by rw [HD.out]; rfl, HBW.out⟩
set_option maxRecDepth 8000 in
set_option maxHeartbeats 1000000 in
theorem expr_2 (v : V) (hb : v.bulk ≤ 4194304) (hk : v.k = 2) : Tells 79 v (fields (ctch3 v) v && decide (v.l.length = 0)) := by
  intro x w h
  have HO := Lib.hid fun w' (hb' : Below w.heap.size w w') => own_any v x w' (Is.below hb' _ _ h) hb
  have hll : (v.l.length : Int) ≤ 4194304 := by have := length_le_bulks v.l; have := bulk_ge v; omega
  obtain ⟨xka, xkc, xla, xlc, rfl, -, -, -, hrow⟩ := h.open
  obtain ⟨W0, hW0⟩ : ∃ W0, w.alloc (.cells #[.int .i64 v.k, .string v.nm, .int .i64 v.n, .string v.s, .slice xka v.ks.length xkc, .slice xla v.l.length xlc] 25) = W0 := ⟨_, rfl⟩
  have HB0 : Hid (Below w.heap.size w W0) := by rw [← hW0]; exact below_alloc _ _
  have HF : Hid (∀ w', Below W0.heap.size W0 w' → At w' w.heap.size 0 ⟨v.k, v.nm, v.n, v.s, xka, v.ks.length, xkc, xla, v.l.length, xlc⟩) := fun w' hb => by
    have h0 : At W0 w.heap.size 0 ⟨v.k, v.nm, v.n, v.s, xka, v.ks.length, xkc, xla, v.l.length, xlc⟩ := by rw [← hW0]; exact at_row (hp_new rfl) rfl rfl rfl rfl rfl rfl
    exact h0.below (B := W0.heap.size) (by rw [← hW0]; simp) hb
  have HW0 := Lib.hid hW0
  simp only [X.v] at HO ⊢
  rw [hk] at HO HF HW0 ⊢
  clear h hb hW0 hk hrow
  generalize fields (ctch3 v) v = bo at *
  generalize v.nm = nm at *
  generalize v.n = n at *
  generalize v.s = s at *
  generalize v.ks.length = kn at *
  generalize v.l.length = ln at *
  go_enter Try.func79, Try.ntmps79
  go_wp2_with fail
  rw [HW0.out]
  clear HW0
  refine (HO.out _ HB0.out).mono ?_
  rintro e w1 ⟨rfl, hb1⟩
  obtain ⟨c0, c1, c2, c3, c4, c5⟩ := HF.out _ hb1
  dsimp only at c0 c1 c2 c3 c4 c5
  have HBW := Lib.hid (HB0.out.trans (hb1.mono HB0.out.size))
  clear hb1
  cases bo
  · go_wp2_with fail
    go_ret
    exact ⟨rfl, HBW.out⟩
  by_cases hl : ln = 0
  · subst hl
    go_wp2_with fail
    go_ret
    exact ⟨rfl, HBW.out⟩
  · have hq : ((ln : Int) == 0) = false := by rw [beq_eq_false_iff_ne]; omega
    have HD := Lib.hid (decide_eq_false hl)
    clear hl
    go_wp2_with fail
    go_ret
    exact ⟨by rw [HD.out]; rfl, HBW.out⟩
set_option maxRecDepth 8000 in
set_option maxHeartbeats 1000000 in
theorem expr_3 (v : V) (hb : v.bulk ≤ 4194304) (hk : v.k = 3) : Tells 79 v (fields (ctch3 v) v && decide (v.l.length = 0)) := by
  intro x w h
  have HO := Lib.hid fun w' (hb' : Below w.heap.size w w') => own_any v x w' (Is.below hb' _ _ h) hb
  have hll : (v.l.length : Int) ≤ 4194304 := by have := length_le_bulks v.l; have := bulk_ge v; omega
  obtain ⟨xka, xkc, xla, xlc, rfl, -, -, -, hrow⟩ := h.open
  obtain ⟨W0, hW0⟩ : ∃ W0, w.alloc (.cells #[.int .i64 v.k, .string v.nm, .int .i64 v.n, .string v.s, .slice xka v.ks.length xkc, .slice xla v.l.length xlc] 25) = W0 := ⟨_, rfl⟩
  have HB0 : Hid (Below w.heap.size w W0) := by rw [← hW0]; exact below_alloc _ _
  have HF : Hid (∀ w', Below W0.heap.size W0 w' → At w' w.heap.size 0 ⟨v.k, v.nm, v.n, v.s, xka, v.ks.length, xkc, xla, v.l.length, xlc⟩) := fun w' hb => by
    have h0 : At W0 w.heap.size 0 ⟨v.k, v.nm, v.n, v.s, xka, v.ks.length, xkc, xla, v.l.length, xlc⟩ := by rw [← hW0]; exact at_row (hp_new rfl) rfl rfl rfl rfl rfl rfl
    exact h0.below (B := W0.heap.size) (by rw [← hW0]; simp) hb
  have HW0 := Lib.hid hW0
  simp only [X.v] at HO ⊢
  rw [hk] at HO HF HW0 ⊢
  clear h hb hW0 hk hrow
  generalize fields (ctch3 v) v = bo at *
  generalize v.nm = nm at *
  generalize v.n = n at *
  generalize v.s = s at *
  generalize v.ks.length = kn at *
  generalize v.l.length = ln at *
  go_enter Try.func79, Try.ntmps79
  go_wp2_with fail
  rw [HW0.out]
  clear HW0
  refine (HO.out _ HB0.out).mono ?_
  rintro e w1 ⟨rfl, hb1⟩
  obtain ⟨c0, c1, c2, c3, c4, c5⟩ := HF.out _ hb1
  dsimp only at c0 c1 c2 c3 c4 c5
  have HBW := Lib.hid (HB0.out.trans (hb1.mono HB0.out.size))
  clear hb1
  cases bo
  · go_wp2_with fail
    go_ret
    exact ⟨rfl, HBW.out⟩
  by_cases hl : ln = 0
  · subst hl
    go_wp2_with fail
    go_ret
    exact ⟨rfl, HBW.out⟩
  · have hq : ((ln : Int) == 0) = false := by rw [beq_eq_false_iff_ne]; omega
    have HD := Lib.hid (decide_eq_false hl)
    clear hl
    go_wp2_with fail
    go_ret
    exact ⟨by rw [HD.out]; rfl, HBW.out⟩
set_option maxRecDepth 8000 in
set_option maxHeartbeats 1000000 in
theorem expr_4 (v : V) (hb : v.bulk ≤ 4194304) (hk : v.k = 4) : Tells 79 v (fields (ctch3 v) v && decide (v.l.length = 0)) := by
  intro x w h
  have HO := Lib.hid fun w' (hb' : Below w.heap.size w w') => own_any v x w' (Is.below hb' _ _ h) hb
  have hll : (v.l.length : Int) ≤ 4194304 := by have := length_le_bulks v.l; have := bulk_ge v; omega
  obtain ⟨xka, xkc, xla, xlc, rfl, -, -, -, hrow⟩ := h.open
  obtain ⟨W0, hW0⟩ : ∃ W0, w.alloc (.cells #[.int .i64 v.k, .string v.nm, .int .i64 v.n, .string v.s, .slice xka v.ks.length xkc, .slice xla v.l.length xlc] 25) = W0 := ⟨_, rfl⟩
  have HB0 : Hid (Below w.heap.size w W0) := by rw [← hW0]; exact below_alloc _ _
  have HF : Hid (∀ w', Below W0.heap.size W0 w' → At w' w.heap.size 0 ⟨v.k, v.nm, v.n, v.s, xka, v.ks.length, xkc, xla, v.l.length, xlc⟩) := fun w' hb => by
    have h0 : At W0 w.heap.size 0 ⟨v.k, v.nm, v.n, v.s, xka, v.ks.length, xkc, xla, v.l.length, xlc⟩ := by rw [← hW0]; exact at_row (hp_new rfl) rfl rfl rfl rfl rfl rfl
    exact h0.below (B := W0.heap.size) (by rw [← hW0]; simp) hb
  have HW0 := Lib.hid hW0
  simp only [X.v] at HO ⊢
  rw [hk] at HO HF HW0 ⊢
  clear h hb hW0 hk hrow
  generalize fields (ctch3 v) v = bo at *
  generalize v.nm = nm at *
  generalize v.n = n at *
  generalize v.s = s at *
  generalize v.ks.length = kn at *
  generalize v.l.length = ln at *
  go_enter Try.func79, Try.ntmps79
  go_wp2_with fail
  rw [HW0.out]
  clear HW0
  refine (HO.out _ HB0.out).mono ?_
  rintro e w1 ⟨rfl, hb1⟩
  obtain ⟨c0, c1, c2, c3, c4, c5⟩ := HF.out _ hb1
  dsimp only at c0 c1 c2 c3 c4 c5
  have HBW := Lib.hid (HB0.out.trans (hb1.mono HB0.out.size))
  clear hb1
  cases bo
  · go_wp2_with fail
    go_ret
    exact ⟨rfl, HBW.out⟩
  by_cases hl : ln = 0
  · subst hl
    go_wp2_with fail
    go_ret
    exact ⟨rfl, HBW.out⟩
  · have hq : ((ln : Int) == 0) = false := by rw [beq_eq_false_iff_ne]; omega
    have HD := Lib.hid (decide_eq_false hl)
    clear hl
    go_wp2_with fail
    go_ret
    exact ⟨by rw [HD.out]; rfl, HBW.out⟩
set_option maxRecDepth 8000 in
set_option maxHeartbeats 1000000 in
theorem expr_5 (v : V) (hb : v.bulk ≤ 4194304) (hk : v.k = 5) : Tells 79 v (fields (ctch3 v) v && decide (v.l.length = 0)) := by
  intro x w h
  have HO := Lib.hid fun w' (hb' : Below w.heap.size w w') => own_any v x w' (Is.below hb' _ _ h) hb
  have hll : (v.l.length : Int) ≤ 4194304 := by have := length_le_bulks v.l; have := bulk_ge v; omega
  obtain ⟨xka, xkc, xla, xlc, rfl, -, -, -, hrow⟩ := h.open
  obtain ⟨W0, hW0⟩ : ∃ W0, w.alloc (.cells #[.int .i64 v.k, .string v.nm, .int .i64 v.n, .string v.s, .slice xka v.ks.length xkc, .slice xla v.l.length xlc] 25) = W0 := ⟨_, rfl⟩
  have HB0 : Hid (Below w.heap.size w W0) := by rw [← hW0]; exact below_alloc _ _
  have HF : Hid (∀ w', Below W0.heap.size W0 w' → At w' w.heap.size 0 ⟨v.k, v.nm, v.n, v.s, xka, v.ks.length, xkc, xla, v.l.length, xlc⟩) := fun w' hb => by
    have h0 : At W0 w.heap.size 0 ⟨v.k, v.nm, v.n, v.s, xka, v.ks.length, xkc, xla, v.l.length, xlc⟩ := by rw [← hW0]; exact at_row (hp_new rfl) rfl rfl rfl rfl rfl rfl
    exact h0.below (B := W0.heap.size) (by rw [← hW0]; simp) hb
  have HW0 := Lib.hid hW0
  simp only [X.v] at HO ⊢
  rw [hk] at HO HF HW0 ⊢
  clear h hb hW0 hk hrow
  generalize fields (ctch3 v) v = bo at *
  generalize v.nm = nm at *
  generalize v.n = n at *
  generalize v.s = s at *
  generalize v.ks.length = kn at *
  generalize v.l.length = ln at *
  go_enter Try.func79, Try.ntmps79
  go_wp2_with fail
  rw [HW0.out]
  clear HW0
  refine (HO.out _ HB0.out).mono ?_
  rintro e w1 ⟨rfl, hb1⟩
  obtain ⟨c0, c1, c2, c3, c4, c5⟩ := HF.out _ hb1
  dsimp only at c0 c1 c2 c3 c4 c5
  have HBW := Lib.hid (HB0.out.trans (hb1.mono HB0.out.size))
  clear hb1
  cases bo
  · go_wp2_with fail
    go_ret
    exact ⟨rfl, HBW.out⟩
  by_cases hl : ln = 0
  · subst hl
    go_wp2_with fail
    go_ret
    exact ⟨rfl, HBW.out⟩
  · have hq : ((ln : Int) == 0) = false := by rw [beq_eq_false_iff_ne]; omega
    have HD := Lib.hid (decide_eq_false hl)
    clear hl
    go_wp2_with fail
    go_ret
    exact ⟨by rw [HD.out]; rfl, HBW.out⟩
set_option maxRecDepth 8000 in
set_option maxHeartbeats 1000000 in
theorem expr_6 (v : V) (hb : v.bulk ≤ 4194304) (hk : v.k = 6) : Tells 79 v (fields (ctch3 v) v && decide (v.l.length = 0)) := by
  intro x w h
  have HO := Lib.hid fun w' (hb' : Below w.heap.size w w') => own_any v x w' (Is.below hb' _ _ h) hb
  have hll : (v.l.length : Int) ≤ 4194304 := by have := length_le_bulks v.l; have := bulk_ge v; omega
  obtain ⟨xka, xkc, xla, xlc, rfl, -, -, -, hrow⟩ := h.open
  obtain ⟨W0, hW0⟩ : ∃ W0, w.alloc (.cells #[.int .i64 v.k, .string v.nm, .int .i64 v.n, .string v.s, .slice xka v.ks.length xkc, .slice xla v.l.length xlc] 25) = W0 := ⟨_, rfl⟩
  have HB0 : Hid (Below w.heap.size w W0) := by rw [← hW0]; exact below_alloc _ _
  have HF : Hid (∀ w', Below W0.heap.size W0 w' → At w' w.heap.size 0 ⟨v.k, v.nm, v.n, v.s, xka, v.ks.length, xkc, xla, v.l.length, xlc⟩) := fun w' hb => by
    have h0 : At W0 w.heap.size 0 ⟨v.k, v.nm, v.n, v.s, xka, v.ks.length, xkc, xla, v.l.length, xlc⟩ := by rw [← hW0]; exact at_row (hp_new rfl) rfl rfl rfl rfl rfl rfl
    exact h0.below (B := W0.heap.size) (by rw [← hW0]; simp) hb
  have HW0 := Lib.hid hW0
  simp only [X.v] at HO ⊢
  rw [hk] at HO HF HW0 ⊢
  clear h hb hW0 hk hrow
  generalize fields (ctch3 v) v = bo at *
  generalize v.nm = nm at *
  generalize v.n = n at *
  generalize v.s = s at *
  generalize v.ks.length = kn at *
  generalize v.l.length = ln at *
  go_enter Try.func79, Try.ntmps79
  go_wp2_with fail
  rw [HW0.out]
  clear HW0
  refine (HO.out _ HB0.out).mono ?_
  rintro e w1 ⟨rfl, hb1⟩
  obtain ⟨c0, c1, c2, c3, c4, c5⟩ := HF.out _ hb1
  dsimp only at c0 c1 c2 c3 c4 c5
  have HBW := Lib.hid (HB0.out.trans (hb1.mono HB0.out.size))
  clear hb1
  cases bo
  · go_wp2_with fail
    go_ret
    exact ⟨rfl, HBW.out⟩
  by_cases hl : ln = 0
  · subst hl
    go_wp2_with fail
    go_ret
    exact ⟨rfl, HBW.out⟩
  · have hq : ((ln : Int) == 0) = false := by rw [beq_eq_false_iff_ne]; omega
    have HD := Lib.hid (decide_eq_false hl)
    clear hl
    go_wp2_with fail
    go_ret
    exact ⟨by rw [HD.out]; rfl, HBW.out⟩
set_option maxRecDepth 8000 in
set_option maxHeartbeats 1000000 in
theorem expr_7 (v : V) (hb : v.bulk ≤ 4194304) (hk : v.k = 7) (p : Bool) (H : TellsX v p) : Tells 79 v (fields (ctch3 v) v && p) := by
  intro x w h
  have HO := Lib.hid fun w' (hb' : Below w.heap.size w w') => own_any v x w' (Is.below hb' _ _ h) hb
  have hll : (v.l.length : Int) ≤ 4194304 := by have := length_le_bulks v.l; have := bulk_ge v; omega
  obtain ⟨xka, xkc, xla, xlc, rfl, -, -, -, hrow⟩ := h.open
  have HT := Lib.hid fun w' (hb' : Below w.heap.size w w') => H xla xlc w' (RowB.below hrow hb')
  obtain ⟨W0, hW0⟩ : ∃ W0, w.alloc (.cells #[.int .i64 v.k, .string v.nm, .int .i64 v.n, .string v.s, .slice xka v.ks.length xkc, .slice xla v.l.length xlc] 25) = W0 := ⟨_, rfl⟩
  have HB0 : Hid (Below w.heap.size w W0) := by rw [← hW0]; exact below_alloc _ _
  have HF : Hid (∀ w', Below W0.heap.size W0 w' → At w' w.heap.size 0 ⟨v.k, v.nm, v.n, v.s, xka, v.ks.length, xkc, xla, v.l.length, xlc⟩) := fun w' hb => by
    have h0 : At W0 w.heap.size 0 ⟨v.k, v.nm, v.n, v.s, xka, v.ks.length, xkc, xla, v.l.length, xlc⟩ := by rw [← hW0]; exact at_row (hp_new rfl) rfl rfl rfl rfl rfl rfl
    exact h0.below (B := W0.heap.size) (by rw [← hW0]; simp) hb
  have HW0 := Lib.hid hW0
  simp only [X.v] at HO ⊢
  rw [hk] at HO HF HW0 ⊢
  clear h hb hW0 hk hrow H
  generalize fields (ctch3 v) v = bo at *
  generalize v.nm = nm at *
  generalize v.n = n at *
  generalize v.s = s at *
  generalize v.ks.length = kn at *
  generalize v.l.length = ln at *
  go_enter Try.func79, Try.ntmps79
  go_wp2_with fail
  rw [HW0.out]
  clear HW0
  refine (HO.out _ HB0.out).mono ?_
  rintro e w1 ⟨rfl, hb1⟩
  obtain ⟨c0, c1, c2, c3, c4, c5⟩ := HF.out _ hb1
  dsimp only at c0 c1 c2 c3 c4 c5
  have HBW := Lib.hid (HB0.out.trans (hb1.mono HB0.out.size))
  clear hb1
  cases bo
  · go_wp2_with fail
    go_ret
    exact ⟨rfl, HBW.out⟩
  go_wp2_with fail
  refine (HT.out _ HBW.out).mono ?_
  rintro e w2 ⟨rfl, hb2⟩
  have HB2 := Lib.hid (HBW.out.trans (hb2.mono HBW.out.size))
  clear hb2
  go_wp2_with fail
  go_ret
  exact ⟨rfl, HB2.out⟩
set_option maxRecDepth 8000 in
set_option maxHeartbeats 1000000 in
theorem expr_10 (v : V) (hb : v.bulk ≤ 4194304) (hk : v.k = 10) (p : Bool) (H : TellsL v p) : Tells 79 v (fields (ctch3 v) v && p) := by
  intro x w h
  have HO := Lib.hid fun w' (hb' : Below w.heap.size w w') => own_any v x w' (Is.below hb' _ _ h) hb
  have hll : (v.l.length : Int) ≤ 4194304 := by have := length_le_bulks v.l; have := bulk_ge v; omega
  obtain ⟨xka, xkc, xla, xlc, rfl, -, -, -, hrow⟩ := h.open
  have HT := Lib.hid fun w' (hb' : Below w.heap.size w w') => H xla xlc w' (RowB.below hrow hb')
  obtain ⟨W0, hW0⟩ : ∃ W0, w.alloc (.cells #[.int .i64 v.k, .string v.nm, .int .i64 v.n, .string v.s, .slice xka v.ks.length xkc, .slice xla v.l.length xlc] 25) = W0 := ⟨_, rfl⟩
  have HB0 : Hid (Below w.heap.size w W0) := by rw [← hW0]; exact below_alloc _ _
  have HF : Hid (∀ w', Below W0.heap.size W0 w' → At w' w.heap.size 0 ⟨v.k, v.nm, v.n, v.s, xka, v.ks.length, xkc, xla, v.l.length, xlc⟩) := fun w' hb => by
    have h0 : At W0 w.heap.size 0 ⟨v.k, v.nm, v.n, v.s, xka, v.ks.length, xkc, xla, v.l.length, xlc⟩ := by rw [← hW0]; exact at_row (hp_new rfl) rfl rfl rfl rfl rfl rfl
    exact h0.below (B := W0.heap.size) (by rw [← hW0]; simp) hb
  have HW0 := Lib.hid hW0
  simp only [X.v] at HO ⊢
  rw [hk] at HO HF HW0 ⊢
  clear h hb hW0 hk hrow H
  generalize fields (ctch3 v) v = bo at *
  generalize v.nm = nm at *
  generalize v.n = n at *
  generalize v.s = s at *
  generalize v.ks.length = kn at *
  generalize v.l.length = ln at *
  go_enter Try.func79, Try.ntmps79
  go_wp2_with fail
  rw [HW0.out]
  clear HW0
  refine (HO.out _ HB0.out).mono ?_
  rintro e w1 ⟨rfl, hb1⟩
  obtain ⟨c0, c1, c2, c3, c4, c5⟩ := HF.out _ hb1
  dsimp only at c0 c1 c2 c3 c4 c5
  have HBW := Lib.hid (HB0.out.trans (hb1.mono HB0.out.size))
  clear hb1
  cases bo
  · go_wp2_with fail
    go_ret
    exact ⟨rfl, HBW.out⟩
  go_wp2_with fail
  refine (HT.out _ HBW.out).mono ?_
  rintro e w2 ⟨rfl, hb2⟩
  have HB2 := Lib.hid (HBW.out.trans (hb2.mono HBW.out.size))
  clear hb2
  go_wp2_with fail
  go_ret
  exact ⟨rfl, HB2.out⟩
set_option maxRecDepth 8000 in
set_option maxHeartbeats 1000000 in
theorem expr_13 (v : V) (hb : v.bulk ≤ 4194304) (hk : v.k = 13) (p : Bool) (H : TellsX v p) : Tells 79 v (fields (ctch3 v) v && (decide (0 < v.l.length) && p)) := by
  intro x w h
  have HO := Lib.hid fun w' (hb' : Below w.heap.size w w') => own_any v x w' (Is.below hb' _ _ h) hb
  have hll : (v.l.length : Int) ≤ 4194304 := by have := length_le_bulks v.l; have := bulk_ge v; omega
  obtain ⟨xka, xkc, xla, xlc, rfl, -, -, -, hrow⟩ := h.open
  have HT := Lib.hid fun w' (hb' : Below w.heap.size w w') => H xla xlc w' (RowB.below hrow hb')
  obtain ⟨W0, hW0⟩ : ∃ W0, w.alloc (.cells #[.int .i64 v.k, .string v.nm, .int .i64 v.n, .string v.s, .slice xka v.ks.length xkc, .slice xla v.l.length xlc] 25) = W0 := ⟨_, rfl⟩
  have HB0 : Hid (Below w.heap.size w W0) := by rw [← hW0]; exact below_alloc _ _
  have HF : Hid (∀ w', Below W0.heap.size W0 w' → At w' w.heap.size 0 ⟨v.k, v.nm, v.n, v.s, xka, v.ks.length, xkc, xla, v.l.length, xlc⟩) := fun w' hb => by
    have h0 : At W0 w.heap.size 0 ⟨v.k, v.nm, v.n, v.s, xka, v.ks.length, xkc, xla, v.l.length, xlc⟩ := by rw [← hW0]; exact at_row (hp_new rfl) rfl rfl rfl rfl rfl rfl
    exact h0.below (B := W0.heap.size) (by rw [← hW0]; simp) hb
  have HW0 := Lib.hid hW0
  simp only [X.v] at HO ⊢
  rw [hk] at HO HF HW0 ⊢
  clear h hb hW0 hk hrow H
  generalize fields (ctch3 v) v = bo at *
  generalize v.nm = nm at *
  generalize v.n = n at *
  generalize v.s = s at *
  generalize v.ks.length = kn at *
  generalize v.l.length = ln at *
  go_enter Try.func79, Try.ntmps79
  go_wp2_with fail
  rw [HW0.out]
  clear HW0
  refine (HO.out _ HB0.out).mono ?_
  rintro e w1 ⟨rfl, hb1⟩
  obtain ⟨c0, c1, c2, c3, c4, c5⟩ := HF.out _ hb1
  dsimp only at c0 c1 c2 c3 c4 c5
  have HBW := Lib.hid (HB0.out.trans (hb1.mono HB0.out.size))
  clear hb1
  cases bo
  · go_wp2_with fail
    go_ret
    exact ⟨rfl, HBW.out⟩
  by_cases hl : 0 < ln
  · have hli : (1 : Int) ≤ (ln : Int) := by omega
    have HD := Lib.hid (decide_eq_true hl)
    clear hl
    go_wp2_with fail
    refine (HT.out _ HBW.out).mono ?_
    rintro e w2 ⟨rfl, hb2⟩
    have HB2 := Lib.hid (HBW.out.trans (hb2.mono HBW.out.size))
    clear hb2
    go_wp2_with fail
    go_ret
    exact ⟨by rw [HD.out]; rfl, HB2.out⟩
  · have hli : (ln : Int) < 1 := by omega
    have HD := Lib.hid (decide_eq_false hl)
    clear hl
    go_wp2_with fail
    go_ret
    exact ⟨by rw [HD.out]; rfl, HBW.out⟩
set_option maxRecDepth 8000 in
set_option maxHeartbeats 1000000 in
theorem expr_14 (v : V) (hb : v.bulk ≤ 4194304) (hk : v.k = 14) (p : Bool) (H : TellsX v p) : Tells 79 v (fields (ctch3 v) v && (decide (0 < v.l.length) && p)) := by
  intro x w h
  have HO := Lib.hid fun w' (hb' : Below w.heap.size w w') => own_any v x w' (Is.below hb' _ _ h) hb
  have hll : (v.l.length : Int) ≤ 4194304 := by have := length_le_bulks v.l; have := bulk_ge v; omega
  obtain ⟨xka, xkc, xla, xlc, rfl, -, -, -, hrow⟩ := h.open
  have HT := Lib.hid fun w' (hb' : Below w.heap.size w w') => H xla xlc w' (RowB.below hrow hb')
  obtain ⟨W0, hW0⟩ : ∃ W0, w.alloc (.cells #[.int .i64 v.k, .string v.nm, .int .i64 v.n, .string v.s, .slice xka v.ks.length xkc, .slice xla v.l.length xlc] 25) = W0 := ⟨_, rfl⟩
  have HB0 : Hid (Below w.heap.size w W0) := by rw [← hW0]; exact below_alloc _ _
  have HF : Hid (∀ w', Below W0.heap.size W0 w' → At w' w.heap.size 0 ⟨v.k, v.nm, v.n, v.s, xka, v.ks.length, xkc, xla, v.l.length, xlc⟩) := fun w' hb => by
    have h0 : At W0 w.heap.size 0 ⟨v.k, v.nm, v.n, v.s, xka, v.ks.length, xkc, xla, v.l.length, xlc⟩ := by rw [← hW0]; exact at_row (hp_new rfl) rfl rfl rfl rfl rfl rfl
    exact h0.below (B := W0.heap.size) (by rw [← hW0]; simp) hb
  have HW0 := Lib.hid hW0
  simp only [X.v] at HO ⊢
  rw [hk] at HO HF HW0 ⊢
  clear h hb hW0 hk hrow H
  generalize fields (ctch3 v) v = bo at *
  generalize v.nm = nm at *
  generalize v.n = n at *
  generalize v.s = s at *
  generalize v.ks.length = kn at *
  generalize v.l.length = ln at *
  go_enter Try.func79, Try.ntmps79
  go_wp2_with fail
  rw [HW0.out]
  clear HW0
  refine (HO.out _ HB0.out).mono ?_
  rintro e w1 ⟨rfl, hb1⟩
  obtain ⟨c0, c1, c2, c3, c4, c5⟩ := HF.out _ hb1
  dsimp only at c0 c1 c2 c3 c4 c5
  have HBW := Lib.hid (HB0.out.trans (hb1.mono HB0.out.size))
  clear hb1
  cases bo
  · go_wp2_with fail
    go_ret
    exact ⟨rfl, HBW.out⟩
  by_cases hl : 0 < ln
  · have hli : (1 : Int) ≤ (ln : Int) := by omega
    have HD := Lib.hid (decide_eq_true hl)
    clear hl
    go_wp2_with fail
    refine (HT.out _ HBW.out).mono ?_
    rintro e w2 ⟨rfl, hb2⟩
    have HB2 := Lib.hid (HBW.out.trans (hb2.mono HBW.out.size))
    clear hb2
    go_wp2_with fail
    go_ret
    exact ⟨by rw [HD.out]; rfl, HB2.out⟩
  · have hli : (ln : Int) < 1 := by omega
    have HD := Lib.hid (decide_eq_false hl)
    clear hl
    go_wp2_with fail
    go_ret
    exact ⟨by rw [HD.out]; rfl, HBW.out⟩
set_option maxRecDepth 8000 in
set_option maxHeartbeats 1000000 in
theorem expr_11 (v : V) (hb : v.bulk ≤ 4194304) (hk : v.k = 11) (p : Bool) (H : TellsX v p) : Tells 79 v (fields (ctch3 v) v && (decide (v.l.length = 1) && p)) := by
  intro x w h
  have HO := Lib.hid fun w' (hb' : Below w.heap.size w w') => own_any v x w' (Is.below hb' _ _ h) hb
  have hll : (v.l.length : Int) ≤ 4194304 := by have := length_le_bulks v.l; have := bulk_ge v; omega
  obtain ⟨xka, xkc, xla, xlc, rfl, -, -, -, hrow⟩ := h.open
  have HT := Lib.hid fun w' (hb' : Below w.heap.size w w') => H xla xlc w' (RowB.below hrow hb')
  obtain ⟨W0, hW0⟩ : ∃ W0, w.alloc (.cells #[.int .i64 v.k, .string v.nm, .int .i64 v.n, .string v.s, .slice xka v.ks.length xkc, .slice xla v.l.length xlc] 25) = W0 := ⟨_, rfl⟩
  have HB0 : Hid (Below w.heap.size w W0) := by rw [← hW0]; exact below_alloc _ _
  have HF : Hid (∀ w', Below W0.heap.size W0 w' → At w' w.heap.size 0 ⟨v.k, v.nm, v.n, v.s, xka, v.ks.length, xkc, xla, v.l.length, xlc⟩) := fun w' hb => by
    have h0 : At W0 w.heap.size 0 ⟨v.k, v.nm, v.n, v.s, xka, v.ks.length, xkc, xla, v.l.length, xlc⟩ := by rw [← hW0]; exact at_row (hp_new rfl) rfl rfl rfl rfl rfl rfl
    exact h0.below (B := W0.heap.size) (by rw [← hW0]; simp) hb
  have HW0 := Lib.hid hW0
  simp only [X.v] at HO ⊢
  rw [hk] at HO HF HW0 ⊢
  clear h hb hW0 hk hrow H
  generalize fields (ctch3 v) v = bo at *
  generalize v.nm = nm at *
  generalize v.n = n at *
  generalize v.s = s at *
  generalize v.ks.length = kn at *
  generalize v.l.length = ln at *
  go_enter Try.func79, Try.ntmps79
  go_wp2_with fail
  rw [HW0.out]
  clear HW0
  refine (HO.out _ HB0.out).mono ?_
  rintro e w1 ⟨rfl, hb1⟩
  obtain ⟨c0, c1, c2, c3, c4, c5⟩ := HF.out _ hb1
  dsimp only at c0 c1 c2 c3 c4 c5
  have HBW := Lib.hid (HB0.out.trans (hb1.mono HB0.out.size))
  clear hb1
  cases bo
  · go_wp2_with fail
    go_ret
    exact ⟨rfl, HBW.out⟩
  by_cases hl : ln = 1
  · subst hl
    go_wp2_with fail
    refine (HT.out _ HBW.out).mono ?_
    rintro e w2 ⟨rfl, hb2⟩
    have HB2 := Lib.hid (HBW.out.trans (hb2.mono HBW.out.size))
    clear hb2
    go_wp2_with fail
    go_ret
    exact ⟨rfl, HB2.out⟩
  · have hq : ((ln : Int) == 1) = false := by rw [beq_eq_false_iff_ne]; omega
    have HD := Lib.hid (decide_eq_false hl)
    clear hl
    go_wp2_with fail
    go_ret
    exact ⟨by rw [HD.out]; rfl, HBW.out⟩
set_option maxRecDepth 8000 in
set_option maxHeartbeats 1000000 in
theorem expr_15 (v : V) (hb : v.bulk ≤ 4194304) (hk : v.k = 15) (p : Bool) (H : TellsX v p) : Tells 79 v (fields (ctch3 v) v && (decide (v.l.length = 1) && p)) := by
  intro x w h
  have HO := Lib.hid fun w' (hb' : Below w.heap.size w w') => own_any v x w' (Is.below hb' _ _ h) hb
  have hll : (v.l.length : Int) ≤ 4194304 := by have := length_le_bulks v.l; have := bulk_ge v; omega
  obtain ⟨xka, xkc, xla, xlc, rfl, -, -, -, hrow⟩ := h.open
  have HT := Lib.hid fun w' (hb' : Below w.heap.size w w') => H xla xlc w' (RowB.below hrow hb')
  obtain ⟨W0, hW0⟩ : ∃ W0, w.alloc (.cells #[.int .i64 v.k, .string v.nm, .int .i64 v.n, .string v.s, .slice xka v.ks.length xkc, .slice xla v.l.length xlc] 25) = W0 := ⟨_, rfl⟩
  have HB0 : Hid (Below w.heap.size w W0) := by rw [← hW0]; exact below_alloc _ _
  have HF : Hid (∀ w', Below W0.heap.size W0 w' → At w' w.heap.size 0 ⟨v.k, v.nm, v.n, v.s, xka, v.ks.length, xkc, xla, v.l.length, xlc⟩) := fun w' hb => by
    have h0 : At W0 w.heap.size 0 ⟨v.k, v.nm, v.n, v.s, xka, v.ks.length, xkc, xla, v.l.length, xlc⟩ := by rw [← hW0]; exact at_row (hp_new rfl) rfl rfl rfl rfl rfl rfl
    exact h0.below (B := W0.heap.size) (by rw [← hW0]; simp) hb
  have HW0 := Lib.hid hW0
  simp only [X.v] at HO ⊢
  rw [hk] at HO HF HW0 ⊢
  clear h hb hW0 hk hrow H
  generalize fields (ctch3 v) v = bo at *
  generalize v.nm = nm at *
  generalize v.n = n at *
  generalize v.s = s at *
  generalize v.ks.length = kn at *
  generalize v.l.length = ln at *
  go_enter Try.func79, Try.ntmps79
  go_wp2_with fail
  rw [HW0.out]
  clear HW0
  refine (HO.out _ HB0.out).mono ?_
  rintro e w1 ⟨rfl, hb1⟩
  obtain ⟨c0, c1, c2, c3, c4, c5⟩ := HF.out _ hb1
  dsimp only at c0 c1 c2 c3 c4 c5
  have HBW := Lib.hid (HB0.out.trans (hb1.mono HB0.out.size))
  clear hb1
  cases bo
  · go_wp2_with fail
    go_ret
    exact ⟨rfl, HBW.out⟩
  by_cases hl : ln = 1
  · subst hl
    go_wp2_with fail
    refine (HT.out _ HBW.out).mono ?_
    rintro e w2 ⟨rfl, hb2⟩
    have HB2 := Lib.hid (HBW.out.trans (hb2.mono HBW.out.size))
    clear hb2
    go_wp2_with fail
    go_ret
    exact ⟨rfl, HB2.out⟩
  · have hq : ((ln : Int) == 1) = false := by rw [beq_eq_false_iff_ne]; omega
    have HD := Lib.hid (decide_eq_false hl)
    clear hl
    go_wp2_with fail
    go_ret
    exact ⟨by rw [HD.out]; rfl, HBW.out⟩
set_option maxRecDepth 8000 in
set_option maxHeartbeats 1000000 in
theorem expr_12 (v : V) (hb : v.bulk ≤ 4194304) (hk : v.k = 12) (p : Bool) (H : TellsX v p) : Tells 79 v (fields (ctch3 v) v && (decide (v.l.length = 2) && p)) := by
  intro x w h
  have HO := Lib.hid fun w' (hb' : Below w.heap.size w w') => own_any v x w' (Is.below hb' _ _ h) hb
  have hll : (v.l.length : Int) ≤ 4194304 := by have := length_le_bulks v.l; have := bulk_ge v; omega
  obtain ⟨xka, xkc, xla, xlc, rfl, -, -, -, hrow⟩ := h.open
  have HT := Lib.hid fun w' (hb' : Below w.heap.size w w') => H xla xlc w' (RowB.below hrow hb')
  obtain ⟨W0, hW0⟩ : ∃ W0, w.alloc (.cells #[.int .i64 v.k, .string v.nm, .int .i64 v.n, .string v.s, .slice xka v.ks.length xkc, .slice xla v.l.length xlc] 25) = W0 := ⟨_, rfl⟩
  have HB0 : Hid (Below w.heap.size w W0) := by rw [← hW0]; exact below_alloc _ _
  have HF : Hid (∀ w', Below W0.heap.size W0 w' → At w' w.heap.size 0 ⟨v.k, v.nm, v.n, v.s, xka, v.ks.length, xkc, xla, v.l.length, xlc⟩) := fun w' hb => by
    have h0 : At W0 w.heap.size 0 ⟨v.k, v.nm, v.n, v.s, xka, v.ks.length, xkc, xla, v.l.length, xlc⟩ := by rw [← hW0]; exact at_row (hp_new rfl) rfl rfl rfl rfl rfl rfl
    exact h0.below (B := W0.heap.size) (by rw [← hW0]; simp) hb
  have HW0 := Lib.hid hW0
  simp only [X.v] at HO ⊢
  rw [hk] at HO HF HW0 ⊢
  clear h hb hW0 hk hrow H
  generalize fields (ctch3 v) v = bo at *
  generalize v.nm = nm at *
  generalize v.n = n at *
  generalize v.s = s at *
  generalize v.ks.length = kn at *
  generalize v.l.length = ln at *
  go_enter Try.func79, Try.ntmps79
  go_wp2_with fail
  rw [HW0.out]
  clear HW0
  refine (HO.out _ HB0.out).mono ?_
  rintro e w1 ⟨rfl, hb1⟩
  obtain ⟨c0, c1, c2, c3, c4, c5⟩ := HF.out _ hb1
  dsimp only at c0 c1 c2 c3 c4 c5
  have HBW := Lib.hid (HB0.out.trans (hb1.mono HB0.out.size))
  clear hb1
  cases bo
  · go_wp2_with fail
    go_ret
    exact ⟨rfl, HBW.out⟩
  by_cases hl : ln = 2
  · subst hl
    go_wp2_with fail
    refine (HT.out _ HBW.out).mono ?_
    rintro e w2 ⟨rfl, hb2⟩
    have HB2 := Lib.hid (HBW.out.trans (hb2.mono HBW.out.size))
    clear hb2
    go_wp2_with fail
    go_ret
    exact ⟨rfl, HB2.out⟩
  · have hq : ((ln : Int) == 2) = false := by rw [beq_eq_false_iff_ne]; omega
    have HD := Lib.hid (decide_eq_false hl)
    clear hl
    go_wp2_with fail
    go_ret
    exact ⟨by rw [HD.out]; rfl, HBW.out⟩
set_option maxRecDepth 8000 in
set_option maxHeartbeats 1000000 in
theorem expr_17 (v : V) (hb : v.bulk ≤ 4194304) (hk : v.k = 17) (p : Bool) (H : TellsX v p) : Tells 79 v (fields (ctch3 v) v && (decide (v.l.length = 2) && p)) := by
  intro x w h
  have HO := Lib.hid fun w' (hb' : Below w.heap.size w w') => own_any v x w' (Is.below hb' _ _ h) hb
  have hll : (v.l.length : Int) ≤ 4194304 := by have := length_le_bulks v.l; have := bulk_ge v; omega
  obtain ⟨xka, xkc, xla, xlc, rfl, -, -, -, hrow⟩ := h.open
  have HT := Lib.hid fun w' (hb' : Below w.heap.size w w') => H xla xlc w' (RowB.below hrow hb')
  obtain ⟨W0, hW0⟩ : ∃ W0, w.alloc (.cells #[.int .i64 v.k, .string v.nm, .int .i64 v.n, .string v.s, .slice xka v.ks.length xkc, .slice xla v.l.length xlc] 25) = W0 := ⟨_, rfl⟩
  have HB0 : Hid (Below w.heap.size w W0) := by rw [← hW0]; exact below_alloc _ _
  have HF : Hid (∀ w', Below W0.heap.size W0 w' → At w' w.heap.size 0 ⟨v.k, v.nm, v.n, v.s, xka, v.ks.length, xkc, xla, v.l.length, xlc⟩) := fun w' hb => by
    have h0 : At W0 w.heap.size 0 ⟨v.k, v.nm, v.n, v.s, xka, v.ks.length, xkc, xla, v.l.length, xlc⟩ := by rw [← hW0]; exact at_row (hp_new rfl) rfl rfl rfl rfl rfl rfl
    exact h0.below (B := W0.heap.size) (by rw [← hW0]; simp) hb
  have HW0 := Lib.hid hW0
  simp only [X.v] at HO ⊢
  rw [hk] at HO HF HW0 ⊢
  clear h hb hW0 hk hrow H
  generalize fields (ctch3 v) v = bo at *
  generalize v.nm = nm at *
  generalize v.n = n at *
  generalize v.s = s at *
  generalize v.ks.length = kn at *
  generalize v.l.length = ln at *
  go_enter Try.func79, Try.ntmps79
  go_wp2_with fail
  rw [HW0.out]
  clear HW0
  refine (HO.out _ HB0.out).mono ?_
  rintro e w1 ⟨rfl, hb1⟩
  obtain ⟨c0, c1, c2, c3, c4, c5⟩ := HF.out _ hb1
  dsimp only at c0 c1 c2 c3 c4 c5
  have HBW := Lib.hid (HB0.out.trans (hb1.mono HB0.out.size))
  clear hb1
  cases bo
  · go_wp2_with fail
    go_ret
    exact ⟨rfl, HBW.out⟩
  by_cases hl : ln = 2
  · subst hl
    go_wp2_with fail
    refine (HT.out _ HBW.out).mono ?_
    rintro e w2 ⟨rfl, hb2⟩
    have HB2 := Lib.hid (HBW.out.trans (hb2.mono HBW.out.size))
    clear hb2
    go_wp2_with fail
    go_ret
    exact ⟨rfl, HB2.out⟩
  · have hq : ((ln : Int) == 2) = false := by rw [beq_eq_false_iff_ne]; omega
    have HD := Lib.hid (decide_eq_false hl)
    clear hl
    go_wp2_with fail
    go_ret
    exact ⟨by rw [HD.out]; rfl, HBW.out⟩
set_option maxRecDepth 8000 in
set_option maxHeartbeats 1000000 in
theorem expr_18 (v : V) (hb : v.bulk ≤ 4194304) (hk : v.k = 18) (p : Bool) (H : TellsX v p) : Tells 79 v (fields (ctch3 v) v && (decide (v.l.length = 2) && p)) := by
  intro x w h
  have HO := Lib.hid fun w' (hb' : Below w.heap.size w w') => own_any v x w' (Is.below hb' _ _ h) hb
  have hll : (v.l.length : Int) ≤ 4194304 := by have := length_le_bulks v.l; have := bulk_ge v; omega
  obtain ⟨xka, xkc, xla, xlc, rfl, -, -, -, hrow⟩ := h.open
  have HT := Lib.hid fun w' (hb' : Below w.heap.size w w') => H xla xlc w' (RowB.below hrow hb')
  obtain ⟨W0, hW0⟩ : ∃ W0, w.alloc (.cells #[.int .i64 v.k, .string v.nm, .int .i64 v.n, .string v.s, .slice xka v.ks.length xkc, .slice xla v.l.length xlc] 25) = W0 := ⟨_, rfl⟩
  have HB0 : Hid (Below w.heap.size w W0) := by rw [← hW0]; exact below_alloc _ _
  have HF : Hid (∀ w', Below W0.heap.size W0 w' → At w' w.heap.size 0 ⟨v.k, v.nm, v.n, v.s, xka, v.ks.length, xkc, xla, v.l.length, xlc⟩) := fun w' hb => by
    have h0 : At W0 w.heap.size 0 ⟨v.k, v.nm, v.n, v.s, xka, v.ks.length, xkc, xla, v.l.length, xlc⟩ := by rw [← hW0]; exact at_row (hp_new rfl) rfl rfl rfl rfl rfl rfl
    exact h0.below (B := W0.heap.size) (by rw [← hW0]; simp) hb
  have HW0 := Lib.hid hW0
  simp only [X.v] at HO ⊢
  rw [hk] at HO HF HW0 ⊢
  clear h hb hW0 hk hrow H
  generalize fields (ctch3 v) v = bo at *
  generalize v.nm = nm at *
  generalize v.n = n at *
  generalize v.s = s at *
  generalize v.ks.length = kn at *
  generalize v.l.length = ln at *
  go_enter Try.func79, Try.ntmps79
  go_wp2_with fail
  rw [HW0.out]
  clear HW0
  refine (HO.out _ HB0.out).mono ?_
  rintro e w1 ⟨rfl, hb1⟩
  obtain ⟨c0, c1, c2, c3, c4, c5⟩ := HF.out _ hb1
  dsimp only at c0 c1 c2 c3 c4 c5
  have HBW := Lib.hid (HB0.out.trans (hb1.mono HB0.out.size))
  clear hb1
  cases bo
  · go_wp2_with fail
    go_ret
    exact ⟨rfl, HBW.out⟩
  by_cases hl : ln = 2
  · subst hl
    go_wp2_with fail
    refine (HT.out _ HBW.out).mono ?_
    rintro e w2 ⟨rfl, hb2⟩
    have HB2 := Lib.hid (HBW.out.trans (hb2.mono HBW.out.size))
    clear hb2
    go_wp2_with fail
    go_ret
    exact ⟨rfl, HB2.out⟩
  · have hq : ((ln : Int) == 2) = false := by rw [beq_eq_false_iff_ne]; omega
    have HD := Lib.hid (decide_eq_false hl)
    clear hl
    go_wp2_with fail
    go_ret
    exact ⟨by rw [HD.out]; rfl, HBW.out⟩
set_option maxRecDepth 8000 in
set_option maxHeartbeats 1000000 in
theorem expr_21 (v : V) (hb : v.bulk ≤ 4194304) (hk : v.k = 21) (p : Bool) (H : TellsX v p) : Tells 79 v (fields (ctch3 v) v && (decide (v.l.length = 2) && p)) := by
  intro x w h
  have HO := Lib.hid fun w' (hb' : Below w.heap.size w w') => own_any v x w' (Is.below hb' _ _ h) hb
  have hll : (v.l.length : Int) ≤ 4194304 := by have := length_le_bulks v.l; have := bulk_ge v; omega
  obtain ⟨xka, xkc, xla, xlc, rfl, -, -, -, hrow⟩ := h.open
  have HT := Lib.hid fun w' (hb' : Below w.heap.size w w') => H xla xlc w' (RowB.below hrow hb')
  obtain ⟨W0, hW0⟩ : ∃ W0, w.alloc (.cells #[.int .i64 v.k, .string v.nm, .int .i64 v.n, .string v.s, .slice xka v.ks.length xkc, .slice xla v.l.length xlc] 25) = W0 := ⟨_, rfl⟩
  have HB0 : Hid (Below w.heap.size w W0) := by rw [← hW0]; exact below_alloc _ _
  have HF : Hid (∀ w', Below W0.heap.size W0 w' → At w' w.heap.size 0 ⟨v.k, v.nm, v.n, v.s, xka, v.ks.length, xkc, xla, v.l.length, xlc⟩) := fun w' hb => by
    have h0 : At W0 w.heap.size 0 ⟨v.k, v.nm, v.n, v.s, xka, v.ks.length, xkc, xla, v.l.length, xlc⟩ := by rw [← hW0]; exact at_row (hp_new rfl) rfl rfl rfl rfl rfl rfl
    exact h0.below (B := W0.heap.size) (by rw [← hW0]; simp) hb
  have HW0 := Lib.hid hW0
  simp only [X.v] at HO ⊢
  rw [hk] at HO HF HW0 ⊢
  clear h hb hW0 hk hrow H
  generalize fields (ctch3 v) v = bo at *
  generalize v.nm = nm at *
  generalize v.n = n at *
  generalize v.s = s at *
  generalize v.ks.length = kn at *
  generalize v.l.length = ln at *
  go_enter Try.func79, Try.ntmps79
  go_wp2_with fail
  rw [HW0.out]
  clear HW0
  refine (HO.out _ HB0.out).mono ?_
  rintro e w1 ⟨rfl, hb1⟩
  obtain ⟨c0, c1, c2, c3, c4, c5⟩ := HF.out _ hb1
  dsimp only at c0 c1 c2 c3 c4 c5
  have HBW := Lib.hid (HB0.out.trans (hb1.mono HB0.out.size))
  clear hb1
  cases bo
  · go_wp2_with fail
    go_ret
    exact ⟨rfl, HBW.out⟩
  by_cases hl : ln = 2
  · subst hl
    go_wp2_with fail
    refine (HT.out _ HBW.out).mono ?_
    rintro e w2 ⟨rfl, hb2⟩
    have HB2 := Lib.hid (HBW.out.trans (hb2.mono HBW.out.size))
    clear hb2
    go_wp2_with fail
    go_ret
    exact ⟨rfl, HB2.out⟩
  · have hq : ((ln : Int) == 2) = false := by rw [beq_eq_false_iff_ne]; omega
    have HD := Lib.hid (decide_eq_false hl)
    clear hl
    go_wp2_with fail
    go_ret
    exact ⟨by rw [HD.out]; rfl, HBW.out⟩
set_option maxRecDepth 8000 in
set_option maxHeartbeats 1000000 in
theorem expr_19 (v : V) (hb : v.bulk ≤ 4194304) (hk : v.k = 19) (p : Bool) (H : TellsX v p) : Tells 79 v (fields (ctch3 v) v && (decide (v.l.length = 3) && p)) := by
  intro x w h
  have HO := Lib.hid fun w' (hb' : Below w.heap.size w w') => own_any v x w' (Is.below hb' _ _ h) hb
  have hll : (v.l.length : Int) ≤ 4194304 := by have := length_le_bulks v.l; have := bulk_ge v; omega
  obtain ⟨xka, xkc, xla, xlc, rfl, -, -, -, hrow⟩ := h.open
  have HT := Lib.hid fun w' (hb' : Below w.heap.size w w') => H xla xlc w' (RowB.below hrow hb')
  obtain ⟨W0, hW0⟩ : ∃ W0, w.alloc (.cells #[.int .i64 v.k, .string v.nm, .int .i64 v.n, .string v.s, .slice xka v.ks.length xkc, .slice xla v.l.length xlc] 25) = W0 := ⟨_, rfl⟩
  have HB0 : Hid (Below w.heap.size w W0) := by rw [← hW0]; exact below_alloc _ _
  have HF : Hid (∀ w', Below W0.heap.size W0 w' → At w' w.heap.size 0 ⟨v.k, v.nm, v.n, v.s, xka, v.ks.length, xkc, xla, v.l.length, xlc⟩) := fun w' hb => by
    have h0 : At W0 w.heap.size 0 ⟨v.k, v.nm, v.n, v.s, xka, v.ks.length, xkc, xla, v.l.length, xlc⟩ := by rw [← hW0]; exact at_row (hp_new rfl) rfl rfl rfl rfl rfl rfl
    exact h0.below (B := W0.heap.size) (by rw [← hW0]; simp) hb
  have HW0 := Lib.hid hW0
  simp only [X.v] at HO ⊢
  rw [hk] at HO HF HW0 ⊢
  clear h hb hW0 hk hrow H
  generalize fields (ctch3 v) v = bo at *
  generalize v.nm = nm at *
  generalize v.n = n at *
  generalize v.s = s at *
  generalize v.ks.length = kn at *
  generalize v.l.length = ln at *
  go_enter Try.func79, Try.ntmps79
  go_wp2_with fail
  rw [HW0.out]
  clear HW0
  refine (HO.out _ HB0.out).mono ?_
  rintro e w1 ⟨rfl, hb1⟩
  obtain ⟨c0, c1, c2, c3, c4, c5⟩ := HF.out _ hb1
  dsimp only at c0 c1 c2 c3 c4 c5
  have HBW := Lib.hid (HB0.out.trans (hb1.mono HB0.out.size))
  clear hb1
  cases bo
  · go_wp2_with fail
    go_ret
    exact ⟨rfl, HBW.out⟩
  by_cases hl : ln = 3
  · subst hl
    go_wp2_with fail
    refine (HT.out _ HBW.out).mono ?_
    rintro e w2 ⟨rfl, hb2⟩
    have HB2 := Lib.hid (HBW.out.trans (hb2.mono HBW.out.size))
    clear hb2
    go_wp2_with fail
    go_ret
    exact ⟨rfl, HB2.out⟩
  · have hq : ((ln : Int) == 3) = false := by rw [beq_eq_false_iff_ne]; omega
    have HD := Lib.hid (decide_eq_false hl)
    clear hl
    go_wp2_with fail
    go_ret
    exact ⟨by rw [HD.out]; rfl, HBW.out⟩
end Go.Proofs.Ytgehgccgologpaa.R
