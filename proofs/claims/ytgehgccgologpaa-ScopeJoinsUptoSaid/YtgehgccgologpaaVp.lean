/-
  Laid by wip/scope/lay.py out of wip/tree: Vo Vp.
  The reference's expr, kinds EUpdate and EAssign. (gen_vo.py)
  The reference's stmt: kinds that another function of the same node answers for; no child; SReturn. (gen_vp.py)
-/
import Derived.Test.YtgehgccgologpaaVn
namespace Go.Proofs.Ytgehgccgologpaa.R
open Go.RowKit Go.Proofs.Ytgehgccgologpaa Go.Proofs.Ytgehgccgologpaa.T
set_option maxRecDepth 8000 in
set_option maxHeartbeats 1000000 in
theorem expr_16 (v : V) (hb : v.bulk ≤ 4194304) (hk : v.k = 16) (hl : v.l.length = 1) (p : Bool) (H : TellsX v p) : Tells 79 v (fields (ctch3 v) v && (isTg (v.l[0]'(by omega)) && p)) := by
  intro x w h
  have HO := Lib.hid fun w' (hb' : Below w.heap.size w w') => own_any v x w' (Is.below hb' _ _ h) hb
  obtain ⟨xka, xkc, xla, xlc, rfl, -, -, -, hrow⟩ := h.open
  have HT := Lib.hid fun w' (hb' : Below w.heap.size w w') => H xla xlc w' (RowB.below hrow hb')
  obtain ⟨W0, hW0⟩ : ∃ W0, w.alloc (.cells #[.int .i64 v.k, .string v.nm, .int .i64 v.n, .string v.s, .slice xka v.ks.length xkc, .slice xla v.l.length xlc] 25) = W0 := ⟨_, rfl⟩
  have HB0 : Hid (Below w.heap.size w W0) := by rw [← hW0]; exact below_alloc _ _
  have HF : Hid (∀ w', Below W0.heap.size W0 w' → At w' w.heap.size 0 ⟨v.k, v.nm, v.n, v.s, xka, v.ks.length, xkc, xla, v.l.length, xlc⟩) := fun w' hb => by
    have h0 : At W0 w.heap.size 0 ⟨v.k, v.nm, v.n, v.s, xka, v.ks.length, xkc, xla, v.l.length, xlc⟩ := by rw [← hW0]; exact at_row (hp_new rfl) rfl rfl rfl rfl rfl rfl
    exact h0.below (B := W0.heap.size) (by rw [← hW0]; simp) hb
  have HW0 := Lib.hid hW0
  obtain ⟨g, o, y, rfl, -, hy⟩ := kid_at hrow 0 (by omega)
  have HY : Hid (∀ w', Below w.heap.size w w' → At w' g o y) := fun w' hb => by have := (hy w' hb).1; rwa [Nat.zero_mul, Nat.add_zero] at this
  have HG := Lib.hid fun w' (hb' : Below w.heap.size w w') => refIsTarget_any _ y w' (hy w' hb').2
  simp only [X.v] at HO HG ⊢
  generalize isTg (v.l[0]'(by omega)) = tg at *
  rw [hl] at HF HW0 HO HT ⊢
  rw [hk] at HO HF HW0 ⊢
  clear h hb hW0 hk hrow H hy hl
  generalize fields (ctch3 v) v = bo at *
  generalize v.nm = nm at *
  generalize v.n = n at *
  generalize v.s = s at *
  generalize v.ks.length = kn at *
  obtain ⟨yk, ynm, yn, ys, yka, ykn, ykc, yla, yln, ylc⟩ := y
  go_enter Try.func79, Try.ntmps79
  go_wp2_with fail
  rw [HW0.out]
  clear HW0
  refine (HO.out _ HB0.out).mono ?_
  rintro e w1 ⟨rfl, hb1⟩
  have HC1 := Lib.hid hb1
  have HB1 := Lib.hid (HB0.out.trans (hb1.mono HB0.out.size))
  obtain ⟨c0, c1, c2, c3, c4, c5⟩ := HF.out _ hb1
  obtain ⟨d0, d1, d2, d3, d4, d5⟩ := HY.out _ HB1.out
  dsimp only at c0 c1 c2 c3 c4 c5 d0 d1 d2 d3 d4 d5
  clear hb1
  cases bo
  · go_wp2_with fail
    go_ret
    exact ⟨rfl, HB1.out⟩
  go_wp2_with fail
  refine (HG.out _ HB1.out).mono ?_
  rintro e w2 ⟨rfl, hb2⟩
  have HB2 := Lib.hid (HB1.out.trans (hb2.mono HB1.out.size))
  have HC2 := Lib.hid (HC1.out.trans (hb2.mono HC1.out.size))
  clear hb2 c0 c1 c2 c3 c4 c5 d0 d1 d2 d3 d4 d5
  obtain ⟨c0, c1, c2, c3, c4, c5⟩ := HF.out _ HC2.out
  dsimp only at c0 c1 c2 c3 c4 c5
  cases tg
  · go_wp2_with fail
    go_ret
    exact ⟨rfl, HB2.out⟩
  go_wp2_with fail
  refine (HT.out _ HB2.out).mono ?_
  rintro e w3 ⟨rfl, hb3⟩
  have HB3 := Lib.hid (HB2.out.trans (hb3.mono HB2.out.size))
  clear hb3
  go_wp2_with fail
  go_ret
  exact ⟨rfl, HB3.out⟩
set_option maxRecDepth 8000 in
set_option maxHeartbeats 1000000 in
theorem expr_20 (v : V) (hb : v.bulk ≤ 4194304) (hk : v.k = 20) (hl : v.l.length = 2) (p : Bool) (H : TellsX v p) : Tells 79 v (fields (ctch3 v) v && (isTg (v.l[0]'(by omega)) && p)) := by
  intro x w h
  have HO := Lib.hid fun w' (hb' : Below w.heap.size w w') => own_any v x w' (Is.below hb' _ _ h) hb
  obtain ⟨xka, xkc, xla, xlc, rfl, -, -, -, hrow⟩ := h.open
  have HT := Lib.hid fun w' (hb' : Below w.heap.size w w') => H xla xlc w' (RowB.below hrow hb')
  obtain ⟨W0, hW0⟩ : ∃ W0, w.alloc (.cells #[.int .i64 v.k, .string v.nm, .int .i64 v.n, .string v.s, .slice xka v.ks.length xkc, .slice xla v.l.length xlc] 25) = W0 := ⟨_, rfl⟩
  have HB0 : Hid (Below w.heap.size w W0) := by rw [← hW0]; exact below_alloc _ _
  have HF : Hid (∀ w', Below W0.heap.size W0 w' → At w' w.heap.size 0 ⟨v.k, v.nm, v.n, v.s, xka, v.ks.length, xkc, xla, v.l.length, xlc⟩) := fun w' hb => by
    have h0 : At W0 w.heap.size 0 ⟨v.k, v.nm, v.n, v.s, xka, v.ks.length, xkc, xla, v.l.length, xlc⟩ := by rw [← hW0]; exact at_row (hp_new rfl) rfl rfl rfl rfl rfl rfl
    exact h0.below (B := W0.heap.size) (by rw [← hW0]; simp) hb
  have HW0 := Lib.hid hW0
  obtain ⟨g, o, y, rfl, -, hy⟩ := kid_at hrow 0 (by omega)
  have HY : Hid (∀ w', Below w.heap.size w w' → At w' g o y) := fun w' hb => by have := (hy w' hb).1; rwa [Nat.zero_mul, Nat.add_zero] at this
  have HG := Lib.hid fun w' (hb' : Below w.heap.size w w') => refIsTarget_any _ y w' (hy w' hb').2
  simp only [X.v] at HO HG ⊢
  generalize isTg (v.l[0]'(by omega)) = tg at *
  rw [hl] at HF HW0 HO HT ⊢
  rw [hk] at HO HF HW0 ⊢
  clear h hb hW0 hk hrow H hy hl
  generalize fields (ctch3 v) v = bo at *
  generalize v.nm = nm at *
  generalize v.n = n at *
  generalize v.s = s at *
  generalize v.ks.length = kn at *
  obtain ⟨yk, ynm, yn, ys, yka, ykn, ykc, yla, yln, ylc⟩ := y
  go_enter Try.func79, Try.ntmps79
  go_wp2_with fail
  rw [HW0.out]
  clear HW0
  refine (HO.out _ HB0.out).mono ?_
  rintro e w1 ⟨rfl, hb1⟩
  have HC1 := Lib.hid hb1
  have HB1 := Lib.hid (HB0.out.trans (hb1.mono HB0.out.size))
  obtain ⟨c0, c1, c2, c3, c4, c5⟩ := HF.out _ hb1
  obtain ⟨d0, d1, d2, d3, d4, d5⟩ := HY.out _ HB1.out
  dsimp only at c0 c1 c2 c3 c4 c5 d0 d1 d2 d3 d4 d5
  clear hb1
  cases bo
  · go_wp2_with fail
    go_ret
    exact ⟨rfl, HB1.out⟩
  go_wp2_with fail
  refine (HG.out _ HB1.out).mono ?_
  rintro e w2 ⟨rfl, hb2⟩
  have HB2 := Lib.hid (HB1.out.trans (hb2.mono HB1.out.size))
  have HC2 := Lib.hid (HC1.out.trans (hb2.mono HC1.out.size))
  clear hb2 c0 c1 c2 c3 c4 c5 d0 d1 d2 d3 d4 d5
  obtain ⟨c0, c1, c2, c3, c4, c5⟩ := HF.out _ HC2.out
  dsimp only at c0 c1 c2 c3 c4 c5
  cases tg
  · go_wp2_with fail
    go_ret
    exact ⟨rfl, HB2.out⟩
  go_wp2_with fail
  refine (HT.out _ HB2.out).mono ?_
  rintro e w3 ⟨rfl, hb3⟩
  have HB3 := Lib.hid (HB2.out.trans (hb3.mono HB2.out.size))
  clear hb3
  go_wp2_with fail
  go_ret
  exact ⟨rfl, HB3.out⟩
end Go.Proofs.Ytgehgccgologpaa.R
namespace Go.Proofs.Ytgehgccgologpaa.R
open Go.RowKit Go.Proofs.Ytgehgccgologpaa Go.Proofs.Ytgehgccgologpaa.T
set_option maxRecDepth 8000 in
set_option maxHeartbeats 4000000 in
theorem rst_22 (v : V) (hb : v.bulk ≤ 4194304) (hk : v.k = 22) (d : Bool) (H : Tells 78 v d) : Tells 62 v (fields (ctch3 v) v && d) := by
  intro x w h
  have HO := Lib.hid fun w' (hb' : Below w.heap.size w w') => own_any v x w' (Is.below hb' _ _ h) hb
  have hll : (v.l.length : Int) ≤ 4194304 := by have := length_le_bulks v.l; have := bulk_ge v; omega
  have HT := Lib.hid fun w' (hb' : Below w.heap.size w w') => H x w' (Is.below hb' _ _ h)
  obtain ⟨xka, xkc, xla, xlc, rfl, -, -, -, hrow⟩ := h.open
  obtain ⟨W0, hW0⟩ : ∃ W0, w.alloc (.cells #[.int .i64 v.k, .string v.nm, .int .i64 v.n, .string v.s, .slice xka v.ks.length xkc, .slice xla v.l.length xlc] 25) = W0 := ⟨_, rfl⟩
  have HB0 : Hid (Below w.heap.size w W0) := by rw [← hW0]; exact below_alloc _ _
  have HF : Hid (∀ w', Below W0.heap.size W0 w' → At w' w.heap.size 0 ⟨v.k, v.nm, v.n, v.s, xka, v.ks.length, xkc, xla, v.l.length, xlc⟩) := fun w' hb => by
    have h0 : At W0 w.heap.size 0 ⟨v.k, v.nm, v.n, v.s, xka, v.ks.length, xkc, xla, v.l.length, xlc⟩ := by rw [← hW0]; exact at_row (hp_new rfl) rfl rfl rfl rfl rfl rfl
    exact h0.below (B := W0.heap.size) (by rw [← hW0]; simp) hb
  have HW0 := Lib.hid hW0
  simp only [X.v] at HO HT ⊢
  rw [hk] at HO HF HW0 HT ⊢
  clear h hb hW0 hk hrow H
  generalize fields (ctch3 v) v = bo at *
  generalize v.nm = nm at *
  generalize v.n = n at *
  generalize v.s = s at *
  generalize v.ks.length = kn at *
  generalize v.l.length = ln at *
  go_enter Try.func62, Try.ntmps62
  go_wp2_with fail
  rw [HW0.out]
  clear HW0
  refine (HO.out _ HB0.out).mono ?_
  rintro e w1 ⟨rfl, hb1⟩
  obtain ⟨d0, d1, d2, d3, d4, d5⟩ := HF.out _ hb1
  dsimp only at d0 d1 d2 d3 d4 d5
  have HB1 := Lib.hid (HB0.out.trans (hb1.mono HB0.out.size))
  clear hb1
  cases bo
  · go_wp2_with fail
    go_ret
    exact ⟨rfl, HB1.out⟩
  go_wp2_with fail
  clear d0 d1 d2 d3 d4 d5
  refine (HT.out _ HB1.out).mono ?_
  rintro e w2 ⟨rfl, hb2⟩
  have HB2 := Lib.hid (HB1.out.trans (hb2.mono HB1.out.size))
  clear hb2
  go_wp2_with fail
  go_ret
  exact ⟨rfl, HB2.out⟩
set_option maxRecDepth 8000 in
set_option maxHeartbeats 4000000 in
theorem rst_25 (v : V) (hb : v.bulk ≤ 4194304) (hk : v.k = 25) (d : Bool) (H : Tells 80 v d) : Tells 62 v (fields (ctch3 v) v && d) := by
  intro x w h
  have HO := Lib.hid fun w' (hb' : Below w.heap.size w w') => own_any v x w' (Is.below hb' _ _ h) hb
  have hll : (v.l.length : Int) ≤ 4194304 := by have := length_le_bulks v.l; have := bulk_ge v; omega
  have HT := Lib.hid fun w' (hb' : Below w.heap.size w w') => H x w' (Is.below hb' _ _ h)
  obtain ⟨xka, xkc, xla, xlc, rfl, -, -, -, hrow⟩ := h.open
  obtain ⟨W0, hW0⟩ : ∃ W0, w.alloc (.cells #[.int .i64 v.k, .string v.nm, .int .i64 v.n, .string v.s, .slice xka v.ks.length xkc, .slice xla v.l.length xlc] 25) = W0 := ⟨_, rfl⟩
  have HB0 : Hid (Below w.heap.size w W0) := by rw [← hW0]; exact below_alloc _ _
  have HF : Hid (∀ w', Below W0.heap.size W0 w' → At w' w.heap.size 0 ⟨v.k, v.nm, v.n, v.s, xka, v.ks.length, xkc, xla, v.l.length, xlc⟩) := fun w' hb => by
    have h0 : At W0 w.heap.size 0 ⟨v.k, v.nm, v.n, v.s, xka, v.ks.length, xkc, xla, v.l.length, xlc⟩ := by rw [← hW0]; exact at_row (hp_new rfl) rfl rfl rfl rfl rfl rfl
    exact h0.below (B := W0.heap.size) (by rw [← hW0]; simp) hb
  have HW0 := Lib.hid hW0
  simp only [X.v] at HO HT ⊢
  rw [hk] at HO HF HW0 HT ⊢
  clear h hb hW0 hk hrow H
  generalize fields (ctch3 v) v = bo at *
  generalize v.nm = nm at *
  generalize v.n = n at *
  generalize v.s = s at *
  generalize v.ks.length = kn at *
  generalize v.l.length = ln at *
  go_enter Try.func62, Try.ntmps62
  go_wp2_with fail
  rw [HW0.out]
  clear HW0
  refine (HO.out _ HB0.out).mono ?_
  rintro e w1 ⟨rfl, hb1⟩
  obtain ⟨d0, d1, d2, d3, d4, d5⟩ := HF.out _ hb1
  dsimp only at d0 d1 d2 d3 d4 d5
  have HB1 := Lib.hid (HB0.out.trans (hb1.mono HB0.out.size))
  clear hb1
  cases bo
  · go_wp2_with fail
    go_ret
    exact ⟨rfl, HB1.out⟩
  go_wp2_with fail
  clear d0 d1 d2 d3 d4 d5
  refine (HT.out _ HB1.out).mono ?_
  rintro e w2 ⟨rfl, hb2⟩
  have HB2 := Lib.hid (HB1.out.trans (hb2.mono HB1.out.size))
  clear hb2
  go_wp2_with fail
  go_ret
  exact ⟨rfl, HB2.out⟩
set_option maxRecDepth 8000 in
set_option maxHeartbeats 4000000 in
theorem rst_27 (v : V) (hb : v.bulk ≤ 4194304) (hk : v.k = 27) (d : Bool) (H : Tells 81 v d) : Tells 62 v (fields (ctch3 v) v && d) := by
  intro x w h
  have HO := Lib.hid fun w' (hb' : Below w.heap.size w w') => own_any v x w' (Is.below hb' _ _ h) hb
  have hll : (v.l.length : Int) ≤ 4194304 := by have := length_le_bulks v.l; have := bulk_ge v; omega
  have HT := Lib.hid fun w' (hb' : Below w.heap.size w w') => H x w' (Is.below hb' _ _ h)
  obtain ⟨xka, xkc, xla, xlc, rfl, -, -, -, hrow⟩ := h.open
  obtain ⟨W0, hW0⟩ : ∃ W0, w.alloc (.cells #[.int .i64 v.k, .string v.nm, .int .i64 v.n, .string v.s, .slice xka v.ks.length xkc, .slice xla v.l.length xlc] 25) = W0 := ⟨_, rfl⟩
  have HB0 : Hid (Below w.heap.size w W0) := by rw [← hW0]; exact below_alloc _ _
  have HF : Hid (∀ w', Below W0.heap.size W0 w' → At w' w.heap.size 0 ⟨v.k, v.nm, v.n, v.s, xka, v.ks.length, xkc, xla, v.l.length, xlc⟩) := fun w' hb => by
    have h0 : At W0 w.heap.size 0 ⟨v.k, v.nm, v.n, v.s, xka, v.ks.length, xkc, xla, v.l.length, xlc⟩ := by rw [← hW0]; exact at_row (hp_new rfl) rfl rfl rfl rfl rfl rfl
    exact h0.below (B := W0.heap.size) (by rw [← hW0]; simp) hb
  have HW0 := Lib.hid hW0
  simp only [X.v] at HO HT ⊢
  rw [hk] at HO HF HW0 HT ⊢
  clear h hb hW0 hk hrow H
  generalize fields (ctch3 v) v = bo at *
  generalize v.nm = nm at *
  generalize v.n = n at *
  generalize v.s = s at *
  generalize v.ks.length = kn at *
  generalize v.l.length = ln at *
  go_enter Try.func62, Try.ntmps62
  go_wp2_with fail
  rw [HW0.out]
  clear HW0
  refine (HO.out _ HB0.out).mono ?_
  rintro e w1 ⟨rfl, hb1⟩
  obtain ⟨d0, d1, d2, d3, d4, d5⟩ := HF.out _ hb1
  dsimp only at d0 d1 d2 d3 d4 d5
  have HB1 := Lib.hid (HB0.out.trans (hb1.mono HB0.out.size))
  clear hb1
  cases bo
  · go_wp2_with fail
    go_ret
    exact ⟨rfl, HB1.out⟩
  go_wp2_with fail
  clear d0 d1 d2 d3 d4 d5
  refine (HT.out _ HB1.out).mono ?_
  rintro e w2 ⟨rfl, hb2⟩
  have HB2 := Lib.hid (HB1.out.trans (hb2.mono HB1.out.size))
  clear hb2
  go_wp2_with fail
  go_ret
  exact ⟨rfl, HB2.out⟩
set_option maxRecDepth 8000 in
set_option maxHeartbeats 4000000 in
theorem rst_28 (v : V) (hb : v.bulk ≤ 4194304) (hk : v.k = 28) (d : Bool) (H : Tells 81 v d) : Tells 62 v (fields (ctch3 v) v && d) := by
  intro x w h
  have HO := Lib.hid fun w' (hb' : Below w.heap.size w w') => own_any v x w' (Is.below hb' _ _ h) hb
  have hll : (v.l.length : Int) ≤ 4194304 := by have := length_le_bulks v.l; have := bulk_ge v; omega
  have HT := Lib.hid fun w' (hb' : Below w.heap.size w w') => H x w' (Is.below hb' _ _ h)
  obtain ⟨xka, xkc, xla, xlc, rfl, -, -, -, hrow⟩ := h.open
  obtain ⟨W0, hW0⟩ : ∃ W0, w.alloc (.cells #[.int .i64 v.k, .string v.nm, .int .i64 v.n, .string v.s, .slice xka v.ks.length xkc, .slice xla v.l.length xlc] 25) = W0 := ⟨_, rfl⟩
  have HB0 : Hid (Below w.heap.size w W0) := by rw [← hW0]; exact below_alloc _ _
  have HF : Hid (∀ w', Below W0.heap.size W0 w' → At w' w.heap.size 0 ⟨v.k, v.nm, v.n, v.s, xka, v.ks.length, xkc, xla, v.l.length, xlc⟩) := fun w' hb => by
    have h0 : At W0 w.heap.size 0 ⟨v.k, v.nm, v.n, v.s, xka, v.ks.length, xkc, xla, v.l.length, xlc⟩ := by rw [← hW0]; exact at_row (hp_new rfl) rfl rfl rfl rfl rfl rfl
    exact h0.below (B := W0.heap.size) (by rw [← hW0]; simp) hb
  have HW0 := Lib.hid hW0
  simp only [X.v] at HO HT ⊢
  rw [hk] at HO HF HW0 HT ⊢
  clear h hb hW0 hk hrow H
  generalize fields (ctch3 v) v = bo at *
  generalize v.nm = nm at *
  generalize v.n = n at *
  generalize v.s = s at *
  generalize v.ks.length = kn at *
  generalize v.l.length = ln at *
  go_enter Try.func62, Try.ntmps62
  go_wp2_with fail
  rw [HW0.out]
  clear HW0
  refine (HO.out _ HB0.out).mono ?_
  rintro e w1 ⟨rfl, hb1⟩
  obtain ⟨d0, d1, d2, d3, d4, d5⟩ := HF.out _ hb1
  dsimp only at d0 d1 d2 d3 d4 d5
  have HB1 := Lib.hid (HB0.out.trans (hb1.mono HB0.out.size))
  clear hb1
  cases bo
  · go_wp2_with fail
    go_ret
    exact ⟨rfl, HB1.out⟩
  go_wp2_with fail
  clear d0 d1 d2 d3 d4 d5
  refine (HT.out _ HB1.out).mono ?_
  rintro e w2 ⟨rfl, hb2⟩
  have HB2 := Lib.hid (HB1.out.trans (hb2.mono HB1.out.size))
  clear hb2
  go_wp2_with fail
  go_ret
  exact ⟨rfl, HB2.out⟩
set_option maxRecDepth 8000 in
set_option maxHeartbeats 4000000 in
theorem rst_29 (v : V) (hb : v.bulk ≤ 4194304) (hk : v.k = 29) (d : Bool) (H : Tells 81 v d) : Tells 62 v (fields (ctch3 v) v && d) := by
  intro x w h
  have HO := Lib.hid fun w' (hb' : Below w.heap.size w w') => own_any v x w' (Is.below hb' _ _ h) hb
  have hll : (v.l.length : Int) ≤ 4194304 := by have := length_le_bulks v.l; have := bulk_ge v; omega
  have HT := Lib.hid fun w' (hb' : Below w.heap.size w w') => H x w' (Is.below hb' _ _ h)
  obtain ⟨xka, xkc, xla, xlc, rfl, -, -, -, hrow⟩ := h.open
  obtain ⟨W0, hW0⟩ : ∃ W0, w.alloc (.cells #[.int .i64 v.k, .string v.nm, .int .i64 v.n, .string v.s, .slice xka v.ks.length xkc, .slice xla v.l.length xlc] 25) = W0 := ⟨_, rfl⟩
  have HB0 : Hid (Below w.heap.size w W0) := by rw [← hW0]; exact below_alloc _ _
  have HF : Hid (∀ w', Below W0.heap.size W0 w' → At w' w.heap.size 0 ⟨v.k, v.nm, v.n, v.s, xka, v.ks.length, xkc, xla, v.l.length, xlc⟩) := fun w' hb => by
    have h0 : At W0 w.heap.size 0 ⟨v.k, v.nm, v.n, v.s, xka, v.ks.length, xkc, xla, v.l.length, xlc⟩ := by rw [← hW0]; exact at_row (hp_new rfl) rfl rfl rfl rfl rfl rfl
    exact h0.below (B := W0.heap.size) (by rw [← hW0]; simp) hb
  have HW0 := Lib.hid hW0
  simp only [X.v] at HO HT ⊢
  rw [hk] at HO HF HW0 HT ⊢
  clear h hb hW0 hk hrow H
  generalize fields (ctch3 v) v = bo at *
  generalize v.nm = nm at *
  generalize v.n = n at *
  generalize v.s = s at *
  generalize v.ks.length = kn at *
  generalize v.l.length = ln at *
  go_enter Try.func62, Try.ntmps62
  go_wp2_with fail
  rw [HW0.out]
  clear HW0
  refine (HO.out _ HB0.out).mono ?_
  rintro e w1 ⟨rfl, hb1⟩
  obtain ⟨d0, d1, d2, d3, d4, d5⟩ := HF.out _ hb1
  dsimp only at d0 d1 d2 d3 d4 d5
  have HB1 := Lib.hid (HB0.out.trans (hb1.mono HB0.out.size))
  clear hb1
  cases bo
  · go_wp2_with fail
    go_ret
    exact ⟨rfl, HB1.out⟩
  go_wp2_with fail
  clear d0 d1 d2 d3 d4 d5
  refine (HT.out _ HB1.out).mono ?_
  rintro e w2 ⟨rfl, hb2⟩
  have HB2 := Lib.hid (HB1.out.trans (hb2.mono HB1.out.size))
  clear hb2
  go_wp2_with fail
  go_ret
  exact ⟨rfl, HB2.out⟩
set_option maxRecDepth 8000 in
set_option maxHeartbeats 4000000 in
theorem rst_30 (v : V) (hb : v.bulk ≤ 4194304) (hk : v.k = 30) (d : Bool) (H : Tells 81 v d) : Tells 62 v (fields (ctch3 v) v && d) := by
  intro x w h
  have HO := Lib.hid fun w' (hb' : Below w.heap.size w w') => own_any v x w' (Is.below hb' _ _ h) hb
  have hll : (v.l.length : Int) ≤ 4194304 := by have := length_le_bulks v.l; have := bulk_ge v; omega
  have HT := Lib.hid fun w' (hb' : Below w.heap.size w w') => H x w' (Is.below hb' _ _ h)
  obtain ⟨xka, xkc, xla, xlc, rfl, -, -, -, hrow⟩ := h.open
  obtain ⟨W0, hW0⟩ : ∃ W0, w.alloc (.cells #[.int .i64 v.k, .string v.nm, .int .i64 v.n, .string v.s, .slice xka v.ks.length xkc, .slice xla v.l.length xlc] 25) = W0 := ⟨_, rfl⟩
  have HB0 : Hid (Below w.heap.size w W0) := by rw [← hW0]; exact below_alloc _ _
  have HF : Hid (∀ w', Below W0.heap.size W0 w' → At w' w.heap.size 0 ⟨v.k, v.nm, v.n, v.s, xka, v.ks.length, xkc, xla, v.l.length, xlc⟩) := fun w' hb => by
    have h0 : At W0 w.heap.size 0 ⟨v.k, v.nm, v.n, v.s, xka, v.ks.length, xkc, xla, v.l.length, xlc⟩ := by rw [← hW0]; exact at_row (hp_new rfl) rfl rfl rfl rfl rfl rfl
    exact h0.below (B := W0.heap.size) (by rw [← hW0]; simp) hb
  have HW0 := Lib.hid hW0
  simp only [X.v] at HO HT ⊢
  rw [hk] at HO HF HW0 HT ⊢
  clear h hb hW0 hk hrow H
  generalize fields (ctch3 v) v = bo at *
  generalize v.nm = nm at *
  generalize v.n = n at *
  generalize v.s = s at *
  generalize v.ks.length = kn at *
  generalize v.l.length = ln at *
  go_enter Try.func62, Try.ntmps62
  go_wp2_with fail
  rw [HW0.out]
  clear HW0
  refine (HO.out _ HB0.out).mono ?_
  rintro e w1 ⟨rfl, hb1⟩
  obtain ⟨d0, d1, d2, d3, d4, d5⟩ := HF.out _ hb1
  dsimp only at d0 d1 d2 d3 d4 d5
  have HB1 := Lib.hid (HB0.out.trans (hb1.mono HB0.out.size))
  clear hb1
  cases bo
  · go_wp2_with fail
    go_ret
    exact ⟨rfl, HB1.out⟩
  go_wp2_with fail
  clear d0 d1 d2 d3 d4 d5
  refine (HT.out _ HB1.out).mono ?_
  rintro e w2 ⟨rfl, hb2⟩
  have HB2 := Lib.hid (HB1.out.trans (hb2.mono HB1.out.size))
  clear hb2
  go_wp2_with fail
  go_ret
  exact ⟨rfl, HB2.out⟩
set_option maxRecDepth 8000 in
set_option maxHeartbeats 4000000 in
theorem rst_31 (v : V) (hb : v.bulk ≤ 4194304) (hk : v.k = 31) : Tells 62 v (fields (ctch3 v) v && decide (v.l.length = 0)) := by
  intro x w h
  have HO := Lib.hid fun w' (hb' : Below w.heap.size w w') => own_any v x w' (Is.below hb' _ _ h) hb
  have hll : (v.l.length : Int) ≤ 4194304 := by have := length_le_bulks v.l; have := bulk_ge v; omega
  obtain ⟨xka, xkc, xla, xlc, rfl, -, -, -, hrow⟩ := h.open
  obtain ⟨W0, hW0⟩ : ∃ W0, w.alloc (.cells #[.int .i64 v.k, .string v.nm, .int .i64 v.n, .string v.s, .slice xka v.ks.length xkc, .slice xla v.l.length xlc] 25) = W0 := ⟨_, rfl⟩
  have HB0 : Hid (Below w.heap.size w W0) := by rw [← hW0]; exact below_alloc _ _
  have HF : Hid (∀ w', Below W0.heap.size W0 w' → At w' w.heap.size 0 ⟨v.k, v.nm, v.n, v.s, xka, v.ks.length, xkc, xla, v.l.length, xlc⟩) := fun w' hb => by
    have h0 : At W0 w.heap.size 0 ⟨v.k, v.nm, v.n, v.s, xka, v.ks.length, xkc, xla, v.l.length, xlc⟩ := by rw [← hW0]; exact at_row (hp_new rfl) rfl rfl rfl rfl rfl rfl
    exact h0.below (B := W0.heap.size) (by rw [← hW0]; simp) hb
  have HW0 := Lib.hid hW0
  simp only [X.v] at HO ⊢
  rw [hk] at HO HF HW0 ⊢
  clear h hb hW0 hk hrow
  generalize fields (ctch3 v) v = bo at *
  generalize v.nm = nm at *
  generalize v.n = n at *
  generalize v.s = s at *
  generalize v.ks.length = kn at *
  generalize v.l.length = ln at *
  go_enter Try.func62, Try.ntmps62
  go_wp2_with fail
  rw [HW0.out]
  clear HW0
  refine (HO.out _ HB0.out).mono ?_
  rintro e w1 ⟨rfl, hb1⟩
  obtain ⟨d0, d1, d2, d3, d4, d5⟩ := HF.out _ hb1
  dsimp only at d0 d1 d2 d3 d4 d5
  have HB1 := Lib.hid (HB0.out.trans (hb1.mono HB0.out.size))
  clear hb1
  cases bo
  · go_wp2_with fail
    go_ret
    exact ⟨rfl, HB1.out⟩
  by_cases hl : ln = 0
  · subst hl
    go_wp2_with fail
    go_ret
    exact ⟨rfl, HB1.out⟩
  · have hq : ((ln : Int) == 0) = false := by rw [beq_eq_false_iff_ne]; omega
    have HD := Lib.hid (decide_eq_false hl)
    clear hl
    go_wp2_with fail
    go_ret
    exact ⟨by rw [HD.out]; rfl, HB1.out⟩
set_option maxRecDepth 8000 in
set_option maxHeartbeats 4000000 in
theorem rst_32 (v : V) (hb : v.bulk ≤ 4194304) (hk : v.k = 32) : Tells 62 v (fields (ctch3 v) v && decide (v.l.length = 0)) := by
  intro x w h
  have HO := Lib.hid fun w' (hb' : Below w.heap.size w w') => own_any v x w' (Is.below hb' _ _ h) hb
  have hll : (v.l.length : Int) ≤ 4194304 := by have := length_le_bulks v.l; have := bulk_ge v; omega
  obtain ⟨xka, xkc, xla, xlc, rfl, -, -, -, hrow⟩ := h.open
  obtain ⟨W0, hW0⟩ : ∃ W0, w.alloc (.cells #[.int .i64 v.k, .string v.nm, .int .i64 v.n, .string v.s, .slice xka v.ks.length xkc, .slice xla v.l.length xlc] 25) = W0 := ⟨_, rfl⟩
  have HB0 : Hid (Below w.heap.size w W0) := by rw [← hW0]; exact below_alloc _ _
  have HF : Hid (∀ w', Below W0.heap.size W0 w' → At w' w.heap.size 0 ⟨v.k, v.nm, v.n, v.s, xka, v.ks.length, xkc, xla, v.l.length, xlc⟩) := fun w' hb => by
    have h0 : At W0 w.heap.size 0 ⟨v.k, v.nm, v.n, v.s, xka, v.ks.length, xkc, xla, v.l.length, xlc⟩ := by rw [← hW0]; exact at_row (hp_new rfl) rfl rfl rfl rfl rfl rfl
    exact h0.below (B := W0.heap.size) (by rw [← hW0]; simp) hb
  have HW0 := Lib.hid hW0
  simp only [X.v] at HO ⊢
  rw [hk] at HO HF HW0 ⊢
  clear h hb hW0 hk hrow
  generalize fields (ctch3 v) v = bo at *
  generalize v.nm = nm at *
  generalize v.n = n at *
  generalize v.s = s at *
  generalize v.ks.length = kn at *
  generalize v.l.length = ln at *
  go_enter Try.func62, Try.ntmps62
  go_wp2_with fail
  rw [HW0.out]
  clear HW0
  refine (HO.out _ HB0.out).mono ?_
  rintro e w1 ⟨rfl, hb1⟩
  obtain ⟨d0, d1, d2, d3, d4, d5⟩ := HF.out _ hb1
  dsimp only at d0 d1 d2 d3 d4 d5
  have HB1 := Lib.hid (HB0.out.trans (hb1.mono HB0.out.size))
  clear hb1
  cases bo
  · go_wp2_with fail
    go_ret
    exact ⟨rfl, HB1.out⟩
  by_cases hl : ln = 0
  · subst hl
    go_wp2_with fail
    go_ret
    exact ⟨rfl, HB1.out⟩
  · have hq : ((ln : Int) == 0) = false := by rw [beq_eq_false_iff_ne]; omega
    have HD := Lib.hid (decide_eq_false hl)
    clear hl
    go_wp2_with fail
    go_ret
    exact ⟨by rw [HD.out]; rfl, HB1.out⟩
set_option maxRecDepth 8000 in
set_option maxHeartbeats 4000000 in
theorem rst_40 (v : V) (hb : v.bulk ≤ 4194304) (hk : v.k = 40) : Tells 62 v (fields (ctch3 v) v && decide (v.l.length = 0)) := by
  intro x w h
  have HO := Lib.hid fun w' (hb' : Below w.heap.size w w') => own_any v x w' (Is.below hb' _ _ h) hb
  have hll : (v.l.length : Int) ≤ 4194304 := by have := length_le_bulks v.l; have := bulk_ge v; omega
  obtain ⟨xka, xkc, xla, xlc, rfl, -, -, -, hrow⟩ := h.open
  obtain ⟨W0, hW0⟩ : ∃ W0, w.alloc (.cells #[.int .i64 v.k, .string v.nm, .int .i64 v.n, .string v.s, .slice xka v.ks.length xkc, .slice xla v.l.length xlc] 25) = W0 := ⟨_, rfl⟩
  have HB0 : Hid (Below w.heap.size w W0) := by rw [← hW0]; exact below_alloc _ _
  have HF : Hid (∀ w', Below W0.heap.size W0 w' → At w' w.heap.size 0 ⟨v.k, v.nm, v.n, v.s, xka, v.ks.length, xkc, xla, v.l.length, xlc⟩) := fun w' hb => by
    have h0 : At W0 w.heap.size 0 ⟨v.k, v.nm, v.n, v.s, xka, v.ks.length, xkc, xla, v.l.length, xlc⟩ := by rw [← hW0]; exact at_row (hp_new rfl) rfl rfl rfl rfl rfl rfl
    exact h0.below (B := W0.heap.size) (by rw [← hW0]; simp) hb
  have HW0 := Lib.hid hW0
  simp only [X.v] at HO ⊢
  rw [hk] at HO HF HW0 ⊢
  clear h hb hW0 hk hrow
  generalize fields (ctch3 v) v = bo at *
  generalize v.nm = nm at *
  generalize v.n = n at *
  generalize v.s = s at *
  generalize v.ks.length = kn at *
  generalize v.l.length = ln at *
  go_enter Try.func62, Try.ntmps62
  go_wp2_with fail
  rw [HW0.out]
  clear HW0
  refine (HO.out _ HB0.out).mono ?_
  rintro e w1 ⟨rfl, hb1⟩
  obtain ⟨d0, d1, d2, d3, d4, d5⟩ := HF.out _ hb1
  dsimp only at d0 d1 d2 d3 d4 d5
  have HB1 := Lib.hid (HB0.out.trans (hb1.mono HB0.out.size))
  clear hb1
  cases bo
  · go_wp2_with fail
    go_ret
    exact ⟨rfl, HB1.out⟩
  by_cases hl : ln = 0
  · subst hl
    go_wp2_with fail
    go_ret
    exact ⟨rfl, HB1.out⟩
  · have hq : ((ln : Int) == 0) = false := by rw [beq_eq_false_iff_ne]; omega
    have HD := Lib.hid (decide_eq_false hl)
    clear hl
    go_wp2_with fail
    go_ret
    exact ⟨by rw [HD.out]; rfl, HB1.out⟩
set_option maxRecDepth 8000 in
set_option maxHeartbeats 4000000 in
theorem rst_33 (v : V) (hb : v.bulk ≤ 4194304) (hk : v.k = 33) (p : Bool) (H : TellsX v p) : Tells 62 v (fields (ctch3 v) v && (decide (v.l.length ≤ 1) && p)) := by
  intro x w h
  have HO := Lib.hid fun w' (hb' : Below w.heap.size w w') => own_any v x w' (Is.below hb' _ _ h) hb
  have hll : (v.l.length : Int) ≤ 4194304 := by have := length_le_bulks v.l; have := bulk_ge v; omega
  obtain ⟨xka, xkc, xla, xlc, rfl, -, -, -, hrow⟩ := h.open
  have HT := Lib.hid fun w' (hb' : Below w.heap.size w w') => H xla xlc w' (RowB.below hrow hb')
  obtain ⟨W0, hW0⟩ : ∃ W0, w.alloc (.cells #[.int .i64 v.k, .string v.nm, .int .i64 v.n, .string v.s, .slice xka v.ks.length xkc, .slice xla v.l.length xlc] 25) = W0 := ⟨_, rfl⟩
  have HB0 : Hid (Below w.heap.size w W0) := by rw [← hW0]; exact below_alloc _ _
  have HF : Hid (∀ w', Below W0.heap.size W0 w' → At w' w.heap.size 0 ⟨v.k, v.nm, v.n, v.s, xka, v.ks.length, xkc, xla, v.l.length, xlc⟩) := fun w' hb => by
    have h0 : At W0 w.heap.size 0 ⟨v.k, v.nm, v.n, v.s, xka, v.ks.length, xkc, xla, v.l.length, xlc⟩ := by rw [← hW0]; exact at_row (hp_new rfl) rfl rfl rfl rfl rfl rfl
    exact h0.below (B := W0.heap.size) (by rw [← hW0]; simp) hb
  have HW0 := Lib.hid hW0
  simp only [X.v] at HO ⊢
  rw [hk] at HO HF HW0 ⊢
  clear h hb hW0 hk hrow H
  generalize fields (ctch3 v) v = bo at *
  generalize v.nm = nm at *
  generalize v.n = n at *
  generalize v.s = s at *
  generalize v.ks.length = kn at *
  generalize v.l.length = ln at *
  go_enter Try.func62, Try.ntmps62
  go_wp2_with fail
  rw [HW0.out]
  clear HW0
  refine (HO.out _ HB0.out).mono ?_
  rintro e w1 ⟨rfl, hb1⟩
  obtain ⟨d0, d1, d2, d3, d4, d5⟩ := HF.out _ hb1
  dsimp only at d0 d1 d2 d3 d4 d5
  have HB1 := Lib.hid (HB0.out.trans (hb1.mono HB0.out.size))
  clear hb1
  cases bo
  · go_wp2_with fail
    go_ret
    exact ⟨rfl, HB1.out⟩
  by_cases hl : ln ≤ 1
  · have hli : (ln : Int) ≤ 1 := by omega
    have HD := Lib.hid (decide_eq_true hl)
    clear hl
    go_wp2_with fail
    clear d0 d1 d2 d3 d4 d5
    refine (HT.out _ HB1.out).mono ?_
    rintro e w2 ⟨rfl, hb2⟩
    have HB2 := Lib.hid (HB1.out.trans (hb2.mono HB1.out.size))
    clear hb2
    go_wp2_with fail
    go_ret
    exact ⟨by rw [HD.out]; rfl, HB2.out⟩
  · have hli : (1 : Int) < (ln : Int) := by omega
    have HD := Lib.hid (decide_eq_false hl)
    clear hl
    go_wp2_with fail
    go_ret
    exact ⟨by rw [HD.out]; rfl, HB1.out⟩
set_option maxRecDepth 8000 in
set_option maxHeartbeats 4000000 in
theorem rst_24n (v : V) (hb : v.bulk ≤ 4194304) (hk : v.k = 24) (hl1 : ¬ v.l.length = 1) : Tells 62 v (fields (ctch3 v) v && false) := by
  intro x w h
  have HO := Lib.hid fun w' (hb' : Below w.heap.size w w') => own_any v x w' (Is.below hb' _ _ h) hb
  have hll : (v.l.length : Int) ≤ 4194304 := by have := length_le_bulks v.l; have := bulk_ge v; omega
  have hq1 : ((v.l.length : Int) == 1) = false := by rw [beq_eq_false_iff_ne]; omega
  have hr1 : ((v.l.length : Int) != 1) = true := by rw [bne_iff_ne]; omega
  obtain ⟨xka, xkc, xla, xlc, rfl, -, -, -, hrow⟩ := h.open
  obtain ⟨W0, hW0⟩ : ∃ W0, w.alloc (.cells #[.int .i64 v.k, .string v.nm, .int .i64 v.n, .string v.s, .slice xka v.ks.length xkc, .slice xla v.l.length xlc] 25) = W0 := ⟨_, rfl⟩
  have HB0 : Hid (Below w.heap.size w W0) := by rw [← hW0]; exact below_alloc _ _
  have HF : Hid (∀ w', Below W0.heap.size W0 w' → At w' w.heap.size 0 ⟨v.k, v.nm, v.n, v.s, xka, v.ks.length, xkc, xla, v.l.length, xlc⟩) := fun w' hb => by
    have h0 : At W0 w.heap.size 0 ⟨v.k, v.nm, v.n, v.s, xka, v.ks.length, xkc, xla, v.l.length, xlc⟩ := by rw [← hW0]; exact at_row (hp_new rfl) rfl rfl rfl rfl rfl rfl
    exact h0.below (B := W0.heap.size) (by rw [← hW0]; simp) hb
  have HW0 := Lib.hid hW0
  simp only [X.v] at HO ⊢
  rw [hk] at HO HF HW0 ⊢
  clear h hb hW0 hk hrow hl1
  generalize fields (ctch3 v) v = bo at *
  generalize v.nm = nm at *
  generalize v.n = n at *
  generalize v.s = s at *
  generalize v.ks.length = kn at *
  generalize v.l.length = ln at *
  go_enter Try.func62, Try.ntmps62
  go_wp2_with fail
  rw [HW0.out]
  clear HW0
  refine (HO.out _ HB0.out).mono ?_
  rintro e w1 ⟨rfl, hb1⟩
  obtain ⟨d0, d1, d2, d3, d4, d5⟩ := HF.out _ hb1
  dsimp only at d0 d1 d2 d3 d4 d5
  have HB1 := Lib.hid (HB0.out.trans (hb1.mono HB0.out.size))
  clear hb1
  cases bo
  · go_wp2_with fail
    go_ret
    exact ⟨rfl, HB1.out⟩
  go_wp2_with fail
  go_ret
  exact ⟨rfl, HB1.out⟩
set_option maxRecDepth 8000 in
set_option maxHeartbeats 4000000 in
theorem rst_34n (v : V) (hb : v.bulk ≤ 4194304) (hk : v.k = 34) (hl1 : ¬ v.l.length = 1) : Tells 62 v (fields (ctch3 v) v && false) := by
  intro x w h
  have HO := Lib.hid fun w' (hb' : Below w.heap.size w w') => own_any v x w' (Is.below hb' _ _ h) hb
  have hll : (v.l.length : Int) ≤ 4194304 := by have := length_le_bulks v.l; have := bulk_ge v; omega
  have hq1 : ((v.l.length : Int) == 1) = false := by rw [beq_eq_false_iff_ne]; omega
  have hr1 : ((v.l.length : Int) != 1) = true := by rw [bne_iff_ne]; omega
  obtain ⟨xka, xkc, xla, xlc, rfl, -, -, -, hrow⟩ := h.open
  obtain ⟨W0, hW0⟩ : ∃ W0, w.alloc (.cells #[.int .i64 v.k, .string v.nm, .int .i64 v.n, .string v.s, .slice xka v.ks.length xkc, .slice xla v.l.length xlc] 25) = W0 := ⟨_, rfl⟩
  have HB0 : Hid (Below w.heap.size w W0) := by rw [← hW0]; exact below_alloc _ _
  have HF : Hid (∀ w', Below W0.heap.size W0 w' → At w' w.heap.size 0 ⟨v.k, v.nm, v.n, v.s, xka, v.ks.length, xkc, xla, v.l.length, xlc⟩) := fun w' hb => by
    have h0 : At W0 w.heap.size 0 ⟨v.k, v.nm, v.n, v.s, xka, v.ks.length, xkc, xla, v.l.length, xlc⟩ := by rw [← hW0]; exact at_row (hp_new rfl) rfl rfl rfl rfl rfl rfl
    exact h0.below (B := W0.heap.size) (by rw [← hW0]; simp) hb
  have HW0 := Lib.hid hW0
  simp only [X.v] at HO ⊢
  rw [hk] at HO HF HW0 ⊢
  clear h hb hW0 hk hrow hl1
  generalize fields (ctch3 v) v = bo at *
  generalize v.nm = nm at *
  generalize v.n = n at *
  generalize v.s = s at *
  generalize v.ks.length = kn at *
  generalize v.l.length = ln at *
  go_enter Try.func62, Try.ntmps62
  go_wp2_with fail
  rw [HW0.out]
  clear HW0
  refine (HO.out _ HB0.out).mono ?_
  rintro e w1 ⟨rfl, hb1⟩
  obtain ⟨d0, d1, d2, d3, d4, d5⟩ := HF.out _ hb1
  dsimp only at d0 d1 d2 d3 d4 d5
  have HB1 := Lib.hid (HB0.out.trans (hb1.mono HB0.out.size))
  clear hb1
  cases bo
  · go_wp2_with fail
    go_ret
    exact ⟨rfl, HB1.out⟩
  go_wp2_with fail
  go_ret
  exact ⟨rfl, HB1.out⟩
set_option maxRecDepth 8000 in
set_option maxHeartbeats 4000000 in
theorem rst_26n (v : V) (hb : v.bulk ≤ 4194304) (hk : v.k = 26) (hl2 : ¬ v.l.length = 2) (hl3 : ¬ v.l.length = 3) : Tells 62 v (fields (ctch3 v) v && false) := by
  intro x w h
  have HO := Lib.hid fun w' (hb' : Below w.heap.size w w') => own_any v x w' (Is.below hb' _ _ h) hb
  have hll : (v.l.length : Int) ≤ 4194304 := by have := length_le_bulks v.l; have := bulk_ge v; omega
  have hq2 : ((v.l.length : Int) == 2) = false := by rw [beq_eq_false_iff_ne]; omega
  have hq3 : ((v.l.length : Int) == 3) = false := by rw [beq_eq_false_iff_ne]; omega
  have hr2 : ((v.l.length : Int) != 2) = true := by rw [bne_iff_ne]; omega
  have hr3 : ((v.l.length : Int) != 3) = true := by rw [bne_iff_ne]; omega
  obtain ⟨xka, xkc, xla, xlc, rfl, -, -, -, hrow⟩ := h.open
  obtain ⟨W0, hW0⟩ : ∃ W0, w.alloc (.cells #[.int .i64 v.k, .string v.nm, .int .i64 v.n, .string v.s, .slice xka v.ks.length xkc, .slice xla v.l.length xlc] 25) = W0 := ⟨_, rfl⟩
  have HB0 : Hid (Below w.heap.size w W0) := by rw [← hW0]; exact below_alloc _ _
  have HF : Hid (∀ w', Below W0.heap.size W0 w' → At w' w.heap.size 0 ⟨v.k, v.nm, v.n, v.s, xka, v.ks.length, xkc, xla, v.l.length, xlc⟩) := fun w' hb => by
    have h0 : At W0 w.heap.size 0 ⟨v.k, v.nm, v.n, v.s, xka, v.ks.length, xkc, xla, v.l.length, xlc⟩ := by rw [← hW0]; exact at_row (hp_new rfl) rfl rfl rfl rfl rfl rfl
    exact h0.below (B := W0.heap.size) (by rw [← hW0]; simp) hb
  have HW0 := Lib.hid hW0
  simp only [X.v] at HO ⊢
  rw [hk] at HO HF HW0 ⊢
  clear h hb hW0 hk hrow hl2 hl3
  generalize fields (ctch3 v) v = bo at *
  generalize v.nm = nm at *
  generalize v.n = n at *
  generalize v.s = s at *
  generalize v.ks.length = kn at *
  generalize v.l.length = ln at *
  go_enter Try.func62, Try.ntmps62
  go_wp2_with fail
  rw [HW0.out]
  clear HW0
  refine (HO.out _ HB0.out).mono ?_
  rintro e w1 ⟨rfl, hb1⟩
  obtain ⟨d0, d1, d2, d3, d4, d5⟩ := HF.out _ hb1
  dsimp only at d0 d1 d2 d3 d4 d5
  have HB1 := Lib.hid (HB0.out.trans (hb1.mono HB0.out.size))
  clear hb1
  cases bo
  · go_wp2_with fail
    go_ret
    exact ⟨rfl, HB1.out⟩
  go_wp2_with fail
  go_ret
  exact ⟨rfl, HB1.out⟩
set_option maxRecDepth 8000 in
set_option maxHeartbeats 4000000 in
theorem rst_35n (v : V) (hb : v.bulk ≤ 4194304) (hk : v.k = 35) (hl3 : ¬ v.l.length = 3) : Tells 62 v (fields (ctch3 v) v && false) := by
  intro x w h
  have HO := Lib.hid fun w' (hb' : Below w.heap.size w w') => own_any v x w' (Is.below hb' _ _ h) hb
  have hll : (v.l.length : Int) ≤ 4194304 := by have := length_le_bulks v.l; have := bulk_ge v; omega
  have hq3 : ((v.l.length : Int) == 3) = false := by rw [beq_eq_false_iff_ne]; omega
  have hr3 : ((v.l.length : Int) != 3) = true := by rw [bne_iff_ne]; omega
  obtain ⟨xka, xkc, xla, xlc, rfl, -, -, -, hrow⟩ := h.open
  obtain ⟨W0, hW0⟩ : ∃ W0, w.alloc (.cells #[.int .i64 v.k, .string v.nm, .int .i64 v.n, .string v.s, .slice xka v.ks.length xkc, .slice xla v.l.length xlc] 25) = W0 := ⟨_, rfl⟩
  have HB0 : Hid (Below w.heap.size w W0) := by rw [← hW0]; exact below_alloc _ _
  have HF : Hid (∀ w', Below W0.heap.size W0 w' → At w' w.heap.size 0 ⟨v.k, v.nm, v.n, v.s, xka, v.ks.length, xkc, xla, v.l.length, xlc⟩) := fun w' hb => by
    have h0 : At W0 w.heap.size 0 ⟨v.k, v.nm, v.n, v.s, xka, v.ks.length, xkc, xla, v.l.length, xlc⟩ := by rw [← hW0]; exact at_row (hp_new rfl) rfl rfl rfl rfl rfl rfl
    exact h0.below (B := W0.heap.size) (by rw [← hW0]; simp) hb
  have HW0 := Lib.hid hW0
  simp only [X.v] at HO ⊢
  rw [hk] at HO HF HW0 ⊢
  clear h hb hW0 hk hrow hl3
  generalize fields (ctch3 v) v = bo at *
  generalize v.nm = nm at *
  generalize v.n = n at *
  generalize v.s = s at *
  generalize v.ks.length = kn at *
  generalize v.l.length = ln at *
  go_enter Try.func62, Try.ntmps62
  go_wp2_with fail
  rw [HW0.out]
  clear HW0
  refine (HO.out _ HB0.out).mono ?_
  rintro e w1 ⟨rfl, hb1⟩
  obtain ⟨d0, d1, d2, d3, d4, d5⟩ := HF.out _ hb1
  dsimp only at d0 d1 d2 d3 d4 d5
  have HB1 := Lib.hid (HB0.out.trans (hb1.mono HB0.out.size))
  clear hb1
  cases bo
  · go_wp2_with fail
    go_ret
    exact ⟨rfl, HB1.out⟩
  go_wp2_with fail
  go_ret
  exact ⟨rfl, HB1.out⟩
set_option maxRecDepth 8000 in
set_option maxHeartbeats 4000000 in
theorem rst_38n (v : V) (hb : v.bulk ≤ 4194304) (hk : v.k = 38) (hl1 : ¬ v.l.length = 1) : Tells 62 v (fields (ctch3 v) v && false) := by
  intro x w h
  have HO := Lib.hid fun w' (hb' : Below w.heap.size w w') => own_any v x w' (Is.below hb' _ _ h) hb
  have hll : (v.l.length : Int) ≤ 4194304 := by have := length_le_bulks v.l; have := bulk_ge v; omega
  have hq1 : ((v.l.length : Int) == 1) = false := by rw [beq_eq_false_iff_ne]; omega
  have hr1 : ((v.l.length : Int) != 1) = true := by rw [bne_iff_ne]; omega
  obtain ⟨xka, xkc, xla, xlc, rfl, -, -, -, hrow⟩ := h.open
  obtain ⟨W0, hW0⟩ : ∃ W0, w.alloc (.cells #[.int .i64 v.k, .string v.nm, .int .i64 v.n, .string v.s, .slice xka v.ks.length xkc, .slice xla v.l.length xlc] 25) = W0 := ⟨_, rfl⟩
  have HB0 : Hid (Below w.heap.size w W0) := by rw [← hW0]; exact below_alloc _ _
  have HF : Hid (∀ w', Below W0.heap.size W0 w' → At w' w.heap.size 0 ⟨v.k, v.nm, v.n, v.s, xka, v.ks.length, xkc, xla, v.l.length, xlc⟩) := fun w' hb => by
    have h0 : At W0 w.heap.size 0 ⟨v.k, v.nm, v.n, v.s, xka, v.ks.length, xkc, xla, v.l.length, xlc⟩ := by rw [← hW0]; exact at_row (hp_new rfl) rfl rfl rfl rfl rfl rfl
    exact h0.below (B := W0.heap.size) (by rw [← hW0]; simp) hb
  have HW0 := Lib.hid hW0
  simp only [X.v] at HO ⊢
  rw [hk] at HO HF HW0 ⊢
  clear h hb hW0 hk hrow hl1
  generalize fields (ctch3 v) v = bo at *
  generalize v.nm = nm at *
  generalize v.n = n at *
  generalize v.s = s at *
  generalize v.ks.length = kn at *
  generalize v.l.length = ln at *
  go_enter Try.func62, Try.ntmps62
  go_wp2_with fail
  rw [HW0.out]
  clear HW0
  refine (HO.out _ HB0.out).mono ?_
  rintro e w1 ⟨rfl, hb1⟩
  obtain ⟨d0, d1, d2, d3, d4, d5⟩ := HF.out _ hb1
  dsimp only at d0 d1 d2 d3 d4 d5
  have HB1 := Lib.hid (HB0.out.trans (hb1.mono HB0.out.size))
  clear hb1
  cases bo
  · go_wp2_with fail
    go_ret
    exact ⟨rfl, HB1.out⟩
  go_wp2_with fail
  go_ret
  exact ⟨rfl, HB1.out⟩
set_option maxRecDepth 8000 in
set_option maxHeartbeats 4000000 in
theorem rst_36n (v : V) (hb : v.bulk ≤ 4194304) (hk : v.k = 36) (hl : v.l = []) : Tells 62 v (fields (ctch3 v) v && false) := by
  intro x w h
  have HO := Lib.hid fun w' (hb' : Below w.heap.size w w') => own_any v x w' (Is.below hb' _ _ h) hb
  have hll : (v.l.length : Int) ≤ 4194304 := by have := length_le_bulks v.l; have := bulk_ge v; omega
  obtain ⟨xka, xkc, xla, xlc, rfl, -, -, -, hrow⟩ := h.open
  have hlen : v.l.length = 0 := by rw [hl]; rfl
  obtain ⟨W0, hW0⟩ : ∃ W0, w.alloc (.cells #[.int .i64 v.k, .string v.nm, .int .i64 v.n, .string v.s, .slice xka v.ks.length xkc, .slice xla v.l.length xlc] 25) = W0 := ⟨_, rfl⟩
  have HB0 : Hid (Below w.heap.size w W0) := by rw [← hW0]; exact below_alloc _ _
  have HF : Hid (∀ w', Below W0.heap.size W0 w' → At w' w.heap.size 0 ⟨v.k, v.nm, v.n, v.s, xka, v.ks.length, xkc, xla, v.l.length, xlc⟩) := fun w' hb => by
    have h0 : At W0 w.heap.size 0 ⟨v.k, v.nm, v.n, v.s, xka, v.ks.length, xkc, xla, v.l.length, xlc⟩ := by rw [← hW0]; exact at_row (hp_new rfl) rfl rfl rfl rfl rfl rfl
    exact h0.below (B := W0.heap.size) (by rw [← hW0]; simp) hb
  have HW0 := Lib.hid hW0
  simp only [X.v] at HO ⊢
  rw [hk, hlen] at HO HF HW0 ⊢
  clear h hb hW0 hk hrow hl hlen hll
  generalize fields (ctch3 v) v = bo at *
  generalize v.nm = nm at *
  generalize v.n = n at *
  generalize v.s = s at *
  generalize v.ks.length = kn at *
  skip
  go_enter Try.func62, Try.ntmps62
  go_wp2_with fail
  rw [HW0.out]
  clear HW0
  refine (HO.out _ HB0.out).mono ?_
  rintro e w1 ⟨rfl, hb1⟩
  obtain ⟨d0, d1, d2, d3, d4, d5⟩ := HF.out _ hb1
  dsimp only at d0 d1 d2 d3 d4 d5
  have HB1 := Lib.hid (HB0.out.trans (hb1.mono HB0.out.size))
  clear hb1
  cases bo
  · go_wp2_with fail
    go_ret
    exact ⟨rfl, HB1.out⟩
  go_wp2_with fail
  go_ret
  exact ⟨rfl, HB1.out⟩
set_option maxRecDepth 8000 in
set_option maxHeartbeats 4000000 in
theorem expr_16n (v : V) (hb : v.bulk ≤ 4194304) (hk : v.k = 16) (hl1 : ¬ v.l.length = 1) : Tells 79 v (fields (ctch3 v) v && false) := by
  intro x w h
  have HO := Lib.hid fun w' (hb' : Below w.heap.size w w') => own_any v x w' (Is.below hb' _ _ h) hb
  have hll : (v.l.length : Int) ≤ 4194304 := by have := length_le_bulks v.l; have := bulk_ge v; omega
  have hq1 : ((v.l.length : Int) == 1) = false := by rw [beq_eq_false_iff_ne]; omega
  have hr1 : ((v.l.length : Int) != 1) = true := by rw [bne_iff_ne]; omega
  obtain ⟨xka, xkc, xla, xlc, rfl, -, -, -, hrow⟩ := h.open
  obtain ⟨W0, hW0⟩ : ∃ W0, w.alloc (.cells #[.int .i64 v.k, .string v.nm, .int .i64 v.n, .string v.s, .slice xka v.ks.length xkc, .slice xla v.l.length xlc] 25) = W0 := ⟨_, rfl⟩
  have HB0 : Hid (Below w.heap.size w W0) := by rw [← hW0]; exact below_alloc _ _
  have HF : Hid (∀ w', Below W0.heap.size W0 w' → At w' w.heap.size 0 ⟨v.k, v.nm, v.n, v.s, xka, v.ks.length, xkc, xla, v.l.length, xlc⟩) := fun w' hb => by
    have h0 : At W0 w.heap.size 0 ⟨v.k, v.nm, v.n, v.s, xka, v.ks.length, xkc, xla, v.l.length, xlc⟩ := by rw [← hW0]; exact at_row (hp_new rfl) rfl rfl rfl rfl rfl rfl
    exact h0.below (B := W0.heap.size) (by rw [← hW0]; simp) hb
  have HW0 := Lib.hid hW0
  simp only [X.v] at HO ⊢
  rw [hk] at HO HF HW0 ⊢
  clear h hb hW0 hk hrow hl1
  generalize fields (ctch3 v) v = bo at *
  generalize v.nm = nm at *
  generalize v.n = n at *
  generalize v.s = s at *
  generalize v.ks.length = kn at *
  generalize v.l.length = ln at *
  go_enter Try.func79, Try.ntmps79
  go_wp2_with fail
  rw [HW0.out]
  clear HW0
  refine (HO.out _ HB0.out).mono ?_
  rintro e w1 ⟨rfl, hb1⟩
  obtain ⟨d0, d1, d2, d3, d4, d5⟩ := HF.out _ hb1
  dsimp only at d0 d1 d2 d3 d4 d5
  have HB1 := Lib.hid (HB0.out.trans (hb1.mono HB0.out.size))
  clear hb1
  cases bo
  · go_wp2_with fail
    go_ret
    exact ⟨rfl, HB1.out⟩
  go_wp2_with fail
  go_ret
  exact ⟨rfl, HB1.out⟩
set_option maxRecDepth 8000 in
set_option maxHeartbeats 4000000 in
theorem expr_20n (v : V) (hb : v.bulk ≤ 4194304) (hk : v.k = 20) (hl2 : ¬ v.l.length = 2) : Tells 79 v (fields (ctch3 v) v && false) := by
  intro x w h
  have HO := Lib.hid fun w' (hb' : Below w.heap.size w w') => own_any v x w' (Is.below hb' _ _ h) hb
  have hll : (v.l.length : Int) ≤ 4194304 := by have := length_le_bulks v.l; have := bulk_ge v; omega
  have hq2 : ((v.l.length : Int) == 2) = false := by rw [beq_eq_false_iff_ne]; omega
  have hr2 : ((v.l.length : Int) != 2) = true := by rw [bne_iff_ne]; omega
  obtain ⟨xka, xkc, xla, xlc, rfl, -, -, -, hrow⟩ := h.open
  obtain ⟨W0, hW0⟩ : ∃ W0, w.alloc (.cells #[.int .i64 v.k, .string v.nm, .int .i64 v.n, .string v.s, .slice xka v.ks.length xkc, .slice xla v.l.length xlc] 25) = W0 := ⟨_, rfl⟩
  have HB0 : Hid (Below w.heap.size w W0) := by rw [← hW0]; exact below_alloc _ _
  have HF : Hid (∀ w', Below W0.heap.size W0 w' → At w' w.heap.size 0 ⟨v.k, v.nm, v.n, v.s, xka, v.ks.length, xkc, xla, v.l.length, xlc⟩) := fun w' hb => by
    have h0 : At W0 w.heap.size 0 ⟨v.k, v.nm, v.n, v.s, xka, v.ks.length, xkc, xla, v.l.length, xlc⟩ := by rw [← hW0]; exact at_row (hp_new rfl) rfl rfl rfl rfl rfl rfl
    exact h0.below (B := W0.heap.size) (by rw [← hW0]; simp) hb
  have HW0 := Lib.hid hW0
  simp only [X.v] at HO ⊢
  rw [hk] at HO HF HW0 ⊢
  clear h hb hW0 hk hrow hl2
  generalize fields (ctch3 v) v = bo at *
  generalize v.nm = nm at *
  generalize v.n = n at *
  generalize v.s = s at *
  generalize v.ks.length = kn at *
  generalize v.l.length = ln at *
  go_enter Try.func79, Try.ntmps79
  go_wp2_with fail
  rw [HW0.out]
  clear HW0
  refine (HO.out _ HB0.out).mono ?_
  rintro e w1 ⟨rfl, hb1⟩
  obtain ⟨d0, d1, d2, d3, d4, d5⟩ := HF.out _ hb1
  dsimp only at d0 d1 d2 d3 d4 d5
  have HB1 := Lib.hid (HB0.out.trans (hb1.mono HB0.out.size))
  clear hb1
  cases bo
  · go_wp2_with fail
    go_ret
    exact ⟨rfl, HB1.out⟩
  go_wp2_with fail
  go_ret
  exact ⟨rfl, HB1.out⟩
end Go.Proofs.Ytgehgccgologpaa.R
