/-
  Laid by wip/scope/lay.py out of wip/tree: Vm.
  The reference's loop, kinds SFor and SForIn. (gen_vl.py)
-/
import Derived.Test.YtgehgccgologpaaVl
namespace Go.Proofs.Ytgehgccgologpaa.R
open Go.RowKit Go.Proofs.Ytgehgccgologpaa Go.Proofs.Ytgehgccgologpaa.T
set_option maxRecDepth 8000 in
set_option maxHeartbeats 4000000 in
theorem loop_30a1 (v a b c : V) (q s p : Bool) (hk : v.k = 30) (ha : a.k = 22) (hal : ¬ a.l.length = 1) (hl : v.l = [a, b, c]) (H1 : Tells 79 b q) (H2 : Tells 80 c s)
    (H3 : Tells 78 a p) : Tells 81 v (q && (s && (p && false))) := by
  intro x w h
  obtain ⟨xka, xkc, xla, xlc, rfl, -, -, -, hrow⟩ := h.open
  obtain ⟨W0, hW0⟩ : ∃ W0, w.alloc (.cells #[.int .i64 v.k, .string v.nm, .int .i64 v.n, .string v.s, .slice xka v.ks.length xkc, .slice xla v.l.length xlc] 25) = W0 := ⟨_, rfl⟩
  have HB0 : Hid (Below w.heap.size w W0) := by rw [← hW0]; exact below_alloc _ _
  have HBX := Lib.hid (below_alloc w)
  have HW0 := Lib.hid hW0
  obtain ⟨g, o, y0, rfl, hg, hy0⟩ := kid_at hrow 0 (by rw [hl]; simp)
  obtain ⟨g', o', y1, e, -, hy1⟩ := kid_at hrow 1 (by rw [hl]; simp)
  injection e with e
  injection e with e1 e2
  subst e1 e2
  obtain ⟨g', o', y2, e, -, hy2⟩ := kid_at hrow 2 (by rw [hl]; simp)
  injection e with e
  injection e with e1 e2
  subst e1 e2
  have e0 : v.l[0]'(by rw [hl]; simp) = a := by simp [hl]
  have HY0 : Hid (∀ w', Below w.heap.size w w' → At w' g (o) y0) := fun w' hb => (hy0 w' hb).1
  have HI0 : Hid (∀ w', Below w.heap.size w w' → Is w' a y0) := fun w' hb => by have := (hy0 w' hb).2; rwa [e0] at this
  have e1 : v.l[1]'(by rw [hl]; simp) = b := by simp [hl]
  have HY1 : Hid (∀ w', Below w.heap.size w w' → At w' g (o + 6) y1) := fun w' hb => (hy1 w' hb).1
  have HI1 : Hid (∀ w', Below w.heap.size w w' → Is w' b y1) := fun w' hb => by have := (hy1 w' hb).2; rwa [e1] at this
  have e2 : v.l[2]'(by rw [hl]; simp) = c := by simp [hl]
  have HY2 : Hid (∀ w', Below w.heap.size w w' → At w' g (o + 12) y2) := fun w' hb => (hy2 w' hb).1
  have HI2 : Hid (∀ w', Below w.heap.size w w' → Is w' c y2) := fun w' hb => by have := (hy2 w' hb).2; rwa [e2] at this
  have hlen : v.l.length = 3 := by rw [hl]; rfl
  have TH1 : Hid (∀ w', Below w.heap.size w w' → Calls Try.prog 79 #[y1.v] w' fun e w'' => e = .returned (.bool q) ∧ Below w'.heap.size w' w'') := fun w' hb => H1 y1 w' (HI1.out w' hb)
  have TH2 : Hid (∀ w', Below w.heap.size w w' → Calls Try.prog 80 #[y2.v] w' fun e w'' => e = .returned (.bool s) ∧ Below w'.heap.size w' w'') := fun w' hb => H2 y2 w' (HI2.out w' hb)
  have TH3 : Hid (∀ w', Below w.heap.size w w' → Calls Try.prog 78 #[y0.v] w' fun e w'' => e = .returned (.bool p) ∧ Below w'.heap.size w' w'') := fun w' hb => H3 y0 w' (HI0.out w' hb)
  have hyk : y0.k = 22 := by rw [((isB_iff _ _ _ _).1 (HI0.out w (Below.refl _ _))).1.1]; exact ha
  have hyn : ¬ y0.ln = 1 := by rw [((isB_iff _ _ _ _).1 (HI0.out w (Below.refl _ _))).2.2.1]; exact hal
  have hyq : ((y0.ln : Int) == 1) = false := by rw [beq_eq_false_iff_ne]; omega
  clear ha hal hyn
  simp only [X.v] at TH1 TH2 TH3 ⊢
  rw [hk, hlen] at HW0 ⊢
  clear h hrow hW0 hk hlen hl hg e0 hy0 HI0 e1 hy1 HI1 e2 hy2 HI2 H1 H2 H3
  obtain ⟨yk0, ynm0, yn0, ys0, yka0, ykn0, ykc0, yla0, yln0, ylc0⟩ := y0
  obtain ⟨yk1, ynm1, yn1, ys1, yka1, ykn1, ykc1, yla1, yln1, ylc1⟩ := y1
  obtain ⟨yk2, ynm2, yn2, ys2, yka2, ykn2, ykc2, yla2, yln2, ylc2⟩ := y2
  dsimp only at hyk hyq
  subst hyk
  obtain ⟨c00, c01, c02, c03, c04, c05⟩ := HY0.out _ (HBX.out (.cells #[.int .i64 30, .string v.nm, .int .i64 v.n, .string v.s, .slice xka v.ks.length xkc, .slice (some ⟨g, o, none⟩) 3 xlc] 25))
  dsimp only at c00 c01 c02 c03 c04 c05
  obtain ⟨c10, c11, c12, c13, c14, c15⟩ := HY1.out _ (HBX.out (.cells #[.int .i64 30, .string v.nm, .int .i64 v.n, .string v.s, .slice xka v.ks.length xkc, .slice (some ⟨g, o, none⟩) 3 xlc] 25))
  dsimp only at c10 c11 c12 c13 c14 c15
  obtain ⟨c20, c21, c22, c23, c24, c25⟩ := HY2.out _ (HBX.out (.cells #[.int .i64 30, .string v.nm, .int .i64 v.n, .string v.s, .slice xka v.ks.length xkc, .slice (some ⟨g, o, none⟩) 3 xlc] 25))
  dsimp only at c20 c21 c22 c23 c24 c25
  go_enter Try.func81, Try.ntmps81
  go_wp2_with fail
  rw [HW0.out]
  clear c00 c01 c02 c03 c04 c05 c10 c11 c12 c13 c14 c15 c20 c21 c22 c23 c24 c25
  refine (TH1.out _ HB0.out).mono ?_
  rintro e w1 ⟨rfl, hb1⟩
  have HB1 := Lib.hid (HB0.out.trans (hb1.mono HB0.out.size))
  clear hb1
  obtain ⟨c00, c01, c02, c03, c04, c05⟩ := HY0.out _ HB1.out
  dsimp only at c00 c01 c02 c03 c04 c05
  obtain ⟨c10, c11, c12, c13, c14, c15⟩ := HY1.out _ HB1.out
  dsimp only at c10 c11 c12 c13 c14 c15
  obtain ⟨c20, c21, c22, c23, c24, c25⟩ := HY2.out _ HB1.out
  dsimp only at c20 c21 c22 c23 c24 c25
  cases q
  ·
    skip
    go_wp2_with fail
    go_ret
    exact ⟨rfl, HB1.out⟩
  ·
    skip
    go_wp2_with fail
    clear c00 c01 c02 c03 c04 c05 c10 c11 c12 c13 c14 c15 c20 c21 c22 c23 c24 c25
    refine (TH2.out _ HB1.out).mono ?_
    rintro e w2 ⟨rfl, hb2⟩
    have HB2 := Lib.hid (HB1.out.trans (hb2.mono HB1.out.size))
    clear hb2
    obtain ⟨c00, c01, c02, c03, c04, c05⟩ := HY0.out _ HB2.out
    dsimp only at c00 c01 c02 c03 c04 c05
    obtain ⟨c10, c11, c12, c13, c14, c15⟩ := HY1.out _ HB2.out
    dsimp only at c10 c11 c12 c13 c14 c15
    obtain ⟨c20, c21, c22, c23, c24, c25⟩ := HY2.out _ HB2.out
    dsimp only at c20 c21 c22 c23 c24 c25
    cases s
    ·
      skip
      go_wp2_with fail
      go_ret
      exact ⟨rfl, HB2.out⟩
    ·
      skip
      go_wp2_with fail
      clear c00 c01 c02 c03 c04 c05 c10 c11 c12 c13 c14 c15 c20 c21 c22 c23 c24 c25
      refine (TH3.out _ HB2.out).mono ?_
      rintro e w3 ⟨rfl, hb3⟩
      have HB3 := Lib.hid (HB2.out.trans (hb3.mono HB2.out.size))
      clear hb3
      obtain ⟨c00, c01, c02, c03, c04, c05⟩ := HY0.out _ HB3.out
      dsimp only at c00 c01 c02 c03 c04 c05
      obtain ⟨c10, c11, c12, c13, c14, c15⟩ := HY1.out _ HB3.out
      dsimp only at c10 c11 c12 c13 c14 c15
      obtain ⟨c20, c21, c22, c23, c24, c25⟩ := HY2.out _ HB3.out
      dsimp only at c20 c21 c22 c23 c24 c25
      cases p
      ·
        skip
        go_wp2_with fail
        go_ret
        exact ⟨rfl, HB3.out⟩
      ·
        skip
        go_wp2_with fail
        go_ret
        exact ⟨rfl, HB3.out⟩
set_option maxRecDepth 8000 in
set_option maxHeartbeats 4000000 in
theorem loop_30a2 (v a b c x0 : V) (q s p : Bool) (hk : v.k = 30) (ha : a.k = 22) (hal : a.l = [x0]) (hl : v.l = [a, b, c]) (H1 : Tells 79 b q) (H2 : Tells 80 c s)
    (H3 : Tells 78 a p) : Tells 81 v (q && (s && (p && ((x0.l.length : Int) == 0)))) := by
  intro x w h
  obtain ⟨xka, xkc, xla, xlc, rfl, -, -, -, hrow⟩ := h.open
  obtain ⟨W0, hW0⟩ : ∃ W0, w.alloc (.cells #[.int .i64 v.k, .string v.nm, .int .i64 v.n, .string v.s, .slice xka v.ks.length xkc, .slice xla v.l.length xlc] 25) = W0 := ⟨_, rfl⟩
  have HB0 : Hid (Below w.heap.size w W0) := by rw [← hW0]; exact below_alloc _ _
  have HBX := Lib.hid (below_alloc w)
  have HW0 := Lib.hid hW0
  obtain ⟨g, o, y0, rfl, hg, hy0⟩ := kid_at hrow 0 (by rw [hl]; simp)
  obtain ⟨g', o', y1, e, -, hy1⟩ := kid_at hrow 1 (by rw [hl]; simp)
  injection e with e
  injection e with e1 e2
  subst e1 e2
  obtain ⟨g', o', y2, e, -, hy2⟩ := kid_at hrow 2 (by rw [hl]; simp)
  injection e with e
  injection e with e1 e2
  subst e1 e2
  have e0 : v.l[0]'(by rw [hl]; simp) = a := by simp [hl]
  have HY0 : Hid (∀ w', Below w.heap.size w w' → At w' g (o) y0) := fun w' hb => (hy0 w' hb).1
  have HI0 : Hid (∀ w', Below w.heap.size w w' → Is w' a y0) := fun w' hb => by have := (hy0 w' hb).2; rwa [e0] at this
  have e1 : v.l[1]'(by rw [hl]; simp) = b := by simp [hl]
  have HY1 : Hid (∀ w', Below w.heap.size w w' → At w' g (o + 6) y1) := fun w' hb => (hy1 w' hb).1
  have HI1 : Hid (∀ w', Below w.heap.size w w' → Is w' b y1) := fun w' hb => by have := (hy1 w' hb).2; rwa [e1] at this
  have e2 : v.l[2]'(by rw [hl]; simp) = c := by simp [hl]
  have HY2 : Hid (∀ w', Below w.heap.size w w' → At w' g (o + 12) y2) := fun w' hb => (hy2 w' hb).1
  have HI2 : Hid (∀ w', Below w.heap.size w w' → Is w' c y2) := fun w' hb => by have := (hy2 w' hb).2; rwa [e2] at this
  have hlen : v.l.length = 3 := by rw [hl]; rfl
  have TH1 : Hid (∀ w', Below w.heap.size w w' → Calls Try.prog 79 #[y1.v] w' fun e w'' => e = .returned (.bool q) ∧ Below w'.heap.size w' w'') := fun w' hb => H1 y1 w' (HI1.out w' hb)
  have TH2 : Hid (∀ w', Below w.heap.size w w' → Calls Try.prog 80 #[y2.v] w' fun e w'' => e = .returned (.bool s) ∧ Below w'.heap.size w' w'') := fun w' hb => H2 y2 w' (HI2.out w' hb)
  have TH3 : Hid (∀ w', Below w.heap.size w w' → Calls Try.prog 78 #[y0.v] w' fun e w'' => e = .returned (.bool p) ∧ Below w'.heap.size w' w'') := fun w' hb => H3 y0 w' (HI0.out w' hb)
  have hyk : y0.k = 22 := by rw [((isB_iff _ _ _ _).1 (HI0.out w (Below.refl _ _))).1.1]; exact ha
  have hyn : y0.ln = 1 := by rw [((isB_iff _ _ _ _).1 (HI0.out w (Below.refl _ _))).2.2.1, hal]; rfl
  have hyr := ((isB_iff _ _ _ _).1 (HI0.out w (Below.refl _ _))).2.2.2.2
  obtain ⟨g2, o2, y3, hya, -, hy3⟩ := kid_at hyr 0 (by rw [hal]; simp)
  have HY3 : Hid (∀ w', Below w.heap.size w w' → At w' g2 o2 y3) := fun w' hb => by have := (hy3 w' hb).1; rwa [Nat.zero_mul, Nat.add_zero] at this
  have h3n : y3.ln = x0.l.length := by
    rw [((isB_iff _ _ _ _).1 (hy3 w (Below.refl _ _)).2).2.2.1]
    simp [hal]
  rw [← h3n]
  clear ha hal hyr hy3 h3n
  obtain ⟨yk3, ynm3, yn3, ys3, yka3, ykn3, ykc3, yla3, yln3, ylc3⟩ := y3
  simp only [X.v] at TH1 TH2 TH3 ⊢
  rw [hk, hlen] at HW0 ⊢
  clear h hrow hW0 hk hlen hl hg e0 hy0 HI0 e1 hy1 HI1 e2 hy2 HI2 H1 H2 H3
  obtain ⟨yk0, ynm0, yn0, ys0, yka0, ykn0, ykc0, yla0, yln0, ylc0⟩ := y0
  obtain ⟨yk1, ynm1, yn1, ys1, yka1, ykn1, ykc1, yla1, yln1, ylc1⟩ := y1
  obtain ⟨yk2, ynm2, yn2, ys2, yka2, ykn2, ykc2, yla2, yln2, ylc2⟩ := y2
  dsimp only at hyk hyn hya
  subst hyk hyn hya
  obtain ⟨c00, c01, c02, c03, c04, c05⟩ := HY0.out _ (HBX.out (.cells #[.int .i64 30, .string v.nm, .int .i64 v.n, .string v.s, .slice xka v.ks.length xkc, .slice (some ⟨g, o, none⟩) 3 xlc] 25))
  dsimp only at c00 c01 c02 c03 c04 c05
  obtain ⟨c10, c11, c12, c13, c14, c15⟩ := HY1.out _ (HBX.out (.cells #[.int .i64 30, .string v.nm, .int .i64 v.n, .string v.s, .slice xka v.ks.length xkc, .slice (some ⟨g, o, none⟩) 3 xlc] 25))
  dsimp only at c10 c11 c12 c13 c14 c15
  obtain ⟨c20, c21, c22, c23, c24, c25⟩ := HY2.out _ (HBX.out (.cells #[.int .i64 30, .string v.nm, .int .i64 v.n, .string v.s, .slice xka v.ks.length xkc, .slice (some ⟨g, o, none⟩) 3 xlc] 25))
  dsimp only at c20 c21 c22 c23 c24 c25
  obtain ⟨c30, c31, c32, c33, c34, c35⟩ := HY3.out _ (HBX.out (.cells #[.int .i64 30, .string v.nm, .int .i64 v.n, .string v.s, .slice xka v.ks.length xkc, .slice (some ⟨g, o, none⟩) 3 xlc] 25))
  dsimp only at c30 c31 c32 c33 c34 c35
  go_enter Try.func81, Try.ntmps81
  go_wp2_with fail
  rw [HW0.out]
  clear c00 c01 c02 c03 c04 c05 c10 c11 c12 c13 c14 c15 c20 c21 c22 c23 c24 c25 c30 c31 c32 c33 c34 c35
  refine (TH1.out _ HB0.out).mono ?_
  rintro e w1 ⟨rfl, hb1⟩
  have HB1 := Lib.hid (HB0.out.trans (hb1.mono HB0.out.size))
  clear hb1
  obtain ⟨c00, c01, c02, c03, c04, c05⟩ := HY0.out _ HB1.out
  dsimp only at c00 c01 c02 c03 c04 c05
  obtain ⟨c10, c11, c12, c13, c14, c15⟩ := HY1.out _ HB1.out
  dsimp only at c10 c11 c12 c13 c14 c15
  obtain ⟨c20, c21, c22, c23, c24, c25⟩ := HY2.out _ HB1.out
  dsimp only at c20 c21 c22 c23 c24 c25
  obtain ⟨c30, c31, c32, c33, c34, c35⟩ := HY3.out _ HB1.out
  dsimp only at c30 c31 c32 c33 c34 c35
  cases q
  ·
    skip
    go_wp2_with fail
    go_ret
    exact ⟨rfl, HB1.out⟩
  ·
    skip
    go_wp2_with fail
    clear c00 c01 c02 c03 c04 c05 c10 c11 c12 c13 c14 c15 c20 c21 c22 c23 c24 c25 c30 c31 c32 c33 c34 c35
    refine (TH2.out _ HB1.out).mono ?_
    rintro e w2 ⟨rfl, hb2⟩
    have HB2 := Lib.hid (HB1.out.trans (hb2.mono HB1.out.size))
    clear hb2
    obtain ⟨c00, c01, c02, c03, c04, c05⟩ := HY0.out _ HB2.out
    dsimp only at c00 c01 c02 c03 c04 c05
    obtain ⟨c10, c11, c12, c13, c14, c15⟩ := HY1.out _ HB2.out
    dsimp only at c10 c11 c12 c13 c14 c15
    obtain ⟨c20, c21, c22, c23, c24, c25⟩ := HY2.out _ HB2.out
    dsimp only at c20 c21 c22 c23 c24 c25
    obtain ⟨c30, c31, c32, c33, c34, c35⟩ := HY3.out _ HB2.out
    dsimp only at c30 c31 c32 c33 c34 c35
    cases s
    ·
      skip
      go_wp2_with fail
      go_ret
      exact ⟨rfl, HB2.out⟩
    ·
      skip
      go_wp2_with fail
      clear c00 c01 c02 c03 c04 c05 c10 c11 c12 c13 c14 c15 c20 c21 c22 c23 c24 c25 c30 c31 c32 c33 c34 c35
      refine (TH3.out _ HB2.out).mono ?_
      rintro e w3 ⟨rfl, hb3⟩
      have HB3 := Lib.hid (HB2.out.trans (hb3.mono HB2.out.size))
      clear hb3
      obtain ⟨c00, c01, c02, c03, c04, c05⟩ := HY0.out _ HB3.out
      dsimp only at c00 c01 c02 c03 c04 c05
      obtain ⟨c10, c11, c12, c13, c14, c15⟩ := HY1.out _ HB3.out
      dsimp only at c10 c11 c12 c13 c14 c15
      obtain ⟨c20, c21, c22, c23, c24, c25⟩ := HY2.out _ HB3.out
      dsimp only at c20 c21 c22 c23 c24 c25
      obtain ⟨c30, c31, c32, c33, c34, c35⟩ := HY3.out _ HB3.out
      dsimp only at c30 c31 c32 c33 c34 c35
      cases p
      ·
        skip
        go_wp2_with fail
        go_ret
        exact ⟨rfl, HB3.out⟩
      ·
        skip
        go_wp2_with fail
        go_ret
        exact ⟨rfl, HB3.out⟩
end Go.Proofs.Ytgehgccgologpaa.R
