/-
  Laid by wip/scope/lay.py out of wip/tree: Lh Vl.
  The reference's Deep, Size and IsTarget.
  The reference's loop, kinds SFor and SForIn. (gen_vl.py)
-/
import Derived.Test.YtgehgccgologpaaVb
import Derived.Test.YtgehgccgologpaaVk
namespace Go.Proofs.Ytgehgccgologpaa.R
open Go.RowKit Go.Proofs.Ytgehgccgologpaa Go.Proofs.Ytgehgccgologpaa.T
theorem max_nat' (a b : Nat) : max (a : Int) (b : Int) = ((max a b : Nat) : Int) := by omega
theorem deeps_snoc' (l : List V) (j : Nat) (h : j < l.length) : V.deeps (l.take (j + 1)) = max (V.deeps (l.take j)) l[j].deep := by
  rw [snoc_get l j h, deeps_append]
  simp [V.deeps]
set_option maxRecDepth 8000 in
set_option maxHeartbeats 1000000 in
theorem refDeep_any : ∀ (v : V) (x : X) (w : World), Is w v x → v.bulk ≤ 4194304 →
    Calls Try.prog 36 #[x.v] w fun e w' => e = .returned (.int .i64 (v.deep : Nat)) ∧ Below w.heap.size w w' := by
  refine V.ind fun k nm n s ks l ih => ?_
  intro x w h hbk
  obtain ⟨ka, kc, la, lc, rfl, h1, h2, h3, h4⟩ := h.open
  simp only [V.k, V.nm, V.n, V.s, V.ks, V.l] at *
  have hbl : V.bulks l ≤ 4194304 := by
    simp only [V.bulk] at hbk
    omega
  have hll : l.length ≤ 4194304 := Nat.le_trans (length_le_bulks l) hbl
  have hdl : V.deeps l ≤ 4194304 := by
    have e1 := deep_le_size (.mk k nm n s ks l)
    have e2 := size_le_bulk (.mk k nm n s ks l)
    simp only [V.deep] at e1
    omega
  clear hbk
  unfold X.v
  go_enter Try.func36, Try.ntmps36
  go_wp2_with fail
  go_loopw [3, 9] (fun t i wr => ∃ j : Nat, j ≤ l.length ∧ i = .int .i64 j ∧ t = .int .i64 ((V.deeps (l.take j) : Nat) : Int) ∧ Below w.heap.size w wr)
    (fun _ i _ => l.length - (intOf i).toNat)
  case atStart => exact ⟨0, Nat.zero_le _, rfl, rfl, below_alloc w _⟩
  case round =>
    obtain ⟨j, hj, rfl, rfl, hb⟩ := hrel
    by_cases hlt : j < l.length
    · obtain ⟨g, o, rfl, hg, y, hy, hv⟩ := h4.at_ hlt
      have hy' := hy.below hg hb
      obtain ⟨c0, c1, c2, c3, c4, c5⟩ := hy'
      obtain ⟨ka', kc', la', lc', rfl, h1', h2', h3', h4'⟩ := hv.open
      have hr := Lib.hid fun w' (hb' : Below w.heap.size w w') => ih l[j] (List.getElem_mem hlt) _ w' (Is.below hb' _ _ hv) (Nat.le_trans (bulk_le_of_mem (List.getElem_mem hlt)) hbl)
      have hs := Lib.hid (deeps_snoc' l j hlt)
      have HM := max_nat' (V.deeps (l.take j)) l[j].deep
      simp only [X.v] at *
      generalize l[j] = u at *
      clear hv hy
      go_wp2_with fail
      refine (hr.out _ (hb.alloc (by have := hb.size; omega) _)).mono ?_
      rintro e w1 ⟨rfl, hb1⟩
      have hb2 := (hb.alloc (B := w.heap.size) (by have := hb.size; omega) (.cells #[.int .i64 u.k, .string u.nm, .int .i64 u.n, .string u.s, .slice ka' u.ks.length kc', .slice la' u.l.length lc'] 25)).trans (hb1.mono (by have := hb.size; simp; omega))
      clear c0 c1 c2 c3 c4 c5 hb1 hb
      go_wp2
      go_roundw
      case rel => exact ⟨j + 1, by omega, by go_num, by rw [hs.out], hb2⟩
      case measure => simp [intOf]; omega
    · obtain rfl : j = l.length := by omega
      rw [List.take_length]
      go_wp2
      go_ret
      exact ⟨by rw [V.deep]; rfl, hb⟩
theorem refIsTarget_any : Pred 110 isTg := by
  intro v x w h
  obtain ⟨ka, kc, la, lc, rfl, h1, h2, h3, h4⟩ := h.open
  have HV : Hid (isTg v = decide (v.k = 3 ∨ v.k = 11 ∨ v.k = 12)) := Lib.hid rfl
  clear h h1 h2 h3 h4
  simp only [X.v]
  generalize v.nm = nm at *
  generalize v.n = n at *
  generalize v.s = s at *
  generalize v.ks.length = kn at *
  generalize v.l.length = ln at *
  generalize v.k = k at *
  by_cases h3 : k = 3
  · rw [decide_eq_true (.inl h3)] at HV
    subst h3
    go_enter Try.func110, Try.ntmps110
    go_wp2_with fail
    go_ret
    exact ⟨by rw [HV.out]; rfl, below_alloc w _⟩
  · by_cases h11 : k = 11
    · rw [decide_eq_true (.inr (.inl h11))] at HV
      subst h11
      go_enter Try.func110, Try.ntmps110
      go_wp2_with fail
      go_ret
      exact ⟨by rw [HV.out]; rfl, below_alloc w _⟩
    · by_cases h12 : k = 12
      · rw [decide_eq_true (.inr (.inr h12))] at HV
        subst h12
        go_enter Try.func110, Try.ntmps110
        go_wp2_with fail
        go_ret
        exact ⟨by rw [HV.out]; rfl, below_alloc w _⟩
      · rw [decide_eq_false (by omega)] at HV
        have b3 : (k == 3) = false := by rw [beq_eq_false_iff_ne]; exact h3
        have b11 : (k == 11) = false := by rw [beq_eq_false_iff_ne]; exact h11
        have b12 : (k == 12) = false := by rw [beq_eq_false_iff_ne]; exact h12
        clear h3 h11 h12
        go_enter Try.func110, Try.ntmps110
        go_wp2_with fail
        go_ret
        exact ⟨by rw [HV.out]; rfl, below_alloc w _⟩
end Go.Proofs.Ytgehgccgologpaa.R
namespace Go.Proofs.Ytgehgccgologpaa.R
open Go.RowKit Go.Proofs.Ytgehgccgologpaa Go.Proofs.Ytgehgccgologpaa.T
set_option maxRecDepth 8000 in
set_option maxHeartbeats 4000000 in
theorem loop_29 (v a b c d : V) (p0 p1 p2 q0 q1 r0 r1 s : Bool) (hk : v.k = 29) (hl : v.l = [a, b, c, d]) (H1 : Tells 78 a p0) (H2 : Tells 79 a p1) (H3 : Tells 83 a p2)
    (H4 : Tells 79 b q0) (H5 : Tells 83 b q1) (H6 : Tells 79 c r0) (H7 : Tells 83 c r1) (H8 : Tells 80 d s) :
    Tells 81 v ((p0 || (p1 || p2)) && ((q0 || q1) && ((r0 || r1) && s))) := by
  intro x w h
  obtain ⟨xka, xkc, xla, xlc, rfl, -, -, -, hrow⟩ := h.open
  obtain ⟨W0, hW0⟩ : ∃ W0, w.alloc (.cells #[.int .i64 v.k, .string v.nm, .int .i64 v.n, .string v.s, .slice xka v.ks.length xkc, .slice xla v.l.length xlc] 25) = W0 := ⟨_, rfl⟩
  have HB0 : Hid (Below w.heap.size w W0) := by rw [← hW0]; exact below_alloc _ _
  have HBX := Lib.hid (below_alloc w)
  have HW0 := Lib.hid hW0
  obtain ⟨g, o, y0, rfl, hg, hy0⟩ := kid_at hrow 0 (by rw [hl]; simp)
  obtain ⟨g', o', y1, e, -, hy1⟩ := kid_at hrow 1 (by rw [hl]; simp)
  injection e with e
  injection e with e1 e2
  subst e1 e2
  obtain ⟨g', o', y2, e, -, hy2⟩ := kid_at hrow 2 (by rw [hl]; simp)
  injection e with e
  injection e with e1 e2
  subst e1 e2
  obtain ⟨g', o', y3, e, -, hy3⟩ := kid_at hrow 3 (by rw [hl]; simp)
  injection e with e
  injection e with e1 e2
  subst e1 e2
  have e0 : v.l[0]'(by rw [hl]; simp) = a := by simp [hl]
  have HY0 : Hid (∀ w', Below w.heap.size w w' → At w' g (o) y0) := fun w' hb => (hy0 w' hb).1
  have HI0 : Hid (∀ w', Below w.heap.size w w' → Is w' a y0) := fun w' hb => by have := (hy0 w' hb).2; rwa [e0] at this
  have e1 : v.l[1]'(by rw [hl]; simp) = b := by simp [hl]
  have HY1 : Hid (∀ w', Below w.heap.size w w' → At w' g (o + 6) y1) := fun w' hb => (hy1 w' hb).1
  have HI1 : Hid (∀ w', Below w.heap.size w w' → Is w' b y1) := fun w' hb => by have := (hy1 w' hb).2; rwa [e1] at this
  have e2 : v.l[2]'(by rw [hl]; simp) = c := by simp [hl]
  have HY2 : Hid (∀ w', Below w.heap.size w w' → At w' g (o + 12) y2) := fun w' hb => (hy2 w' hb).1
  have HI2 : Hid (∀ w', Below w.heap.size w w' → Is w' c y2) := fun w' hb => by have := (hy2 w' hb).2; rwa [e2] at this
  have e3 : v.l[3]'(by rw [hl]; simp) = d := by simp [hl]
  have HY3 : Hid (∀ w', Below w.heap.size w w' → At w' g (o + 18) y3) := fun w' hb => (hy3 w' hb).1
  have HI3 : Hid (∀ w', Below w.heap.size w w' → Is w' d y3) := fun w' hb => by have := (hy3 w' hb).2; rwa [e3] at this
  have hlen : v.l.length = 4 := by rw [hl]; rfl
  have TH1 : Hid (∀ w', Below w.heap.size w w' → Calls Try.prog 78 #[y0.v] w' fun e w'' => e = .returned (.bool p0) ∧ Below w'.heap.size w' w'') := fun w' hb => H1 y0 w' (HI0.out w' hb)
  have TH2 : Hid (∀ w', Below w.heap.size w w' → Calls Try.prog 79 #[y0.v] w' fun e w'' => e = .returned (.bool p1) ∧ Below w'.heap.size w' w'') := fun w' hb => H2 y0 w' (HI0.out w' hb)
  have TH3 : Hid (∀ w', Below w.heap.size w w' → Calls Try.prog 83 #[y0.v] w' fun e w'' => e = .returned (.bool p2) ∧ Below w'.heap.size w' w'') := fun w' hb => H3 y0 w' (HI0.out w' hb)
  have TH4 : Hid (∀ w', Below w.heap.size w w' → Calls Try.prog 79 #[y1.v] w' fun e w'' => e = .returned (.bool q0) ∧ Below w'.heap.size w' w'') := fun w' hb => H4 y1 w' (HI1.out w' hb)
  have TH5 : Hid (∀ w', Below w.heap.size w w' → Calls Try.prog 83 #[y1.v] w' fun e w'' => e = .returned (.bool q1) ∧ Below w'.heap.size w' w'') := fun w' hb => H5 y1 w' (HI1.out w' hb)
  have TH6 : Hid (∀ w', Below w.heap.size w w' → Calls Try.prog 79 #[y2.v] w' fun e w'' => e = .returned (.bool r0) ∧ Below w'.heap.size w' w'') := fun w' hb => H6 y2 w' (HI2.out w' hb)
  have TH7 : Hid (∀ w', Below w.heap.size w w' → Calls Try.prog 83 #[y2.v] w' fun e w'' => e = .returned (.bool r1) ∧ Below w'.heap.size w' w'') := fun w' hb => H7 y2 w' (HI2.out w' hb)
  have TH8 : Hid (∀ w', Below w.heap.size w w' → Calls Try.prog 80 #[y3.v] w' fun e w'' => e = .returned (.bool s) ∧ Below w'.heap.size w' w'') := fun w' hb => H8 y3 w' (HI3.out w' hb)
  simp only [X.v] at TH1 TH2 TH3 TH4 TH5 TH6 TH7 TH8 ⊢
  rw [hk, hlen] at HW0 ⊢
  clear h hrow hW0 hk hlen hl hg e0 hy0 HI0 e1 hy1 HI1 e2 hy2 HI2 e3 hy3 HI3 H1 H2 H3 H4 H5 H6 H7 H8
  obtain ⟨yk0, ynm0, yn0, ys0, yka0, ykn0, ykc0, yla0, yln0, ylc0⟩ := y0
  obtain ⟨yk1, ynm1, yn1, ys1, yka1, ykn1, ykc1, yla1, yln1, ylc1⟩ := y1
  obtain ⟨yk2, ynm2, yn2, ys2, yka2, ykn2, ykc2, yla2, yln2, ylc2⟩ := y2
  obtain ⟨yk3, ynm3, yn3, ys3, yka3, ykn3, ykc3, yla3, yln3, ylc3⟩ := y3
  obtain ⟨c00, c01, c02, c03, c04, c05⟩ := HY0.out _ (HBX.out (.cells #[.int .i64 29, .string v.nm, .int .i64 v.n, .string v.s, .slice xka v.ks.length xkc, .slice (some ⟨g, o, none⟩) 4 xlc] 25))
  dsimp only at c00 c01 c02 c03 c04 c05
  obtain ⟨c10, c11, c12, c13, c14, c15⟩ := HY1.out _ (HBX.out (.cells #[.int .i64 29, .string v.nm, .int .i64 v.n, .string v.s, .slice xka v.ks.length xkc, .slice (some ⟨g, o, none⟩) 4 xlc] 25))
  dsimp only at c10 c11 c12 c13 c14 c15
  obtain ⟨c20, c21, c22, c23, c24, c25⟩ := HY2.out _ (HBX.out (.cells #[.int .i64 29, .string v.nm, .int .i64 v.n, .string v.s, .slice xka v.ks.length xkc, .slice (some ⟨g, o, none⟩) 4 xlc] 25))
  dsimp only at c20 c21 c22 c23 c24 c25
  obtain ⟨c30, c31, c32, c33, c34, c35⟩ := HY3.out _ (HBX.out (.cells #[.int .i64 29, .string v.nm, .int .i64 v.n, .string v.s, .slice xka v.ks.length xkc, .slice (some ⟨g, o, none⟩) 4 xlc] 25))
  dsimp only at c30 c31 c32 c33 c34 c35
  go_enter Try.func81, Try.ntmps81
  go_wp2_with fail
  rw [HW0.out]
  clear c00 c01 c02 c03 c04 c05 c10 c11 c12 c13 c14 c15 c20 c21 c22 c23 c24 c25 c30 c31 c32 c33 c34 c35
  refine (TH1.out _ HB0.out).mono ?_
  rintro e w1 ⟨rfl, hb1⟩
  have HB1 := Lib.hid (HB0.out.trans (hb1.mono HB0.out.size))
  clear hb1
  obtain ⟨c00, c01, c02, c03, c04, c05⟩ := HY0.out _ HB1.out
  dsimp only at c00 c01 c02 c03 c04 c05
  obtain ⟨c10, c11, c12, c13, c14, c15⟩ := HY1.out _ HB1.out
  dsimp only at c10 c11 c12 c13 c14 c15
  obtain ⟨c20, c21, c22, c23, c24, c25⟩ := HY2.out _ HB1.out
  dsimp only at c20 c21 c22 c23 c24 c25
  obtain ⟨c30, c31, c32, c33, c34, c35⟩ := HY3.out _ HB1.out
  dsimp only at c30 c31 c32 c33 c34 c35
  cases p0
  ·
    skip
    go_wp2_with fail
    clear c00 c01 c02 c03 c04 c05 c10 c11 c12 c13 c14 c15 c20 c21 c22 c23 c24 c25 c30 c31 c32 c33 c34 c35
    refine (TH2.out _ HB1.out).mono ?_
    rintro e w2 ⟨rfl, hb2⟩
    have HB2 := Lib.hid (HB1.out.trans (hb2.mono HB1.out.size))
    clear hb2
    obtain ⟨c00, c01, c02, c03, c04, c05⟩ := HY0.out _ HB2.out
    dsimp only at c00 c01 c02 c03 c04 c05
    obtain ⟨c10, c11, c12, c13, c14, c15⟩ := HY1.out _ HB2.out
    dsimp only at c10 c11 c12 c13 c14 c15
    obtain ⟨c20, c21, c22, c23, c24, c25⟩ := HY2.out _ HB2.out
    dsimp only at c20 c21 c22 c23 c24 c25
    obtain ⟨c30, c31, c32, c33, c34, c35⟩ := HY3.out _ HB2.out
    dsimp only at c30 c31 c32 c33 c34 c35
    cases p1
    ·
      skip
      go_wp2_with fail
      clear c00 c01 c02 c03 c04 c05 c10 c11 c12 c13 c14 c15 c20 c21 c22 c23 c24 c25 c30 c31 c32 c33 c34 c35
      refine (TH3.out _ HB2.out).mono ?_
      rintro e w3 ⟨rfl, hb3⟩
      have HB3 := Lib.hid (HB2.out.trans (hb3.mono HB2.out.size))
      clear hb3
      obtain ⟨c00, c01, c02, c03, c04, c05⟩ := HY0.out _ HB3.out
      dsimp only at c00 c01 c02 c03 c04 c05
      obtain ⟨c10, c11, c12, c13, c14, c15⟩ := HY1.out _ HB3.out
      dsimp only at c10 c11 c12 c13 c14 c15
      obtain ⟨c20, c21, c22, c23, c24, c25⟩ := HY2.out _ HB3.out
      dsimp only at c20 c21 c22 c23 c24 c25
      obtain ⟨c30, c31, c32, c33, c34, c35⟩ := HY3.out _ HB3.out
      dsimp only at c30 c31 c32 c33 c34 c35
      cases p2
      ·
        skip
        go_wp2_with fail
        go_ret
        exact ⟨rfl, HB3.out⟩
      ·
        skip
        go_wp2_with fail
        clear c00 c01 c02 c03 c04 c05 c10 c11 c12 c13 c14 c15 c20 c21 c22 c23 c24 c25 c30 c31 c32 c33 c34 c35
        refine (TH4.out _ HB3.out).mono ?_
        rintro e w4 ⟨rfl, hb4⟩
        have HB4 := Lib.hid (HB3.out.trans (hb4.mono HB3.out.size))
        clear hb4
        obtain ⟨c00, c01, c02, c03, c04, c05⟩ := HY0.out _ HB4.out
        dsimp only at c00 c01 c02 c03 c04 c05
        obtain ⟨c10, c11, c12, c13, c14, c15⟩ := HY1.out _ HB4.out
        dsimp only at c10 c11 c12 c13 c14 c15
        obtain ⟨c20, c21, c22, c23, c24, c25⟩ := HY2.out _ HB4.out
        dsimp only at c20 c21 c22 c23 c24 c25
        obtain ⟨c30, c31, c32, c33, c34, c35⟩ := HY3.out _ HB4.out
        dsimp only at c30 c31 c32 c33 c34 c35
        cases q0
        ·
          skip
          go_wp2_with fail
          clear c00 c01 c02 c03 c04 c05 c10 c11 c12 c13 c14 c15 c20 c21 c22 c23 c24 c25 c30 c31 c32 c33 c34 c35
          refine (TH5.out _ HB4.out).mono ?_
          rintro e w5 ⟨rfl, hb5⟩
          have HB5 := Lib.hid (HB4.out.trans (hb5.mono HB4.out.size))
          clear hb5
          obtain ⟨c00, c01, c02, c03, c04, c05⟩ := HY0.out _ HB5.out
          dsimp only at c00 c01 c02 c03 c04 c05
          obtain ⟨c10, c11, c12, c13, c14, c15⟩ := HY1.out _ HB5.out
          dsimp only at c10 c11 c12 c13 c14 c15
          obtain ⟨c20, c21, c22, c23, c24, c25⟩ := HY2.out _ HB5.out
          dsimp only at c20 c21 c22 c23 c24 c25
          obtain ⟨c30, c31, c32, c33, c34, c35⟩ := HY3.out _ HB5.out
          dsimp only at c30 c31 c32 c33 c34 c35
          cases q1
          ·
            skip
            go_wp2_with fail
            go_ret
            exact ⟨rfl, HB5.out⟩
          ·
            skip
            go_wp2_with fail
            clear c00 c01 c02 c03 c04 c05 c10 c11 c12 c13 c14 c15 c20 c21 c22 c23 c24 c25 c30 c31 c32 c33 c34 c35
            refine (TH6.out _ HB5.out).mono ?_
            rintro e w6 ⟨rfl, hb6⟩
            have HB6 := Lib.hid (HB5.out.trans (hb6.mono HB5.out.size))
            clear hb6
            obtain ⟨c00, c01, c02, c03, c04, c05⟩ := HY0.out _ HB6.out
            dsimp only at c00 c01 c02 c03 c04 c05
            obtain ⟨c10, c11, c12, c13, c14, c15⟩ := HY1.out _ HB6.out
            dsimp only at c10 c11 c12 c13 c14 c15
            obtain ⟨c20, c21, c22, c23, c24, c25⟩ := HY2.out _ HB6.out
            dsimp only at c20 c21 c22 c23 c24 c25
            obtain ⟨c30, c31, c32, c33, c34, c35⟩ := HY3.out _ HB6.out
            dsimp only at c30 c31 c32 c33 c34 c35
            cases r0
            ·
              skip
              go_wp2_with fail
              clear c00 c01 c02 c03 c04 c05 c10 c11 c12 c13 c14 c15 c20 c21 c22 c23 c24 c25 c30 c31 c32 c33 c34 c35
              refine (TH7.out _ HB6.out).mono ?_
              rintro e w7 ⟨rfl, hb7⟩
              have HB7 := Lib.hid (HB6.out.trans (hb7.mono HB6.out.size))
              clear hb7
              obtain ⟨c00, c01, c02, c03, c04, c05⟩ := HY0.out _ HB7.out
              dsimp only at c00 c01 c02 c03 c04 c05
              obtain ⟨c10, c11, c12, c13, c14, c15⟩ := HY1.out _ HB7.out
              dsimp only at c10 c11 c12 c13 c14 c15
              obtain ⟨c20, c21, c22, c23, c24, c25⟩ := HY2.out _ HB7.out
              dsimp only at c20 c21 c22 c23 c24 c25
              obtain ⟨c30, c31, c32, c33, c34, c35⟩ := HY3.out _ HB7.out
              dsimp only at c30 c31 c32 c33 c34 c35
              cases r1
              ·
                skip
                go_wp2_with fail
                go_ret
                exact ⟨rfl, HB7.out⟩
              ·
                skip
                go_wp2_with fail
                clear c00 c01 c02 c03 c04 c05 c10 c11 c12 c13 c14 c15 c20 c21 c22 c23 c24 c25 c30 c31 c32 c33 c34 c35
                refine (TH8.out _ HB7.out).mono ?_
                rintro e w8 ⟨rfl, hb8⟩
                have HB8 := Lib.hid (HB7.out.trans (hb8.mono HB7.out.size))
                clear hb8
                obtain ⟨c00, c01, c02, c03, c04, c05⟩ := HY0.out _ HB8.out
                dsimp only at c00 c01 c02 c03 c04 c05
                obtain ⟨c10, c11, c12, c13, c14, c15⟩ := HY1.out _ HB8.out
                dsimp only at c10 c11 c12 c13 c14 c15
                obtain ⟨c20, c21, c22, c23, c24, c25⟩ := HY2.out _ HB8.out
                dsimp only at c20 c21 c22 c23 c24 c25
                obtain ⟨c30, c31, c32, c33, c34, c35⟩ := HY3.out _ HB8.out
                dsimp only at c30 c31 c32 c33 c34 c35
                cases s
                ·
                  skip
                  go_wp2_with fail
                  go_ret
                  exact ⟨rfl, HB8.out⟩
                ·
                  skip
                  go_wp2_with fail
                  go_ret
                  exact ⟨rfl, HB8.out⟩
            ·
              skip
              go_wp2_with fail
              clear c00 c01 c02 c03 c04 c05 c10 c11 c12 c13 c14 c15 c20 c21 c22 c23 c24 c25 c30 c31 c32 c33 c34 c35
              refine (TH8.out _ HB6.out).mono ?_
              rintro e w7 ⟨rfl, hb7⟩
              have HB7 := Lib.hid (HB6.out.trans (hb7.mono HB6.out.size))
              clear hb7
              obtain ⟨c00, c01, c02, c03, c04, c05⟩ := HY0.out _ HB7.out
              dsimp only at c00 c01 c02 c03 c04 c05
              obtain ⟨c10, c11, c12, c13, c14, c15⟩ := HY1.out _ HB7.out
              dsimp only at c10 c11 c12 c13 c14 c15
              obtain ⟨c20, c21, c22, c23, c24, c25⟩ := HY2.out _ HB7.out
              dsimp only at c20 c21 c22 c23 c24 c25
              obtain ⟨c30, c31, c32, c33, c34, c35⟩ := HY3.out _ HB7.out
              dsimp only at c30 c31 c32 c33 c34 c35
              cases s
              ·
                skip
                go_wp2_with fail
                go_ret
                exact ⟨rfl, HB7.out⟩
              ·
                skip
                go_wp2_with fail
                go_ret
                exact ⟨rfl, HB7.out⟩
        ·
          skip
          go_wp2_with fail
          clear c00 c01 c02 c03 c04 c05 c10 c11 c12 c13 c14 c15 c20 c21 c22 c23 c24 c25 c30 c31 c32 c33 c34 c35
          refine (TH6.out _ HB4.out).mono ?_
          rintro e w5 ⟨rfl, hb5⟩
          have HB5 := Lib.hid (HB4.out.trans (hb5.mono HB4.out.size))
          clear hb5
          obtain ⟨c00, c01, c02, c03, c04, c05⟩ := HY0.out _ HB5.out
          dsimp only at c00 c01 c02 c03 c04 c05
          obtain ⟨c10, c11, c12, c13, c14, c15⟩ := HY1.out _ HB5.out
          dsimp only at c10 c11 c12 c13 c14 c15
          obtain ⟨c20, c21, c22, c23, c24, c25⟩ := HY2.out _ HB5.out
          dsimp only at c20 c21 c22 c23 c24 c25
          obtain ⟨c30, c31, c32, c33, c34, c35⟩ := HY3.out _ HB5.out
          dsimp only at c30 c31 c32 c33 c34 c35
          cases r0
          ·
            skip
            go_wp2_with fail
            clear c00 c01 c02 c03 c04 c05 c10 c11 c12 c13 c14 c15 c20 c21 c22 c23 c24 c25 c30 c31 c32 c33 c34 c35
            refine (TH7.out _ HB5.out).mono ?_
            rintro e w6 ⟨rfl, hb6⟩
            have HB6 := Lib.hid (HB5.out.trans (hb6.mono HB5.out.size))
            clear hb6
            obtain ⟨c00, c01, c02, c03, c04, c05⟩ := HY0.out _ HB6.out
            dsimp only at c00 c01 c02 c03 c04 c05
            obtain ⟨c10, c11, c12, c13, c14, c15⟩ := HY1.out _ HB6.out
            dsimp only at c10 c11 c12 c13 c14 c15
            obtain ⟨c20, c21, c22, c23, c24, c25⟩ := HY2.out _ HB6.out
            dsimp only at c20 c21 c22 c23 c24 c25
            obtain ⟨c30, c31, c32, c33, c34, c35⟩ := HY3.out _ HB6.out
            dsimp only at c30 c31 c32 c33 c34 c35
            cases r1
            ·
              skip
              go_wp2_with fail
              go_ret
              exact ⟨rfl, HB6.out⟩
            ·
              skip
              go_wp2_with fail
              clear c00 c01 c02 c03 c04 c05 c10 c11 c12 c13 c14 c15 c20 c21 c22 c23 c24 c25 c30 c31 c32 c33 c34 c35
              refine (TH8.out _ HB6.out).mono ?_
              rintro e w7 ⟨rfl, hb7⟩
              have HB7 := Lib.hid (HB6.out.trans (hb7.mono HB6.out.size))
              clear hb7
              obtain ⟨c00, c01, c02, c03, c04, c05⟩ := HY0.out _ HB7.out
              dsimp only at c00 c01 c02 c03 c04 c05
              obtain ⟨c10, c11, c12, c13, c14, c15⟩ := HY1.out _ HB7.out
              dsimp only at c10 c11 c12 c13 c14 c15
              obtain ⟨c20, c21, c22, c23, c24, c25⟩ := HY2.out _ HB7.out
              dsimp only at c20 c21 c22 c23 c24 c25
              obtain ⟨c30, c31, c32, c33, c34, c35⟩ := HY3.out _ HB7.out
              dsimp only at c30 c31 c32 c33 c34 c35
              cases s
              ·
                skip
                go_wp2_with fail
                go_ret
                exact ⟨rfl, HB7.out⟩
              ·
                skip
                go_wp2_with fail
                go_ret
                exact ⟨rfl, HB7.out⟩
          ·
            skip
            go_wp2_with fail
            clear c00 c01 c02 c03 c04 c05 c10 c11 c12 c13 c14 c15 c20 c21 c22 c23 c24 c25 c30 c31 c32 c33 c34 c35
            refine (TH8.out _ HB5.out).mono ?_
            rintro e w6 ⟨rfl, hb6⟩
            have HB6 := Lib.hid (HB5.out.trans (hb6.mono HB5.out.size))
            clear hb6
            obtain ⟨c00, c01, c02, c03, c04, c05⟩ := HY0.out _ HB6.out
            dsimp only at c00 c01 c02 c03 c04 c05
            obtain ⟨c10, c11, c12, c13, c14, c15⟩ := HY1.out _ HB6.out
            dsimp only at c10 c11 c12 c13 c14 c15
            obtain ⟨c20, c21, c22, c23, c24, c25⟩ := HY2.out _ HB6.out
            dsimp only at c20 c21 c22 c23 c24 c25
            obtain ⟨c30, c31, c32, c33, c34, c35⟩ := HY3.out _ HB6.out
            dsimp only at c30 c31 c32 c33 c34 c35
            cases s
            ·
              skip
              go_wp2_with fail
              go_ret
              exact ⟨rfl, HB6.out⟩
            ·
              skip
              go_wp2_with fail
              go_ret
              exact ⟨rfl, HB6.out⟩
    ·
      skip
      go_wp2_with fail
      clear c00 c01 c02 c03 c04 c05 c10 c11 c12 c13 c14 c15 c20 c21 c22 c23 c24 c25 c30 c31 c32 c33 c34 c35
      refine (TH4.out _ HB2.out).mono ?_
      rintro e w3 ⟨rfl, hb3⟩
      have HB3 := Lib.hid (HB2.out.trans (hb3.mono HB2.out.size))
      clear hb3
      obtain ⟨c00, c01, c02, c03, c04, c05⟩ := HY0.out _ HB3.out
      dsimp only at c00 c01 c02 c03 c04 c05
      obtain ⟨c10, c11, c12, c13, c14, c15⟩ := HY1.out _ HB3.out
      dsimp only at c10 c11 c12 c13 c14 c15
      obtain ⟨c20, c21, c22, c23, c24, c25⟩ := HY2.out _ HB3.out
      dsimp only at c20 c21 c22 c23 c24 c25
      obtain ⟨c30, c31, c32, c33, c34, c35⟩ := HY3.out _ HB3.out
      dsimp only at c30 c31 c32 c33 c34 c35
      cases q0
      ·
        skip
        go_wp2_with fail
        clear c00 c01 c02 c03 c04 c05 c10 c11 c12 c13 c14 c15 c20 c21 c22 c23 c24 c25 c30 c31 c32 c33 c34 c35
        refine (TH5.out _ HB3.out).mono ?_
        rintro e w4 ⟨rfl, hb4⟩
        have HB4 := Lib.hid (HB3.out.trans (hb4.mono HB3.out.size))
        clear hb4
        obtain ⟨c00, c01, c02, c03, c04, c05⟩ := HY0.out _ HB4.out
        dsimp only at c00 c01 c02 c03 c04 c05
        obtain ⟨c10, c11, c12, c13, c14, c15⟩ := HY1.out _ HB4.out
        dsimp only at c10 c11 c12 c13 c14 c15
        obtain ⟨c20, c21, c22, c23, c24, c25⟩ := HY2.out _ HB4.out
        dsimp only at c20 c21 c22 c23 c24 c25
        obtain ⟨c30, c31, c32, c33, c34, c35⟩ := HY3.out _ HB4.out
        dsimp only at c30 c31 c32 c33 c34 c35
        cases q1
        ·
          skip
          go_wp2_with fail
          go_ret
          exact ⟨rfl, HB4.out⟩
        ·
          skip
          go_wp2_with fail
          clear c00 c01 c02 c03 c04 c05 c10 c11 c12 c13 c14 c15 c20 c21 c22 c23 c24 c25 c30 c31 c32 c33 c34 c35
          refine (TH6.out _ HB4.out).mono ?_
          rintro e w5 ⟨rfl, hb5⟩
          have HB5 := Lib.hid (HB4.out.trans (hb5.mono HB4.out.size))
          clear hb5
          obtain ⟨c00, c01, c02, c03, c04, c05⟩ := HY0.out _ HB5.out
          dsimp only at c00 c01 c02 c03 c04 c05
          obtain ⟨c10, c11, c12, c13, c14, c15⟩ := HY1.out _ HB5.out
          dsimp only at c10 c11 c12 c13 c14 c15
          obtain ⟨c20, c21, c22, c23, c24, c25⟩ := HY2.out _ HB5.out
          dsimp only at c20 c21 c22 c23 c24 c25
          obtain ⟨c30, c31, c32, c33, c34, c35⟩ := HY3.out _ HB5.out
          dsimp only at c30 c31 c32 c33 c34 c35
          cases r0
          ·
            skip
            go_wp2_with fail
            clear c00 c01 c02 c03 c04 c05 c10 c11 c12 c13 c14 c15 c20 c21 c22 c23 c24 c25 c30 c31 c32 c33 c34 c35
            refine (TH7.out _ HB5.out).mono ?_
            rintro e w6 ⟨rfl, hb6⟩
            have HB6 := Lib.hid (HB5.out.trans (hb6.mono HB5.out.size))
            clear hb6
            obtain ⟨c00, c01, c02, c03, c04, c05⟩ := HY0.out _ HB6.out
            dsimp only at c00 c01 c02 c03 c04 c05
            obtain ⟨c10, c11, c12, c13, c14, c15⟩ := HY1.out _ HB6.out
            dsimp only at c10 c11 c12 c13 c14 c15
            obtain ⟨c20, c21, c22, c23, c24, c25⟩ := HY2.out _ HB6.out
            dsimp only at c20 c21 c22 c23 c24 c25
            obtain ⟨c30, c31, c32, c33, c34, c35⟩ := HY3.out _ HB6.out
            dsimp only at c30 c31 c32 c33 c34 c35
            cases r1
            ·
              skip
              go_wp2_with fail
              go_ret
              exact ⟨rfl, HB6.out⟩
            ·
              skip
              go_wp2_with fail
              clear c00 c01 c02 c03 c04 c05 c10 c11 c12 c13 c14 c15 c20 c21 c22 c23 c24 c25 c30 c31 c32 c33 c34 c35
              refine (TH8.out _ HB6.out).mono ?_
              rintro e w7 ⟨rfl, hb7⟩
              have HB7 := Lib.hid (HB6.out.trans (hb7.mono HB6.out.size))
              clear hb7
              obtain ⟨c00, c01, c02, c03, c04, c05⟩ := HY0.out _ HB7.out
              dsimp only at c00 c01 c02 c03 c04 c05
              obtain ⟨c10, c11, c12, c13, c14, c15⟩ := HY1.out _ HB7.out
              dsimp only at c10 c11 c12 c13 c14 c15
              obtain ⟨c20, c21, c22, c23, c24, c25⟩ := HY2.out _ HB7.out
              dsimp only at c20 c21 c22 c23 c24 c25
              obtain ⟨c30, c31, c32, c33, c34, c35⟩ := HY3.out _ HB7.out
              dsimp only at c30 c31 c32 c33 c34 c35
              cases s
              ·
                skip
                go_wp2_with fail
                go_ret
                exact ⟨rfl, HB7.out⟩
              ·
                skip
                go_wp2_with fail
                go_ret
                exact ⟨rfl, HB7.out⟩
          ·
            skip
            go_wp2_with fail
            clear c00 c01 c02 c03 c04 c05 c10 c11 c12 c13 c14 c15 c20 c21 c22 c23 c24 c25 c30 c31 c32 c33 c34 c35
            refine (TH8.out _ HB5.out).mono ?_
            rintro e w6 ⟨rfl, hb6⟩
            have HB6 := Lib.hid (HB5.out.trans (hb6.mono HB5.out.size))
            clear hb6
            obtain ⟨c00, c01, c02, c03, c04, c05⟩ := HY0.out _ HB6.out
            dsimp only at c00 c01 c02 c03 c04 c05
            obtain ⟨c10, c11, c12, c13, c14, c15⟩ := HY1.out _ HB6.out
            dsimp only at c10 c11 c12 c13 c14 c15
            obtain ⟨c20, c21, c22, c23, c24, c25⟩ := HY2.out _ HB6.out
            dsimp only at c20 c21 c22 c23 c24 c25
            obtain ⟨c30, c31, c32, c33, c34, c35⟩ := HY3.out _ HB6.out
            dsimp only at c30 c31 c32 c33 c34 c35
            cases s
            ·
              skip
              go_wp2_with fail
              go_ret
              exact ⟨rfl, HB6.out⟩
            ·
              skip
              go_wp2_with fail
              go_ret
              exact ⟨rfl, HB6.out⟩
      ·
        skip
        go_wp2_with fail
        clear c00 c01 c02 c03 c04 c05 c10 c11 c12 c13 c14 c15 c20 c21 c22 c23 c24 c25 c30 c31 c32 c33 c34 c35
        refine (TH6.out _ HB3.out).mono ?_
        rintro e w4 ⟨rfl, hb4⟩
        have HB4 := Lib.hid (HB3.out.trans (hb4.mono HB3.out.size))
        clear hb4
        obtain ⟨c00, c01, c02, c03, c04, c05⟩ := HY0.out _ HB4.out
        dsimp only at c00 c01 c02 c03 c04 c05
        obtain ⟨c10, c11, c12, c13, c14, c15⟩ := HY1.out _ HB4.out
        dsimp only at c10 c11 c12 c13 c14 c15
        obtain ⟨c20, c21, c22, c23, c24, c25⟩ := HY2.out _ HB4.out
        dsimp only at c20 c21 c22 c23 c24 c25
        obtain ⟨c30, c31, c32, c33, c34, c35⟩ := HY3.out _ HB4.out
        dsimp only at c30 c31 c32 c33 c34 c35
        cases r0
        ·
          skip
          go_wp2_with fail
          clear c00 c01 c02 c03 c04 c05 c10 c11 c12 c13 c14 c15 c20 c21 c22 c23 c24 c25 c30 c31 c32 c33 c34 c35
          refine (TH7.out _ HB4.out).mono ?_
          rintro e w5 ⟨rfl, hb5⟩
          have HB5 := Lib.hid (HB4.out.trans (hb5.mono HB4.out.size))
          clear hb5
          obtain ⟨c00, c01, c02, c03, c04, c05⟩ := HY0.out _ HB5.out
          dsimp only at c00 c01 c02 c03 c04 c05
          obtain ⟨c10, c11, c12, c13, c14, c15⟩ := HY1.out _ HB5.out
          dsimp only at c10 c11 c12 c13 c14 c15
          obtain ⟨c20, c21, c22, c23, c24, c25⟩ := HY2.out _ HB5.out
          dsimp only at c20 c21 c22 c23 c24 c25
          obtain ⟨c30, c31, c32, c33, c34, c35⟩ := HY3.out _ HB5.out
          dsimp only at c30 c31 c32 c33 c34 c35
          cases r1
          ·
            skip
            go_wp2_with fail
            go_ret
            exact ⟨rfl, HB5.out⟩
          ·
            skip
            go_wp2_with fail
            clear c00 c01 c02 c03 c04 c05 c10 c11 c12 c13 c14 c15 c20 c21 c22 c23 c24 c25 c30 c31 c32 c33 c34 c35
            refine (TH8.out _ HB5.out).mono ?_
            rintro e w6 ⟨rfl, hb6⟩
            have HB6 := Lib.hid (HB5.out.trans (hb6.mono HB5.out.size))
            clear hb6
            obtain ⟨c00, c01, c02, c03, c04, c05⟩ := HY0.out _ HB6.out
            dsimp only at c00 c01 c02 c03 c04 c05
            obtain ⟨c10, c11, c12, c13, c14, c15⟩ := HY1.out _ HB6.out
            dsimp only at c10 c11 c12 c13 c14 c15
            obtain ⟨c20, c21, c22, c23, c24, c25⟩ := HY2.out _ HB6.out
            dsimp only at c20 c21 c22 c23 c24 c25
            obtain ⟨c30, c31, c32, c33, c34, c35⟩ := HY3.out _ HB6.out
            dsimp only at c30 c31 c32 c33 c34 c35
            cases s
            ·
              skip
              go_wp2_with fail
              go_ret
              exact ⟨rfl, HB6.out⟩
            ·
              skip
              go_wp2_with fail
              go_ret
              exact ⟨rfl, HB6.out⟩
        ·
          skip
          go_wp2_with fail
          clear c00 c01 c02 c03 c04 c05 c10 c11 c12 c13 c14 c15 c20 c21 c22 c23 c24 c25 c30 c31 c32 c33 c34 c35
          refine (TH8.out _ HB4.out).mono ?_
          rintro e w5 ⟨rfl, hb5⟩
          have HB5 := Lib.hid (HB4.out.trans (hb5.mono HB4.out.size))
          clear hb5
          obtain ⟨c00, c01, c02, c03, c04, c05⟩ := HY0.out _ HB5.out
          dsimp only at c00 c01 c02 c03 c04 c05
          obtain ⟨c10, c11, c12, c13, c14, c15⟩ := HY1.out _ HB5.out
          dsimp only at c10 c11 c12 c13 c14 c15
          obtain ⟨c20, c21, c22, c23, c24, c25⟩ := HY2.out _ HB5.out
          dsimp only at c20 c21 c22 c23 c24 c25
          obtain ⟨c30, c31, c32, c33, c34, c35⟩ := HY3.out _ HB5.out
          dsimp only at c30 c31 c32 c33 c34 c35
          cases s
          ·
            skip
            go_wp2_with fail
            go_ret
            exact ⟨rfl, HB5.out⟩
          ·
            skip
            go_wp2_with fail
            go_ret
            exact ⟨rfl, HB5.out⟩
  ·
    skip
    go_wp2_with fail
    clear c00 c01 c02 c03 c04 c05 c10 c11 c12 c13 c14 c15 c20 c21 c22 c23 c24 c25 c30 c31 c32 c33 c34 c35
    refine (TH4.out _ HB1.out).mono ?_
    rintro e w2 ⟨rfl, hb2⟩
    have HB2 := Lib.hid (HB1.out.trans (hb2.mono HB1.out.size))
    clear hb2
    obtain ⟨c00, c01, c02, c03, c04, c05⟩ := HY0.out _ HB2.out
    dsimp only at c00 c01 c02 c03 c04 c05
    obtain ⟨c10, c11, c12, c13, c14, c15⟩ := HY1.out _ HB2.out
    dsimp only at c10 c11 c12 c13 c14 c15
    obtain ⟨c20, c21, c22, c23, c24, c25⟩ := HY2.out _ HB2.out
    dsimp only at c20 c21 c22 c23 c24 c25
    obtain ⟨c30, c31, c32, c33, c34, c35⟩ := HY3.out _ HB2.out
    dsimp only at c30 c31 c32 c33 c34 c35
    cases q0
    ·
      skip
      go_wp2_with fail
      clear c00 c01 c02 c03 c04 c05 c10 c11 c12 c13 c14 c15 c20 c21 c22 c23 c24 c25 c30 c31 c32 c33 c34 c35
      refine (TH5.out _ HB2.out).mono ?_
      rintro e w3 ⟨rfl, hb3⟩
      have HB3 := Lib.hid (HB2.out.trans (hb3.mono HB2.out.size))
      clear hb3
      obtain ⟨c00, c01, c02, c03, c04, c05⟩ := HY0.out _ HB3.out
      dsimp only at c00 c01 c02 c03 c04 c05
      obtain ⟨c10, c11, c12, c13, c14, c15⟩ := HY1.out _ HB3.out
      dsimp only at c10 c11 c12 c13 c14 c15
      obtain ⟨c20, c21, c22, c23, c24, c25⟩ := HY2.out _ HB3.out
      dsimp only at c20 c21 c22 c23 c24 c25
      obtain ⟨c30, c31, c32, c33, c34, c35⟩ := HY3.out _ HB3.out
      dsimp only at c30 c31 c32 c33 c34 c35
      cases q1
      ·
        skip
        go_wp2_with fail
        go_ret
        exact ⟨rfl, HB3.out⟩
      ·
        skip
        go_wp2_with fail
        clear c00 c01 c02 c03 c04 c05 c10 c11 c12 c13 c14 c15 c20 c21 c22 c23 c24 c25 c30 c31 c32 c33 c34 c35
        refine (TH6.out _ HB3.out).mono ?_
        rintro e w4 ⟨rfl, hb4⟩
        have HB4 := Lib.hid (HB3.out.trans (hb4.mono HB3.out.size))
        clear hb4
        obtain ⟨c00, c01, c02, c03, c04, c05⟩ := HY0.out _ HB4.out
        dsimp only at c00 c01 c02 c03 c04 c05
        obtain ⟨c10, c11, c12, c13, c14, c15⟩ := HY1.out _ HB4.out
        dsimp only at c10 c11 c12 c13 c14 c15
        obtain ⟨c20, c21, c22, c23, c24, c25⟩ := HY2.out _ HB4.out
        dsimp only at c20 c21 c22 c23 c24 c25
        obtain ⟨c30, c31, c32, c33, c34, c35⟩ := HY3.out _ HB4.out
        dsimp only at c30 c31 c32 c33 c34 c35
        cases r0
        ·
          skip
          go_wp2_with fail
          clear c00 c01 c02 c03 c04 c05 c10 c11 c12 c13 c14 c15 c20 c21 c22 c23 c24 c25 c30 c31 c32 c33 c34 c35
          refine (TH7.out _ HB4.out).mono ?_
          rintro e w5 ⟨rfl, hb5⟩
          have HB5 := Lib.hid (HB4.out.trans (hb5.mono HB4.out.size))
          clear hb5
          obtain ⟨c00, c01, c02, c03, c04, c05⟩ := HY0.out _ HB5.out
          dsimp only at c00 c01 c02 c03 c04 c05
          obtain ⟨c10, c11, c12, c13, c14, c15⟩ := HY1.out _ HB5.out
          dsimp only at c10 c11 c12 c13 c14 c15
          obtain ⟨c20, c21, c22, c23, c24, c25⟩ := HY2.out _ HB5.out
          dsimp only at c20 c21 c22 c23 c24 c25
          obtain ⟨c30, c31, c32, c33, c34, c35⟩ := HY3.out _ HB5.out
          dsimp only at c30 c31 c32 c33 c34 c35
          cases r1
          ·
            skip
            go_wp2_with fail
            go_ret
            exact ⟨rfl, HB5.out⟩
          ·
            skip
            go_wp2_with fail
            clear c00 c01 c02 c03 c04 c05 c10 c11 c12 c13 c14 c15 c20 c21 c22 c23 c24 c25 c30 c31 c32 c33 c34 c35
            refine (TH8.out _ HB5.out).mono ?_
            rintro e w6 ⟨rfl, hb6⟩
            have HB6 := Lib.hid (HB5.out.trans (hb6.mono HB5.out.size))
            clear hb6
            obtain ⟨c00, c01, c02, c03, c04, c05⟩ := HY0.out _ HB6.out
            dsimp only at c00 c01 c02 c03 c04 c05
            obtain ⟨c10, c11, c12, c13, c14, c15⟩ := HY1.out _ HB6.out
            dsimp only at c10 c11 c12 c13 c14 c15
            obtain ⟨c20, c21, c22, c23, c24, c25⟩ := HY2.out _ HB6.out
            dsimp only at c20 c21 c22 c23 c24 c25
            obtain ⟨c30, c31, c32, c33, c34, c35⟩ := HY3.out _ HB6.out
            dsimp only at c30 c31 c32 c33 c34 c35
            cases s
            ·
              skip
              go_wp2_with fail
              go_ret
              exact ⟨rfl, HB6.out⟩
            ·
              skip
              go_wp2_with fail
              go_ret
              exact ⟨rfl, HB6.out⟩
        ·
          skip
          go_wp2_with fail
          clear c00 c01 c02 c03 c04 c05 c10 c11 c12 c13 c14 c15 c20 c21 c22 c23 c24 c25 c30 c31 c32 c33 c34 c35
          refine (TH8.out _ HB4.out).mono ?_
          rintro e w5 ⟨rfl, hb5⟩
          have HB5 := Lib.hid (HB4.out.trans (hb5.mono HB4.out.size))
          clear hb5
          obtain ⟨c00, c01, c02, c03, c04, c05⟩ := HY0.out _ HB5.out
          dsimp only at c00 c01 c02 c03 c04 c05
          obtain ⟨c10, c11, c12, c13, c14, c15⟩ := HY1.out _ HB5.out
          dsimp only at c10 c11 c12 c13 c14 c15
          obtain ⟨c20, c21, c22, c23, c24, c25⟩ := HY2.out _ HB5.out
          dsimp only at c20 c21 c22 c23 c24 c25
          obtain ⟨c30, c31, c32, c33, c34, c35⟩ := HY3.out _ HB5.out
          dsimp only at c30 c31 c32 c33 c34 c35
          cases s
          ·
            skip
            go_wp2_with fail
            go_ret
            exact ⟨rfl, HB5.out⟩
          ·
            skip
            go_wp2_with fail
            go_ret
            exact ⟨rfl, HB5.out⟩
    ·
      skip
      go_wp2_with fail
      clear c00 c01 c02 c03 c04 c05 c10 c11 c12 c13 c14 c15 c20 c21 c22 c23 c24 c25 c30 c31 c32 c33 c34 c35
      refine (TH6.out _ HB2.out).mono ?_
      rintro e w3 ⟨rfl, hb3⟩
      have HB3 := Lib.hid (HB2.out.trans (hb3.mono HB2.out.size))
      clear hb3
      obtain ⟨c00, c01, c02, c03, c04, c05⟩ := HY0.out _ HB3.out
      dsimp only at c00 c01 c02 c03 c04 c05
      obtain ⟨c10, c11, c12, c13, c14, c15⟩ := HY1.out _ HB3.out
      dsimp only at c10 c11 c12 c13 c14 c15
      obtain ⟨c20, c21, c22, c23, c24, c25⟩ := HY2.out _ HB3.out
      dsimp only at c20 c21 c22 c23 c24 c25
      obtain ⟨c30, c31, c32, c33, c34, c35⟩ := HY3.out _ HB3.out
      dsimp only at c30 c31 c32 c33 c34 c35
      cases r0
      ·
        skip
        go_wp2_with fail
        clear c00 c01 c02 c03 c04 c05 c10 c11 c12 c13 c14 c15 c20 c21 c22 c23 c24 c25 c30 c31 c32 c33 c34 c35
        refine (TH7.out _ HB3.out).mono ?_
        rintro e w4 ⟨rfl, hb4⟩
        have HB4 := Lib.hid (HB3.out.trans (hb4.mono HB3.out.size))
        clear hb4
        obtain ⟨c00, c01, c02, c03, c04, c05⟩ := HY0.out _ HB4.out
        dsimp only at c00 c01 c02 c03 c04 c05
        obtain ⟨c10, c11, c12, c13, c14, c15⟩ := HY1.out _ HB4.out
        dsimp only at c10 c11 c12 c13 c14 c15
        obtain ⟨c20, c21, c22, c23, c24, c25⟩ := HY2.out _ HB4.out
        dsimp only at c20 c21 c22 c23 c24 c25
        obtain ⟨c30, c31, c32, c33, c34, c35⟩ := HY3.out _ HB4.out
        dsimp only at c30 c31 c32 c33 c34 c35
        cases r1
        ·
          skip
          go_wp2_with fail
          go_ret
          exact ⟨rfl, HB4.out⟩
        ·
          skip
          go_wp2_with fail
          clear c00 c01 c02 c03 c04 c05 c10 c11 c12 c13 c14 c15 c20 c21 c22 c23 c24 c25 c30 c31 c32 c33 c34 c35
          refine (TH8.out _ HB4.out).mono ?_
          rintro e w5 ⟨rfl, hb5⟩
          have HB5 := Lib.hid (HB4.out.trans (hb5.mono HB4.out.size))
          clear hb5
          obtain ⟨c00, c01, c02, c03, c04, c05⟩ := HY0.out _ HB5.out
          dsimp only at c00 c01 c02 c03 c04 c05
          obtain ⟨c10, c11, c12, c13, c14, c15⟩ := HY1.out _ HB5.out
          dsimp only at c10 c11 c12 c13 c14 c15
          obtain ⟨c20, c21, c22, c23, c24, c25⟩ := HY2.out _ HB5.out
          dsimp only at c20 c21 c22 c23 c24 c25
          obtain ⟨c30, c31, c32, c33, c34, c35⟩ := HY3.out _ HB5.out
          dsimp only at c30 c31 c32 c33 c34 c35
          cases s
          ·
            skip
            go_wp2_with fail
            go_ret
            exact ⟨rfl, HB5.out⟩
          ·
            skip
            go_wp2_with fail
            go_ret
            exact ⟨rfl, HB5.out⟩
      ·
        skip
        go_wp2_with fail
        clear c00 c01 c02 c03 c04 c05 c10 c11 c12 c13 c14 c15 c20 c21 c22 c23 c24 c25 c30 c31 c32 c33 c34 c35
        refine (TH8.out _ HB3.out).mono ?_
        rintro e w4 ⟨rfl, hb4⟩
        have HB4 := Lib.hid (HB3.out.trans (hb4.mono HB3.out.size))
        clear hb4
        obtain ⟨c00, c01, c02, c03, c04, c05⟩ := HY0.out _ HB4.out
        dsimp only at c00 c01 c02 c03 c04 c05
        obtain ⟨c10, c11, c12, c13, c14, c15⟩ := HY1.out _ HB4.out
        dsimp only at c10 c11 c12 c13 c14 c15
        obtain ⟨c20, c21, c22, c23, c24, c25⟩ := HY2.out _ HB4.out
        dsimp only at c20 c21 c22 c23 c24 c25
        obtain ⟨c30, c31, c32, c33, c34, c35⟩ := HY3.out _ HB4.out
        dsimp only at c30 c31 c32 c33 c34 c35
        cases s
        ·
          skip
          go_wp2_with fail
          go_ret
          exact ⟨rfl, HB4.out⟩
        ·
          skip
          go_wp2_with fail
          go_ret
          exact ⟨rfl, HB4.out⟩
set_option maxRecDepth 8000 in
set_option maxHeartbeats 4000000 in
theorem loop_29n (v : V) (hk : v.k = 29) (hl : ¬ v.l.length = 4) : Tells 81 v false := by
  intro x w h
  obtain ⟨xka, xkc, xla, xlc, rfl, -, -, -, -⟩ := h.open
  have HBX := Lib.hid (below_alloc w)
  have hq : ((v.l.length : Int) == 4) = false := by rw [beq_eq_false_iff_ne]; omega
  have hq2 : ((v.l.length : Int) != 4) = true := by rw [bne_iff_ne]; omega
  simp only [X.v]
  rw [hk]
  clear h hk hl
  generalize v.l.length = ln at *
  generalize v.ks.length = kn at *
  go_enter Try.func81, Try.ntmps81
  go_wp2_with fail
  go_ret
  exact ⟨rfl, HBX.out _⟩
set_option maxRecDepth 8000 in
set_option maxHeartbeats 4000000 in
theorem loop_30n (v : V) (hk : v.k = 30) (hl : ¬ v.l.length = 3) : Tells 81 v false := by
  intro x w h
  obtain ⟨xka, xkc, xla, xlc, rfl, -, -, -, -⟩ := h.open
  have HBX := Lib.hid (below_alloc w)
  have hq : ((v.l.length : Int) == 3) = false := by rw [beq_eq_false_iff_ne]; omega
  have hq2 : ((v.l.length : Int) != 3) = true := by rw [bne_iff_ne]; omega
  simp only [X.v]
  rw [hk]
  clear h hk hl
  generalize v.l.length = ln at *
  generalize v.ks.length = kn at *
  go_enter Try.func81, Try.ntmps81
  go_wp2_with fail
  go_ret
  exact ⟨rfl, HBX.out _⟩
set_option maxRecDepth 8000 in
set_option maxHeartbeats 4000000 in
theorem loop_30b (v a b c : V) (q s t p : Bool) (hk : v.k = 30) (ha : ¬ a.k = 22) (hl : v.l = [a, b, c]) (H1 : Tells 79 b q) (H2 : Tells 80 c s)
    (H3 : Tells 110 a t) (H4 : Tells 79 a p) : Tells 81 v (q && (s && (t && p))) := by
  intro x w h
  obtain ⟨xka, xkc, xla, xlc, rfl, -, -, -, hrow⟩ := h.open
  obtain ⟨W0, hW0⟩ : ∃ W0, w.alloc (.cells #[.int .i64 v.k, .string v.nm, .int .i64 v.n, .string v.s, .slice xka v.ks.length xkc, .slice xla v.l.length xlc] 25) = W0 := ⟨_, rfl⟩
  have HB0 : Hid (Below w.heap.size w W0) := by rw [← hW0]; exact below_alloc _ _
  have HBX := Lib.hid (below_alloc w)
  have HW0 := Lib.hid hW0
  obtain ⟨g, o, y0, rfl, hg, hy0⟩ := kid_at hrow 0 (by rw [hl]; simp)
  obtain ⟨g', o', y1, e, -, hy1⟩ := kid_at hrow 1 (by rw [hl]; simp)
  injection e with e
  injection e with e1 e2
  subst e1 e2
  obtain ⟨g', o', y2, e, -, hy2⟩ := kid_at hrow 2 (by rw [hl]; simp)
  injection e with e
  injection e with e1 e2
  subst e1 e2
  have e0 : v.l[0]'(by rw [hl]; simp) = a := by simp [hl]
  have HY0 : Hid (∀ w', Below w.heap.size w w' → At w' g (o) y0) := fun w' hb => (hy0 w' hb).1
  have HI0 : Hid (∀ w', Below w.heap.size w w' → Is w' a y0) := fun w' hb => by have := (hy0 w' hb).2; rwa [e0] at this
  have e1 : v.l[1]'(by rw [hl]; simp) = b := by simp [hl]
  have HY1 : Hid (∀ w', Below w.heap.size w w' → At w' g (o + 6) y1) := fun w' hb => (hy1 w' hb).1
  have HI1 : Hid (∀ w', Below w.heap.size w w' → Is w' b y1) := fun w' hb => by have := (hy1 w' hb).2; rwa [e1] at this
  have e2 : v.l[2]'(by rw [hl]; simp) = c := by simp [hl]
  have HY2 : Hid (∀ w', Below w.heap.size w w' → At w' g (o + 12) y2) := fun w' hb => (hy2 w' hb).1
  have HI2 : Hid (∀ w', Below w.heap.size w w' → Is w' c y2) := fun w' hb => by have := (hy2 w' hb).2; rwa [e2] at this
  have hlen : v.l.length = 3 := by rw [hl]; rfl
  have TH1 : Hid (∀ w', Below w.heap.size w w' → Calls Try.prog 79 #[y1.v] w' fun e w'' => e = .returned (.bool q) ∧ Below w'.heap.size w' w'') := fun w' hb => H1 y1 w' (HI1.out w' hb)
  have TH2 : Hid (∀ w', Below w.heap.size w w' → Calls Try.prog 80 #[y2.v] w' fun e w'' => e = .returned (.bool s) ∧ Below w'.heap.size w' w'') := fun w' hb => H2 y2 w' (HI2.out w' hb)
  have TH3 : Hid (∀ w', Below w.heap.size w w' → Calls Try.prog 110 #[y0.v] w' fun e w'' => e = .returned (.bool t) ∧ Below w'.heap.size w' w'') := fun w' hb => H3 y0 w' (HI0.out w' hb)
  have TH4 : Hid (∀ w', Below w.heap.size w w' → Calls Try.prog 79 #[y0.v] w' fun e w'' => e = .returned (.bool p) ∧ Below w'.heap.size w' w'') := fun w' hb => H4 y0 w' (HI0.out w' hb)
  have hyk : ¬ y0.k = 22 := by rw [((isB_iff _ _ _ _).1 (HI0.out w (Below.refl _ _))).1.1]; exact ha
  have hyq : (y0.k == 22) = false := by rw [beq_eq_false_iff_ne]; exact hyk
  clear ha hyk
  simp only [X.v] at TH1 TH2 TH3 TH4 ⊢
  rw [hk, hlen] at HW0 ⊢
  clear h hrow hW0 hk hlen hl hg e0 hy0 HI0 e1 hy1 HI1 e2 hy2 HI2 H1 H2 H3 H4
  obtain ⟨yk0, ynm0, yn0, ys0, yka0, ykn0, ykc0, yla0, yln0, ylc0⟩ := y0
  obtain ⟨yk1, ynm1, yn1, ys1, yka1, ykn1, ykc1, yla1, yln1, ylc1⟩ := y1
  obtain ⟨yk2, ynm2, yn2, ys2, yka2, ykn2, ykc2, yla2, yln2, ylc2⟩ := y2
  dsimp only at hyq
  obtain ⟨c00, c01, c02, c03, c04, c05⟩ := HY0.out _ (HBX.out (.cells #[.int .i64 30, .string v.nm, .int .i64 v.n, .string v.s, .slice xka v.ks.length xkc, .slice (some ⟨g, o, none⟩) 3 xlc] 25))
  dsimp only at c00 c01 c02 c03 c04 c05
  obtain ⟨c10, c11, c12, c13, c14, c15⟩ := HY1.out _ (HBX.out (.cells #[.int .i64 30, .string v.nm, .int .i64 v.n, .string v.s, .slice xka v.ks.length xkc, .slice (some ⟨g, o, none⟩) 3 xlc] 25))
  dsimp only at c10 c11 c12 c13 c14 c15
  obtain ⟨c20, c21, c22, c23, c24, c25⟩ := HY2.out _ (HBX.out (.cells #[.int .i64 30, .string v.nm, .int .i64 v.n, .string v.s, .slice xka v.ks.length xkc, .slice (some ⟨g, o, none⟩) 3 xlc] 25))
  dsimp only at c20 c21 c22 c23 c24 c25
  go_enter Try.func81, Try.ntmps81
  go_wp2_with fail
  rw [HW0.out]
  clear c00 c01 c02 c03 c04 c05 c10 c11 c12 c13 c14 c15 c20 c21 c22 c23 c24 c25
  refine (TH1.out _ HB0.out).mono ?_
  rintro e w1 ⟨rfl, hb1⟩
  have HB1 := Lib.hid (HB0.out.trans (hb1.mono HB0.out.size))
  clear hb1
  obtain ⟨c00, c01, c02, c03, c04, c05⟩ := HY0.out _ HB1.out
  dsimp only at c00 c01 c02 c03 c04 c05
  obtain ⟨c10, c11, c12, c13, c14, c15⟩ := HY1.out _ HB1.out
  dsimp only at c10 c11 c12 c13 c14 c15
  obtain ⟨c20, c21, c22, c23, c24, c25⟩ := HY2.out _ HB1.out
  dsimp only at c20 c21 c22 c23 c24 c25
  cases q
  ·
    skip
    go_wp2_with fail
    go_ret
    exact ⟨rfl, HB1.out⟩
  ·
    skip
    go_wp2_with fail
    clear c00 c01 c02 c03 c04 c05 c10 c11 c12 c13 c14 c15 c20 c21 c22 c23 c24 c25
    refine (TH2.out _ HB1.out).mono ?_
    rintro e w2 ⟨rfl, hb2⟩
    have HB2 := Lib.hid (HB1.out.trans (hb2.mono HB1.out.size))
    clear hb2
    obtain ⟨c00, c01, c02, c03, c04, c05⟩ := HY0.out _ HB2.out
    dsimp only at c00 c01 c02 c03 c04 c05
    obtain ⟨c10, c11, c12, c13, c14, c15⟩ := HY1.out _ HB2.out
    dsimp only at c10 c11 c12 c13 c14 c15
    obtain ⟨c20, c21, c22, c23, c24, c25⟩ := HY2.out _ HB2.out
    dsimp only at c20 c21 c22 c23 c24 c25
    cases s
    ·
      skip
      go_wp2_with fail
      go_ret
      exact ⟨rfl, HB2.out⟩
    ·
      skip
      go_wp2_with fail
      clear c00 c01 c02 c03 c04 c05 c10 c11 c12 c13 c14 c15 c20 c21 c22 c23 c24 c25
      refine (TH3.out _ HB2.out).mono ?_
      rintro e w3 ⟨rfl, hb3⟩
      have HB3 := Lib.hid (HB2.out.trans (hb3.mono HB2.out.size))
      clear hb3
      obtain ⟨c00, c01, c02, c03, c04, c05⟩ := HY0.out _ HB3.out
      dsimp only at c00 c01 c02 c03 c04 c05
      obtain ⟨c10, c11, c12, c13, c14, c15⟩ := HY1.out _ HB3.out
      dsimp only at c10 c11 c12 c13 c14 c15
      obtain ⟨c20, c21, c22, c23, c24, c25⟩ := HY2.out _ HB3.out
      dsimp only at c20 c21 c22 c23 c24 c25
      cases t
      ·
        skip
        go_wp2_with fail
        go_ret
        exact ⟨rfl, HB3.out⟩
      ·
        skip
        go_wp2_with fail
        clear c00 c01 c02 c03 c04 c05 c10 c11 c12 c13 c14 c15 c20 c21 c22 c23 c24 c25
        refine (TH4.out _ HB3.out).mono ?_
        rintro e w4 ⟨rfl, hb4⟩
        have HB4 := Lib.hid (HB3.out.trans (hb4.mono HB3.out.size))
        clear hb4
        obtain ⟨c00, c01, c02, c03, c04, c05⟩ := HY0.out _ HB4.out
        dsimp only at c00 c01 c02 c03 c04 c05
        obtain ⟨c10, c11, c12, c13, c14, c15⟩ := HY1.out _ HB4.out
        dsimp only at c10 c11 c12 c13 c14 c15
        obtain ⟨c20, c21, c22, c23, c24, c25⟩ := HY2.out _ HB4.out
        dsimp only at c20 c21 c22 c23 c24 c25
        cases p
        ·
          skip
          go_wp2_with fail
          go_ret
          exact ⟨rfl, HB4.out⟩
        ·
          skip
          go_wp2_with fail
          go_ret
          exact ⟨rfl, HB4.out⟩
end Go.Proofs.Ytgehgccgologpaa.R
