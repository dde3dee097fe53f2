/-
  Laid by wip/scope/lay.py out of wip/tree: Vr Vq.
  The reference's stmt: STry. (gen_vp.py)
  The reference's stmt: SExpr, SThrow, SLabel, SIf. (gen_vp.py)
-/
import Derived.Test.YtgehgccgologpaaVp
namespace Go.Proofs.Ytgehgccgologpaa.R
open Go.RowKit Go.Proofs.Ytgehgccgologpaa Go.Proofs.Ytgehgccgologpaa.T
set_option maxRecDepth 8000 in
set_option maxHeartbeats 4000000 in
theorem rst_35 (v a b c : V) (p q0 q1 r0 r1 : Bool) (hb : v.bulk ≤ 4194304) (hk : v.k = 35) (hl : v.l = [a, b, c])
    (H1 : Tells 80 a p) (H2 : Tells 80 b q0) (H3 : Tells 83 b q1) (H4 : Tells 80 c r0) (H5 : Tells 83 c r1) :
    Tells 62 v (fields (ctch3 v) v && (p && ((q0 || q1) && ((r0 || r1) && !(q1 && r1))))) := by
  intro x w h
  have HO := Lib.hid fun w' (hb' : Below w.heap.size w w') => own_any v x w' (Is.below hb' _ _ h) hb
  obtain ⟨xka, xkc, xla, xlc, rfl, -, -, -, hrow⟩ := h.open
  obtain ⟨W0, hW0⟩ : ∃ W0, w.alloc (.cells #[.int .i64 v.k, .string v.nm, .int .i64 v.n, .string v.s, .slice xka v.ks.length xkc, .slice xla v.l.length xlc] 25) = W0 := ⟨_, rfl⟩
  have HB0 : Hid (Below w.heap.size w W0) := by rw [← hW0]; exact below_alloc _ _
  have HF : Hid (∀ w', Below W0.heap.size W0 w' → At w' w.heap.size 0 ⟨v.k, v.nm, v.n, v.s, xka, v.ks.length, xkc, xla, v.l.length, xlc⟩) := fun w' hb => by
    have h0 : At W0 w.heap.size 0 ⟨v.k, v.nm, v.n, v.s, xka, v.ks.length, xkc, xla, v.l.length, xlc⟩ := by rw [← hW0]; exact at_row (hp_new rfl) rfl rfl rfl rfl rfl rfl
    exact h0.below (B := W0.heap.size) (by rw [← hW0]; simp) hb
  have HW0 := Lib.hid hW0
  obtain ⟨g, o, y0, rfl, hg, hy0⟩ := kid_at hrow 0 (by rw [hl]; simp)
  obtain ⟨g', o', y1, e, -, hy1⟩ := kid_at hrow 1 (by rw [hl]; simp)
  injection e with e
  injection e with e1 e2
  subst e1 e2
  obtain ⟨g', o', y2, e, -, hy2⟩ := kid_at hrow 2 (by rw [hl]; simp)
  injection e with e
  injection e with e1 e2
  subst e1 e2
  have e0 : v.l[0]'(by rw [hl]; simp) = a := by simp [hl]
  have HY0 : Hid (∀ w', Below w.heap.size w w' → At w' g (o) y0) := fun w' hb => (hy0 w' hb).1
  have HI0 : Hid (∀ w', Below w.heap.size w w' → Is w' a y0) := fun w' hb => by have := (hy0 w' hb).2; rwa [e0] at this
  have e1 : v.l[1]'(by rw [hl]; simp) = b := by simp [hl]
  have HY1 : Hid (∀ w', Below w.heap.size w w' → At w' g (o + 6) y1) := fun w' hb => (hy1 w' hb).1
  have HI1 : Hid (∀ w', Below w.heap.size w w' → Is w' b y1) := fun w' hb => by have := (hy1 w' hb).2; rwa [e1] at this
  have e2 : v.l[2]'(by rw [hl]; simp) = c := by simp [hl]
  have HY2 : Hid (∀ w', Below w.heap.size w w' → At w' g (o + 12) y2) := fun w' hb => (hy2 w' hb).1
  have HI2 : Hid (∀ w', Below w.heap.size w w' → Is w' c y2) := fun w' hb => by have := (hy2 w' hb).2; rwa [e2] at this
  have hlen : v.l.length = 3 := by rw [hl]; rfl
  have TH1 : Hid (∀ w', Below w.heap.size w w' → Calls Try.prog 80 #[y0.v] w' fun e w'' => e = .returned (.bool p) ∧ Below w'.heap.size w' w'') := fun w' hb => H1 y0 w' (HI0.out w' hb)
  have TH2 : Hid (∀ w', Below w.heap.size w w' → Calls Try.prog 80 #[y1.v] w' fun e w'' => e = .returned (.bool q0) ∧ Below w'.heap.size w' w'') := fun w' hb => H2 y1 w' (HI1.out w' hb)
  have TH3 : Hid (∀ w', Below w.heap.size w w' → Calls Try.prog 83 #[y1.v] w' fun e w'' => e = .returned (.bool q1) ∧ Below w'.heap.size w' w'') := fun w' hb => H3 y1 w' (HI1.out w' hb)
  have TH4 : Hid (∀ w', Below w.heap.size w w' → Calls Try.prog 80 #[y2.v] w' fun e w'' => e = .returned (.bool r0) ∧ Below w'.heap.size w' w'') := fun w' hb => H4 y2 w' (HI2.out w' hb)
  have TH5 : Hid (∀ w', Below w.heap.size w w' → Calls Try.prog 83 #[y2.v] w' fun e w'' => e = .returned (.bool r1) ∧ Below w'.heap.size w' w'') := fun w' hb => H5 y2 w' (HI2.out w' hb)
  simp only [X.v] at HO TH1 TH2 TH3 TH4 TH5 ⊢
  rw [hk, hlen] at HO HF HW0 ⊢
  clear h hb hrow hW0 hk hlen hl hg e0 hy0 HI0 e1 hy1 HI1 e2 hy2 HI2 H1 H2 H3 H4 H5
  obtain ⟨yk0, ynm0, yn0, ys0, yka0, ykn0, ykc0, yla0, yln0, ylc0⟩ := y0
  obtain ⟨yk1, ynm1, yn1, ys1, yka1, ykn1, ykc1, yla1, yln1, ylc1⟩ := y1
  obtain ⟨yk2, ynm2, yn2, ys2, yka2, ykn2, ykc2, yla2, yln2, ylc2⟩ := y2
  generalize fields (ctch3 v) v = bo at *
  generalize v.nm = nm at *
  generalize v.n = n at *
  generalize v.s = s at *
  generalize v.ks.length = kn at *
  go_enter Try.func62, Try.ntmps62
  go_wp2_with fail
  rw [HW0.out]
  clear HW0
  refine (HO.out _ HB0.out).mono ?_
  rintro e w1 ⟨rfl, hb1⟩
  obtain ⟨d0, d1, d2, d3, d4, d5⟩ := HF.out _ hb1
  dsimp only at d0 d1 d2 d3 d4 d5
  have HB1 := Lib.hid (HB0.out.trans (hb1.mono HB0.out.size))
  clear hb1
  cases bo
  · go_wp2_with fail
    go_ret
    exact ⟨rfl, HB1.out⟩
  obtain ⟨c0, c1, c2, c3, c4, c5⟩ := HY0.out _ HB1.out
  dsimp only at c0 c1 c2 c3 c4 c5
  go_wp2_with fail
  clear c0 c1 c2 c3 c4 c5 d0 d1 d2 d3 d4 d5
  refine (TH1.out _ HB1.out).mono ?_
  rintro e w2 ⟨rfl, hb2⟩
  have HB2 := Lib.hid (HB1.out.trans (hb2.mono HB1.out.size))
  clear hb2
  cases p
  ·
    skip
    go_wp2_with fail
    go_ret
    exact ⟨rfl, HB2.out⟩
  ·
    skip
    obtain ⟨c0, c1, c2, c3, c4, c5⟩ := HY1.out _ HB2.out
    dsimp only at c0 c1 c2 c3 c4 c5
    go_wp2_with fail
    clear c0 c1 c2 c3 c4 c5
    refine (TH2.out _ HB2.out).mono ?_
    rintro e w3 ⟨rfl, hb3⟩
    have HB3 := Lib.hid (HB2.out.trans (hb3.mono HB2.out.size))
    clear hb3
    cases q0
    ·
      skip
      obtain ⟨c0, c1, c2, c3, c4, c5⟩ := HY1.out _ HB3.out
      dsimp only at c0 c1 c2 c3 c4 c5
      go_wp2_with fail
      clear c0 c1 c2 c3 c4 c5
      refine (TH3.out _ HB3.out).mono ?_
      rintro e w4 ⟨rfl, hb4⟩
      have HB4 := Lib.hid (HB3.out.trans (hb4.mono HB3.out.size))
      clear hb4
      cases q1
      ·
        skip
        go_wp2_with fail
        go_ret
        exact ⟨rfl, HB4.out⟩
      ·
        skip
        obtain ⟨c0, c1, c2, c3, c4, c5⟩ := HY2.out _ HB4.out
        dsimp only at c0 c1 c2 c3 c4 c5
        go_wp2_with fail
        clear c0 c1 c2 c3 c4 c5
        refine (TH4.out _ HB4.out).mono ?_
        rintro e w5 ⟨rfl, hb5⟩
        have HB5 := Lib.hid (HB4.out.trans (hb5.mono HB4.out.size))
        clear hb5
        cases r0
        ·
          skip
          obtain ⟨c0, c1, c2, c3, c4, c5⟩ := HY2.out _ HB5.out
          dsimp only at c0 c1 c2 c3 c4 c5
          go_wp2_with fail
          clear c0 c1 c2 c3 c4 c5
          refine (TH5.out _ HB5.out).mono ?_
          rintro e w6 ⟨rfl, hb6⟩
          have HB6 := Lib.hid (HB5.out.trans (hb6.mono HB5.out.size))
          clear hb6
          cases r1
          ·
            skip
            go_wp2_with fail
            go_ret
            exact ⟨rfl, HB6.out⟩
          ·
            skip
            obtain ⟨c0, c1, c2, c3, c4, c5⟩ := HY1.out _ HB6.out
            dsimp only at c0 c1 c2 c3 c4 c5
            go_wp2_with fail
            clear c0 c1 c2 c3 c4 c5
            refine (TH3.out _ HB6.out).mono ?_
            rintro e w7 ⟨rfl, hb7⟩
            have HB7 := Lib.hid (HB6.out.trans (hb7.mono HB6.out.size))
            clear hb7
            obtain ⟨c0, c1, c2, c3, c4, c5⟩ := HY2.out _ HB7.out
            dsimp only at c0 c1 c2 c3 c4 c5
            go_wp2_with fail
            clear c0 c1 c2 c3 c4 c5
            refine (TH5.out _ HB7.out).mono ?_
            rintro e w8 ⟨rfl, hb8⟩
            have HB8 := Lib.hid (HB7.out.trans (hb8.mono HB7.out.size))
            clear hb8
            go_wp2_with fail
            go_ret
            exact ⟨rfl, HB8.out⟩
        ·
          skip
          obtain ⟨c0, c1, c2, c3, c4, c5⟩ := HY1.out _ HB5.out
          dsimp only at c0 c1 c2 c3 c4 c5
          go_wp2_with fail
          clear c0 c1 c2 c3 c4 c5
          refine (TH3.out _ HB5.out).mono ?_
          rintro e w6 ⟨rfl, hb6⟩
          have HB6 := Lib.hid (HB5.out.trans (hb6.mono HB5.out.size))
          clear hb6
          obtain ⟨c0, c1, c2, c3, c4, c5⟩ := HY2.out _ HB6.out
          dsimp only at c0 c1 c2 c3 c4 c5
          go_wp2_with fail
          clear c0 c1 c2 c3 c4 c5
          refine (TH5.out _ HB6.out).mono ?_
          rintro e w7 ⟨rfl, hb7⟩
          have HB7 := Lib.hid (HB6.out.trans (hb7.mono HB6.out.size))
          clear hb7
          cases r1
          ·
            skip
            go_wp2_with fail
            go_ret
            exact ⟨rfl, HB7.out⟩
          ·
            skip
            go_wp2_with fail
            go_ret
            exact ⟨rfl, HB7.out⟩
    ·
      skip
      obtain ⟨c0, c1, c2, c3, c4, c5⟩ := HY2.out _ HB3.out
      dsimp only at c0 c1 c2 c3 c4 c5
      go_wp2_with fail
      clear c0 c1 c2 c3 c4 c5
      refine (TH4.out _ HB3.out).mono ?_
      rintro e w4 ⟨rfl, hb4⟩
      have HB4 := Lib.hid (HB3.out.trans (hb4.mono HB3.out.size))
      clear hb4
      cases r0
      ·
        skip
        obtain ⟨c0, c1, c2, c3, c4, c5⟩ := HY2.out _ HB4.out
        dsimp only at c0 c1 c2 c3 c4 c5
        go_wp2_with fail
        clear c0 c1 c2 c3 c4 c5
        refine (TH5.out _ HB4.out).mono ?_
        rintro e w5 ⟨rfl, hb5⟩
        have HB5 := Lib.hid (HB4.out.trans (hb5.mono HB4.out.size))
        clear hb5
        cases r1
        ·
          skip
          go_wp2_with fail
          go_ret
          exact ⟨rfl, HB5.out⟩
        ·
          skip
          obtain ⟨c0, c1, c2, c3, c4, c5⟩ := HY1.out _ HB5.out
          dsimp only at c0 c1 c2 c3 c4 c5
          go_wp2_with fail
          clear c0 c1 c2 c3 c4 c5
          refine (TH3.out _ HB5.out).mono ?_
          rintro e w6 ⟨rfl, hb6⟩
          have HB6 := Lib.hid (HB5.out.trans (hb6.mono HB5.out.size))
          clear hb6
          cases q1
          ·
            skip
            go_wp2_with fail
            go_ret
            exact ⟨rfl, HB6.out⟩
          ·
            skip
            obtain ⟨c0, c1, c2, c3, c4, c5⟩ := HY2.out _ HB6.out
            dsimp only at c0 c1 c2 c3 c4 c5
            go_wp2_with fail
            clear c0 c1 c2 c3 c4 c5
            refine (TH5.out _ HB6.out).mono ?_
            rintro e w7 ⟨rfl, hb7⟩
            have HB7 := Lib.hid (HB6.out.trans (hb7.mono HB6.out.size))
            clear hb7
            go_wp2_with fail
            go_ret
            exact ⟨rfl, HB7.out⟩
      ·
        skip
        obtain ⟨c0, c1, c2, c3, c4, c5⟩ := HY1.out _ HB4.out
        dsimp only at c0 c1 c2 c3 c4 c5
        go_wp2_with fail
        clear c0 c1 c2 c3 c4 c5
        refine (TH3.out _ HB4.out).mono ?_
        rintro e w5 ⟨rfl, hb5⟩
        have HB5 := Lib.hid (HB4.out.trans (hb5.mono HB4.out.size))
        clear hb5
        cases q1
        ·
          skip
          go_wp2_with fail
          go_ret
          exact ⟨rfl, HB5.out⟩
        ·
          skip
          obtain ⟨c0, c1, c2, c3, c4, c5⟩ := HY2.out _ HB5.out
          dsimp only at c0 c1 c2 c3 c4 c5
          go_wp2_with fail
          clear c0 c1 c2 c3 c4 c5
          refine (TH5.out _ HB5.out).mono ?_
          rintro e w6 ⟨rfl, hb6⟩
          have HB6 := Lib.hid (HB5.out.trans (hb6.mono HB5.out.size))
          clear hb6
          cases r1
          ·
            skip
            go_wp2_with fail
            go_ret
            exact ⟨rfl, HB6.out⟩
          ·
            skip
            go_wp2_with fail
            go_ret
            exact ⟨rfl, HB6.out⟩
end Go.Proofs.Ytgehgccgologpaa.R
namespace Go.Proofs.Ytgehgccgologpaa.R
open Go.RowKit Go.Proofs.Ytgehgccgologpaa Go.Proofs.Ytgehgccgologpaa.T
set_option maxRecDepth 8000 in
set_option maxHeartbeats 4000000 in
theorem rst_24 (v a : V) (p : Bool) (hb : v.bulk ≤ 4194304) (hk : v.k = 24) (hl : v.l = [a])
    (H1 : Tells 79 a p) :
    Tells 62 v (fields (ctch3 v) v && p) := by
  intro x w h
  have HO := Lib.hid fun w' (hb' : Below w.heap.size w w') => own_any v x w' (Is.below hb' _ _ h) hb
  obtain ⟨xka, xkc, xla, xlc, rfl, -, -, -, hrow⟩ := h.open
  obtain ⟨W0, hW0⟩ : ∃ W0, w.alloc (.cells #[.int .i64 v.k, .string v.nm, .int .i64 v.n, .string v.s, .slice xka v.ks.length xkc, .slice xla v.l.length xlc] 25) = W0 := ⟨_, rfl⟩
  have HB0 : Hid (Below w.heap.size w W0) := by rw [← hW0]; exact below_alloc _ _
  have HF : Hid (∀ w', Below W0.heap.size W0 w' → At w' w.heap.size 0 ⟨v.k, v.nm, v.n, v.s, xka, v.ks.length, xkc, xla, v.l.length, xlc⟩) := fun w' hb => by
    have h0 : At W0 w.heap.size 0 ⟨v.k, v.nm, v.n, v.s, xka, v.ks.length, xkc, xla, v.l.length, xlc⟩ := by rw [← hW0]; exact at_row (hp_new rfl) rfl rfl rfl rfl rfl rfl
    exact h0.below (B := W0.heap.size) (by rw [← hW0]; simp) hb
  have HW0 := Lib.hid hW0
  obtain ⟨g, o, y0, rfl, hg, hy0⟩ := kid_at hrow 0 (by rw [hl]; simp)
  have e0 : v.l[0]'(by rw [hl]; simp) = a := by simp [hl]
  have HY0 : Hid (∀ w', Below w.heap.size w w' → At w' g (o) y0) := fun w' hb => (hy0 w' hb).1
  have HI0 : Hid (∀ w', Below w.heap.size w w' → Is w' a y0) := fun w' hb => by have := (hy0 w' hb).2; rwa [e0] at this
  have hlen : v.l.length = 1 := by rw [hl]; rfl
  have TH1 : Hid (∀ w', Below w.heap.size w w' → Calls Try.prog 79 #[y0.v] w' fun e w'' => e = .returned (.bool p) ∧ Below w'.heap.size w' w'') := fun w' hb => H1 y0 w' (HI0.out w' hb)
  simp only [X.v] at HO TH1 ⊢
  rw [hk, hlen] at HO HF HW0 ⊢
  clear h hb hrow hW0 hk hlen hl hg e0 hy0 HI0 H1
  obtain ⟨yk0, ynm0, yn0, ys0, yka0, ykn0, ykc0, yla0, yln0, ylc0⟩ := y0
  generalize fields (ctch3 v) v = bo at *
  generalize v.nm = nm at *
  generalize v.n = n at *
  generalize v.s = s at *
  generalize v.ks.length = kn at *
  go_enter Try.func62, Try.ntmps62
  go_wp2_with fail
  rw [HW0.out]
  clear HW0
  refine (HO.out _ HB0.out).mono ?_
  rintro e w1 ⟨rfl, hb1⟩
  obtain ⟨d0, d1, d2, d3, d4, d5⟩ := HF.out _ hb1
  dsimp only at d0 d1 d2 d3 d4 d5
  have HB1 := Lib.hid (HB0.out.trans (hb1.mono HB0.out.size))
  clear hb1
  cases bo
  · go_wp2_with fail
    go_ret
    exact ⟨rfl, HB1.out⟩
  obtain ⟨c0, c1, c2, c3, c4, c5⟩ := HY0.out _ HB1.out
  dsimp only at c0 c1 c2 c3 c4 c5
  go_wp2_with fail
  clear c0 c1 c2 c3 c4 c5 d0 d1 d2 d3 d4 d5
  refine (TH1.out _ HB1.out).mono ?_
  rintro e w2 ⟨rfl, hb2⟩
  have HB2 := Lib.hid (HB1.out.trans (hb2.mono HB1.out.size))
  clear hb2
  cases p
  ·
    skip
    go_wp2_with fail
    go_ret
    exact ⟨rfl, HB2.out⟩
  ·
    skip
    go_wp2_with fail
    go_ret
    exact ⟨rfl, HB2.out⟩
set_option maxRecDepth 8000 in
set_option maxHeartbeats 4000000 in
theorem rst_34 (v a : V) (p : Bool) (hb : v.bulk ≤ 4194304) (hk : v.k = 34) (hl : v.l = [a])
    (H1 : Tells 79 a p) :
    Tells 62 v (fields (ctch3 v) v && p) := by
  intro x w h
  have HO := Lib.hid fun w' (hb' : Below w.heap.size w w') => own_any v x w' (Is.below hb' _ _ h) hb
  obtain ⟨xka, xkc, xla, xlc, rfl, -, -, -, hrow⟩ := h.open
  obtain ⟨W0, hW0⟩ : ∃ W0, w.alloc (.cells #[.int .i64 v.k, .string v.nm, .int .i64 v.n, .string v.s, .slice xka v.ks.length xkc, .slice xla v.l.length xlc] 25) = W0 := ⟨_, rfl⟩
  have HB0 : Hid (Below w.heap.size w W0) := by rw [← hW0]; exact below_alloc _ _
  have HF : Hid (∀ w', Below W0.heap.size W0 w' → At w' w.heap.size 0 ⟨v.k, v.nm, v.n, v.s, xka, v.ks.length, xkc, xla, v.l.length, xlc⟩) := fun w' hb => by
    have h0 : At W0 w.heap.size 0 ⟨v.k, v.nm, v.n, v.s, xka, v.ks.length, xkc, xla, v.l.length, xlc⟩ := by rw [← hW0]; exact at_row (hp_new rfl) rfl rfl rfl rfl rfl rfl
    exact h0.below (B := W0.heap.size) (by rw [← hW0]; simp) hb
  have HW0 := Lib.hid hW0
  obtain ⟨g, o, y0, rfl, hg, hy0⟩ := kid_at hrow 0 (by rw [hl]; simp)
  have e0 : v.l[0]'(by rw [hl]; simp) = a := by simp [hl]
  have HY0 : Hid (∀ w', Below w.heap.size w w' → At w' g (o) y0) := fun w' hb => (hy0 w' hb).1
  have HI0 : Hid (∀ w', Below w.heap.size w w' → Is w' a y0) := fun w' hb => by have := (hy0 w' hb).2; rwa [e0] at this
  have hlen : v.l.length = 1 := by rw [hl]; rfl
  have TH1 : Hid (∀ w', Below w.heap.size w w' → Calls Try.prog 79 #[y0.v] w' fun e w'' => e = .returned (.bool p) ∧ Below w'.heap.size w' w'') := fun w' hb => H1 y0 w' (HI0.out w' hb)
  simp only [X.v] at HO TH1 ⊢
  rw [hk, hlen] at HO HF HW0 ⊢
  clear h hb hrow hW0 hk hlen hl hg e0 hy0 HI0 H1
  obtain ⟨yk0, ynm0, yn0, ys0, yka0, ykn0, ykc0, yla0, yln0, ylc0⟩ := y0
  generalize fields (ctch3 v) v = bo at *
  generalize v.nm = nm at *
  generalize v.n = n at *
  generalize v.s = s at *
  generalize v.ks.length = kn at *
  go_enter Try.func62, Try.ntmps62
  go_wp2_with fail
  rw [HW0.out]
  clear HW0
  refine (HO.out _ HB0.out).mono ?_
  rintro e w1 ⟨rfl, hb1⟩
  obtain ⟨d0, d1, d2, d3, d4, d5⟩ := HF.out _ hb1
  dsimp only at d0 d1 d2 d3 d4 d5
  have HB1 := Lib.hid (HB0.out.trans (hb1.mono HB0.out.size))
  clear hb1
  cases bo
  · go_wp2_with fail
    go_ret
    exact ⟨rfl, HB1.out⟩
  obtain ⟨c0, c1, c2, c3, c4, c5⟩ := HY0.out _ HB1.out
  dsimp only at c0 c1 c2 c3 c4 c5
  go_wp2_with fail
  clear c0 c1 c2 c3 c4 c5 d0 d1 d2 d3 d4 d5
  refine (TH1.out _ HB1.out).mono ?_
  rintro e w2 ⟨rfl, hb2⟩
  have HB2 := Lib.hid (HB1.out.trans (hb2.mono HB1.out.size))
  clear hb2
  cases p
  ·
    skip
    go_wp2_with fail
    go_ret
    exact ⟨rfl, HB2.out⟩
  ·
    skip
    go_wp2_with fail
    go_ret
    exact ⟨rfl, HB2.out⟩
set_option maxRecDepth 8000 in
set_option maxHeartbeats 4000000 in
theorem rst_38 (v a : V) (p : Bool) (hb : v.bulk ≤ 4194304) (hk : v.k = 38) (hl : v.l = [a])
    (H1 : Tells 62 a p) :
    Tells 62 v (fields (ctch3 v) v && p) := by
  intro x w h
  have HO := Lib.hid fun w' (hb' : Below w.heap.size w w') => own_any v x w' (Is.below hb' _ _ h) hb
  obtain ⟨xka, xkc, xla, xlc, rfl, -, -, -, hrow⟩ := h.open
  obtain ⟨W0, hW0⟩ : ∃ W0, w.alloc (.cells #[.int .i64 v.k, .string v.nm, .int .i64 v.n, .string v.s, .slice xka v.ks.length xkc, .slice xla v.l.length xlc] 25) = W0 := ⟨_, rfl⟩
  have HB0 : Hid (Below w.heap.size w W0) := by rw [← hW0]; exact below_alloc _ _
  have HF : Hid (∀ w', Below W0.heap.size W0 w' → At w' w.heap.size 0 ⟨v.k, v.nm, v.n, v.s, xka, v.ks.length, xkc, xla, v.l.length, xlc⟩) := fun w' hb => by
    have h0 : At W0 w.heap.size 0 ⟨v.k, v.nm, v.n, v.s, xka, v.ks.length, xkc, xla, v.l.length, xlc⟩ := by rw [← hW0]; exact at_row (hp_new rfl) rfl rfl rfl rfl rfl rfl
    exact h0.below (B := W0.heap.size) (by rw [← hW0]; simp) hb
  have HW0 := Lib.hid hW0
  obtain ⟨g, o, y0, rfl, hg, hy0⟩ := kid_at hrow 0 (by rw [hl]; simp)
  have e0 : v.l[0]'(by rw [hl]; simp) = a := by simp [hl]
  have HY0 : Hid (∀ w', Below w.heap.size w w' → At w' g (o) y0) := fun w' hb => (hy0 w' hb).1
  have HI0 : Hid (∀ w', Below w.heap.size w w' → Is w' a y0) := fun w' hb => by have := (hy0 w' hb).2; rwa [e0] at this
  have hlen : v.l.length = 1 := by rw [hl]; rfl
  have TH1 : Hid (∀ w', Below w.heap.size w w' → Calls Try.prog 62 #[y0.v] w' fun e w'' => e = .returned (.bool p) ∧ Below w'.heap.size w' w'') := fun w' hb => H1 y0 w' (HI0.out w' hb)
  simp only [X.v] at HO TH1 ⊢
  rw [hk, hlen] at HO HF HW0 ⊢
  clear h hb hrow hW0 hk hlen hl hg e0 hy0 HI0 H1
  obtain ⟨yk0, ynm0, yn0, ys0, yka0, ykn0, ykc0, yla0, yln0, ylc0⟩ := y0
  generalize fields (ctch3 v) v = bo at *
  generalize v.nm = nm at *
  generalize v.n = n at *
  generalize v.s = s at *
  generalize v.ks.length = kn at *
  go_enter Try.func62, Try.ntmps62
  go_wp2_with fail
  rw [HW0.out]
  clear HW0
  refine (HO.out _ HB0.out).mono ?_
  rintro e w1 ⟨rfl, hb1⟩
  obtain ⟨d0, d1, d2, d3, d4, d5⟩ := HF.out _ hb1
  dsimp only at d0 d1 d2 d3 d4 d5
  have HB1 := Lib.hid (HB0.out.trans (hb1.mono HB0.out.size))
  clear hb1
  cases bo
  · go_wp2_with fail
    go_ret
    exact ⟨rfl, HB1.out⟩
  obtain ⟨c0, c1, c2, c3, c4, c5⟩ := HY0.out _ HB1.out
  dsimp only at c0 c1 c2 c3 c4 c5
  go_wp2_with fail
  clear c0 c1 c2 c3 c4 c5 d0 d1 d2 d3 d4 d5
  refine (TH1.out _ HB1.out).mono ?_
  rintro e w2 ⟨rfl, hb2⟩
  have HB2 := Lib.hid (HB1.out.trans (hb2.mono HB1.out.size))
  clear hb2
  cases p
  ·
    skip
    go_wp2_with fail
    go_ret
    exact ⟨rfl, HB2.out⟩
  ·
    skip
    go_wp2_with fail
    go_ret
    exact ⟨rfl, HB2.out⟩
set_option maxRecDepth 8000 in
set_option maxHeartbeats 4000000 in
theorem rst_26a (v a b : V) (p q : Bool) (hb : v.bulk ≤ 4194304) (hk : v.k = 26) (hl : v.l = [a, b])
    (H1 : Tells 79 a p) (H2 : Tells 80 b q) :
    Tells 62 v (fields (ctch3 v) v && (p && q)) := by
  intro x w h
  have HO := Lib.hid fun w' (hb' : Below w.heap.size w w') => own_any v x w' (Is.below hb' _ _ h) hb
  obtain ⟨xka, xkc, xla, xlc, rfl, -, -, -, hrow⟩ := h.open
  obtain ⟨W0, hW0⟩ : ∃ W0, w.alloc (.cells #[.int .i64 v.k, .string v.nm, .int .i64 v.n, .string v.s, .slice xka v.ks.length xkc, .slice xla v.l.length xlc] 25) = W0 := ⟨_, rfl⟩
  have HB0 : Hid (Below w.heap.size w W0) := by rw [← hW0]; exact below_alloc _ _
  have HF : Hid (∀ w', Below W0.heap.size W0 w' → At w' w.heap.size 0 ⟨v.k, v.nm, v.n, v.s, xka, v.ks.length, xkc, xla, v.l.length, xlc⟩) := fun w' hb => by
    have h0 : At W0 w.heap.size 0 ⟨v.k, v.nm, v.n, v.s, xka, v.ks.length, xkc, xla, v.l.length, xlc⟩ := by rw [← hW0]; exact at_row (hp_new rfl) rfl rfl rfl rfl rfl rfl
    exact h0.below (B := W0.heap.size) (by rw [← hW0]; simp) hb
  have HW0 := Lib.hid hW0
  obtain ⟨g, o, y0, rfl, hg, hy0⟩ := kid_at hrow 0 (by rw [hl]; simp)
  obtain ⟨g', o', y1, e, -, hy1⟩ := kid_at hrow 1 (by rw [hl]; simp)
  injection e with e
  injection e with e1 e2
  subst e1 e2
  have e0 : v.l[0]'(by rw [hl]; simp) = a := by simp [hl]
  have HY0 : Hid (∀ w', Below w.heap.size w w' → At w' g (o) y0) := fun w' hb => (hy0 w' hb).1
  have HI0 : Hid (∀ w', Below w.heap.size w w' → Is w' a y0) := fun w' hb => by have := (hy0 w' hb).2; rwa [e0] at this
  have e1 : v.l[1]'(by rw [hl]; simp) = b := by simp [hl]
  have HY1 : Hid (∀ w', Below w.heap.size w w' → At w' g (o + 6) y1) := fun w' hb => (hy1 w' hb).1
  have HI1 : Hid (∀ w', Below w.heap.size w w' → Is w' b y1) := fun w' hb => by have := (hy1 w' hb).2; rwa [e1] at this
  have hlen : v.l.length = 2 := by rw [hl]; rfl
  have TH1 : Hid (∀ w', Below w.heap.size w w' → Calls Try.prog 79 #[y0.v] w' fun e w'' => e = .returned (.bool p) ∧ Below w'.heap.size w' w'') := fun w' hb => H1 y0 w' (HI0.out w' hb)
  have TH2 : Hid (∀ w', Below w.heap.size w w' → Calls Try.prog 80 #[y1.v] w' fun e w'' => e = .returned (.bool q) ∧ Below w'.heap.size w' w'') := fun w' hb => H2 y1 w' (HI1.out w' hb)
  simp only [X.v] at HO TH1 TH2 ⊢
  rw [hk, hlen] at HO HF HW0 ⊢
  clear h hb hrow hW0 hk hlen hl hg e0 hy0 HI0 e1 hy1 HI1 H1 H2
  obtain ⟨yk0, ynm0, yn0, ys0, yka0, ykn0, ykc0, yla0, yln0, ylc0⟩ := y0
  obtain ⟨yk1, ynm1, yn1, ys1, yka1, ykn1, ykc1, yla1, yln1, ylc1⟩ := y1
  generalize fields (ctch3 v) v = bo at *
  generalize v.nm = nm at *
  generalize v.n = n at *
  generalize v.s = s at *
  generalize v.ks.length = kn at *
  go_enter Try.func62, Try.ntmps62
  go_wp2_with fail
  rw [HW0.out]
  clear HW0
  refine (HO.out _ HB0.out).mono ?_
  rintro e w1 ⟨rfl, hb1⟩
  obtain ⟨d0, d1, d2, d3, d4, d5⟩ := HF.out _ hb1
  dsimp only at d0 d1 d2 d3 d4 d5
  have HB1 := Lib.hid (HB0.out.trans (hb1.mono HB0.out.size))
  clear hb1
  cases bo
  · go_wp2_with fail
    go_ret
    exact ⟨rfl, HB1.out⟩
  obtain ⟨c0, c1, c2, c3, c4, c5⟩ := HY0.out _ HB1.out
  dsimp only at c0 c1 c2 c3 c4 c5
  go_wp2_with fail
  clear c0 c1 c2 c3 c4 c5 d0 d1 d2 d3 d4 d5
  refine (TH1.out _ HB1.out).mono ?_
  rintro e w2 ⟨rfl, hb2⟩
  have HB2 := Lib.hid (HB1.out.trans (hb2.mono HB1.out.size))
  clear hb2
  cases p
  ·
    skip
    go_wp2_with fail
    go_ret
    exact ⟨rfl, HB2.out⟩
  ·
    skip
    obtain ⟨c0, c1, c2, c3, c4, c5⟩ := HY1.out _ HB2.out
    dsimp only at c0 c1 c2 c3 c4 c5
    go_wp2_with fail
    clear c0 c1 c2 c3 c4 c5
    refine (TH2.out _ HB2.out).mono ?_
    rintro e w3 ⟨rfl, hb3⟩
    have HB3 := Lib.hid (HB2.out.trans (hb3.mono HB2.out.size))
    clear hb3
    cases q
    ·
      skip
      go_wp2_with fail
      go_ret
      exact ⟨rfl, HB3.out⟩
    ·
      skip
      go_wp2_with fail
      go_ret
      exact ⟨rfl, HB3.out⟩
set_option maxRecDepth 8000 in
set_option maxHeartbeats 4000000 in
theorem rst_26b (v a b c : V) (p q r : Bool) (hb : v.bulk ≤ 4194304) (hk : v.k = 26) (hl : v.l = [a, b, c])
    (H1 : Tells 79 a p) (H2 : Tells 80 b q) (H3 : Tells 80 c r) :
    Tells 62 v (fields (ctch3 v) v && (r && (p && q))) := by
  intro x w h
  have HO := Lib.hid fun w' (hb' : Below w.heap.size w w') => own_any v x w' (Is.below hb' _ _ h) hb
  obtain ⟨xka, xkc, xla, xlc, rfl, -, -, -, hrow⟩ := h.open
  obtain ⟨W0, hW0⟩ : ∃ W0, w.alloc (.cells #[.int .i64 v.k, .string v.nm, .int .i64 v.n, .string v.s, .slice xka v.ks.length xkc, .slice xla v.l.length xlc] 25) = W0 := ⟨_, rfl⟩
  have HB0 : Hid (Below w.heap.size w W0) := by rw [← hW0]; exact below_alloc _ _
  have HF : Hid (∀ w', Below W0.heap.size W0 w' → At w' w.heap.size 0 ⟨v.k, v.nm, v.n, v.s, xka, v.ks.length, xkc, xla, v.l.length, xlc⟩) := fun w' hb => by
    have h0 : At W0 w.heap.size 0 ⟨v.k, v.nm, v.n, v.s, xka, v.ks.length, xkc, xla, v.l.length, xlc⟩ := by rw [← hW0]; exact at_row (hp_new rfl) rfl rfl rfl rfl rfl rfl
    exact h0.below (B := W0.heap.size) (by rw [← hW0]; simp) hb
  have HW0 := Lib.hid hW0
  obtain ⟨g, o, y0, rfl, hg, hy0⟩ := kid_at hrow 0 (by rw [hl]; simp)
  obtain ⟨g', o', y1, e, -, hy1⟩ := kid_at hrow 1 (by rw [hl]; simp)
  injection e with e
  injection e with e1 e2
  subst e1 e2
  obtain ⟨g', o', y2, e, -, hy2⟩ := kid_at hrow 2 (by rw [hl]; simp)
  injection e with e
  injection e with e1 e2
  subst e1 e2
  have e0 : v.l[0]'(by rw [hl]; simp) = a := by simp [hl]
  have HY0 : Hid (∀ w', Below w.heap.size w w' → At w' g (o) y0) := fun w' hb => (hy0 w' hb).1
  have HI0 : Hid (∀ w', Below w.heap.size w w' → Is w' a y0) := fun w' hb => by have := (hy0 w' hb).2; rwa [e0] at this
  have e1 : v.l[1]'(by rw [hl]; simp) = b := by simp [hl]
  have HY1 : Hid (∀ w', Below w.heap.size w w' → At w' g (o + 6) y1) := fun w' hb => (hy1 w' hb).1
  have HI1 : Hid (∀ w', Below w.heap.size w w' → Is w' b y1) := fun w' hb => by have := (hy1 w' hb).2; rwa [e1] at this
  have e2 : v.l[2]'(by rw [hl]; simp) = c := by simp [hl]
  have HY2 : Hid (∀ w', Below w.heap.size w w' → At w' g (o + 12) y2) := fun w' hb => (hy2 w' hb).1
  have HI2 : Hid (∀ w', Below w.heap.size w w' → Is w' c y2) := fun w' hb => by have := (hy2 w' hb).2; rwa [e2] at this
  have hlen : v.l.length = 3 := by rw [hl]; rfl
  have TH1 : Hid (∀ w', Below w.heap.size w w' → Calls Try.prog 79 #[y0.v] w' fun e w'' => e = .returned (.bool p) ∧ Below w'.heap.size w' w'') := fun w' hb => H1 y0 w' (HI0.out w' hb)
  have TH2 : Hid (∀ w', Below w.heap.size w w' → Calls Try.prog 80 #[y1.v] w' fun e w'' => e = .returned (.bool q) ∧ Below w'.heap.size w' w'') := fun w' hb => H2 y1 w' (HI1.out w' hb)
  have TH3 : Hid (∀ w', Below w.heap.size w w' → Calls Try.prog 80 #[y2.v] w' fun e w'' => e = .returned (.bool r) ∧ Below w'.heap.size w' w'') := fun w' hb => H3 y2 w' (HI2.out w' hb)
  simp only [X.v] at HO TH1 TH2 TH3 ⊢
  rw [hk, hlen] at HO HF HW0 ⊢
  clear h hb hrow hW0 hk hlen hl hg e0 hy0 HI0 e1 hy1 HI1 e2 hy2 HI2 H1 H2 H3
  obtain ⟨yk0, ynm0, yn0, ys0, yka0, ykn0, ykc0, yla0, yln0, ylc0⟩ := y0
  obtain ⟨yk1, ynm1, yn1, ys1, yka1, ykn1, ykc1, yla1, yln1, ylc1⟩ := y1
  obtain ⟨yk2, ynm2, yn2, ys2, yka2, ykn2, ykc2, yla2, yln2, ylc2⟩ := y2
  generalize fields (ctch3 v) v = bo at *
  generalize v.nm = nm at *
  generalize v.n = n at *
  generalize v.s = s at *
  generalize v.ks.length = kn at *
  go_enter Try.func62, Try.ntmps62
  go_wp2_with fail
  rw [HW0.out]
  clear HW0
  refine (HO.out _ HB0.out).mono ?_
  rintro e w1 ⟨rfl, hb1⟩
  obtain ⟨d0, d1, d2, d3, d4, d5⟩ := HF.out _ hb1
  dsimp only at d0 d1 d2 d3 d4 d5
  have HB1 := Lib.hid (HB0.out.trans (hb1.mono HB0.out.size))
  clear hb1
  cases bo
  · go_wp2_with fail
    go_ret
    exact ⟨rfl, HB1.out⟩
  obtain ⟨c0, c1, c2, c3, c4, c5⟩ := HY2.out _ HB1.out
  dsimp only at c0 c1 c2 c3 c4 c5
  go_wp2_with fail
  clear c0 c1 c2 c3 c4 c5 d0 d1 d2 d3 d4 d5
  refine (TH3.out _ HB1.out).mono ?_
  rintro e w2 ⟨rfl, hb2⟩
  have HB2 := Lib.hid (HB1.out.trans (hb2.mono HB1.out.size))
  clear hb2
  cases r
  ·
    skip
    go_wp2_with fail
    go_ret
    exact ⟨rfl, HB2.out⟩
  ·
    skip
    obtain ⟨c0, c1, c2, c3, c4, c5⟩ := HY0.out _ HB2.out
    dsimp only at c0 c1 c2 c3 c4 c5
    go_wp2_with fail
    clear c0 c1 c2 c3 c4 c5
    refine (TH1.out _ HB2.out).mono ?_
    rintro e w3 ⟨rfl, hb3⟩
    have HB3 := Lib.hid (HB2.out.trans (hb3.mono HB2.out.size))
    clear hb3
    cases p
    ·
      skip
      go_wp2_with fail
      go_ret
      exact ⟨rfl, HB3.out⟩
    ·
      skip
      obtain ⟨c0, c1, c2, c3, c4, c5⟩ := HY1.out _ HB3.out
      dsimp only at c0 c1 c2 c3 c4 c5
      go_wp2_with fail
      clear c0 c1 c2 c3 c4 c5
      refine (TH2.out _ HB3.out).mono ?_
      rintro e w4 ⟨rfl, hb4⟩
      have HB4 := Lib.hid (HB3.out.trans (hb4.mono HB3.out.size))
      clear hb4
      cases q
      ·
        skip
        go_wp2_with fail
        go_ret
        exact ⟨rfl, HB4.out⟩
      ·
        skip
        go_wp2_with fail
        go_ret
        exact ⟨rfl, HB4.out⟩
end Go.Proofs.Ytgehgccgologpaa.R
