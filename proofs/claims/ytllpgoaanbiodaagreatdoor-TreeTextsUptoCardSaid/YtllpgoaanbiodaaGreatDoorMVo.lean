/-

-/
import Derived.Test.YtllpgoaanbiodaaGreatDoorMBx
import Derived.Test.YtllpgoaanbiodaaGreatDoorMVk
set_option maxHeartbeats 4000000
set_option maxRecDepth 8000
namespace Go.Proofs.YtllpgoaanbiodaaGreatDoor.R
open Go.RowKit Go.Proofs.YtllpgoaanbiodaaGreatDoor Go.Proofs.YtllpgoaanbiodaaGreatDoor.T
theorem max_nat' (a b : Nat) : max (a : Int) (b : Int) = ((max a b : Nat) : Int) := by omega
theorem deeps_snoc' (l : List V) (j : Nat) (h : j < l.length) : V.deeps (l.take (j + 1)) = max (V.deeps (l.take j)) l[j].deep := by
 rw [snoc_get l j h, deeps_append]
 simp [V.deeps]
theorem refDeep_any : ∀ (v : V) (x : X) (w : World), Is w v x → v.bulk ≤ 4194304 →
  Calls Tryz.prog 14 #[x.v] w fun e w' => e = .returned (.int .i64 (v.deep : Nat)) ∧ Below w.heap.size w w' := by
 refine V.ind fun k nm n s ks l ih => ?_
 intro x w h hbk
 obtain ⟨ka, kc, la, lc, rfl, h1, h2, h3, h4⟩ := h.open
 simp only [V.k, V.nm, V.n, V.s, V.ks, V.l] at *
 have hbl : V.bulks l ≤ 4194304 := by
  simp only [V.bulk] at hbk
  omega
 have hll : l.length ≤ 4194304 := Nat.le_trans (length_le_bulks l) hbl
 have hdl : V.deeps l ≤ 4194304 := by
  have e1 := deep_le_size (.mk k nm n s ks l)
  have e2 := size_le_bulk (.mk k nm n s ks l)
  simp only [V.deep] at e1
  omega
 clear hbk
 unfold X.v
 go_enter Tryz.func14, Tryz.ntmps14
 go_wp2_with fail
 go_loopw [3, 9] (fun t i wr => ∃ j : Nat, j ≤ l.length ∧ i = .int .i64 j ∧ t = .int .i64 ((V.deeps (l.take j) : Nat) : Int) ∧ Below w.heap.size w wr)
  (fun _ i _ => l.length - (intOf i).toNat)
 case atStart => exact ⟨0, Nat.zero_le _, rfl, rfl, below_alloc w _⟩
 case round =>
  obtain ⟨j, hj, rfl, rfl, hb⟩ := hrel
  by_cases hlt : j < l.length
  ·obtain ⟨g, o, rfl, hg, y, hy, hv⟩ := h4.at_ hlt
   have hy' := hy.below hg hb
   obtain ⟨c0, c1, c2, c3, c4, c5⟩ := hy'
   obtain ⟨ka', kc', la', lc', rfl, h1', h2', h3', h4'⟩ := hv.open
   have hr := Lib.hid fun w' (hb' : Below w.heap.size w w') => ih l[j] (List.getElem_mem hlt) _ w' (Is.below hb' _ _ hv) (Nat.le_trans (bulk_le_of_mem (List.getElem_mem hlt)) hbl)
   have hs := Lib.hid (deeps_snoc' l j hlt)
   have HM := max_nat' (V.deeps (l.take j)) l[j].deep
   simp only [X.v] at *
   generalize l[j] = u at *
   clear hv hy
   go_wp2_with fail
   refine (hr.out _ (hb.alloc (by have := hb.size; omega) _)).mono ?_
   rintro e w1 ⟨rfl, hb1⟩
   have hb2 := (hb.alloc (B := w.heap.size) (by have := hb.size; omega) (.cells #[.int .i64 u.k, .string u.nm, .int .i64 u.n, .string u.s, .slice ka' u.ks.length kc', .slice la' u.l.length lc'] 25)).trans (hb1.mono (by have := hb.size; simp; omega))
   clear c0 c1 c2 c3 c4 c5 hb1 hb
   go_wp2
   go_roundw
   case rel => exact ⟨j + 1, by omega, by go_num, by rw [hs.out], hb2⟩
   case measure => simp [intOf]; omega
  ·obtain rfl : j = l.length := by omega
   rw [List.take_length]
   go_wp2
   go_ret
   exact ⟨by rw [V.deep]; rfl, hb⟩
theorem refIsTarget_any : Pred 20 isTg := by
 intro v x w h
 obtain ⟨ka, kc, la, lc, rfl, h1, h2, h3, h4⟩ := h.open
 have HV : Hid (isTg v = decide (v.k = 3 ∨ v.k = 11 ∨ v.k = 12)) := Lib.hid rfl
 clear h h1 h2 h3 h4
 simp only [X.v]
 generalize v.nm = nm at *
 generalize v.n = n at *
 generalize v.s = s at *
 generalize v.ks.length = kn at *
 generalize v.l.length = ln at *
 generalize v.k = k at *
 by_cases h3 : k = 3
 ·rw [decide_eq_true (.inl h3)] at HV
  subst h3
  go_enter Tryz.func20, Tryz.ntmps20
  go_wp2_with fail
  go_ret
  exact ⟨by rw [HV.out]; rfl, below_alloc w _⟩
 ·by_cases h11 : k = 11
  ·rw [decide_eq_true (.inr (.inl h11))] at HV
   subst h11
   go_enter Tryz.func20, Tryz.ntmps20
   go_wp2_with fail
   go_ret
   exact ⟨by rw [HV.out]; rfl, below_alloc w _⟩
  ·by_cases h12 : k = 12
   ·rw [decide_eq_true (.inr (.inr h12))] at HV
    subst h12
    go_enter Tryz.func20, Tryz.ntmps20
    go_wp2_with fail
    go_ret
    exact ⟨by rw [HV.out]; rfl, below_alloc w _⟩
   ·rw [decide_eq_false (by omega)] at HV
    have b3 : (k == 3) = false := by rw [beq_eq_false_iff_ne]; exact h3
    have b11 : (k == 11) = false := by rw [beq_eq_false_iff_ne]; exact h11
    have b12 : (k == 12) = false := by rw [beq_eq_false_iff_ne]; exact h12
    clear h3 h11 h12
    go_enter Tryz.func20, Tryz.ntmps20
    go_wp2_with fail
    go_ret
    exact ⟨by rw [HV.out]; rfl, below_alloc w _⟩
theorem loop_29 (v a b c d : V) (p0 p1 p2 q0 q1 r0 r1 s : Bool) (hk : v.k = 29) (hl : v.l = [a, b, c, d]) (H1 : Tells 73 a p0) (H2 : Tells 74 a p1) (H3 : Tells 78 a p2)
  (H4 : Tells 74 b q0) (H5 : Tells 78 b q1) (H6 : Tells 74 c r0) (H7 : Tells 78 c r1) (H8 : Tells 75 d s) :
  Tells 76 v ((p0 || (p1 || p2)) && ((q0 || q1) && ((r0 || r1) && s))) := by
 intro x w h
 obtain ⟨xka, xkc, xla, xlc, rfl, -, -, -, hrow⟩ := h.open
 obtain ⟨W0, hW0, HB0, -⟩ := box_new w v.k v.nm v.n v.s xka v.ks.length xkc xla v.l.length xlc
 have HBX := Lib.hid (below_alloc w)
 have HW0 := Lib.hid hW0
 obtain ⟨g, o, y0, rfl, hg, hy0⟩ := kid_at hrow 0 (by rw [hl]; simp)
 obtain ⟨g', o', y1, e, -, hy1⟩ := kid_at hrow 1 (by rw [hl]; simp)
 injection e with e
 injection e with e1 e2
 subst e1 e2
 obtain ⟨g', o', y2, e, -, hy2⟩ := kid_at hrow 2 (by rw [hl]; simp)
 injection e with e
 injection e with e1 e2
 subst e1 e2
 obtain ⟨g', o', y3, e, -, hy3⟩ := kid_at hrow 3 (by rw [hl]; simp)
 injection e with e
 injection e with e1 e2
 subst e1 e2
 have e0 : v.l[0]'(by rw [hl]; simp) = a := by simp [hl]
 have HY0 : Hid (∀ w', Below w.heap.size w w' → At w' g (o) y0) := fun w' hb => (hy0 w' hb).1
 have HI0 := kidI hy0 e0
 have e1 : v.l[1]'(by rw [hl]; simp) = b := by simp [hl]
 have HY1 : Hid (∀ w', Below w.heap.size w w' → At w' g (o + 6) y1) := fun w' hb => (hy1 w' hb).1
 have HI1 := kidI hy1 e1
 have e2 : v.l[2]'(by rw [hl]; simp) = c := by simp [hl]
 have HY2 : Hid (∀ w', Below w.heap.size w w' → At w' g (o + 12) y2) := fun w' hb => (hy2 w' hb).1
 have HI2 := kidI hy2 e2
 have e3 : v.l[3]'(by rw [hl]; simp) = d := by simp [hl]
 have HY3 : Hid (∀ w', Below w.heap.size w w' → At w' g (o + 18) y3) := fun w' hb => (hy3 w' hb).1
 have HI3 := kidI hy3 e3
 have hlen : v.l.length = 4 := by rw [hl]; rfl
 have TH1 := Lib.hid fun w' (hb : Below w.heap.size w w') => H1 y0 w' (HI0.out w' hb)
 have TH2 := Lib.hid fun w' (hb : Below w.heap.size w w') => H2 y0 w' (HI0.out w' hb)
 have TH3 := Lib.hid fun w' (hb : Below w.heap.size w w') => H3 y0 w' (HI0.out w' hb)
 have TH4 := Lib.hid fun w' (hb : Below w.heap.size w w') => H4 y1 w' (HI1.out w' hb)
 have TH5 := Lib.hid fun w' (hb : Below w.heap.size w w') => H5 y1 w' (HI1.out w' hb)
 have TH6 := Lib.hid fun w' (hb : Below w.heap.size w w') => H6 y2 w' (HI2.out w' hb)
 have TH7 := Lib.hid fun w' (hb : Below w.heap.size w w') => H7 y2 w' (HI2.out w' hb)
 have TH8 := Lib.hid fun w' (hb : Below w.heap.size w w') => H8 y3 w' (HI3.out w' hb)
 simp only [X.v] at TH1 TH2 TH3 TH4 TH5 TH6 TH7 TH8 ⊢
 rw [hk, hlen] at HW0 ⊢
 clear h hrow hW0 hk hlen hl hg e0 hy0 HI0 e1 hy1 HI1 e2 hy2 HI2 e3 hy3 HI3 H1 H2 H3 H4 H5 H6 H7 H8
 obtain ⟨yk0, ynm0, yn0, ys0, yka0, ykn0, ykc0, yla0, yln0, ylc0⟩ := y0
 obtain ⟨yk1, ynm1, yn1, ys1, yka1, ykn1, ykc1, yla1, yln1, ylc1⟩ := y1
 obtain ⟨yk2, ynm2, yn2, ys2, yka2, ykn2, ykc2, yla2, yln2, ylc2⟩ := y2
 obtain ⟨yk3, ynm3, yn3, ys3, yka3, ykn3, ykc3, yla3, yln3, ylc3⟩ := y3
 obtain ⟨c00, c01, c02, c03, c04, c05⟩ := (HY0.out _ (HBX.out (.cells #[.int .i64 29, .string v.nm, .int .i64 v.n, .string v.s, .slice xka v.ks.length xkc, .slice (some ⟨g, o, none⟩) 4 xlc] 25))).six
 obtain ⟨c10, c11, c12, c13, c14, c15⟩ := (HY1.out _ (HBX.out (.cells #[.int .i64 29, .string v.nm, .int .i64 v.n, .string v.s, .slice xka v.ks.length xkc, .slice (some ⟨g, o, none⟩) 4 xlc] 25))).six
 obtain ⟨c20, c21, c22, c23, c24, c25⟩ := (HY2.out _ (HBX.out (.cells #[.int .i64 29, .string v.nm, .int .i64 v.n, .string v.s, .slice xka v.ks.length xkc, .slice (some ⟨g, o, none⟩) 4 xlc] 25))).six
 obtain ⟨c30, c31, c32, c33, c34, c35⟩ := (HY3.out _ (HBX.out (.cells #[.int .i64 29, .string v.nm, .int .i64 v.n, .string v.s, .slice xka v.ks.length xkc, .slice (some ⟨g, o, none⟩) 4 xlc] 25))).six
 go_enter Tryz.func76, Tryz.ntmps76
 go_wp2_with fail
 rw [HW0.out]
 clear c00 c01 c02 c03 c04 c05 c10 c11 c12 c13 c14 c15 c20 c21 c22 c23 c24 c25 c30 c31 c32 c33 c34 c35
 refine (TH1.out _ HB0.out).mono ?_
 rintro e w1 ⟨rfl, hb1⟩
 have HB1 := Lib.hid (HB0.out.trans (hb1.mono HB0.out.size))
 clear hb1
 obtain ⟨c00, c01, c02, c03, c04, c05⟩ := (HY0.out _ HB1.out).six
 obtain ⟨c10, c11, c12, c13, c14, c15⟩ := (HY1.out _ HB1.out).six
 obtain ⟨c20, c21, c22, c23, c24, c25⟩ := (HY2.out _ HB1.out).six
 obtain ⟨c30, c31, c32, c33, c34, c35⟩ := (HY3.out _ HB1.out).six
 cases p0
 ·
  skip
  go_wp2_with fail
  clear c00 c01 c02 c03 c04 c05 c10 c11 c12 c13 c14 c15 c20 c21 c22 c23 c24 c25 c30 c31 c32 c33 c34 c35
  refine (TH2.out _ HB1.out).mono ?_
  rintro e w2 ⟨rfl, hb2⟩
  have HB2 := Lib.hid (HB1.out.trans (hb2.mono HB1.out.size))
  clear hb2
  obtain ⟨c00, c01, c02, c03, c04, c05⟩ := (HY0.out _ HB2.out).six
  obtain ⟨c10, c11, c12, c13, c14, c15⟩ := (HY1.out _ HB2.out).six
  obtain ⟨c20, c21, c22, c23, c24, c25⟩ := (HY2.out _ HB2.out).six
  obtain ⟨c30, c31, c32, c33, c34, c35⟩ := (HY3.out _ HB2.out).six
  cases p1
  ·
   skip
   go_wp2_with fail
   clear c00 c01 c02 c03 c04 c05 c10 c11 c12 c13 c14 c15 c20 c21 c22 c23 c24 c25 c30 c31 c32 c33 c34 c35
   refine (TH3.out _ HB2.out).mono ?_
   rintro e w3 ⟨rfl, hb3⟩
   have HB3 := Lib.hid (HB2.out.trans (hb3.mono HB2.out.size))
   clear hb3
   obtain ⟨c00, c01, c02, c03, c04, c05⟩ := (HY0.out _ HB3.out).six
   obtain ⟨c10, c11, c12, c13, c14, c15⟩ := (HY1.out _ HB3.out).six
   obtain ⟨c20, c21, c22, c23, c24, c25⟩ := (HY2.out _ HB3.out).six
   obtain ⟨c30, c31, c32, c33, c34, c35⟩ := (HY3.out _ HB3.out).six
   cases p2
   ·
    skip
    go_wp2_with fail
    go_ret
    exact ⟨rfl, HB3.out⟩
   ·
    skip
    go_wp2_with fail
    clear c00 c01 c02 c03 c04 c05 c10 c11 c12 c13 c14 c15 c20 c21 c22 c23 c24 c25 c30 c31 c32 c33 c34 c35
    refine (TH4.out _ HB3.out).mono ?_
    rintro e w4 ⟨rfl, hb4⟩
    have HB4 := Lib.hid (HB3.out.trans (hb4.mono HB3.out.size))
    clear hb4
    obtain ⟨c00, c01, c02, c03, c04, c05⟩ := (HY0.out _ HB4.out).six
    obtain ⟨c10, c11, c12, c13, c14, c15⟩ := (HY1.out _ HB4.out).six
    obtain ⟨c20, c21, c22, c23, c24, c25⟩ := (HY2.out _ HB4.out).six
    obtain ⟨c30, c31, c32, c33, c34, c35⟩ := (HY3.out _ HB4.out).six
    cases q0
    ·
     skip
     go_wp2_with fail
     clear c00 c01 c02 c03 c04 c05 c10 c11 c12 c13 c14 c15 c20 c21 c22 c23 c24 c25 c30 c31 c32 c33 c34 c35
     refine (TH5.out _ HB4.out).mono ?_
     rintro e w5 ⟨rfl, hb5⟩
     have HB5 := Lib.hid (HB4.out.trans (hb5.mono HB4.out.size))
     clear hb5
     obtain ⟨c00, c01, c02, c03, c04, c05⟩ := (HY0.out _ HB5.out).six
     obtain ⟨c10, c11, c12, c13, c14, c15⟩ := (HY1.out _ HB5.out).six
     obtain ⟨c20, c21, c22, c23, c24, c25⟩ := (HY2.out _ HB5.out).six
     obtain ⟨c30, c31, c32, c33, c34, c35⟩ := (HY3.out _ HB5.out).six
     cases q1
     ·
      skip
      go_wp2_with fail
      go_ret
      exact ⟨rfl, HB5.out⟩
     ·
      skip
      go_wp2_with fail
      clear c00 c01 c02 c03 c04 c05 c10 c11 c12 c13 c14 c15 c20 c21 c22 c23 c24 c25 c30 c31 c32 c33 c34 c35
      refine (TH6.out _ HB5.out).mono ?_
      rintro e w6 ⟨rfl, hb6⟩
      have HB6 := Lib.hid (HB5.out.trans (hb6.mono HB5.out.size))
      clear hb6
      obtain ⟨c00, c01, c02, c03, c04, c05⟩ := (HY0.out _ HB6.out).six
      obtain ⟨c10, c11, c12, c13, c14, c15⟩ := (HY1.out _ HB6.out).six
      obtain ⟨c20, c21, c22, c23, c24, c25⟩ := (HY2.out _ HB6.out).six
      obtain ⟨c30, c31, c32, c33, c34, c35⟩ := (HY3.out _ HB6.out).six
      cases r0
      ·
       skip
       go_wp2_with fail
       clear c00 c01 c02 c03 c04 c05 c10 c11 c12 c13 c14 c15 c20 c21 c22 c23 c24 c25 c30 c31 c32 c33 c34 c35
       refine (TH7.out _ HB6.out).mono ?_
       rintro e w7 ⟨rfl, hb7⟩
       have HB7 := Lib.hid (HB6.out.trans (hb7.mono HB6.out.size))
       clear hb7
       obtain ⟨c00, c01, c02, c03, c04, c05⟩ := (HY0.out _ HB7.out).six
       obtain ⟨c10, c11, c12, c13, c14, c15⟩ := (HY1.out _ HB7.out).six
       obtain ⟨c20, c21, c22, c23, c24, c25⟩ := (HY2.out _ HB7.out).six
       obtain ⟨c30, c31, c32, c33, c34, c35⟩ := (HY3.out _ HB7.out).six
       cases r1
       ·
        skip
        go_wp2_with fail
        go_ret
        exact ⟨rfl, HB7.out⟩
       ·
        skip
        go_wp2_with fail
        clear c00 c01 c02 c03 c04 c05 c10 c11 c12 c13 c14 c15 c20 c21 c22 c23 c24 c25 c30 c31 c32 c33 c34 c35
        refine (TH8.out _ HB7.out).mono ?_
        rintro e w8 ⟨rfl, hb8⟩
        have HB8 := Lib.hid (HB7.out.trans (hb8.mono HB7.out.size))
        clear hb8
        obtain ⟨c00, c01, c02, c03, c04, c05⟩ := (HY0.out _ HB8.out).six
        obtain ⟨c10, c11, c12, c13, c14, c15⟩ := (HY1.out _ HB8.out).six
        obtain ⟨c20, c21, c22, c23, c24, c25⟩ := (HY2.out _ HB8.out).six
        obtain ⟨c30, c31, c32, c33, c34, c35⟩ := (HY3.out _ HB8.out).six
        cases s
        ·
         skip
         go_wp2_with fail
         go_ret
         exact ⟨rfl, HB8.out⟩
        ·
         skip
         go_wp2_with fail
         go_ret
         exact ⟨rfl, HB8.out⟩
      ·
       skip
       go_wp2_with fail
       clear c00 c01 c02 c03 c04 c05 c10 c11 c12 c13 c14 c15 c20 c21 c22 c23 c24 c25 c30 c31 c32 c33 c34 c35
       refine (TH8.out _ HB6.out).mono ?_
       rintro e w7 ⟨rfl, hb7⟩
       have HB7 := Lib.hid (HB6.out.trans (hb7.mono HB6.out.size))
       clear hb7
       obtain ⟨c00, c01, c02, c03, c04, c05⟩ := (HY0.out _ HB7.out).six
       obtain ⟨c10, c11, c12, c13, c14, c15⟩ := (HY1.out _ HB7.out).six
       obtain ⟨c20, c21, c22, c23, c24, c25⟩ := (HY2.out _ HB7.out).six
       obtain ⟨c30, c31, c32, c33, c34, c35⟩ := (HY3.out _ HB7.out).six
       cases s
       ·
        skip
        go_wp2_with fail
        go_ret
        exact ⟨rfl, HB7.out⟩
       ·
        skip
        go_wp2_with fail
        go_ret
        exact ⟨rfl, HB7.out⟩
    ·
     skip
     go_wp2_with fail
     clear c00 c01 c02 c03 c04 c05 c10 c11 c12 c13 c14 c15 c20 c21 c22 c23 c24 c25 c30 c31 c32 c33 c34 c35
     refine (TH6.out _ HB4.out).mono ?_
     rintro e w5 ⟨rfl, hb5⟩
     have HB5 := Lib.hid (HB4.out.trans (hb5.mono HB4.out.size))
     clear hb5
     obtain ⟨c00, c01, c02, c03, c04, c05⟩ := (HY0.out _ HB5.out).six
     obtain ⟨c10, c11, c12, c13, c14, c15⟩ := (HY1.out _ HB5.out).six
     obtain ⟨c20, c21, c22, c23, c24, c25⟩ := (HY2.out _ HB5.out).six
     obtain ⟨c30, c31, c32, c33, c34, c35⟩ := (HY3.out _ HB5.out).six
     cases r0
     ·
      skip
      go_wp2_with fail
      clear c00 c01 c02 c03 c04 c05 c10 c11 c12 c13 c14 c15 c20 c21 c22 c23 c24 c25 c30 c31 c32 c33 c34 c35
      refine (TH7.out _ HB5.out).mono ?_
      rintro e w6 ⟨rfl, hb6⟩
      have HB6 := Lib.hid (HB5.out.trans (hb6.mono HB5.out.size))
      clear hb6
      obtain ⟨c00, c01, c02, c03, c04, c05⟩ := (HY0.out _ HB6.out).six
      obtain ⟨c10, c11, c12, c13, c14, c15⟩ := (HY1.out _ HB6.out).six
      obtain ⟨c20, c21, c22, c23, c24, c25⟩ := (HY2.out _ HB6.out).six
      obtain ⟨c30, c31, c32, c33, c34, c35⟩ := (HY3.out _ HB6.out).six
      cases r1
      ·
       skip
       go_wp2_with fail
       go_ret
       exact ⟨rfl, HB6.out⟩
      ·
       skip
       go_wp2_with fail
       clear c00 c01 c02 c03 c04 c05 c10 c11 c12 c13 c14 c15 c20 c21 c22 c23 c24 c25 c30 c31 c32 c33 c34 c35
       refine (TH8.out _ HB6.out).mono ?_
       rintro e w7 ⟨rfl, hb7⟩
       have HB7 := Lib.hid (HB6.out.trans (hb7.mono HB6.out.size))
       clear hb7
       obtain ⟨c00, c01, c02, c03, c04, c05⟩ := (HY0.out _ HB7.out).six
       obtain ⟨c10, c11, c12, c13, c14, c15⟩ := (HY1.out _ HB7.out).six
       obtain ⟨c20, c21, c22, c23, c24, c25⟩ := (HY2.out _ HB7.out).six
       obtain ⟨c30, c31, c32, c33, c34, c35⟩ := (HY3.out _ HB7.out).six
       cases s
       ·
        skip
        go_wp2_with fail
        go_ret
        exact ⟨rfl, HB7.out⟩
       ·
        skip
        go_wp2_with fail
        go_ret
        exact ⟨rfl, HB7.out⟩
     ·
      skip
      go_wp2_with fail
      clear c00 c01 c02 c03 c04 c05 c10 c11 c12 c13 c14 c15 c20 c21 c22 c23 c24 c25 c30 c31 c32 c33 c34 c35
      refine (TH8.out _ HB5.out).mono ?_
      rintro e w6 ⟨rfl, hb6⟩
      have HB6 := Lib.hid (HB5.out.trans (hb6.mono HB5.out.size))
      clear hb6
      obtain ⟨c00, c01, c02, c03, c04, c05⟩ := (HY0.out _ HB6.out).six
      obtain ⟨c10, c11, c12, c13, c14, c15⟩ := (HY1.out _ HB6.out).six
      obtain ⟨c20, c21, c22, c23, c24, c25⟩ := (HY2.out _ HB6.out).six
      obtain ⟨c30, c31, c32, c33, c34, c35⟩ := (HY3.out _ HB6.out).six
      cases s
      ·
       skip
       go_wp2_with fail
       go_ret
       exact ⟨rfl, HB6.out⟩
      ·
       skip
       go_wp2_with fail
       go_ret
       exact ⟨rfl, HB6.out⟩
  ·
   skip
   go_wp2_with fail
   clear c00 c01 c02 c03 c04 c05 c10 c11 c12 c13 c14 c15 c20 c21 c22 c23 c24 c25 c30 c31 c32 c33 c34 c35
   refine (TH4.out _ HB2.out).mono ?_
   rintro e w3 ⟨rfl, hb3⟩
   have HB3 := Lib.hid (HB2.out.trans (hb3.mono HB2.out.size))
   clear hb3
   obtain ⟨c00, c01, c02, c03, c04, c05⟩ := (HY0.out _ HB3.out).six
   obtain ⟨c10, c11, c12, c13, c14, c15⟩ := (HY1.out _ HB3.out).six
   obtain ⟨c20, c21, c22, c23, c24, c25⟩ := (HY2.out _ HB3.out).six
   obtain ⟨c30, c31, c32, c33, c34, c35⟩ := (HY3.out _ HB3.out).six
   cases q0
   ·
    skip
    go_wp2_with fail
    clear c00 c01 c02 c03 c04 c05 c10 c11 c12 c13 c14 c15 c20 c21 c22 c23 c24 c25 c30 c31 c32 c33 c34 c35
    refine (TH5.out _ HB3.out).mono ?_
    rintro e w4 ⟨rfl, hb4⟩
    have HB4 := Lib.hid (HB3.out.trans (hb4.mono HB3.out.size))
    clear hb4
    obtain ⟨c00, c01, c02, c03, c04, c05⟩ := (HY0.out _ HB4.out).six
    obtain ⟨c10, c11, c12, c13, c14, c15⟩ := (HY1.out _ HB4.out).six
    obtain ⟨c20, c21, c22, c23, c24, c25⟩ := (HY2.out _ HB4.out).six
    obtain ⟨c30, c31, c32, c33, c34, c35⟩ := (HY3.out _ HB4.out).six
    cases q1
    ·
     skip
     go_wp2_with fail
     go_ret
     exact ⟨rfl, HB4.out⟩
    ·
     skip
     go_wp2_with fail
     clear c00 c01 c02 c03 c04 c05 c10 c11 c12 c13 c14 c15 c20 c21 c22 c23 c24 c25 c30 c31 c32 c33 c34 c35
     refine (TH6.out _ HB4.out).mono ?_
     rintro e w5 ⟨rfl, hb5⟩
     have HB5 := Lib.hid (HB4.out.trans (hb5.mono HB4.out.size))
     clear hb5
     obtain ⟨c00, c01, c02, c03, c04, c05⟩ := (HY0.out _ HB5.out).six
     obtain ⟨c10, c11, c12, c13, c14, c15⟩ := (HY1.out _ HB5.out).six
     obtain ⟨c20, c21, c22, c23, c24, c25⟩ := (HY2.out _ HB5.out).six
     obtain ⟨c30, c31, c32, c33, c34, c35⟩ := (HY3.out _ HB5.out).six
     cases r0
     ·
      skip
      go_wp2_with fail
      clear c00 c01 c02 c03 c04 c05 c10 c11 c12 c13 c14 c15 c20 c21 c22 c23 c24 c25 c30 c31 c32 c33 c34 c35
      refine (TH7.out _ HB5.out).mono ?_
      rintro e w6 ⟨rfl, hb6⟩
      have HB6 := Lib.hid (HB5.out.trans (hb6.mono HB5.out.size))
      clear hb6
      obtain ⟨c00, c01, c02, c03, c04, c05⟩ := (HY0.out _ HB6.out).six
      obtain ⟨c10, c11, c12, c13, c14, c15⟩ := (HY1.out _ HB6.out).six
      obtain ⟨c20, c21, c22, c23, c24, c25⟩ := (HY2.out _ HB6.out).six
      obtain ⟨c30, c31, c32, c33, c34, c35⟩ := (HY3.out _ HB6.out).six
      cases r1
      ·
       skip
       go_wp2_with fail
       go_ret
       exact ⟨rfl, HB6.out⟩
      ·
       skip
       go_wp2_with fail
       clear c00 c01 c02 c03 c04 c05 c10 c11 c12 c13 c14 c15 c20 c21 c22 c23 c24 c25 c30 c31 c32 c33 c34 c35
       refine (TH8.out _ HB6.out).mono ?_
       rintro e w7 ⟨rfl, hb7⟩
       have HB7 := Lib.hid (HB6.out.trans (hb7.mono HB6.out.size))
       clear hb7
       obtain ⟨c00, c01, c02, c03, c04, c05⟩ := (HY0.out _ HB7.out).six
       obtain ⟨c10, c11, c12, c13, c14, c15⟩ := (HY1.out _ HB7.out).six
       obtain ⟨c20, c21, c22, c23, c24, c25⟩ := (HY2.out _ HB7.out).six
       obtain ⟨c30, c31, c32, c33, c34, c35⟩ := (HY3.out _ HB7.out).six
       cases s
       ·
        skip
        go_wp2_with fail
        go_ret
        exact ⟨rfl, HB7.out⟩
       ·
        skip
        go_wp2_with fail
        go_ret
        exact ⟨rfl, HB7.out⟩
     ·
      skip
      go_wp2_with fail
      clear c00 c01 c02 c03 c04 c05 c10 c11 c12 c13 c14 c15 c20 c21 c22 c23 c24 c25 c30 c31 c32 c33 c34 c35
      refine (TH8.out _ HB5.out).mono ?_
      rintro e w6 ⟨rfl, hb6⟩
      have HB6 := Lib.hid (HB5.out.trans (hb6.mono HB5.out.size))
      clear hb6
      obtain ⟨c00, c01, c02, c03, c04, c05⟩ := (HY0.out _ HB6.out).six
      obtain ⟨c10, c11, c12, c13, c14, c15⟩ := (HY1.out _ HB6.out).six
      obtain ⟨c20, c21, c22, c23, c24, c25⟩ := (HY2.out _ HB6.out).six
      obtain ⟨c30, c31, c32, c33, c34, c35⟩ := (HY3.out _ HB6.out).six
      cases s
      ·
       skip
       go_wp2_with fail
       go_ret
       exact ⟨rfl, HB6.out⟩
      ·
       skip
       go_wp2_with fail
       go_ret
       exact ⟨rfl, HB6.out⟩
   ·
    skip
    go_wp2_with fail
    clear c00 c01 c02 c03 c04 c05 c10 c11 c12 c13 c14 c15 c20 c21 c22 c23 c24 c25 c30 c31 c32 c33 c34 c35
    refine (TH6.out _ HB3.out).mono ?_
    rintro e w4 ⟨rfl, hb4⟩
    have HB4 := Lib.hid (HB3.out.trans (hb4.mono HB3.out.size))
    clear hb4
    obtain ⟨c00, c01, c02, c03, c04, c05⟩ := (HY0.out _ HB4.out).six
    obtain ⟨c10, c11, c12, c13, c14, c15⟩ := (HY1.out _ HB4.out).six
    obtain ⟨c20, c21, c22, c23, c24, c25⟩ := (HY2.out _ HB4.out).six
    obtain ⟨c30, c31, c32, c33, c34, c35⟩ := (HY3.out _ HB4.out).six
    cases r0
    ·
     skip
     go_wp2_with fail
     clear c00 c01 c02 c03 c04 c05 c10 c11 c12 c13 c14 c15 c20 c21 c22 c23 c24 c25 c30 c31 c32 c33 c34 c35
     refine (TH7.out _ HB4.out).mono ?_
     rintro e w5 ⟨rfl, hb5⟩
     have HB5 := Lib.hid (HB4.out.trans (hb5.mono HB4.out.size))
     clear hb5
     obtain ⟨c00, c01, c02, c03, c04, c05⟩ := (HY0.out _ HB5.out).six
     obtain ⟨c10, c11, c12, c13, c14, c15⟩ := (HY1.out _ HB5.out).six
     obtain ⟨c20, c21, c22, c23, c24, c25⟩ := (HY2.out _ HB5.out).six
     obtain ⟨c30, c31, c32, c33, c34, c35⟩ := (HY3.out _ HB5.out).six
     cases r1
     ·
      skip
      go_wp2_with fail
      go_ret
      exact ⟨rfl, HB5.out⟩
     ·
      skip
      go_wp2_with fail
      clear c00 c01 c02 c03 c04 c05 c10 c11 c12 c13 c14 c15 c20 c21 c22 c23 c24 c25 c30 c31 c32 c33 c34 c35
      refine (TH8.out _ HB5.out).mono ?_
      rintro e w6 ⟨rfl, hb6⟩
      have HB6 := Lib.hid (HB5.out.trans (hb6.mono HB5.out.size))
      clear hb6
      obtain ⟨c00, c01, c02, c03, c04, c05⟩ := (HY0.out _ HB6.out).six
      obtain ⟨c10, c11, c12, c13, c14, c15⟩ := (HY1.out _ HB6.out).six
      obtain ⟨c20, c21, c22, c23, c24, c25⟩ := (HY2.out _ HB6.out).six
      obtain ⟨c30, c31, c32, c33, c34, c35⟩ := (HY3.out _ HB6.out).six
      cases s
      ·
       skip
       go_wp2_with fail
       go_ret
       exact ⟨rfl, HB6.out⟩
      ·
       skip
       go_wp2_with fail
       go_ret
       exact ⟨rfl, HB6.out⟩
    ·
     skip
     go_wp2_with fail
     clear c00 c01 c02 c03 c04 c05 c10 c11 c12 c13 c14 c15 c20 c21 c22 c23 c24 c25 c30 c31 c32 c33 c34 c35
     refine (TH8.out _ HB4.out).mono ?_
     rintro e w5 ⟨rfl, hb5⟩
     have HB5 := Lib.hid (HB4.out.trans (hb5.mono HB4.out.size))
     clear hb5
     obtain ⟨c00, c01, c02, c03, c04, c05⟩ := (HY0.out _ HB5.out).six
     obtain ⟨c10, c11, c12, c13, c14, c15⟩ := (HY1.out _ HB5.out).six
     obtain ⟨c20, c21, c22, c23, c24, c25⟩ := (HY2.out _ HB5.out).six
     obtain ⟨c30, c31, c32, c33, c34, c35⟩ := (HY3.out _ HB5.out).six
     cases s
     ·
      skip
      go_wp2_with fail
      go_ret
      exact ⟨rfl, HB5.out⟩
     ·
      skip
      go_wp2_with fail
      go_ret
      exact ⟨rfl, HB5.out⟩
 ·
  skip
  go_wp2_with fail
  clear c00 c01 c02 c03 c04 c05 c10 c11 c12 c13 c14 c15 c20 c21 c22 c23 c24 c25 c30 c31 c32 c33 c34 c35
  refine (TH4.out _ HB1.out).mono ?_
  rintro e w2 ⟨rfl, hb2⟩
  have HB2 := Lib.hid (HB1.out.trans (hb2.mono HB1.out.size))
  clear hb2
  obtain ⟨c00, c01, c02, c03, c04, c05⟩ := (HY0.out _ HB2.out).six
  obtain ⟨c10, c11, c12, c13, c14, c15⟩ := (HY1.out _ HB2.out).six
  obtain ⟨c20, c21, c22, c23, c24, c25⟩ := (HY2.out _ HB2.out).six
  obtain ⟨c30, c31, c32, c33, c34, c35⟩ := (HY3.out _ HB2.out).six
  cases q0
  ·
   skip
   go_wp2_with fail
   clear c00 c01 c02 c03 c04 c05 c10 c11 c12 c13 c14 c15 c20 c21 c22 c23 c24 c25 c30 c31 c32 c33 c34 c35
   refine (TH5.out _ HB2.out).mono ?_
   rintro e w3 ⟨rfl, hb3⟩
   have HB3 := Lib.hid (HB2.out.trans (hb3.mono HB2.out.size))
   clear hb3
   obtain ⟨c00, c01, c02, c03, c04, c05⟩ := (HY0.out _ HB3.out).six
   obtain ⟨c10, c11, c12, c13, c14, c15⟩ := (HY1.out _ HB3.out).six
   obtain ⟨c20, c21, c22, c23, c24, c25⟩ := (HY2.out _ HB3.out).six
   obtain ⟨c30, c31, c32, c33, c34, c35⟩ := (HY3.out _ HB3.out).six
   cases q1
   ·
    skip
    go_wp2_with fail
    go_ret
    exact ⟨rfl, HB3.out⟩
   ·
    skip
    go_wp2_with fail
    clear c00 c01 c02 c03 c04 c05 c10 c11 c12 c13 c14 c15 c20 c21 c22 c23 c24 c25 c30 c31 c32 c33 c34 c35
    refine (TH6.out _ HB3.out).mono ?_
    rintro e w4 ⟨rfl, hb4⟩
    have HB4 := Lib.hid (HB3.out.trans (hb4.mono HB3.out.size))
    clear hb4
    obtain ⟨c00, c01, c02, c03, c04, c05⟩ := (HY0.out _ HB4.out).six
    obtain ⟨c10, c11, c12, c13, c14, c15⟩ := (HY1.out _ HB4.out).six
    obtain ⟨c20, c21, c22, c23, c24, c25⟩ := (HY2.out _ HB4.out).six
    obtain ⟨c30, c31, c32, c33, c34, c35⟩ := (HY3.out _ HB4.out).six
    cases r0
    ·
     skip
     go_wp2_with fail
     clear c00 c01 c02 c03 c04 c05 c10 c11 c12 c13 c14 c15 c20 c21 c22 c23 c24 c25 c30 c31 c32 c33 c34 c35
     refine (TH7.out _ HB4.out).mono ?_
     rintro e w5 ⟨rfl, hb5⟩
     have HB5 := Lib.hid (HB4.out.trans (hb5.mono HB4.out.size))
     clear hb5
     obtain ⟨c00, c01, c02, c03, c04, c05⟩ := (HY0.out _ HB5.out).six
     obtain ⟨c10, c11, c12, c13, c14, c15⟩ := (HY1.out _ HB5.out).six
     obtain ⟨c20, c21, c22, c23, c24, c25⟩ := (HY2.out _ HB5.out).six
     obtain ⟨c30, c31, c32, c33, c34, c35⟩ := (HY3.out _ HB5.out).six
     cases r1
     ·
      skip
      go_wp2_with fail
      go_ret
      exact ⟨rfl, HB5.out⟩
     ·
      skip
      go_wp2_with fail
      clear c00 c01 c02 c03 c04 c05 c10 c11 c12 c13 c14 c15 c20 c21 c22 c23 c24 c25 c30 c31 c32 c33 c34 c35
      refine (TH8.out _ HB5.out).mono ?_
      rintro e w6 ⟨rfl, hb6⟩
      have HB6 := Lib.hid (HB5.out.trans (hb6.mono HB5.out.size))
      clear hb6
      obtain ⟨c00, c01, c02, c03, c04, c05⟩ := (HY0.out _ HB6.out).six
      obtain ⟨c10, c11, c12, c13, c14, c15⟩ := (HY1.out _ HB6.out).six
      obtain ⟨c20, c21, c22, c23, c24, c25⟩ := (HY2.out _ HB6.out).six
      obtain ⟨c30, c31, c32, c33, c34, c35⟩ := (HY3.out _ HB6.out).six
      cases s
      ·
       skip
       go_wp2_with fail
       go_ret
       exact ⟨rfl, HB6.out⟩
      ·
       skip
       go_wp2_with fail
       go_ret
       exact ⟨rfl, HB6.out⟩
    ·
     skip
     go_wp2_with fail
     clear c00 c01 c02 c03 c04 c05 c10 c11 c12 c13 c14 c15 c20 c21 c22 c23 c24 c25 c30 c31 c32 c33 c34 c35
     refine (TH8.out _ HB4.out).mono ?_
     rintro e w5 ⟨rfl, hb5⟩
     have HB5 := Lib.hid (HB4.out.trans (hb5.mono HB4.out.size))
     clear hb5
     obtain ⟨c00, c01, c02, c03, c04, c05⟩ := (HY0.out _ HB5.out).six
     obtain ⟨c10, c11, c12, c13, c14, c15⟩ := (HY1.out _ HB5.out).six
     obtain ⟨c20, c21, c22, c23, c24, c25⟩ := (HY2.out _ HB5.out).six
     obtain ⟨c30, c31, c32, c33, c34, c35⟩ := (HY3.out _ HB5.out).six
     cases s
     ·
      skip
      go_wp2_with fail
      go_ret
      exact ⟨rfl, HB5.out⟩
     ·
      skip
      go_wp2_with fail
      go_ret
      exact ⟨rfl, HB5.out⟩
  ·
   skip
   go_wp2_with fail
   clear c00 c01 c02 c03 c04 c05 c10 c11 c12 c13 c14 c15 c20 c21 c22 c23 c24 c25 c30 c31 c32 c33 c34 c35
   refine (TH6.out _ HB2.out).mono ?_
   rintro e w3 ⟨rfl, hb3⟩
   have HB3 := Lib.hid (HB2.out.trans (hb3.mono HB2.out.size))
   clear hb3
   obtain ⟨c00, c01, c02, c03, c04, c05⟩ := (HY0.out _ HB3.out).six
   obtain ⟨c10, c11, c12, c13, c14, c15⟩ := (HY1.out _ HB3.out).six
   obtain ⟨c20, c21, c22, c23, c24, c25⟩ := (HY2.out _ HB3.out).six
   obtain ⟨c30, c31, c32, c33, c34, c35⟩ := (HY3.out _ HB3.out).six
   cases r0
   ·
    skip
    go_wp2_with fail
    clear c00 c01 c02 c03 c04 c05 c10 c11 c12 c13 c14 c15 c20 c21 c22 c23 c24 c25 c30 c31 c32 c33 c34 c35
    refine (TH7.out _ HB3.out).mono ?_
    rintro e w4 ⟨rfl, hb4⟩
    have HB4 := Lib.hid (HB3.out.trans (hb4.mono HB3.out.size))
    clear hb4
    obtain ⟨c00, c01, c02, c03, c04, c05⟩ := (HY0.out _ HB4.out).six
    obtain ⟨c10, c11, c12, c13, c14, c15⟩ := (HY1.out _ HB4.out).six
    obtain ⟨c20, c21, c22, c23, c24, c25⟩ := (HY2.out _ HB4.out).six
    obtain ⟨c30, c31, c32, c33, c34, c35⟩ := (HY3.out _ HB4.out).six
    cases r1
    ·
     skip
     go_wp2_with fail
     go_ret
     exact ⟨rfl, HB4.out⟩
    ·
     skip
     go_wp2_with fail
     clear c00 c01 c02 c03 c04 c05 c10 c11 c12 c13 c14 c15 c20 c21 c22 c23 c24 c25 c30 c31 c32 c33 c34 c35
     refine (TH8.out _ HB4.out).mono ?_
     rintro e w5 ⟨rfl, hb5⟩
     have HB5 := Lib.hid (HB4.out.trans (hb5.mono HB4.out.size))
     clear hb5
     obtain ⟨c00, c01, c02, c03, c04, c05⟩ := (HY0.out _ HB5.out).six
     obtain ⟨c10, c11, c12, c13, c14, c15⟩ := (HY1.out _ HB5.out).six
     obtain ⟨c20, c21, c22, c23, c24, c25⟩ := (HY2.out _ HB5.out).six
     obtain ⟨c30, c31, c32, c33, c34, c35⟩ := (HY3.out _ HB5.out).six
     cases s
     ·
      skip
      go_wp2_with fail
      go_ret
      exact ⟨rfl, HB5.out⟩
     ·
      skip
      go_wp2_with fail
      go_ret
      exact ⟨rfl, HB5.out⟩
   ·
    skip
    go_wp2_with fail
    clear c00 c01 c02 c03 c04 c05 c10 c11 c12 c13 c14 c15 c20 c21 c22 c23 c24 c25 c30 c31 c32 c33 c34 c35
    refine (TH8.out _ HB3.out).mono ?_
    rintro e w4 ⟨rfl, hb4⟩
    have HB4 := Lib.hid (HB3.out.trans (hb4.mono HB3.out.size))
    clear hb4
    obtain ⟨c00, c01, c02, c03, c04, c05⟩ := (HY0.out _ HB4.out).six
    obtain ⟨c10, c11, c12, c13, c14, c15⟩ := (HY1.out _ HB4.out).six
    obtain ⟨c20, c21, c22, c23, c24, c25⟩ := (HY2.out _ HB4.out).six
    obtain ⟨c30, c31, c32, c33, c34, c35⟩ := (HY3.out _ HB4.out).six
    cases s
    ·
     skip
     go_wp2_with fail
     go_ret
     exact ⟨rfl, HB4.out⟩
    ·
     skip
     go_wp2_with fail
     go_ret
     exact ⟨rfl, HB4.out⟩
theorem loop_29n (v : V) (hk : v.k = 29) (hl : ¬ v.l.length = 4) : Tells 76 v false := by
 intro x w h
 obtain ⟨xka, xkc, xla, xlc, rfl, -, -, -, -⟩ := h.open
 have HBX := Lib.hid (below_alloc w)
 have hq : ((v.l.length : Int) == 4) = false := by rw [beq_eq_false_iff_ne]; omega
 have hq2 : ((v.l.length : Int) != 4) = true := by rw [bne_iff_ne]; omega
 simp only [X.v]
 rw [hk]
 clear h hk hl
 generalize v.l.length = ln, v.ks.length = kn at *
 go_enter Tryz.func76, Tryz.ntmps76
 go_wp2_with fail
 go_ret
 exact ⟨rfl, HBX.out _⟩
theorem loop_30n (v : V) (hk : v.k = 30) (hl : ¬ v.l.length = 3) : Tells 76 v false := by
 intro x w h
 obtain ⟨xka, xkc, xla, xlc, rfl, -, -, -, -⟩ := h.open
 have HBX := Lib.hid (below_alloc w)
 have hq : ((v.l.length : Int) == 3) = false := by rw [beq_eq_false_iff_ne]; omega
 have hq2 : ((v.l.length : Int) != 3) = true := by rw [bne_iff_ne]; omega
 simp only [X.v]
 rw [hk]
 clear h hk hl
 generalize v.l.length = ln, v.ks.length = kn at *
 go_enter Tryz.func76, Tryz.ntmps76
 go_wp2_with fail
 go_ret
 exact ⟨rfl, HBX.out _⟩
theorem loop_30b (v a b c : V) (q s t p : Bool) (hk : v.k = 30) (ha : ¬ a.k = 22) (hl : v.l = [a, b, c]) (H1 : Tells 74 b q) (H2 : Tells 75 c s)
  (H3 : Tells 20 a t) (H4 : Tells 74 a p) : Tells 76 v (q && (s && (t && p))) := by
 intro x w h
 obtain ⟨xka, xkc, xla, xlc, rfl, -, -, -, hrow⟩ := h.open
 obtain ⟨W0, hW0, HB0, -⟩ := box_new w v.k v.nm v.n v.s xka v.ks.length xkc xla v.l.length xlc
 have HBX := Lib.hid (below_alloc w)
 have HW0 := Lib.hid hW0
 obtain ⟨g, o, y0, rfl, hg, hy0⟩ := kid_at hrow 0 (by rw [hl]; simp)
 obtain ⟨g', o', y1, e, -, hy1⟩ := kid_at hrow 1 (by rw [hl]; simp)
 injection e with e
 injection e with e1 e2
 subst e1 e2
 obtain ⟨g', o', y2, e, -, hy2⟩ := kid_at hrow 2 (by rw [hl]; simp)
 injection e with e
 injection e with e1 e2
 subst e1 e2
 have e0 : v.l[0]'(by rw [hl]; simp) = a := by simp [hl]
 have HY0 : Hid (∀ w', Below w.heap.size w w' → At w' g (o) y0) := fun w' hb => (hy0 w' hb).1
 have HI0 := kidI hy0 e0
 have e1 : v.l[1]'(by rw [hl]; simp) = b := by simp [hl]
 have HY1 : Hid (∀ w', Below w.heap.size w w' → At w' g (o + 6) y1) := fun w' hb => (hy1 w' hb).1
 have HI1 := kidI hy1 e1
 have e2 : v.l[2]'(by rw [hl]; simp) = c := by simp [hl]
 have HY2 : Hid (∀ w', Below w.heap.size w w' → At w' g (o + 12) y2) := fun w' hb => (hy2 w' hb).1
 have HI2 := kidI hy2 e2
 have hlen : v.l.length = 3 := by rw [hl]; rfl
 have TH1 := Lib.hid fun w' (hb : Below w.heap.size w w') => H1 y1 w' (HI1.out w' hb)
 have TH2 := Lib.hid fun w' (hb : Below w.heap.size w w') => H2 y2 w' (HI2.out w' hb)
 have TH3 := Lib.hid fun w' (hb : Below w.heap.size w w') => H3 y0 w' (HI0.out w' hb)
 have TH4 := Lib.hid fun w' (hb : Below w.heap.size w w') => H4 y0 w' (HI0.out w' hb)
 have hyk : ¬ y0.k = 22 := by rw [((isB_iff _ _ _ _).1 (HI0.out w (Below.refl _ _))).1.1]; exact ha
 have hyq : (y0.k == 22) = false := by rw [beq_eq_false_iff_ne]; exact hyk
 clear ha hyk
 simp only [X.v] at TH1 TH2 TH3 TH4 ⊢
 rw [hk, hlen] at HW0 ⊢
 clear h hrow hW0 hk hlen hl hg e0 hy0 HI0 e1 hy1 HI1 e2 hy2 HI2 H1 H2 H3 H4
 obtain ⟨yk0, ynm0, yn0, ys0, yka0, ykn0, ykc0, yla0, yln0, ylc0⟩ := y0
 obtain ⟨yk1, ynm1, yn1, ys1, yka1, ykn1, ykc1, yla1, yln1, ylc1⟩ := y1
 obtain ⟨yk2, ynm2, yn2, ys2, yka2, ykn2, ykc2, yla2, yln2, ylc2⟩ := y2
 dsimp only at hyq
 obtain ⟨c00, c01, c02, c03, c04, c05⟩ := (HY0.out _ (HBX.out (.cells #[.int .i64 30, .string v.nm, .int .i64 v.n, .string v.s, .slice xka v.ks.length xkc, .slice (some ⟨g, o, none⟩) 3 xlc] 25))).six
 obtain ⟨c10, c11, c12, c13, c14, c15⟩ := (HY1.out _ (HBX.out (.cells #[.int .i64 30, .string v.nm, .int .i64 v.n, .string v.s, .slice xka v.ks.length xkc, .slice (some ⟨g, o, none⟩) 3 xlc] 25))).six
 obtain ⟨c20, c21, c22, c23, c24, c25⟩ := (HY2.out _ (HBX.out (.cells #[.int .i64 30, .string v.nm, .int .i64 v.n, .string v.s, .slice xka v.ks.length xkc, .slice (some ⟨g, o, none⟩) 3 xlc] 25))).six
 go_enter Tryz.func76, Tryz.ntmps76
 go_wp2_with fail
 rw [HW0.out]
 clear c00 c01 c02 c03 c04 c05 c10 c11 c12 c13 c14 c15 c20 c21 c22 c23 c24 c25
 refine (TH1.out _ HB0.out).mono ?_
 rintro e w1 ⟨rfl, hb1⟩
 have HB1 := Lib.hid (HB0.out.trans (hb1.mono HB0.out.size))
 clear hb1
 obtain ⟨c00, c01, c02, c03, c04, c05⟩ := (HY0.out _ HB1.out).six
 obtain ⟨c10, c11, c12, c13, c14, c15⟩ := (HY1.out _ HB1.out).six
 obtain ⟨c20, c21, c22, c23, c24, c25⟩ := (HY2.out _ HB1.out).six
 cases q
 ·
  skip
  go_wp2_with fail
  go_ret
  exact ⟨rfl, HB1.out⟩
 ·
  skip
  go_wp2_with fail
  clear c00 c01 c02 c03 c04 c05 c10 c11 c12 c13 c14 c15 c20 c21 c22 c23 c24 c25
  refine (TH2.out _ HB1.out).mono ?_
  rintro e w2 ⟨rfl, hb2⟩
  have HB2 := Lib.hid (HB1.out.trans (hb2.mono HB1.out.size))
  clear hb2
  obtain ⟨c00, c01, c02, c03, c04, c05⟩ := (HY0.out _ HB2.out).six
  obtain ⟨c10, c11, c12, c13, c14, c15⟩ := (HY1.out _ HB2.out).six
  obtain ⟨c20, c21, c22, c23, c24, c25⟩ := (HY2.out _ HB2.out).six
  cases s
  ·
   skip
   go_wp2_with fail
   go_ret
   exact ⟨rfl, HB2.out⟩
  ·
   skip
   go_wp2_with fail
   clear c00 c01 c02 c03 c04 c05 c10 c11 c12 c13 c14 c15 c20 c21 c22 c23 c24 c25
   refine (TH3.out _ HB2.out).mono ?_
   rintro e w3 ⟨rfl, hb3⟩
   have HB3 := Lib.hid (HB2.out.trans (hb3.mono HB2.out.size))
   clear hb3
   obtain ⟨c00, c01, c02, c03, c04, c05⟩ := (HY0.out _ HB3.out).six
   obtain ⟨c10, c11, c12, c13, c14, c15⟩ := (HY1.out _ HB3.out).six
   obtain ⟨c20, c21, c22, c23, c24, c25⟩ := (HY2.out _ HB3.out).six
   cases t
   ·
    skip
    go_wp2_with fail
    go_ret
    exact ⟨rfl, HB3.out⟩
   ·
    skip
    go_wp2_with fail
    clear c00 c01 c02 c03 c04 c05 c10 c11 c12 c13 c14 c15 c20 c21 c22 c23 c24 c25
    refine (TH4.out _ HB3.out).mono ?_
    rintro e w4 ⟨rfl, hb4⟩
    have HB4 := Lib.hid (HB3.out.trans (hb4.mono HB3.out.size))
    clear hb4
    obtain ⟨c00, c01, c02, c03, c04, c05⟩ := (HY0.out _ HB4.out).six
    obtain ⟨c10, c11, c12, c13, c14, c15⟩ := (HY1.out _ HB4.out).six
    obtain ⟨c20, c21, c22, c23, c24, c25⟩ := (HY2.out _ HB4.out).six
    cases p
    ·
     skip
     go_wp2_with fail
     go_ret
     exact ⟨rfl, HB4.out⟩
    ·
     skip
     go_wp2_with fail
     go_ret
     exact ⟨rfl, HB4.out⟩
theorem loop_30a1 (v a b c : V) (q s p : Bool) (hk : v.k = 30) (ha : a.k = 22) (hal : ¬ a.l.length = 1) (hl : v.l = [a, b, c]) (H1 : Tells 74 b q) (H2 : Tells 75 c s)
  (H3 : Tells 73 a p) : Tells 76 v (q && (s && (p && false))) := by
 intro x w h
 obtain ⟨xka, xkc, xla, xlc, rfl, -, -, -, hrow⟩ := h.open
 obtain ⟨W0, hW0, HB0, -⟩ := box_new w v.k v.nm v.n v.s xka v.ks.length xkc xla v.l.length xlc
 have HBX := Lib.hid (below_alloc w)
 have HW0 := Lib.hid hW0
 obtain ⟨g, o, y0, rfl, hg, hy0⟩ := kid_at hrow 0 (by rw [hl]; simp)
 obtain ⟨g', o', y1, e, -, hy1⟩ := kid_at hrow 1 (by rw [hl]; simp)
 injection e with e
 injection e with e1 e2
 subst e1 e2
 obtain ⟨g', o', y2, e, -, hy2⟩ := kid_at hrow 2 (by rw [hl]; simp)
 injection e with e
 injection e with e1 e2
 subst e1 e2
 have e0 : v.l[0]'(by rw [hl]; simp) = a := by simp [hl]
 have HY0 : Hid (∀ w', Below w.heap.size w w' → At w' g (o) y0) := fun w' hb => (hy0 w' hb).1
 have HI0 := kidI hy0 e0
 have e1 : v.l[1]'(by rw [hl]; simp) = b := by simp [hl]
 have HY1 : Hid (∀ w', Below w.heap.size w w' → At w' g (o + 6) y1) := fun w' hb => (hy1 w' hb).1
 have HI1 := kidI hy1 e1
 have e2 : v.l[2]'(by rw [hl]; simp) = c := by simp [hl]
 have HY2 : Hid (∀ w', Below w.heap.size w w' → At w' g (o + 12) y2) := fun w' hb => (hy2 w' hb).1
 have HI2 := kidI hy2 e2
 have hlen : v.l.length = 3 := by rw [hl]; rfl
 have TH1 := Lib.hid fun w' (hb : Below w.heap.size w w') => H1 y1 w' (HI1.out w' hb)
 have TH2 := Lib.hid fun w' (hb : Below w.heap.size w w') => H2 y2 w' (HI2.out w' hb)
 have TH3 := Lib.hid fun w' (hb : Below w.heap.size w w') => H3 y0 w' (HI0.out w' hb)
 have hyk : y0.k = 22 := by rw [((isB_iff _ _ _ _).1 (HI0.out w (Below.refl _ _))).1.1]; exact ha
 have hyn : ¬ y0.ln = 1 := by rw [((isB_iff _ _ _ _).1 (HI0.out w (Below.refl _ _))).2.2.1]; exact hal
 have hyq : ((y0.ln : Int) == 1) = false := by rw [beq_eq_false_iff_ne]; omega
 clear ha hal hyn
 simp only [X.v] at TH1 TH2 TH3 ⊢
 rw [hk, hlen] at HW0 ⊢
 clear h hrow hW0 hk hlen hl hg e0 hy0 HI0 e1 hy1 HI1 e2 hy2 HI2 H1 H2 H3
 obtain ⟨yk0, ynm0, yn0, ys0, yka0, ykn0, ykc0, yla0, yln0, ylc0⟩ := y0
 obtain ⟨yk1, ynm1, yn1, ys1, yka1, ykn1, ykc1, yla1, yln1, ylc1⟩ := y1
 obtain ⟨yk2, ynm2, yn2, ys2, yka2, ykn2, ykc2, yla2, yln2, ylc2⟩ := y2
 dsimp only at hyk hyq
 subst hyk
 obtain ⟨c00, c01, c02, c03, c04, c05⟩ := (HY0.out _ (HBX.out (.cells #[.int .i64 30, .string v.nm, .int .i64 v.n, .string v.s, .slice xka v.ks.length xkc, .slice (some ⟨g, o, none⟩) 3 xlc] 25))).six
 obtain ⟨c10, c11, c12, c13, c14, c15⟩ := (HY1.out _ (HBX.out (.cells #[.int .i64 30, .string v.nm, .int .i64 v.n, .string v.s, .slice xka v.ks.length xkc, .slice (some ⟨g, o, none⟩) 3 xlc] 25))).six
 obtain ⟨c20, c21, c22, c23, c24, c25⟩ := (HY2.out _ (HBX.out (.cells #[.int .i64 30, .string v.nm, .int .i64 v.n, .string v.s, .slice xka v.ks.length xkc, .slice (some ⟨g, o, none⟩) 3 xlc] 25))).six
 go_enter Tryz.func76, Tryz.ntmps76
 go_wp2_with fail
 rw [HW0.out]
 clear c00 c01 c02 c03 c04 c05 c10 c11 c12 c13 c14 c15 c20 c21 c22 c23 c24 c25
 refine (TH1.out _ HB0.out).mono ?_
 rintro e w1 ⟨rfl, hb1⟩
 have HB1 := Lib.hid (HB0.out.trans (hb1.mono HB0.out.size))
 clear hb1
 obtain ⟨c00, c01, c02, c03, c04, c05⟩ := (HY0.out _ HB1.out).six
 obtain ⟨c10, c11, c12, c13, c14, c15⟩ := (HY1.out _ HB1.out).six
 obtain ⟨c20, c21, c22, c23, c24, c25⟩ := (HY2.out _ HB1.out).six
 cases q
 ·
  skip
  go_wp2_with fail
  go_ret
  exact ⟨rfl, HB1.out⟩
 ·
  skip
  go_wp2_with fail
  clear c00 c01 c02 c03 c04 c05 c10 c11 c12 c13 c14 c15 c20 c21 c22 c23 c24 c25
  refine (TH2.out _ HB1.out).mono ?_
  rintro e w2 ⟨rfl, hb2⟩
  have HB2 := Lib.hid (HB1.out.trans (hb2.mono HB1.out.size))
  clear hb2
  obtain ⟨c00, c01, c02, c03, c04, c05⟩ := (HY0.out _ HB2.out).six
  obtain ⟨c10, c11, c12, c13, c14, c15⟩ := (HY1.out _ HB2.out).six
  obtain ⟨c20, c21, c22, c23, c24, c25⟩ := (HY2.out _ HB2.out).six
  cases s
  ·
   skip
   go_wp2_with fail
   go_ret
   exact ⟨rfl, HB2.out⟩
  ·
   skip
   go_wp2_with fail
   clear c00 c01 c02 c03 c04 c05 c10 c11 c12 c13 c14 c15 c20 c21 c22 c23 c24 c25
   refine (TH3.out _ HB2.out).mono ?_
   rintro e w3 ⟨rfl, hb3⟩
   have HB3 := Lib.hid (HB2.out.trans (hb3.mono HB2.out.size))
   clear hb3
   obtain ⟨c00, c01, c02, c03, c04, c05⟩ := (HY0.out _ HB3.out).six
   obtain ⟨c10, c11, c12, c13, c14, c15⟩ := (HY1.out _ HB3.out).six
   obtain ⟨c20, c21, c22, c23, c24, c25⟩ := (HY2.out _ HB3.out).six
   cases p
   ·
    skip
    go_wp2_with fail
    go_ret
    exact ⟨rfl, HB3.out⟩
   ·
    skip
    go_wp2_with fail
    go_ret
    exact ⟨rfl, HB3.out⟩
theorem loop_30a2 (v a b c x0 : V) (q s p : Bool) (hk : v.k = 30) (ha : a.k = 22) (hal : a.l = [x0]) (hl : v.l = [a, b, c]) (H1 : Tells 74 b q) (H2 : Tells 75 c s)
  (H3 : Tells 73 a p) : Tells 76 v (q && (s && (p && ((x0.l.length : Int) == 0)))) := by
 intro x w h
 obtain ⟨xka, xkc, xla, xlc, rfl, -, -, -, hrow⟩ := h.open
 obtain ⟨W0, hW0, HB0, -⟩ := box_new w v.k v.nm v.n v.s xka v.ks.length xkc xla v.l.length xlc
 have HBX := Lib.hid (below_alloc w)
 have HW0 := Lib.hid hW0
 obtain ⟨g, o, y0, rfl, hg, hy0⟩ := kid_at hrow 0 (by rw [hl]; simp)
 obtain ⟨g', o', y1, e, -, hy1⟩ := kid_at hrow 1 (by rw [hl]; simp)
 injection e with e
 injection e with e1 e2
 subst e1 e2
 obtain ⟨g', o', y2, e, -, hy2⟩ := kid_at hrow 2 (by rw [hl]; simp)
 injection e with e
 injection e with e1 e2
 subst e1 e2
 have e0 : v.l[0]'(by rw [hl]; simp) = a := by simp [hl]
 have HY0 : Hid (∀ w', Below w.heap.size w w' → At w' g (o) y0) := fun w' hb => (hy0 w' hb).1
 have HI0 := kidI hy0 e0
 have e1 : v.l[1]'(by rw [hl]; simp) = b := by simp [hl]
 have HY1 : Hid (∀ w', Below w.heap.size w w' → At w' g (o + 6) y1) := fun w' hb => (hy1 w' hb).1
 have HI1 := kidI hy1 e1
 have e2 : v.l[2]'(by rw [hl]; simp) = c := by simp [hl]
 have HY2 : Hid (∀ w', Below w.heap.size w w' → At w' g (o + 12) y2) := fun w' hb => (hy2 w' hb).1
 have HI2 := kidI hy2 e2
 have hlen : v.l.length = 3 := by rw [hl]; rfl
 have TH1 := Lib.hid fun w' (hb : Below w.heap.size w w') => H1 y1 w' (HI1.out w' hb)
 have TH2 := Lib.hid fun w' (hb : Below w.heap.size w w') => H2 y2 w' (HI2.out w' hb)
 have TH3 := Lib.hid fun w' (hb : Below w.heap.size w w') => H3 y0 w' (HI0.out w' hb)
 have hyk : y0.k = 22 := by rw [((isB_iff _ _ _ _).1 (HI0.out w (Below.refl _ _))).1.1]; exact ha
 have hyn : y0.ln = 1 := by rw [((isB_iff _ _ _ _).1 (HI0.out w (Below.refl _ _))).2.2.1, hal]; rfl
 have hyr := ((isB_iff _ _ _ _).1 (HI0.out w (Below.refl _ _))).2.2.2.2
 obtain ⟨g2, o2, y3, hya, -, hy3⟩ := kid_at hyr 0 (by rw [hal]; simp)
 have HY3 : Hid (∀ w', Below w.heap.size w w' → At w' g2 o2 y3) := fun w' hb => by have := (hy3 w' hb).1; rwa [Nat.zero_mul, Nat.add_zero] at this
 have h3n : y3.ln = x0.l.length := by
  rw [((isB_iff _ _ _ _).1 (hy3 w (Below.refl _ _)).2).2.2.1]
  simp [hal]
 rw [← h3n]
 clear ha hal hyr hy3 h3n
 obtain ⟨yk3, ynm3, yn3, ys3, yka3, ykn3, ykc3, yla3, yln3, ylc3⟩ := y3
 simp only [X.v] at TH1 TH2 TH3 ⊢
 rw [hk, hlen] at HW0 ⊢
 clear h hrow hW0 hk hlen hl hg e0 hy0 HI0 e1 hy1 HI1 e2 hy2 HI2 H1 H2 H3
 obtain ⟨yk0, ynm0, yn0, ys0, yka0, ykn0, ykc0, yla0, yln0, ylc0⟩ := y0
 obtain ⟨yk1, ynm1, yn1, ys1, yka1, ykn1, ykc1, yla1, yln1, ylc1⟩ := y1
 obtain ⟨yk2, ynm2, yn2, ys2, yka2, ykn2, ykc2, yla2, yln2, ylc2⟩ := y2
 dsimp only at hyk hyn hya
 subst hyk hyn hya
 obtain ⟨c00, c01, c02, c03, c04, c05⟩ := (HY0.out _ (HBX.out (.cells #[.int .i64 30, .string v.nm, .int .i64 v.n, .string v.s, .slice xka v.ks.length xkc, .slice (some ⟨g, o, none⟩) 3 xlc] 25))).six
 obtain ⟨c10, c11, c12, c13, c14, c15⟩ := (HY1.out _ (HBX.out (.cells #[.int .i64 30, .string v.nm, .int .i64 v.n, .string v.s, .slice xka v.ks.length xkc, .slice (some ⟨g, o, none⟩) 3 xlc] 25))).six
 obtain ⟨c20, c21, c22, c23, c24, c25⟩ := (HY2.out _ (HBX.out (.cells #[.int .i64 30, .string v.nm, .int .i64 v.n, .string v.s, .slice xka v.ks.length xkc, .slice (some ⟨g, o, none⟩) 3 xlc] 25))).six
 obtain ⟨c30, c31, c32, c33, c34, c35⟩ := (HY3.out _ (HBX.out (.cells #[.int .i64 30, .string v.nm, .int .i64 v.n, .string v.s, .slice xka v.ks.length xkc, .slice (some ⟨g, o, none⟩) 3 xlc] 25))).six
 go_enter Tryz.func76, Tryz.ntmps76
 go_wp2_with fail
 rw [HW0.out]
 clear c00 c01 c02 c03 c04 c05 c10 c11 c12 c13 c14 c15 c20 c21 c22 c23 c24 c25 c30 c31 c32 c33 c34 c35
 refine (TH1.out _ HB0.out).mono ?_
 rintro e w1 ⟨rfl, hb1⟩
 have HB1 := Lib.hid (HB0.out.trans (hb1.mono HB0.out.size))
 clear hb1
 obtain ⟨c00, c01, c02, c03, c04, c05⟩ := (HY0.out _ HB1.out).six
 obtain ⟨c10, c11, c12, c13, c14, c15⟩ := (HY1.out _ HB1.out).six
 obtain ⟨c20, c21, c22, c23, c24, c25⟩ := (HY2.out _ HB1.out).six
 obtain ⟨c30, c31, c32, c33, c34, c35⟩ := (HY3.out _ HB1.out).six
 cases q
 ·
  skip
  go_wp2_with fail
  go_ret
  exact ⟨rfl, HB1.out⟩
 ·
  skip
  go_wp2_with fail
  clear c00 c01 c02 c03 c04 c05 c10 c11 c12 c13 c14 c15 c20 c21 c22 c23 c24 c25 c30 c31 c32 c33 c34 c35
  refine (TH2.out _ HB1.out).mono ?_
  rintro e w2 ⟨rfl, hb2⟩
  have HB2 := Lib.hid (HB1.out.trans (hb2.mono HB1.out.size))
  clear hb2
  obtain ⟨c00, c01, c02, c03, c04, c05⟩ := (HY0.out _ HB2.out).six
  obtain ⟨c10, c11, c12, c13, c14, c15⟩ := (HY1.out _ HB2.out).six
  obtain ⟨c20, c21, c22, c23, c24, c25⟩ := (HY2.out _ HB2.out).six
  obtain ⟨c30, c31, c32, c33, c34, c35⟩ := (HY3.out _ HB2.out).six
  cases s
  ·
   skip
   go_wp2_with fail
   go_ret
   exact ⟨rfl, HB2.out⟩
  ·
   skip
   go_wp2_with fail
   clear c00 c01 c02 c03 c04 c05 c10 c11 c12 c13 c14 c15 c20 c21 c22 c23 c24 c25 c30 c31 c32 c33 c34 c35
   refine (TH3.out _ HB2.out).mono ?_
   rintro e w3 ⟨rfl, hb3⟩
   have HB3 := Lib.hid (HB2.out.trans (hb3.mono HB2.out.size))
   clear hb3
   obtain ⟨c00, c01, c02, c03, c04, c05⟩ := (HY0.out _ HB3.out).six
   obtain ⟨c10, c11, c12, c13, c14, c15⟩ := (HY1.out _ HB3.out).six
   obtain ⟨c20, c21, c22, c23, c24, c25⟩ := (HY2.out _ HB3.out).six
   obtain ⟨c30, c31, c32, c33, c34, c35⟩ := (HY3.out _ HB3.out).six
   cases p
   ·
    skip
    go_wp2_with fail
    go_ret
    exact ⟨rfl, HB3.out⟩
   ·
    skip
    go_wp2_with fail
    go_ret
    exact ⟨rfl, HB3.out⟩
theorem expr_1 (v : V) (hb : v.bulk ≤ 4194304) (hk : v.k = 1) : Tells 74 v (fields (ctch3 v) v && decide (v.l.length = 0)) := by
 intro x w h
 have HO := Lib.hid fun w' (hb' : Below w.heap.size w w') => own_any v x w' (Is.below hb' _ _ h) hb
 have hll : (v.l.length : Int) ≤ 4194304 := by have := length_le_bulks v.l; have := bulk_ge v; omega
 obtain ⟨xka, xkc, xla, xlc, rfl, -, -, -, hrow⟩ := h.open
 obtain ⟨W0, hW0, HB0, HF⟩ := box_new w v.k v.nm v.n v.s xka v.ks.length xkc xla v.l.length xlc
 have HW0 := Lib.hid hW0
 simp only [X.v] at HO ⊢
 rw [hk] at HO HF HW0 ⊢
 clear h hb hW0 hk hrow
 generalize fields (ctch3 v) v = bo at *
 generalize v.nm = nm, v.n = n, v.s = s, v.ks.length = kn, v.l.length = ln at *
 go_enter Tryz.func74, Tryz.ntmps74
 go_wp2_with fail
 rw [HW0.out]
 clear HW0
 refine (HO.out _ HB0.out).mono ?_
 rintro e w1 ⟨rfl, hb1⟩
 obtain ⟨c0, c1, c2, c3, c4, c5⟩ := (HF.out _ hb1).six
 have HBW := Lib.hid (HB0.out.trans (hb1.mono HB0.out.size))
 clear hb1
 cases bo
 ·go_wp2_with fail
  go_ret
  exact ⟨rfl, HBW.out⟩
 by_cases hl : ln = 0
 ·subst hl
  go_wp2_with fail
  go_ret
  exact ⟨rfl, HBW.out⟩
 ·have hq : ((ln : Int) == 0) = false := by rw [beq_eq_false_iff_ne]; omega
  have HD := Lib.hid (decide_eq_false hl)
  clear hl
  go_wp2_with fail
  go_ret
  exact ⟨by rw [HD.out]; rfl, HBW.out⟩
theorem expr_2 (v : V) (hb : v.bulk ≤ 4194304) (hk : v.k = 2) : Tells 74 v (fields (ctch3 v) v && decide (v.l.length = 0)) := by
 intro x w h
 have HO := Lib.hid fun w' (hb' : Below w.heap.size w w') => own_any v x w' (Is.below hb' _ _ h) hb
 have hll : (v.l.length : Int) ≤ 4194304 := by have := length_le_bulks v.l; have := bulk_ge v; omega
 obtain ⟨xka, xkc, xla, xlc, rfl, -, -, -, hrow⟩ := h.open
 obtain ⟨W0, hW0, HB0, HF⟩ := box_new w v.k v.nm v.n v.s xka v.ks.length xkc xla v.l.length xlc
 have HW0 := Lib.hid hW0
 simp only [X.v] at HO ⊢
 rw [hk] at HO HF HW0 ⊢
 clear h hb hW0 hk hrow
 generalize fields (ctch3 v) v = bo at *
 generalize v.nm = nm, v.n = n, v.s = s, v.ks.length = kn, v.l.length = ln at *
 go_enter Tryz.func74, Tryz.ntmps74
 go_wp2_with fail
 rw [HW0.out]
 clear HW0
 refine (HO.out _ HB0.out).mono ?_
 rintro e w1 ⟨rfl, hb1⟩
 obtain ⟨c0, c1, c2, c3, c4, c5⟩ := (HF.out _ hb1).six
 have HBW := Lib.hid (HB0.out.trans (hb1.mono HB0.out.size))
 clear hb1
 cases bo
 ·go_wp2_with fail
  go_ret
  exact ⟨rfl, HBW.out⟩
 by_cases hl : ln = 0
 ·subst hl
  go_wp2_with fail
  go_ret
  exact ⟨rfl, HBW.out⟩
 ·have hq : ((ln : Int) == 0) = false := by rw [beq_eq_false_iff_ne]; omega
  have HD := Lib.hid (decide_eq_false hl)
  clear hl
  go_wp2_with fail
  go_ret
  exact ⟨by rw [HD.out]; rfl, HBW.out⟩
theorem expr_3 (v : V) (hb : v.bulk ≤ 4194304) (hk : v.k = 3) : Tells 74 v (fields (ctch3 v) v && decide (v.l.length = 0)) := by
 intro x w h
 have HO := Lib.hid fun w' (hb' : Below w.heap.size w w') => own_any v x w' (Is.below hb' _ _ h) hb
 have hll : (v.l.length : Int) ≤ 4194304 := by have := length_le_bulks v.l; have := bulk_ge v; omega
 obtain ⟨xka, xkc, xla, xlc, rfl, -, -, -, hrow⟩ := h.open
 obtain ⟨W0, hW0, HB0, HF⟩ := box_new w v.k v.nm v.n v.s xka v.ks.length xkc xla v.l.length xlc
 have HW0 := Lib.hid hW0
 simp only [X.v] at HO ⊢
 rw [hk] at HO HF HW0 ⊢
 clear h hb hW0 hk hrow
 generalize fields (ctch3 v) v = bo at *
 generalize v.nm = nm, v.n = n, v.s = s, v.ks.length = kn, v.l.length = ln at *
 go_enter Tryz.func74, Tryz.ntmps74
 go_wp2_with fail
 rw [HW0.out]
 clear HW0
 refine (HO.out _ HB0.out).mono ?_
 rintro e w1 ⟨rfl, hb1⟩
 obtain ⟨c0, c1, c2, c3, c4, c5⟩ := (HF.out _ hb1).six
 have HBW := Lib.hid (HB0.out.trans (hb1.mono HB0.out.size))
 clear hb1
 cases bo
 ·go_wp2_with fail
  go_ret
  exact ⟨rfl, HBW.out⟩
 by_cases hl : ln = 0
 ·subst hl
  go_wp2_with fail
  go_ret
  exact ⟨rfl, HBW.out⟩
 ·have hq : ((ln : Int) == 0) = false := by rw [beq_eq_false_iff_ne]; omega
  have HD := Lib.hid (decide_eq_false hl)
  clear hl
  go_wp2_with fail
  go_ret
  exact ⟨by rw [HD.out]; rfl, HBW.out⟩
theorem expr_4 (v : V) (hb : v.bulk ≤ 4194304) (hk : v.k = 4) : Tells 74 v (fields (ctch3 v) v && decide (v.l.length = 0)) := by
 intro x w h
 have HO := Lib.hid fun w' (hb' : Below w.heap.size w w') => own_any v x w' (Is.below hb' _ _ h) hb
 have hll : (v.l.length : Int) ≤ 4194304 := by have := length_le_bulks v.l; have := bulk_ge v; omega
 obtain ⟨xka, xkc, xla, xlc, rfl, -, -, -, hrow⟩ := h.open
 obtain ⟨W0, hW0, HB0, HF⟩ := box_new w v.k v.nm v.n v.s xka v.ks.length xkc xla v.l.length xlc
 have HW0 := Lib.hid hW0
 simp only [X.v] at HO ⊢
 rw [hk] at HO HF HW0 ⊢
 clear h hb hW0 hk hrow
 generalize fields (ctch3 v) v = bo at *
 generalize v.nm = nm, v.n = n, v.s = s, v.ks.length = kn, v.l.length = ln at *
 go_enter Tryz.func74, Tryz.ntmps74
 go_wp2_with fail
 rw [HW0.out]
 clear HW0
 refine (HO.out _ HB0.out).mono ?_
 rintro e w1 ⟨rfl, hb1⟩
 obtain ⟨c0, c1, c2, c3, c4, c5⟩ := (HF.out _ hb1).six
 have HBW := Lib.hid (HB0.out.trans (hb1.mono HB0.out.size))
 clear hb1
 cases bo
 ·go_wp2_with fail
  go_ret
  exact ⟨rfl, HBW.out⟩
 by_cases hl : ln = 0
 ·subst hl
  go_wp2_with fail
  go_ret
  exact ⟨rfl, HBW.out⟩
 ·have hq : ((ln : Int) == 0) = false := by rw [beq_eq_false_iff_ne]; omega
  have HD := Lib.hid (decide_eq_false hl)
  clear hl
  go_wp2_with fail
  go_ret
  exact ⟨by rw [HD.out]; rfl, HBW.out⟩
theorem expr_5 (v : V) (hb : v.bulk ≤ 4194304) (hk : v.k = 5) : Tells 74 v (fields (ctch3 v) v && decide (v.l.length = 0)) := by
 intro x w h
 have HO := Lib.hid fun w' (hb' : Below w.heap.size w w') => own_any v x w' (Is.below hb' _ _ h) hb
 have hll : (v.l.length : Int) ≤ 4194304 := by have := length_le_bulks v.l; have := bulk_ge v; omega
 obtain ⟨xka, xkc, xla, xlc, rfl, -, -, -, hrow⟩ := h.open
 obtain ⟨W0, hW0, HB0, HF⟩ := box_new w v.k v.nm v.n v.s xka v.ks.length xkc xla v.l.length xlc
 have HW0 := Lib.hid hW0
 simp only [X.v] at HO ⊢
 rw [hk] at HO HF HW0 ⊢
 clear h hb hW0 hk hrow
 generalize fields (ctch3 v) v = bo at *
 generalize v.nm = nm, v.n = n, v.s = s, v.ks.length = kn, v.l.length = ln at *
 go_enter Tryz.func74, Tryz.ntmps74
 go_wp2_with fail
 rw [HW0.out]
 clear HW0
 refine (HO.out _ HB0.out).mono ?_
 rintro e w1 ⟨rfl, hb1⟩
 obtain ⟨c0, c1, c2, c3, c4, c5⟩ := (HF.out _ hb1).six
 have HBW := Lib.hid (HB0.out.trans (hb1.mono HB0.out.size))
 clear hb1
 cases bo
 ·go_wp2_with fail
  go_ret
  exact ⟨rfl, HBW.out⟩
 by_cases hl : ln = 0
 ·subst hl
  go_wp2_with fail
  go_ret
  exact ⟨rfl, HBW.out⟩
 ·have hq : ((ln : Int) == 0) = false := by rw [beq_eq_false_iff_ne]; omega
  have HD := Lib.hid (decide_eq_false hl)
  clear hl
  go_wp2_with fail
  go_ret
  exact ⟨by rw [HD.out]; rfl, HBW.out⟩
theorem expr_6 (v : V) (hb : v.bulk ≤ 4194304) (hk : v.k = 6) : Tells 74 v (fields (ctch3 v) v && decide (v.l.length = 0)) := by
 intro x w h
 have HO := Lib.hid fun w' (hb' : Below w.heap.size w w') => own_any v x w' (Is.below hb' _ _ h) hb
 have hll : (v.l.length : Int) ≤ 4194304 := by have := length_le_bulks v.l; have := bulk_ge v; omega
 obtain ⟨xka, xkc, xla, xlc, rfl, -, -, -, hrow⟩ := h.open
 obtain ⟨W0, hW0, HB0, HF⟩ := box_new w v.k v.nm v.n v.s xka v.ks.length xkc xla v.l.length xlc
 have HW0 := Lib.hid hW0
 simp only [X.v] at HO ⊢
 rw [hk] at HO HF HW0 ⊢
 clear h hb hW0 hk hrow
 generalize fields (ctch3 v) v = bo at *
 generalize v.nm = nm, v.n = n, v.s = s, v.ks.length = kn, v.l.length = ln at *
 go_enter Tryz.func74, Tryz.ntmps74
 go_wp2_with fail
 rw [HW0.out]
 clear HW0
 refine (HO.out _ HB0.out).mono ?_
 rintro e w1 ⟨rfl, hb1⟩
 obtain ⟨c0, c1, c2, c3, c4, c5⟩ := (HF.out _ hb1).six
 have HBW := Lib.hid (HB0.out.trans (hb1.mono HB0.out.size))
 clear hb1
 cases bo
 ·go_wp2_with fail
  go_ret
  exact ⟨rfl, HBW.out⟩
 by_cases hl : ln = 0
 ·subst hl
  go_wp2_with fail
  go_ret
  exact ⟨rfl, HBW.out⟩
 ·have hq : ((ln : Int) == 0) = false := by rw [beq_eq_false_iff_ne]; omega
  have HD := Lib.hid (decide_eq_false hl)
  clear hl
  go_wp2_with fail
  go_ret
  exact ⟨by rw [HD.out]; rfl, HBW.out⟩
theorem expr_7 (v : V) (hb : v.bulk ≤ 4194304) (hk : v.k = 7) (p : Bool) (H : TellsX v p) : Tells 74 v (fields (ctch3 v) v && p) := by
 intro x w h
 have HO := Lib.hid fun w' (hb' : Below w.heap.size w w') => own_any v x w' (Is.below hb' _ _ h) hb
 have hll : (v.l.length : Int) ≤ 4194304 := by have := length_le_bulks v.l; have := bulk_ge v; omega
 obtain ⟨xka, xkc, xla, xlc, rfl, -, -, -, hrow⟩ := h.open
 have HT := Lib.hid fun w' (hb' : Below w.heap.size w w') => H xla xlc w' (RowB.below hrow hb')
 obtain ⟨W0, hW0, HB0, HF⟩ := box_new w v.k v.nm v.n v.s xka v.ks.length xkc xla v.l.length xlc
 have HW0 := Lib.hid hW0
 simp only [X.v] at HO ⊢
 rw [hk] at HO HF HW0 ⊢
 clear h hb hW0 hk hrow H
 generalize fields (ctch3 v) v = bo at *
 generalize v.nm = nm, v.n = n, v.s = s, v.ks.length = kn, v.l.length = ln at *
 go_enter Tryz.func74, Tryz.ntmps74
 go_wp2_with fail
 rw [HW0.out]
 clear HW0
 refine (HO.out _ HB0.out).mono ?_
 rintro e w1 ⟨rfl, hb1⟩
 obtain ⟨c0, c1, c2, c3, c4, c5⟩ := (HF.out _ hb1).six
 have HBW := Lib.hid (HB0.out.trans (hb1.mono HB0.out.size))
 clear hb1
 cases bo
 ·go_wp2_with fail
  go_ret
  exact ⟨rfl, HBW.out⟩
 go_wp2_with fail
 refine (HT.out _ HBW.out).mono ?_
 rintro e w2 ⟨rfl, hb2⟩
 have HB2 := Lib.hid (HBW.out.trans (hb2.mono HBW.out.size))
 clear hb2
 go_wp2_with fail
 go_ret
 exact ⟨rfl, HB2.out⟩
theorem expr_10 (v : V) (hb : v.bulk ≤ 4194304) (hk : v.k = 10) (p : Bool) (H : TellsL v p) : Tells 74 v (fields (ctch3 v) v && p) := by
 intro x w h
 have HO := Lib.hid fun w' (hb' : Below w.heap.size w w') => own_any v x w' (Is.below hb' _ _ h) hb
 have hll : (v.l.length : Int) ≤ 4194304 := by have := length_le_bulks v.l; have := bulk_ge v; omega
 obtain ⟨xka, xkc, xla, xlc, rfl, -, -, -, hrow⟩ := h.open
 have HT := Lib.hid fun w' (hb' : Below w.heap.size w w') => H xla xlc w' (RowB.below hrow hb')
 obtain ⟨W0, hW0, HB0, HF⟩ := box_new w v.k v.nm v.n v.s xka v.ks.length xkc xla v.l.length xlc
 have HW0 := Lib.hid hW0
 simp only [X.v] at HO ⊢
 rw [hk] at HO HF HW0 ⊢
 clear h hb hW0 hk hrow H
 generalize fields (ctch3 v) v = bo at *
 generalize v.nm = nm, v.n = n, v.s = s, v.ks.length = kn, v.l.length = ln at *
 go_enter Tryz.func74, Tryz.ntmps74
 go_wp2_with fail
 rw [HW0.out]
 clear HW0
 refine (HO.out _ HB0.out).mono ?_
 rintro e w1 ⟨rfl, hb1⟩
 obtain ⟨c0, c1, c2, c3, c4, c5⟩ := (HF.out _ hb1).six
 have HBW := Lib.hid (HB0.out.trans (hb1.mono HB0.out.size))
 clear hb1
 cases bo
 ·go_wp2_with fail
  go_ret
  exact ⟨rfl, HBW.out⟩
 go_wp2_with fail
 refine (HT.out _ HBW.out).mono ?_
 rintro e w2 ⟨rfl, hb2⟩
 have HB2 := Lib.hid (HBW.out.trans (hb2.mono HBW.out.size))
 clear hb2
 go_wp2_with fail
 go_ret
 exact ⟨rfl, HB2.out⟩
theorem expr_13 (v : V) (hb : v.bulk ≤ 4194304) (hk : v.k = 13) (p : Bool) (H : TellsX v p) : Tells 74 v (fields (ctch3 v) v && (decide (0 < v.l.length) && p)) := by
 intro x w h
 have HO := Lib.hid fun w' (hb' : Below w.heap.size w w') => own_any v x w' (Is.below hb' _ _ h) hb
 have hll : (v.l.length : Int) ≤ 4194304 := by have := length_le_bulks v.l; have := bulk_ge v; omega
 obtain ⟨xka, xkc, xla, xlc, rfl, -, -, -, hrow⟩ := h.open
 have HT := Lib.hid fun w' (hb' : Below w.heap.size w w') => H xla xlc w' (RowB.below hrow hb')
 obtain ⟨W0, hW0, HB0, HF⟩ := box_new w v.k v.nm v.n v.s xka v.ks.length xkc xla v.l.length xlc
 have HW0 := Lib.hid hW0
 simp only [X.v] at HO ⊢
 rw [hk] at HO HF HW0 ⊢
 clear h hb hW0 hk hrow H
 generalize fields (ctch3 v) v = bo at *
 generalize v.nm = nm, v.n = n, v.s = s, v.ks.length = kn, v.l.length = ln at *
 go_enter Tryz.func74, Tryz.ntmps74
 go_wp2_with fail
 rw [HW0.out]
 clear HW0
 refine (HO.out _ HB0.out).mono ?_
 rintro e w1 ⟨rfl, hb1⟩
 obtain ⟨c0, c1, c2, c3, c4, c5⟩ := (HF.out _ hb1).six
 have HBW := Lib.hid (HB0.out.trans (hb1.mono HB0.out.size))
 clear hb1
 cases bo
 ·go_wp2_with fail
  go_ret
  exact ⟨rfl, HBW.out⟩
 by_cases hl : 0 < ln
 ·have hli : (1 : Int) ≤ (ln : Int) := by omega
  have HD := Lib.hid (decide_eq_true hl)
  clear hl
  go_wp2_with fail
  refine (HT.out _ HBW.out).mono ?_
  rintro e w2 ⟨rfl, hb2⟩
  have HB2 := Lib.hid (HBW.out.trans (hb2.mono HBW.out.size))
  clear hb2
  go_wp2_with fail
  go_ret
  exact ⟨by rw [HD.out]; rfl, HB2.out⟩
 ·have hli : (ln : Int) < 1 := by omega
  have HD := Lib.hid (decide_eq_false hl)
  clear hl
  go_wp2_with fail
  go_ret
  exact ⟨by rw [HD.out]; rfl, HBW.out⟩
theorem expr_14 (v : V) (hb : v.bulk ≤ 4194304) (hk : v.k = 14) (p : Bool) (H : TellsX v p) : Tells 74 v (fields (ctch3 v) v && (decide (0 < v.l.length) && p)) := by
 intro x w h
 have HO := Lib.hid fun w' (hb' : Below w.heap.size w w') => own_any v x w' (Is.below hb' _ _ h) hb
 have hll : (v.l.length : Int) ≤ 4194304 := by have := length_le_bulks v.l; have := bulk_ge v; omega
 obtain ⟨xka, xkc, xla, xlc, rfl, -, -, -, hrow⟩ := h.open
 have HT := Lib.hid fun w' (hb' : Below w.heap.size w w') => H xla xlc w' (RowB.below hrow hb')
 obtain ⟨W0, hW0, HB0, HF⟩ := box_new w v.k v.nm v.n v.s xka v.ks.length xkc xla v.l.length xlc
 have HW0 := Lib.hid hW0
 simp only [X.v] at HO ⊢
 rw [hk] at HO HF HW0 ⊢
 clear h hb hW0 hk hrow H
 generalize fields (ctch3 v) v = bo at *
 generalize v.nm = nm, v.n = n, v.s = s, v.ks.length = kn, v.l.length = ln at *
 go_enter Tryz.func74, Tryz.ntmps74
 go_wp2_with fail
 rw [HW0.out]
 clear HW0
 refine (HO.out _ HB0.out).mono ?_
 rintro e w1 ⟨rfl, hb1⟩
 obtain ⟨c0, c1, c2, c3, c4, c5⟩ := (HF.out _ hb1).six
 have HBW := Lib.hid (HB0.out.trans (hb1.mono HB0.out.size))
 clear hb1
 cases bo
 ·go_wp2_with fail
  go_ret
  exact ⟨rfl, HBW.out⟩
 by_cases hl : 0 < ln
 ·have hli : (1 : Int) ≤ (ln : Int) := by omega
  have HD := Lib.hid (decide_eq_true hl)
  clear hl
  go_wp2_with fail
  refine (HT.out _ HBW.out).mono ?_
  rintro e w2 ⟨rfl, hb2⟩
  have HB2 := Lib.hid (HBW.out.trans (hb2.mono HBW.out.size))
  clear hb2
  go_wp2_with fail
  go_ret
  exact ⟨by rw [HD.out]; rfl, HB2.out⟩
 ·have hli : (ln : Int) < 1 := by omega
  have HD := Lib.hid (decide_eq_false hl)
  clear hl
  go_wp2_with fail
  go_ret
  exact ⟨by rw [HD.out]; rfl, HBW.out⟩
theorem expr_11 (v : V) (hb : v.bulk ≤ 4194304) (hk : v.k = 11) (p : Bool) (H : TellsX v p) : Tells 74 v (fields (ctch3 v) v && (decide (v.l.length = 1) && p)) := by
 intro x w h
 have HO := Lib.hid fun w' (hb' : Below w.heap.size w w') => own_any v x w' (Is.below hb' _ _ h) hb
 have hll : (v.l.length : Int) ≤ 4194304 := by have := length_le_bulks v.l; have := bulk_ge v; omega
 obtain ⟨xka, xkc, xla, xlc, rfl, -, -, -, hrow⟩ := h.open
 have HT := Lib.hid fun w' (hb' : Below w.heap.size w w') => H xla xlc w' (RowB.below hrow hb')
 obtain ⟨W0, hW0, HB0, HF⟩ := box_new w v.k v.nm v.n v.s xka v.ks.length xkc xla v.l.length xlc
 have HW0 := Lib.hid hW0
 simp only [X.v] at HO ⊢
 rw [hk] at HO HF HW0 ⊢
 clear h hb hW0 hk hrow H
 generalize fields (ctch3 v) v = bo at *
 generalize v.nm = nm, v.n = n, v.s = s, v.ks.length = kn, v.l.length = ln at *
 go_enter Tryz.func74, Tryz.ntmps74
 go_wp2_with fail
 rw [HW0.out]
 clear HW0
 refine (HO.out _ HB0.out).mono ?_
 rintro e w1 ⟨rfl, hb1⟩
 obtain ⟨c0, c1, c2, c3, c4, c5⟩ := (HF.out _ hb1).six
 have HBW := Lib.hid (HB0.out.trans (hb1.mono HB0.out.size))
 clear hb1
 cases bo
 ·go_wp2_with fail
  go_ret
  exact ⟨rfl, HBW.out⟩
 by_cases hl : ln = 1
 ·subst hl
  go_wp2_with fail
  refine (HT.out _ HBW.out).mono ?_
  rintro e w2 ⟨rfl, hb2⟩
  have HB2 := Lib.hid (HBW.out.trans (hb2.mono HBW.out.size))
  clear hb2
  go_wp2_with fail
  go_ret
  exact ⟨rfl, HB2.out⟩
 ·have hq : ((ln : Int) == 1) = false := by rw [beq_eq_false_iff_ne]; omega
  have HD := Lib.hid (decide_eq_false hl)
  clear hl
  go_wp2_with fail
  go_ret
  exact ⟨by rw [HD.out]; rfl, HBW.out⟩
theorem expr_15 (v : V) (hb : v.bulk ≤ 4194304) (hk : v.k = 15) (p : Bool) (H : TellsX v p) : Tells 74 v (fields (ctch3 v) v && (decide (v.l.length = 1) && p)) := by
 intro x w h
 have HO := Lib.hid fun w' (hb' : Below w.heap.size w w') => own_any v x w' (Is.below hb' _ _ h) hb
 have hll : (v.l.length : Int) ≤ 4194304 := by have := length_le_bulks v.l; have := bulk_ge v; omega
 obtain ⟨xka, xkc, xla, xlc, rfl, -, -, -, hrow⟩ := h.open
 have HT := Lib.hid fun w' (hb' : Below w.heap.size w w') => H xla xlc w' (RowB.below hrow hb')
 obtain ⟨W0, hW0, HB0, HF⟩ := box_new w v.k v.nm v.n v.s xka v.ks.length xkc xla v.l.length xlc
 have HW0 := Lib.hid hW0
 simp only [X.v] at HO ⊢
 rw [hk] at HO HF HW0 ⊢
 clear h hb hW0 hk hrow H
 generalize fields (ctch3 v) v = bo at *
 generalize v.nm = nm, v.n = n, v.s = s, v.ks.length = kn, v.l.length = ln at *
 go_enter Tryz.func74, Tryz.ntmps74
 go_wp2_with fail
 rw [HW0.out]
 clear HW0
 refine (HO.out _ HB0.out).mono ?_
 rintro e w1 ⟨rfl, hb1⟩
 obtain ⟨c0, c1, c2, c3, c4, c5⟩ := (HF.out _ hb1).six
 have HBW := Lib.hid (HB0.out.trans (hb1.mono HB0.out.size))
 clear hb1
 cases bo
 ·go_wp2_with fail
  go_ret
  exact ⟨rfl, HBW.out⟩
 by_cases hl : ln = 1
 ·subst hl
  go_wp2_with fail
  refine (HT.out _ HBW.out).mono ?_
  rintro e w2 ⟨rfl, hb2⟩
  have HB2 := Lib.hid (HBW.out.trans (hb2.mono HBW.out.size))
  clear hb2
  go_wp2_with fail
  go_ret
  exact ⟨rfl, HB2.out⟩
 ·have hq : ((ln : Int) == 1) = false := by rw [beq_eq_false_iff_ne]; omega
  have HD := Lib.hid (decide_eq_false hl)
  clear hl
  go_wp2_with fail
  go_ret
  exact ⟨by rw [HD.out]; rfl, HBW.out⟩
theorem expr_12 (v : V) (hb : v.bulk ≤ 4194304) (hk : v.k = 12) (p : Bool) (H : TellsX v p) : Tells 74 v (fields (ctch3 v) v && (decide (v.l.length = 2) && p)) := by
 intro x w h
 have HO := Lib.hid fun w' (hb' : Below w.heap.size w w') => own_any v x w' (Is.below hb' _ _ h) hb
 have hll : (v.l.length : Int) ≤ 4194304 := by have := length_le_bulks v.l; have := bulk_ge v; omega
 obtain ⟨xka, xkc, xla, xlc, rfl, -, -, -, hrow⟩ := h.open
 have HT := Lib.hid fun w' (hb' : Below w.heap.size w w') => H xla xlc w' (RowB.below hrow hb')
 obtain ⟨W0, hW0, HB0, HF⟩ := box_new w v.k v.nm v.n v.s xka v.ks.length xkc xla v.l.length xlc
 have HW0 := Lib.hid hW0
 simp only [X.v] at HO ⊢
 rw [hk] at HO HF HW0 ⊢
 clear h hb hW0 hk hrow H
 generalize fields (ctch3 v) v = bo at *
 generalize v.nm = nm, v.n = n, v.s = s, v.ks.length = kn, v.l.length = ln at *
 go_enter Tryz.func74, Tryz.ntmps74
 go_wp2_with fail
 rw [HW0.out]
 clear HW0
 refine (HO.out _ HB0.out).mono ?_
 rintro e w1 ⟨rfl, hb1⟩
 obtain ⟨c0, c1, c2, c3, c4, c5⟩ := (HF.out _ hb1).six
 have HBW := Lib.hid (HB0.out.trans (hb1.mono HB0.out.size))
 clear hb1
 cases bo
 ·go_wp2_with fail
  go_ret
  exact ⟨rfl, HBW.out⟩
 by_cases hl : ln = 2
 ·subst hl
  go_wp2_with fail
  refine (HT.out _ HBW.out).mono ?_
  rintro e w2 ⟨rfl, hb2⟩
  have HB2 := Lib.hid (HBW.out.trans (hb2.mono HBW.out.size))
  clear hb2
  go_wp2_with fail
  go_ret
  exact ⟨rfl, HB2.out⟩
 ·have hq : ((ln : Int) == 2) = false := by rw [beq_eq_false_iff_ne]; omega
  have HD := Lib.hid (decide_eq_false hl)
  clear hl
  go_wp2_with fail
  go_ret
  exact ⟨by rw [HD.out]; rfl, HBW.out⟩
theorem expr_17 (v : V) (hb : v.bulk ≤ 4194304) (hk : v.k = 17) (p : Bool) (H : TellsX v p) : Tells 74 v (fields (ctch3 v) v && (decide (v.l.length = 2) && p)) := by
 intro x w h
 have HO := Lib.hid fun w' (hb' : Below w.heap.size w w') => own_any v x w' (Is.below hb' _ _ h) hb
 have hll : (v.l.length : Int) ≤ 4194304 := by have := length_le_bulks v.l; have := bulk_ge v; omega
 obtain ⟨xka, xkc, xla, xlc, rfl, -, -, -, hrow⟩ := h.open
 have HT := Lib.hid fun w' (hb' : Below w.heap.size w w') => H xla xlc w' (RowB.below hrow hb')
 obtain ⟨W0, hW0, HB0, HF⟩ := box_new w v.k v.nm v.n v.s xka v.ks.length xkc xla v.l.length xlc
 have HW0 := Lib.hid hW0
 simp only [X.v] at HO ⊢
 rw [hk] at HO HF HW0 ⊢
 clear h hb hW0 hk hrow H
 generalize fields (ctch3 v) v = bo at *
 generalize v.nm = nm, v.n = n, v.s = s, v.ks.length = kn, v.l.length = ln at *
 go_enter Tryz.func74, Tryz.ntmps74
 go_wp2_with fail
 rw [HW0.out]
 clear HW0
 refine (HO.out _ HB0.out).mono ?_
 rintro e w1 ⟨rfl, hb1⟩
 obtain ⟨c0, c1, c2, c3, c4, c5⟩ := (HF.out _ hb1).six
 have HBW := Lib.hid (HB0.out.trans (hb1.mono HB0.out.size))
 clear hb1
 cases bo
 ·go_wp2_with fail
  go_ret
  exact ⟨rfl, HBW.out⟩
 by_cases hl : ln = 2
 ·subst hl
  go_wp2_with fail
  refine (HT.out _ HBW.out).mono ?_
  rintro e w2 ⟨rfl, hb2⟩
  have HB2 := Lib.hid (HBW.out.trans (hb2.mono HBW.out.size))
  clear hb2
  go_wp2_with fail
  go_ret
  exact ⟨rfl, HB2.out⟩
 ·have hq : ((ln : Int) == 2) = false := by rw [beq_eq_false_iff_ne]; omega
  have HD := Lib.hid (decide_eq_false hl)
  clear hl
  go_wp2_with fail
  go_ret
  exact ⟨by rw [HD.out]; rfl, HBW.out⟩
theorem expr_18 (v : V) (hb : v.bulk ≤ 4194304) (hk : v.k = 18) (p : Bool) (H : TellsX v p) : Tells 74 v (fields (ctch3 v) v && (decide (v.l.length = 2) && p)) := by
 intro x w h
 have HO := Lib.hid fun w' (hb' : Below w.heap.size w w') => own_any v x w' (Is.below hb' _ _ h) hb
 have hll : (v.l.length : Int) ≤ 4194304 := by have := length_le_bulks v.l; have := bulk_ge v; omega
 obtain ⟨xka, xkc, xla, xlc, rfl, -, -, -, hrow⟩ := h.open
 have HT := Lib.hid fun w' (hb' : Below w.heap.size w w') => H xla xlc w' (RowB.below hrow hb')
 obtain ⟨W0, hW0, HB0, HF⟩ := box_new w v.k v.nm v.n v.s xka v.ks.length xkc xla v.l.length xlc
 have HW0 := Lib.hid hW0
 simp only [X.v] at HO ⊢
 rw [hk] at HO HF HW0 ⊢
 clear h hb hW0 hk hrow H
 generalize fields (ctch3 v) v = bo at *
 generalize v.nm = nm, v.n = n, v.s = s, v.ks.length = kn, v.l.length = ln at *
 go_enter Tryz.func74, Tryz.ntmps74
 go_wp2_with fail
 rw [HW0.out]
 clear HW0
 refine (HO.out _ HB0.out).mono ?_
 rintro e w1 ⟨rfl, hb1⟩
 obtain ⟨c0, c1, c2, c3, c4, c5⟩ := (HF.out _ hb1).six
 have HBW := Lib.hid (HB0.out.trans (hb1.mono HB0.out.size))
 clear hb1
 cases bo
 ·go_wp2_with fail
  go_ret
  exact ⟨rfl, HBW.out⟩
 by_cases hl : ln = 2
 ·subst hl
  go_wp2_with fail
  refine (HT.out _ HBW.out).mono ?_
  rintro e w2 ⟨rfl, hb2⟩
  have HB2 := Lib.hid (HBW.out.trans (hb2.mono HBW.out.size))
  clear hb2
  go_wp2_with fail
  go_ret
  exact ⟨rfl, HB2.out⟩
 ·have hq : ((ln : Int) == 2) = false := by rw [beq_eq_false_iff_ne]; omega
  have HD := Lib.hid (decide_eq_false hl)
  clear hl
  go_wp2_with fail
  go_ret
  exact ⟨by rw [HD.out]; rfl, HBW.out⟩
theorem expr_21 (v : V) (hb : v.bulk ≤ 4194304) (hk : v.k = 21) (p : Bool) (H : TellsX v p) : Tells 74 v (fields (ctch3 v) v && (decide (v.l.length = 2) && p)) := by
 intro x w h
 have HO := Lib.hid fun w' (hb' : Below w.heap.size w w') => own_any v x w' (Is.below hb' _ _ h) hb
 have hll : (v.l.length : Int) ≤ 4194304 := by have := length_le_bulks v.l; have := bulk_ge v; omega
 obtain ⟨xka, xkc, xla, xlc, rfl, -, -, -, hrow⟩ := h.open
 have HT := Lib.hid fun w' (hb' : Below w.heap.size w w') => H xla xlc w' (RowB.below hrow hb')
 obtain ⟨W0, hW0, HB0, HF⟩ := box_new w v.k v.nm v.n v.s xka v.ks.length xkc xla v.l.length xlc
 have HW0 := Lib.hid hW0
 simp only [X.v] at HO ⊢
 rw [hk] at HO HF HW0 ⊢
 clear h hb hW0 hk hrow H
 generalize fields (ctch3 v) v = bo at *
 generalize v.nm = nm, v.n = n, v.s = s, v.ks.length = kn, v.l.length = ln at *
 go_enter Tryz.func74, Tryz.ntmps74
 go_wp2_with fail
 rw [HW0.out]
 clear HW0
 refine (HO.out _ HB0.out).mono ?_
 rintro e w1 ⟨rfl, hb1⟩
 obtain ⟨c0, c1, c2, c3, c4, c5⟩ := (HF.out _ hb1).six
 have HBW := Lib.hid (HB0.out.trans (hb1.mono HB0.out.size))
 clear hb1
 cases bo
 ·go_wp2_with fail
  go_ret
  exact ⟨rfl, HBW.out⟩
 by_cases hl : ln = 2
 ·subst hl
  go_wp2_with fail
  refine (HT.out _ HBW.out).mono ?_
  rintro e w2 ⟨rfl, hb2⟩
  have HB2 := Lib.hid (HBW.out.trans (hb2.mono HBW.out.size))
  clear hb2
  go_wp2_with fail
  go_ret
  exact ⟨rfl, HB2.out⟩
 ·have hq : ((ln : Int) == 2) = false := by rw [beq_eq_false_iff_ne]; omega
  have HD := Lib.hid (decide_eq_false hl)
  clear hl
  go_wp2_with fail
  go_ret
  exact ⟨by rw [HD.out]; rfl, HBW.out⟩
theorem expr_19 (v : V) (hb : v.bulk ≤ 4194304) (hk : v.k = 19) (p : Bool) (H : TellsX v p) : Tells 74 v (fields (ctch3 v) v && (decide (v.l.length = 3) && p)) := by
 intro x w h
 have HO := Lib.hid fun w' (hb' : Below w.heap.size w w') => own_any v x w' (Is.below hb' _ _ h) hb
 have hll : (v.l.length : Int) ≤ 4194304 := by have := length_le_bulks v.l; have := bulk_ge v; omega
 obtain ⟨xka, xkc, xla, xlc, rfl, -, -, -, hrow⟩ := h.open
 have HT := Lib.hid fun w' (hb' : Below w.heap.size w w') => H xla xlc w' (RowB.below hrow hb')
 obtain ⟨W0, hW0, HB0, HF⟩ := box_new w v.k v.nm v.n v.s xka v.ks.length xkc xla v.l.length xlc
 have HW0 := Lib.hid hW0
 simp only [X.v] at HO ⊢
 rw [hk] at HO HF HW0 ⊢
 clear h hb hW0 hk hrow H
 generalize fields (ctch3 v) v = bo at *
 generalize v.nm = nm, v.n = n, v.s = s, v.ks.length = kn, v.l.length = ln at *
 go_enter Tryz.func74, Tryz.ntmps74
 go_wp2_with fail
 rw [HW0.out]
 clear HW0
 refine (HO.out _ HB0.out).mono ?_
 rintro e w1 ⟨rfl, hb1⟩
 obtain ⟨c0, c1, c2, c3, c4, c5⟩ := (HF.out _ hb1).six
 have HBW := Lib.hid (HB0.out.trans (hb1.mono HB0.out.size))
 clear hb1
 cases bo
 ·go_wp2_with fail
  go_ret
  exact ⟨rfl, HBW.out⟩
 by_cases hl : ln = 3
 ·subst hl
  go_wp2_with fail
  refine (HT.out _ HBW.out).mono ?_
  rintro e w2 ⟨rfl, hb2⟩
  have HB2 := Lib.hid (HBW.out.trans (hb2.mono HBW.out.size))
  clear hb2
  go_wp2_with fail
  go_ret
  exact ⟨rfl, HB2.out⟩
 ·have hq : ((ln : Int) == 3) = false := by rw [beq_eq_false_iff_ne]; omega
  have HD := Lib.hid (decide_eq_false hl)
  clear hl
  go_wp2_with fail
  go_ret
  exact ⟨by rw [HD.out]; rfl, HBW.out⟩
theorem expr_16 (v : V) (hb : v.bulk ≤ 4194304) (hk : v.k = 16) (hl : v.l.length = 1) (p : Bool) (H : TellsX v p) : Tells 74 v (fields (ctch3 v) v && (isTg (v.l[0]'(by omega)) && p)) := by
 intro x w h
 have HO := Lib.hid fun w' (hb' : Below w.heap.size w w') => own_any v x w' (Is.below hb' _ _ h) hb
 obtain ⟨xka, xkc, xla, xlc, rfl, -, -, -, hrow⟩ := h.open
 have HT := Lib.hid fun w' (hb' : Below w.heap.size w w') => H xla xlc w' (RowB.below hrow hb')
 obtain ⟨W0, hW0, HB0, HF⟩ := box_new w v.k v.nm v.n v.s xka v.ks.length xkc xla v.l.length xlc
 have HW0 := Lib.hid hW0
 obtain ⟨g, o, y, rfl, -, hy⟩ := kid_at hrow 0 (by omega)
 have HY : Hid (∀ w', Below w.heap.size w w' → At w' g o y) := fun w' hb => by have := (hy w' hb).1; rwa [Nat.zero_mul, Nat.add_zero] at this
 have HG := Lib.hid fun w' (hb' : Below w.heap.size w w') => refIsTarget_any _ y w' (hy w' hb').2
 simp only [X.v] at HO HG ⊢
 generalize isTg (v.l[0]'(by omega)) = tg at *
 rw [hl] at HF HW0 HO HT ⊢
 rw [hk] at HO HF HW0 ⊢
 clear h hb hW0 hk hrow H hy hl
 generalize fields (ctch3 v) v = bo at *
 generalize v.nm = nm, v.n = n, v.s = s, v.ks.length = kn at *
 obtain ⟨yk, ynm, yn, ys, yka, ykn, ykc, yla, yln, ylc⟩ := y
 go_enter Tryz.func74, Tryz.ntmps74
 go_wp2_with fail
 rw [HW0.out]
 clear HW0
 refine (HO.out _ HB0.out).mono ?_
 rintro e w1 ⟨rfl, hb1⟩
 have HC1 := Lib.hid hb1
 have HB1 := Lib.hid (HB0.out.trans (hb1.mono HB0.out.size))
 obtain ⟨c0, c1, c2, c3, c4, c5⟩ := HF.out _ hb1
 obtain ⟨d0, d1, d2, d3, d4, d5⟩ := HY.out _ HB1.out
 dsimp only at c0 c1 c2 c3 c4 c5 d0 d1 d2 d3 d4 d5
 clear hb1
 cases bo
 ·go_wp2_with fail
  go_ret
  exact ⟨rfl, HB1.out⟩
 go_wp2_with fail
 refine (HG.out _ HB1.out).mono ?_
 rintro e w2 ⟨rfl, hb2⟩
 have HB2 := Lib.hid (HB1.out.trans (hb2.mono HB1.out.size))
 have HC2 := Lib.hid (HC1.out.trans (hb2.mono HC1.out.size))
 clear hb2 c0 c1 c2 c3 c4 c5 d0 d1 d2 d3 d4 d5
 obtain ⟨c0, c1, c2, c3, c4, c5⟩ := (HF.out _ HC2.out).six
 cases tg
 ·go_wp2_with fail
  go_ret
  exact ⟨rfl, HB2.out⟩
 go_wp2_with fail
 refine (HT.out _ HB2.out).mono ?_
 rintro e w3 ⟨rfl, hb3⟩
 have HB3 := Lib.hid (HB2.out.trans (hb3.mono HB2.out.size))
 clear hb3
 go_wp2_with fail
 go_ret
 exact ⟨rfl, HB3.out⟩
theorem expr_20 (v : V) (hb : v.bulk ≤ 4194304) (hk : v.k = 20) (hl : v.l.length = 2) (p : Bool) (H : TellsX v p) : Tells 74 v (fields (ctch3 v) v && (isTg (v.l[0]'(by omega)) && p)) := by
 intro x w h
 have HO := Lib.hid fun w' (hb' : Below w.heap.size w w') => own_any v x w' (Is.below hb' _ _ h) hb
 obtain ⟨xka, xkc, xla, xlc, rfl, -, -, -, hrow⟩ := h.open
 have HT := Lib.hid fun w' (hb' : Below w.heap.size w w') => H xla xlc w' (RowB.below hrow hb')
 obtain ⟨W0, hW0, HB0, HF⟩ := box_new w v.k v.nm v.n v.s xka v.ks.length xkc xla v.l.length xlc
 have HW0 := Lib.hid hW0
 obtain ⟨g, o, y, rfl, -, hy⟩ := kid_at hrow 0 (by omega)
 have HY : Hid (∀ w', Below w.heap.size w w' → At w' g o y) := fun w' hb => by have := (hy w' hb).1; rwa [Nat.zero_mul, Nat.add_zero] at this
 have HG := Lib.hid fun w' (hb' : Below w.heap.size w w') => refIsTarget_any _ y w' (hy w' hb').2
 simp only [X.v] at HO HG ⊢
 generalize isTg (v.l[0]'(by omega)) = tg at *
 rw [hl] at HF HW0 HO HT ⊢
 rw [hk] at HO HF HW0 ⊢
 clear h hb hW0 hk hrow H hy hl
 generalize fields (ctch3 v) v = bo at *
 generalize v.nm = nm, v.n = n, v.s = s, v.ks.length = kn at *
 obtain ⟨yk, ynm, yn, ys, yka, ykn, ykc, yla, yln, ylc⟩ := y
 go_enter Tryz.func74, Tryz.ntmps74
 go_wp2_with fail
 rw [HW0.out]
 clear HW0
 refine (HO.out _ HB0.out).mono ?_
 rintro e w1 ⟨rfl, hb1⟩
 have HC1 := Lib.hid hb1
 have HB1 := Lib.hid (HB0.out.trans (hb1.mono HB0.out.size))
 obtain ⟨c0, c1, c2, c3, c4, c5⟩ := HF.out _ hb1
 obtain ⟨d0, d1, d2, d3, d4, d5⟩ := HY.out _ HB1.out
 dsimp only at c0 c1 c2 c3 c4 c5 d0 d1 d2 d3 d4 d5
 clear hb1
 cases bo
 ·go_wp2_with fail
  go_ret
  exact ⟨rfl, HB1.out⟩
 go_wp2_with fail
 refine (HG.out _ HB1.out).mono ?_
 rintro e w2 ⟨rfl, hb2⟩
 have HB2 := Lib.hid (HB1.out.trans (hb2.mono HB1.out.size))
 have HC2 := Lib.hid (HC1.out.trans (hb2.mono HC1.out.size))
 clear hb2 c0 c1 c2 c3 c4 c5 d0 d1 d2 d3 d4 d5
 obtain ⟨c0, c1, c2, c3, c4, c5⟩ := (HF.out _ HC2.out).six
 cases tg
 ·go_wp2_with fail
  go_ret
  exact ⟨rfl, HB2.out⟩
 go_wp2_with fail
 refine (HT.out _ HB2.out).mono ?_
 rintro e w3 ⟨rfl, hb3⟩
 have HB3 := Lib.hid (HB2.out.trans (hb3.mono HB2.out.size))
 clear hb3
 go_wp2_with fail
 go_ret
 exact ⟨rfl, HB3.out⟩
end Go.Proofs.YtllpgoaanbiodaaGreatDoor.R
