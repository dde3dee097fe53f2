/-
  TreeApart, walked.
-/
import Derived.Test.YtllpgoaanbiodaaGreatDoorMLc
import Derived.Test.YtllpgoaanbiodaaGreatDoorMSr
namespace Go.Proofs.YtllpgoaanbiodaaGreatDoor.R
open Go.RowKit Go.Proofs.YtllpgoaanbiodaaGreatDoor Go.Proofs.YtllpgoaanbiodaaGreatDoor.T

set_option maxRecDepth 20000 in
set_option maxHeartbeats 2000000 in
theorem apart_law (a b : V) (x y : X) (w : World) (hx : Is w a x) (hy : Is w b y) (ha : a.bulk ≤ 1048576) (hb : b.bulk ≤ 1048576) (hT : Tab w) :
    Calls Tryz.prog 6 #[x.v, y.v] w fun e w' => e = .returned (.bool true) ∧ Below w.heap.size w w' := by
  have HLV := Lib.hid fun w' (h : Below w.heap.size w w') => live_any w' (hT.below h)
  have HTA := Lib.hid fun w' (h2 : Below w.heap.size w w') => text_any a x w' (Is.below h2 _ _ hx) (by omega) (hT.below h2)
  have HTB := Lib.hid fun w' (h2 : Below w.heap.size w w') => text_any b y w' (Is.below h2 _ _ hy) (by omega) (hT.below h2)
  have HSM := Lib.hid fun w' (h2 : Below w.heap.size w w') => refSame_any a b x y w' (Is.below h2 _ _ hx) (Is.below h2 _ _ hy) (by omega)
  rw [tres_eq] at HTA HTB
  have HAP := Lib.hid fun h1 h2 => apart_tx (a := a) (b := b) h1 h2
  have HSI := Lib.hid (same_iff a b)
  obtain ⟨W0, hW0⟩ : ∃ W0, (w.alloc (.cells x.cells 25)).alloc (.cells y.cells 25) = W0 := ⟨_, rfl⟩
  have HB0 : Hid (Below w.heap.size w W0) := by rw [← hW0]; exact two_below w _ _
  have HF : Hid (∀ w', Below W0.heap.size W0 w' → At w' w.heap.size 0 x ∧ At w' (w.heap.size + 1) 0 y) := fun w' hb => by
    have h0 : At W0 w.heap.size 0 x := by rw [← hW0]; constructor <;> simp [X.cells]
    have h1 : At W0 (w.heap.size + 1) 0 y := by rw [← hW0]; constructor <;> simp [X.cells]
    exact ⟨h0.below (B := W0.heap.size) (by rw [← hW0]; simp; omega) hb, h1.below (B := W0.heap.size) (by rw [← hW0]; simp) hb⟩
  have HW0 := Lib.hid hW0
  obtain ⟨xk, xnm, xn, xs, xka, xkn, xkc, xla, xln, xlc⟩ := x
  obtain ⟨yk, ynm, yn, ys, yka, ykn, ykc, yla, yln, ylc⟩ := y
  simp only [X.v, X.cells] at HTA HTB HSM HW0 ⊢
  clear hx hy ha hb hT hW0
  generalize V.same a b = sm at *
  generalize a.te = ea at *
  generalize b.te = eb at *
  generalize a.tx = ta at *
  generalize b.tx = tb at *
  go_enter Tryz.func6, Tryz.ntmps6
  go_wp2_with fail
  rw [HW0.out]
  clear HW0
  refine (HLV.out _ HB0.out).mono ?_
  rintro e w1 ⟨rfl, hb1⟩
  have HB1 := Lib.hid hb1
  clear hb1
  obtain ⟨⟨c0, c1, c2, c3, c4, c5⟩, ⟨d0, d1, d2, d3, d4, d5⟩⟩ := HF.out _ HB1.out
  dsimp only at c0 c1 c2 c3 c4 c5 d0 d1 d2 d3 d4 d5
  go_wp2_with fail
  refine (HTA.out _ (HB0.out.trans (HB1.out.mono HB0.out.size))).mono ?_
  rintro e w2 ⟨rfl, hb2⟩
  have HB2 := Lib.hid (HB1.out.trans (hb2.mono HB1.out.size))
  clear hb2 HB1 c0 c1 c2 c3 c4 c5 d0 d1 d2 d3 d4 d5
  obtain ⟨⟨c0, c1, c2, c3, c4, c5⟩, ⟨d0, d1, d2, d3, d4, d5⟩⟩ := HF.out _ HB2.out
  dsimp only at c0 c1 c2 c3 c4 c5 d0 d1 d2 d3 d4 d5
  go_wp2_with fail
  refine (HTB.out _ (HB0.out.trans (HB2.out.mono HB0.out.size))).mono ?_
  rintro e w3 ⟨rfl, hb3⟩
  have HB3 := Lib.hid (HB2.out.trans (hb3.mono HB2.out.size))
  have HBW := Lib.hid (HB0.out.trans (HB3.out.mono HB0.out.size))
  clear hb3 HB2 c0 c1 c2 c3 c4 c5 d0 d1 d2 d3 d4 d5
  obtain ⟨⟨c0, c1, c2, c3, c4, c5⟩, ⟨d0, d1, d2, d3, d4, d5⟩⟩ := HF.out _ HB3.out
  dsimp only at c0 c1 c2 c3 c4 c5 d0 d1 d2 d3 d4 d5
  by_cases hea : ea = 0
  · subst hea
    by_cases heb : eb = 0
    · subst heb
      have hi := (HAP.out rfl rfl).trans HSI.out.symm
      clear HAP HSI
      by_cases ht : ta = tb
      · subst ht
        have hs : sm = true := hi.1 rfl
        clear hi
        subst hs
        go_wp2_with fail
        refine (HSM.out _ HBW.out).mono ?_
        rintro e w4 ⟨rfl, hb4⟩
        have HB4 := Lib.hid (HBW.out.trans (hb4.mono HBW.out.size))
        clear hb4 c0 c1 c2 c3 c4 c5 d0 d1 d2 d3 d4 d5
        go_wp2_with fail
        go_ret
        exact ⟨rfl, HB4.out⟩
      · have hs : sm = false := by
          rw [Bool.eq_false_iff]
          intro e
          exact ht (hi.2 e)
        have hne := str_ne ht
        clear hi
        subst hs
        go_wp2_with fail
        refine (HSM.out _ HBW.out).mono ?_
        rintro e w4 ⟨rfl, hb4⟩
        have HB4 := Lib.hid (HBW.out.trans (hb4.mono HBW.out.size))
        clear hb4 c0 c1 c2 c3 c4 c5 d0 d1 d2 d3 d4 d5
        go_wp2_with fail
        go_ret
        exact ⟨rfl, HB4.out⟩
    · have hne : (eb == 0) = false := by rw [beq_eq_false_iff_ne]; exact heb
      clear HAP
      go_wp2_with fail
      go_ret
      exact ⟨rfl, HBW.out⟩
  · have hne : (ea == 0) = false := by rw [beq_eq_false_iff_ne]; exact hea
    clear HAP
    go_wp2_with fail
    go_ret
    exact ⟨rfl, HBW.out⟩
end Go.Proofs.YtllpgoaanbiodaaGreatDoor.R
