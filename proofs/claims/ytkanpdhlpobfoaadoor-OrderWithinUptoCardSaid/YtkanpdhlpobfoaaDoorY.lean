/-
  The laws Compares, Total, Keeps, Within, by contract.
-/
import Derived.Test.YtkanpdhlpobfoaaDoorW
import Derived.Test.YtkanpdhlpobfoaaDoorT
namespace Go.Proofs.YtkanpdhlpobfoaaDoor
open Go.RowKit
open K (Pt)

/-- what a law leaves -/
def Yes (w : World) (e : Ending) (w' : World) : Prop := e = .returned (.bool true) ∧ Below w.heap.size w w'
set_option maxRecDepth 4000 in
theorem compares_law (A B : Option Addr) (k m : List Pt) (c d : Nat) (w : World) (h : Row w A k) (h' : Row w B m) (hk : k.length ≤ 9223372036854775807) (hM : Ml w) :
    Calls Tryd.prog 5 #[.slice A k.length c, .slice B m.length d] w (Yes w) := by
  have HL := Lib.hid (live_any w hM)
  have HC := Lib.hid fun w' (hb : Below w.heap.size w w') => compare_any A B k m c d w' (h.below hb) (h'.below hb) hk
  have HR := Lib.hid fun w' (hb : Below w.heap.size w w') => refCompare_any A B k m c d w' (h.below hb) (h'.below hb) hk
  generalize K.cmpK k m = r at *
  clear h h' hM
  go_enter Tryd.func5, Tryd.ntmps5
  go_wp2_with fail
  refine HL.out.mono ?_
  rintro e w1 ⟨rfl, hb1⟩
  have HB1 := Lib.hid hb1
  clear hb1
  go_wp2_with fail
  refine (HC.out _ HB1.out).mono ?_
  rintro e w2 ⟨rfl, hb2⟩
  have HB2 := Lib.hid (HB1.out.trans (hb2.mono HB1.out.size))
  clear hb2
  go_wp2_with fail
  refine (HR.out _ HB2.out).mono ?_
  rintro e w3 ⟨rfl, hb3⟩
  have HB3 := Lib.hid (HB2.out.trans (hb3.mono HB2.out.size))
  clear hb3
  go_wp2_with fail
  go_ret
  exact ⟨by simp, HB3.out⟩

set_option maxRecDepth 4000 in
set_option maxHeartbeats 1000000 in
theorem total_law (A B C : Option Addr) (a b c : List Pt) (ca cb cc : Nat) (w : World) (h1 : Row w A a) (h2 : Row w B b) (h3 : Row w C c) (ha : a.length ≤ 9223372036854775807) (hb : b.length ≤ 9223372036854775807) (hM : Ml w) :
    Calls Tryd.prog 9 #[.slice A a.length ca, .slice B b.length cb, .slice C c.length cc] w (Yes w) := by
  have HL := Lib.hid (live_any w hM)
  have H1 := Lib.hid fun w' (hb' : Below w.heap.size w w') => compare_any A B a b ca cb w' (h1.below hb') (h2.below hb') ha
  have H2 := Lib.hid fun w' (hb' : Below w.heap.size w w') => compare_any B A b a cb ca w' (h2.below hb') (h1.below hb') hb
  have H3 := Lib.hid fun w' (hb' : Below w.heap.size w w') => compare_any A A a a ca ca w' (h1.below hb') (h1.below hb') ha
  have H4 := Lib.hid fun w' (hb' : Below w.heap.size w w') => compare_any B C b c cb cc w' (h2.below hb') (h3.below hb') hb
  have H5 := Lib.hid fun w' (hb' : Below w.heap.size w w') => compare_any A C a c ca cc w' (h1.below hb') (h3.below hb') ha
  have s1 := K.cmpK_tot.sign a b
  have s2 := K.cmpK_tot.anti a b
  have s3 := K.cmpK_tot.refl a
  have s4 := K.cmpK_tot.sign b c
  have s5 := K.cmpK_tot.sign a c
  have s6 := K.cmpK_tot.trans a b c
  rw [s2] at H2
  rw [s3] at H3
  generalize K.cmpK a b = x at *
  generalize K.cmpK b c = y at *
  generalize K.cmpK a c = z at *
  have S6 := Lib.hid s6
  clear h1 h2 h3 hM s2 s3 s6
  rcases s1 with rfl | rfl | rfl <;> rcases s4 with rfl | rfl | rfl <;> rcases s5 with rfl | rfl | rfl
  all_goals first
    | (exfalso; have := S6.out; omega)
    | (clear S6
       go_enter Tryd.func9, Tryd.ntmps9
       go_wp2_with fail
       refine HL.out.mono ?_
       rintro e w1 ⟨rfl, hb1⟩
       have HB1 := Lib.hid hb1
       clear hb1
       go_wp2_with fail
       refine (H1.out _ HB1.out).mono ?_
       rintro e w2 ⟨rfl, hb2⟩
       have HB2 := Lib.hid (HB1.out.trans (hb2.mono HB1.out.size))
       clear hb2
       go_wp2_with fail
       refine (H2.out _ HB2.out).mono ?_
       rintro e w3 ⟨rfl, hb3⟩
       have HB3 := Lib.hid (HB2.out.trans (hb3.mono HB2.out.size))
       clear hb3
       go_wp2_with fail
       refine (H3.out _ HB3.out).mono ?_
       rintro e w4 ⟨rfl, hb4⟩
       have HB4 := Lib.hid (HB3.out.trans (hb4.mono HB3.out.size))
       clear hb4
       go_wp2_with fail
       refine (H1.out _ HB4.out).mono ?_
       rintro e w5 ⟨rfl, hb5⟩
       have HB5 := Lib.hid (HB4.out.trans (hb5.mono HB4.out.size))
       clear hb5
       go_wp2_with fail
       first
         | (go_ret; exact ⟨rfl, HB5.out⟩)
         | (refine (H4.out _ HB5.out).mono ?_
            rintro e w6 ⟨rfl, hb6⟩
            have HB6 := Lib.hid (HB5.out.trans (hb6.mono HB5.out.size))
            clear hb6
            go_wp2_with fail
            first
              | (go_ret; exact ⟨rfl, HB6.out⟩)
              | (refine (H5.out _ HB6.out).mono ?_
                 rintro e w7 ⟨rfl, hb7⟩
                 have HB7 := Lib.hid (HB6.out.trans (hb7.mono HB6.out.size))
                 clear hb7
                 go_wp2_with fail
                 go_ret
                 exact ⟨rfl, HB7.out⟩)))

theorem beq_zero (x : Int) (h : x = 0 ∨ x = 2 ∨ x = 50) : x = 0 ∨ ((x == 0) = false ∧ (x != 0) = true) := by
  rcases h with rfl | rfl | rfl
  · exact .inl rfl
  · exact .inr ⟨rfl, rfl⟩
  · exact .inr ⟨rfl, rfl⟩
set_option maxRecDepth 4000 in
set_option maxHeartbeats 1000000 in
theorem keeps_law (A B : Option Addr) (k m : List Pt) (c d : Nat) (w : World) (h : Row w A k) (h' : Row w B m) (hk : bulk k ≤ 1048576) (hm : bulk m ≤ 1048576) (hM : Ml w) :
    Calls Tryd.prog 6 #[.slice A k.length c, .slice B m.length d] w (Yes w) := by
  have hkl := length_le_bulk k
  have HL := Lib.hid (live_any w hM)
  have HE1 := Lib.hid fun w' (hb : Below w.heap.size w w') => encode_any A k c w' (h.below hb) hk (hM.below hb)
  have HE2 := Lib.hid fun w' (hb : Below w.heap.size w w') => encode_any B m d w' (h'.below hb) hm (hM.below hb)
  have HC := Lib.hid fun w' (hb : Below w.heap.size w w') => compare_any A B k m c d w' (h.below hb) (h'.below hb) (by omega)
  clear h h' hM
  rcases beq_zero _ (chk_cases k) with h0 | ⟨b1, b2⟩
  · have hg := K.chk_zero h0
    rw [encV_good h0] at HE1
    clear h0
    rcases beq_zero _ (chk_cases m) with h0 | ⟨b1, b2⟩
    · have hg2 := K.chk_zero h0
      rw [encV_good h0] at HE2
      have HS := Lib.hid fun w => side_any ⟨(K.encs k).toArray⟩ ⟨(K.encs m).toArray⟩ w
      have hKe : K.cmpB (K.encs k) (K.encs m) = K.cmpK k m := K.keeps k m hg.1 hg2.1
      have e : K.cmpB (⟨(K.encs k).toArray⟩ : ByteArray).data.toList (⟨(K.encs m).toArray⟩ : ByteArray).data.toList = K.cmpK k m := hKe
      rw [e] at HS
      generalize K.cmpK k m = r at *
      generalize (⟨(K.encs k).toArray⟩ : ByteArray) = x at *
      generalize (⟨(K.encs m).toArray⟩ : ByteArray) = y at *
      clear h0 hg hg2 hKe e
      go_enter Tryd.func6, Tryd.ntmps6
      go_wp2_with fail
      refine HL.out.mono ?_
      rintro e w1 ⟨rfl, hb1⟩
      have HB1 := Lib.hid hb1
      clear hb1
      go_wp2_with fail
      refine (HE1.out _ HB1.out).mono ?_
      rintro e w2 ⟨rfl, hb2⟩
      have HB2 := Lib.hid (HB1.out.trans (hb2.mono HB1.out.size))
      clear hb2
      go_wp2_with fail
      refine (HE2.out _ HB2.out).mono ?_
      rintro e w3 ⟨rfl, hb3⟩
      have HB3 := Lib.hid (HB2.out.trans (hb3.mono HB2.out.size))
      clear hb3
      go_wp2_with fail
      refine (HS.out _).mono ?_
      rintro e w4 ⟨rfl, rfl⟩
      go_wp2_with fail
      refine (HC.out _ HB3.out).mono ?_
      rintro e w5 ⟨rfl, hb5⟩
      have HB5 := Lib.hid (HB3.out.trans (hb5.mono HB3.out.size))
      clear hb5
      go_wp2_with fail
      go_ret
      exact ⟨by simp, HB5.out⟩
    · unfold encV at HE2
      generalize (⟨(K.encs k).toArray⟩ : ByteArray) = x at *
      generalize (⟨(K.wrt m).toArray⟩ : ByteArray) = y at *
      generalize K.chk m = q at *
      clear hg
      go_enter Tryd.func6, Tryd.ntmps6
      go_wp2_with fail
      refine HL.out.mono ?_
      rintro e w1 ⟨rfl, hb1⟩
      have HB1 := Lib.hid hb1
      clear hb1
      go_wp2_with fail
      refine (HE1.out _ HB1.out).mono ?_
      rintro e w2 ⟨rfl, hb2⟩
      have HB2 := Lib.hid (HB1.out.trans (hb2.mono HB1.out.size))
      clear hb2
      go_wp2_with fail
      refine (HE2.out _ HB2.out).mono ?_
      rintro e w3 ⟨rfl, hb3⟩
      have HB3 := Lib.hid (HB2.out.trans (hb3.mono HB2.out.size))
      clear hb3
      go_wp2_with fail
      go_ret
      exact ⟨rfl, HB3.out⟩
  · unfold encV at HE1 HE2
    generalize (⟨(K.wrt k).toArray⟩ : ByteArray) = x at *
    generalize (⟨(K.wrt m).toArray⟩ : ByteArray) = y at *
    generalize K.chk k = p at *
    generalize K.chk m = q at *
    go_enter Tryd.func6, Tryd.ntmps6
    go_wp2_with fail
    refine HL.out.mono ?_
    rintro e w1 ⟨rfl, hb1⟩
    have HB1 := Lib.hid hb1
    clear hb1
    go_wp2_with fail
    refine (HE1.out _ HB1.out).mono ?_
    rintro e w2 ⟨rfl, hb2⟩
    have HB2 := Lib.hid (HB1.out.trans (hb2.mono HB1.out.size))
    clear hb2
    go_wp2_with fail
    refine (HE2.out _ HB2.out).mono ?_
    rintro e w3 ⟨rfl, hb3⟩
    have HB3 := Lib.hid (HB2.out.trans (hb3.mono HB2.out.size))
    clear hb3
    go_wp2_with fail
    go_ret
    exact ⟨rfl, HB3.out⟩
end Go.Proofs.YtkanpdhlpobfoaaDoor
