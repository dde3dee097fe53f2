/-
  NumberReckons: the walk.
-/
import Derived.Test.YtjgafhodogbemaaDoorC
import Derived.Test.YtjgafhodogbemaaDoorI
namespace Go.Proofs.YtjgafhodogbemaaDoor.N
open Go.RowKit Go.Proofs.YtjgafhodogbemaaDoor

theorem same_eq (a e : Int) (w : World) :
    Calls Tryd.prog 10 #[.int .i64 a, .int .i64 e, .int .i64 a, .int .i64 e] w fun r w' => r = .returned (.bool true) ∧ w' = w := by
  go_enter Tryd.func10, Tryd.ntmps10
  go_wp2_with fail
  go_ret
  exact ⟨rfl, rfl⟩
set_option maxRecDepth 8000 in
theorem reckons_law (a b : Int) (w : World) (hT : Tab w) :
    Calls Tryd.prog 3 #[.int .i64 a, .int .i64 b] w fun e w' => e = .returned (.bool true) ∧ Below w.heap.size w w' := by
  have H1 := Lib.hid fun w => add_any a b w
  have G1 := Lib.hid fun w => refAdd_any a b w
  have H2 := Lib.hid fun w => sub_any a b w
  have G2 := Lib.hid fun w => refSub_any a b w
  have H3 := Lib.hid fun w => mul_any a b w
  have G3 := Lib.hid fun w => refMul_any a b w
  have H4 := Lib.hid fun w => div_any a b w
  have G4 := Lib.hid fun w => refDiv_any a b w
  have H5 := Lib.hid fun w => mod_any a b w
  have G5 := Lib.hid fun w => refMod_any a b w
  have HC := Lib.hid fun w => check_n a w
  have GC := Lib.hid fun w => refCheck_n a w
  generalize nv (add a b) = x1 at *
  generalize er (add a b) = y1 at *
  generalize nv (sub a b) = x2 at *
  generalize er (sub a b) = y2 at *
  generalize nv (mul a b) = x3 at *
  generalize er (mul a b) = y3 at *
  generalize nv (dv a b) = x4 at *
  generalize er (dv a b) = y4 at *
  generalize nv (md a b) = x5 at *
  generalize er (md a b) = y5 at *
  generalize er (inr a) = y6 at *
  go_enter Tryd.func3, Tryd.ntmps3
  go_wp2_with fail
  refine (H1.out _).mono ?_
  rintro e w1 ⟨rfl, rfl⟩
  go_wp2_with fail
  refine (G1.out _).mono ?_
  rintro e w2 ⟨rfl, hb2⟩
  go_wp2_with fail
  refine (same_eq _ _ _).mono ?_
  rintro e w3 ⟨rfl, rfl⟩
  go_wp2_with fail
  refine (HC.out _).mono ?_
  rintro e w4 ⟨rfl, rfl⟩
  go_wp2_with fail
  refine (GC.out _).mono ?_
  rintro e w5 ⟨rfl, rfl⟩
  go_wp2_with fail
  refine (H2.out _).mono ?_
  rintro e w6 ⟨rfl, rfl⟩
  go_wp2_with fail
  refine (G2.out _).mono ?_
  rintro e w7 ⟨rfl, hb7⟩
  have HB := Lib.hid (hb2.trans (hb7.mono hb2.size))
  clear hb2 hb7
  go_wp2_with fail
  refine (same_eq _ _ _).mono ?_
  rintro e w8 ⟨rfl, rfl⟩
  go_wp2_with fail
  refine (H3.out _).mono ?_
  rintro e w9 ⟨rfl, rfl⟩
  go_wp2_with fail
  refine (G3.out _).mono ?_
  rintro e w10 ⟨rfl, rfl⟩
  go_wp2_with fail
  refine (same_eq _ _ _).mono ?_
  rintro e w11 ⟨rfl, rfl⟩
  go_wp2_with fail
  refine (H4.out _).mono ?_
  rintro e w12 ⟨rfl, rfl⟩
  go_wp2_with fail
  refine (G4.out _).mono ?_
  rintro e w13 ⟨rfl, rfl⟩
  go_wp2_with fail
  refine (same_eq _ _ _).mono ?_
  rintro e w14 ⟨rfl, rfl⟩
  go_wp2_with fail
  refine (H5.out _).mono ?_
  rintro e w15 ⟨rfl, rfl⟩
  go_wp2_with fail
  refine (G5.out _).mono ?_
  rintro e w16 ⟨rfl, rfl⟩
  go_wp2_with fail
  refine (live_any _ (hT.below HB.out)).mono ?_
  rintro e w17 ⟨rfl, hb17⟩
  have HB7 := Lib.hid (HB.out.trans (hb17.mono HB.out.size))
  clear hb17
  go_wp2_with fail
  refine (same_eq _ _ _).mono ?_
  rintro e w18 ⟨rfl, rfl⟩
  go_wp2_with fail
  go_ret
  exact ⟨rfl, HB7.out⟩
end Go.Proofs.YtjgafhodogbemaaDoor.N
