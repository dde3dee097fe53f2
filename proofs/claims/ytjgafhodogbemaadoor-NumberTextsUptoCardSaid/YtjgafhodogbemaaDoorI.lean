/-
  The chapter's examples hold.
-/
import Derived.Test.YtjgafhodogbemaaDoorB
import Derived.Test.YtjgafhodogbemaaDoorH
import Derived.Lib.ItoaMem
namespace Go.Proofs.YtjgafhodogbemaaDoor.N
open Go.RowKit Go.Proofs.YtjgafhodogbemaaDoor

theorem itoa12 : Lib.itoa (-12) = [45, 49, 50] := by
  rw [show (-12 : Int) = -((12 : Nat) : Int) from rfl, Lib.itoa_neg 12 (by omega), Lib.decDigits_two (by omega) (by omega)]
  decide
set_option maxRecDepth 8000 in
theorem live_any (w : World) (hT : Tab w) :
    Calls Tryd.prog 21 #[] w fun e w' => e = .returned (.bool true) ∧ Below w.heap.size w w' := by
  have H1 : Hid (∀ w, Calls Tryd.prog 15 #[.int .i64 134217728, .int .i64 67108864] w fun e w' => e = .returned (.tuple #[.int .i64 0, .int .i64 100]) ∧ w' = w) := Lib.hid fun w => by
    have := mul_any 134217728 67108864 w
    rw [show mul 134217728 67108864 = none from by decide +kernel] at this
    exact this
  have H2 : Hid (∀ w, Calls Tryd.prog 17 #[.int .i64 7, .int .i64 2] w fun e w' => e = .returned (.tuple #[.int .i64 0, .int .i64 100]) ∧ w' = w) := Lib.hid fun w => by
    have := div_any 7 2 w
    rw [show dv 7 2 = none from by decide +kernel] at this
    exact this
  have H3 : Hid (∀ w, Calls Tryd.prog 19 #[.int .i64 (-7), .int .i64 2] w fun e w' => e = .returned (.tuple #[.int .i64 (-1), .int .i64 0]) ∧ w' = w) := Lib.hid fun w => by
    have := mod_any (-7) 2 w
    rw [show md (-7) 2 = some (-1) from by decide +kernel] at this
    exact this
  have H4 : Hid (∀ w, Calls Tryd.prog 32 #[.string ⟨#[32, 45, 48, 49, 50, 32]⟩] w fun e w' => e = .returned (.string (bz (un [32, 45, 48, 49, 50, 32]))) ∧ Below w.heap.size w w') := Lib.hid fun w =>
    u_any (l := [32, 45, 48, 49, 50, 32]) (by unfold Asc; decide) (by decide) w
  have H5 : Hid (∀ w, Calls Tryd.prog 22 #[.string (bz (un [32, 45, 48, 49, 50, 32]))] w fun e w' => e = .returned (.tuple #[.int .i64 (-12), .int .i64 0]) ∧ Below w.heap.size w w') := Lib.hid fun w => by
    have := read_any (bz (un [32, 45, 48, 49, 50, 32])) w (by rw [bz_size]; decide)
    rw [bz_list, show rd (bs (un [32, 45, 48, 49, 50, 32])) = some (-12) from by decide +kernel] at this
    exact this
  have H6 : Hid (∀ w, Calls Tryd.prog 8 #[.int .i64 2, .int .i64 3] w fun e w' => e = .returned (.tuple #[.int .i64 5, .int .i64 0]) ∧ w' = w) := Lib.hid fun w => by
    have := add_any 2 3 w
    rw [show add 2 3 = some 5 from by decide +kernel] at this
    exact this
  have H7 : Hid (∀ w, Tab w → Calls Tryd.prog 24 #[.int .i64 (-12)] w fun e w' => e = .returned (.string (bz (un [45, 49, 50]))) ∧ Below w.heap.size w w') := Lib.hid fun w hT => by
    have := text_any (-12) (by decide) (by decide) w hT
    unfold tx at this
    rw [itoa12] at this
    exact this
  have H8 : Hid (∀ w, Calls Tryd.prog 32 #[.string ⟨#[45, 49, 50]⟩] w fun e w' => e = .returned (.string (bz (un [45, 49, 50]))) ∧ Below w.heap.size w w') := Lib.hid fun w =>
    u_any (l := [45, 49, 50]) (by unfold Asc; decide) (by decide) w
  generalize bz (un [32, 45, 48, 49, 50, 32]) = s at *
  generalize bz (un [45, 49, 50]) = t at *
  go_enter Tryd.func21, Tryd.ntmps21
  go_wp2_with fail
  refine (H1.out _).mono ?_
  rintro e w1 ⟨rfl, rfl⟩
  go_wp2_with fail
  refine (H2.out _).mono ?_
  rintro e w2 ⟨rfl, rfl⟩
  go_wp2_with fail
  refine (H3.out _).mono ?_
  rintro e w3 ⟨rfl, rfl⟩
  go_wp2_with fail
  refine (H4.out _).mono ?_
  rintro e w4 ⟨rfl, hb4⟩
  go_wp2_with fail
  refine (H5.out _).mono ?_
  rintro e w5 ⟨rfl, hb5⟩
  go_wp2_with fail
  refine (H6.out _).mono ?_
  rintro e w6 ⟨rfl, rfl⟩
  have HB := Lib.hid (hb4.trans (hb5.mono hb4.size))
  clear hb4 hb5
  go_wp2_with fail
  refine (H7.out _ (hT.below HB.out)).mono ?_
  rintro e w7 ⟨rfl, hb7⟩
  have HB7 := Lib.hid (HB.out.trans (hb7.mono HB.out.size))
  clear hb7
  go_wp2_with fail
  refine (H8.out _).mono ?_
  rintro e w8 ⟨rfl, hb8⟩
  go_wp2_with fail
  go_ret
  exact ⟨rfl, HB7.out.trans (hb8.mono HB7.out.size)⟩
end Go.Proofs.YtjgafhodogbemaaDoor.N
