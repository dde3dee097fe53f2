/-
  Unframe for every argument; the reference's Unframe, by contract.
-/
import Derived.Test.YtjjjbjepgieahaaQ
namespace Go.Proofs.Ytjjjbjepgieahaa
open Go.RowKit

theorem unframe_any (A : Option Addr) (l : Bs) (c : Nat) (most : Int) (w : World) (h : Byt w A l) (hl : l.length ≤ 140737488351232) (hlc : l.length ≤ c) (hm : most ≤ 9223372036854775807) :
    Calls Try.prog 21 #[.slice A l.length c, .int .i64 most] w (GivesU w (unfr l most)) := by
  by_cases h8 : l.length < 8
  · have HR := Lib.hid (unfr_short (most := most) h8)
    go_enter Try.func21, Try.ntmps21
    go_wp2
    go_ret3
    exact gives_none HR.out rfl (Below.refl _ _)
  · by_cases hf : (first (l.drop 8) (word l) most).2 ≠ 0
    · exact unframe_bad A l c most w h (by omega) hlc hm h8 hf
    · exact unframe_good A l c most w h hl hlc hm h8 hf
end Go.Proofs.Ytjjjbjepgieahaa
