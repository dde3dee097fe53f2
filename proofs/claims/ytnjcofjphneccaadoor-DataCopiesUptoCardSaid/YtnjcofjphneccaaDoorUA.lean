/-
  units' and its reference's Check, Len, At, hex, by contract.
-/
import Derived.Test.YtnjcofjphneccaaDoorUP
import Derived.WalkKit
import Derived.ProofKit
import Derived.Outline
import Derived.IntWalk
import Derived.BigQuiet
import Derived.BigCall
import Derived.BigGuard
import Derived.Deep.QuietTactic
import Derived.Lib.Hide
import Derived.Lib.Strings
namespace Go.Proofs.YtnjcofjphneccaaDoor
open Go.RowKit

theorem ret_int {k : IntKind} {a b : Int} (h : a = b) : Ending.returned (.int k a) = .returned (.int k b) := by rw [h]
theorem ret_bool {a b : Bool} (h : a = b) : Ending.returned (.bool a) = .returned (.bool b) := by rw [h]
theorem below_drewN (B : Nat) (w : World) (n : Nat) : Below B w (w.drewN n) := by
  cases n <;> exact ⟨rfl, rfl, rfl, Nat.le_refl _, fun _ _ => rfl⟩
theorem check_any (s : ByteArray) (w : World) (hs : s.size ≤ maxLen) :
    Calls Tryd.prog 39 #[.string s] w fun e w' => e = .returned (.bool (decide (s.size % 2 = 0))) ∧ w = w' := by
  unfold maxLen at hs
  go_enter Tryd.func39, Tryd.ntmps39
  go_wp2
  go_ret
  exact ⟨ret_bool (by rw [Bool.eq_iff_iff]; simp; omega), rfl⟩
theorem refCheck_any (s : ByteArray) (w : World) (hs : s.size ≤ maxLen) :
    Calls Tryd.prog 51 #[.string s] w fun e w' => e = .returned (.bool (decide (s.size % 2 = 0))) ∧ w = w' := by
  unfold maxLen at hs
  go_enter Tryd.func51, Tryd.ntmps51
  go_wp2
  go_ret
  exact ⟨ret_bool (by rw [Bool.eq_iff_iff]; simp; omega), rfl⟩
theorem len_any (s : ByteArray) (w : World) (hs : s.size ≤ maxLen) :
    Calls Tryd.prog 63 #[.string s] w fun e w' => e = .returned (.int .i64 ((s.size / 2 : Nat) : Int)) ∧ w = w' := by
  unfold maxLen at hs
  go_enter Tryd.func63, Tryd.ntmps63
  go_wp2
  go_ret
  exact ⟨ret_int (by omega), rfl⟩
theorem at_out (s : ByteArray) (i : Int) (w : World) (hs : s.size ≤ maxLen) (hi : i < 0 ∨ (s.size / 2 : Nat) ≤ i) :
    Calls Tryd.prog 65 #[.string s, .int .i64 i] w fun e w' => e = .returned (.int .i64 (-1)) ∧ w = w' := by
  unfold maxLen at hs
  rcases hi with hi | hi
  · go_enter Tryd.func65, Tryd.ntmps65
    go_wp2
    all_goals go_ret
    all_goals exact ⟨rfl, rfl⟩
  · have h0 : 0 ≤ i := by omega
    go_enter Tryd.func65, Tryd.ntmps65
    go_wp2
    all_goals go_ret
    all_goals exact ⟨rfl, rfl⟩
theorem or_bytes (a b : UInt8) : bits .or .i64 (wrap64 (wrap64 (a.toNat : Int) * 256)) (wrap64 (b.toNat : Int)) = ((a.toNat * 256 + b.toNat : Nat) : Int) := by
  have ha := a.toNat_lt
  have hb := b.toNat_lt
  have e1 : wrap64 (wrap64 (a.toNat : Int) * 256) = ((a.toNat * 256 : Nat) : Int) := by unfold wrap64; omega
  have e2 : wrap64 (b.toNat : Int) = ((b.toNat : Nat) : Int) := by unfold wrap64; omega
  rw [e1, e2]
  have hj : a.toNat * 256 ||| b.toNat = a.toNat * 256 + b.toNat := nat_join 8 _ _ (by omega) (by omega)
  show IntKind.i64.wrap ((BitVec.ofInt 64 ((a.toNat * 256 : Nat) : Int) ||| BitVec.ofInt 64 ((b.toNat : Nat) : Int)).toNat : Int) = _
  rw [BitVec.toNat_or, ofInt_u64 _ (by omega), ofInt_u64 _ (by omega), hj, IntKind.wrap_i64]
  omega
theorem at_in (s : ByteArray) (i : Nat) (w : World) (hs : s.size ≤ maxLen) (hi : i < s.size / 2) :
    Calls Tryd.prog 65 #[.string s, .int .i64 i] w fun e w' => e = .returned (.int .i64 (((s[2 * i]'(by omega)).toNat * 256 + (s[2 * i + 1]'(by omega)).toNat : Nat) : Int)) ∧ Below w.heap.size w w' := by
  unfold maxLen at hs
  have h1 : 2 * i + 1 < s.size := by omega
  have e1 : IntKind.i64.wrap (2 * (i : Int)) = 2 * (i : Int) := IntWalk.i64_in _ (by omega)
  have e2 : IntKind.i64.wrap (2 * (i : Int) + 1) = 2 * (i : Int) + 1 := IntWalk.i64_in _ (by omega)
  have e3 : (2 * (i : Int)).toNat = 2 * i := by omega
  have e4 : (2 * (i : Int) + 1).toNat = 2 * i + 1 := by omega
  have e5 : 0 ≤ 2 * (i : Int) := by omega
  have e6 : 0 ≤ 2 * (i : Int) + 1 := by omega
  have e7 : 2 * (i : Int) < s.size := by omega
  have e8 : 2 * (i : Int) + 1 < s.size := by omega
  go_enter Tryd.func65, Tryd.ntmps65
  go_wp2
  go_quiet (fail)
  go_wp2
  go_ret
  exact ⟨ret_int (or_bytes _ _), below_drewN _ _ _⟩
theorem size_list (s : ByteArray) : s.data.toList.length = s.size := (Lib.size_eq s).symm
theorem get_list (s : ByteArray) (i : Nat) (h : i < s.size) : s[i] = s.data.toList[i]'(by rw [size_list]; exact h) := rfl
/-- units.At and its reference give this unit. -/
def atOf (s : ByteArray) (i : Int) : Int := atI (us s.data.toList) i
theorem at_any (s : ByteArray) (i : Int) (w : World) (hs : s.size ≤ maxLen) :
    Calls Tryd.prog 65 #[.string s, .int .i64 i] w fun e w' => e = .returned (.int .i64 (atOf s i)) ∧ Below w.heap.size w w' := by
  have hl := size_list s
  by_cases h : 0 ≤ i ∧ i < (s.size / 2 : Nat)
  · obtain ⟨k, rfl⟩ := Int.eq_ofNat_of_zero_le h.1
    have hk : k < s.size / 2 := by omega
    have e : atOf s k = (((s[2 * k]'(by omega)).toNat * 256 + (s[2 * k + 1]'(by omega)).toNat : Nat) : Int) := by
      unfold atOf atI
      rw [if_pos ⟨h.1, by rw [us_length, hl]; exact h.2⟩, List.getD_eq_getElem?_getD, Int.toNat_natCast, us_get _ _ (by omega)]
      rfl
    rw [e]
    exact at_in s k w hs hk
  · have e : atOf s i = -1 := by
      unfold atOf atI
      rw [if_neg (by rw [us_length, hl]; exact h)]
    rw [e]
    exact (at_out s i w hs (by omega)).mono fun e w' ⟨h1, h2⟩ => ⟨h1, h2 ▸ Below.refl _ _⟩
theorem hexB_nat (n : Nat) (h : n < 16) : ((hexB n).toNat : Int) = if n < 10 then 48 + (n : Int) else 87 + (n : Int) := by
  unfold hexB
  split <;> rw [UInt8.toNat_ofNat'] <;> omega
theorem hex_any (n : Nat) (w : World) (hn : n < 16) :
    Calls Tryd.prog 66 #[.int .i64 n] w fun e w' => e = .returned (.int .u8 (hexB n).toNat) ∧ w = w' := by
  have H := Lib.hid (hexB_nat n hn)
  by_cases h1 : n < 10
  · go_enter Tryd.func66, Tryd.ntmps66
    go_wp2
    go_ret
    exact ⟨ret_int (by rw [H.out, if_pos h1]), rfl⟩
  · go_enter Tryd.func66, Tryd.ntmps66
    go_wp2
    go_ret
    exact ⟨ret_int (by rw [H.out, if_neg h1]; omega), rfl⟩
end Go.Proofs.YtnjcofjphneccaaDoor
