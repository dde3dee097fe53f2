/-
  readNum, readText, by contract.
-/
import Derived.Test.YtkanpdhlpobfoaaDoorG
namespace Go.Proofs.YtkanpdhlpobfoaaDoor
open Go.RowKit
open K (Pt)

/-- one byte more -/
theorem or_byte {m c : Nat} (hm : m < 72057594037927936) (hc : c < 256) : bits .or .u64 (IntKind.u64.wrap ((m : Int) * 256)) (IntKind.u64.wrap (c : Int)) = ((m * 256 + c : Nat) : Int) := by
  have h1 : m * 256 < 18446744073709551616 := by omega
  have e1 : IntKind.u64.wrap ((m : Int) * 256) = ((m * 256 : Nat) : Int) := by
    rw [IntKind.wrap_u64, Int.emod_eq_of_lt (by omega) (by omega)]
    omega
  have e2 : IntKind.u64.wrap (c : Int) = (c : Int) := by
    rw [IntKind.wrap_u64, Int.emod_eq_of_lt (by omega) (by omega)]
  rw [e1, e2, u64_or_nat _ _ h1 (by omega), nat_join 8 _ _ (by omega) (by omega)]
theorem pv_take {l : Bs} {j : Nat} (h : j < l.length) (hj : j < 8) : K.pv (l.take j) < 72057594037927936 ∧ K.pv (l.take (j + 1)) = K.pv (l.take j) * 256 + l[j].toNat := by
  refine ⟨Nat.lt_of_lt_of_le (K.pv_lt _) ?_, by rw [snoc_get l j h, K.pv_snoc]⟩
  have e : (72057594037927936 : Nat) = 256 ^ 7 := by decide
  rw [e]
  exact Nat.pow_le_pow_right (by decide) (by rw [List.length_take]; omega)
theorem lowered {m : Nat} (h : m < 18446744073709551616) : wrap64 (IntKind.u64.wrap ((m : Int) - 9223372036854775808)) = (m : Int) - 9223372036854775808 := by
  unfold wrap64
  rw [IntKind.wrap_u64, Int.emod_add_emod, Int.sub_add_cancel, Int.emod_eq_of_lt (by omega) (by omega)]
theorem pv_eight {l : Bs} (h : l.length = 8) : K.pv l < 18446744073709551616 := by
  have := K.pv_lt l
  rw [h] at this
  have e : (18446744073709551616 : Nat) = 256 ^ 8 := by decide
  rw [e]
  exact this
set_option maxRecDepth 4000 in
set_option maxHeartbeats 1000000 in
theorem readNum_any (s : ByteArray) (w : World) (hs : s.size = 8) :
    Calls Tryd.prog 28 #[.string s] w fun e w' => e = .returned (.int .i64 ((K.pv s.data.toList : Int) - 9223372036854775808)) ∧ w = w' := by
  have HZ := Lib.hid hs
  have hs8 : s.size ≤ 8 := by omega
  have HL := Lib.hid (lowered (pv_eight (l := s.data.toList) (by rw [size_list]; exact hs)))
  clear hs
  go_enter Tryd.func28, Tryd.ntmps28
  go_wp2_with fail
  go_loop [3, 7] (fun v i => ∃ j : Nat, j ≤ s.size ∧ i = .int .i64 j ∧ v = .int .u64 (K.pv (s.data.toList.take j)))
    (fun _ i => s.size - (intOf i).toNat)
  case atStart => exact ⟨0, by omega, rfl, rfl⟩
  case round =>
    obtain ⟨j, hj, rfl, rfl⟩ := hrel
    by_cases hlt : j < s.size
    · have hp := pv_take (l := s.data.toList) (j := j) (by rw [size_list]; exact hlt) (by omega)
      have HB := Lib.hid (or_byte hp.1 (UInt8.toNat_lt (s.data.toList[j]'(by rw [size_list]; exact hlt))))
      have HP := Lib.hid hp.2
      clear hp
      go_wp2_with fail
      go_round
      case rel => exact ⟨j + 1, by omega, by go_num, by rw [HP.out]; exact congrArg _ HB.out⟩
      case measure => simp [intOf]; omega
    · obtain rfl : j = s.size := by omega
      have HT : Hid (s.data.toList.take s.size = s.data.toList) := List.take_of_length_le (by rw [size_list]; exact Nat.le_refl _)
      go_wp2_with fail
      go_ret
      exact ⟨by rw [HT.out]; exact ret_int HL.out, rfl⟩

/-- Clone -/
theorem clone_any (s : ByteArray) (w : World) (hs : s.size ≤ 1048576) :
    Calls Tryd.prog 42 #[.string s] w fun e w' => e = .returned (.string s) ∧ Below w.heap.size w w' := by
  have HC := Lib.hid fun w => Tryd.stringslite_Clone s w (by omega)
  go_enter Tryd.func42, Tryd.ntmps42
  go_wp2_with fail
  refine (HC.out _).mono ?_
  rintro e w1 ⟨rfl, hb⟩
  go_wp2_with fail
  go_ret
  exact ⟨rfl, hb⟩
theorem readText_any (s : ByteArray) (w : World) (h : Ml w) (hs : s.size ≤ 1048576) :
    Calls Tryd.prog 30 #[.string s] w fun e w' => e = .returned (.string ⟨(Lib.replaceAll s.data.toList [0, 255] [0]).toArray⟩) ∧ Below w.heap.size w w' := by
  have HU := Lib.hid (unescape_any s w h hs)
  have hl := K.all_length s.data.toList
  rw [size_list] at hl
  generalize Lib.replaceAll s.data.toList [0, 255] [0] = t at *
  have HC := Lib.hid fun w => clone_any ⟨t.toArray⟩ w (by show t.length ≤ _; omega)
  clear h
  go_enter Tryd.func30, Tryd.ntmps30
  go_wp2_with fail
  refine HU.out.mono ?_
  rintro e w1 ⟨rfl, hb⟩
  go_wp2_with fail
  refine (HC.out _).mono ?_
  rintro e w2 ⟨rfl, hb2⟩
  go_wp2_with fail
  go_ret
  exact ⟨rfl, hb.trans (hb2.mono hb.size)⟩
end Go.Proofs.YtkanpdhlpobfoaaDoor
