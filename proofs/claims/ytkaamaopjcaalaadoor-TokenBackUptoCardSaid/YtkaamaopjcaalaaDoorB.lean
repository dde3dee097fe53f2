/-
  HOW MANY BYTES OF A SORT: sizeOf at each of the four questions, by contract. (written by gen.py)
-/
import Derived.Test.YtkaamaopjcaalaaDoorUG
import Derived.Test.YtkaamaopjcaalaaDoorA
namespace Go.Proofs.YtkaamaopjcaalaaDoor.T
open Go.RowKit Go.Proofs.YtkaamaopjcaalaaDoor

set_option maxRecDepth 4000 in
theorem sizeOf_ib (s : ByteArray) (w : World) (hs : s.size ≤ 9223372036854775807) :
    Calls Tryd.prog 20 #[.string s, .func (.func 21) #[] #[]] w fun e w' => e = .returned (.int .i64 (run ib s.data.toList : Nat)) ∧ w = w' := by
  have HA : Hid (Asks 21 ib) := Lib.hid isIdentByte_any
  go_enter Tryd.func20, Tryd.ntmps20
  go_wp2_with fail
  go_loopw [8] (fun i wr => ∃ j : Nat, j ≤ s.size ∧ i = .int .i64 j ∧ Hid (∀ b ∈ s.data.toList.take j, ib b = true) ∧ w = wr)
    (fun i _ => s.size - (intOf i).toNat)
  case atStart => exact ⟨0, Nat.zero_le _, rfl, Lib.hid (by simp), rfl⟩
  case round =>
    obtain ⟨j, hj, rfl, hh, rfl⟩ := hrel
    by_cases hlt : j < s.size
    · have hlt' : j < s.data.toList.length := by rw [size_list]; exact hlt
      have hget : s.data.toList[j]? = some s.data.toList[j] := List.getElem?_eq_getElem hlt'
      have ix := fun w => index_run s j _ w hget
      have HE := Lib.hid fun h => run_eq (p := ib) hlt' hh.out h
      have HS : Hid (ib s.data.toList[j] = true → ∀ b ∈ s.data.toList.take (j + 1), ib b = true) := Lib.hid fun h b hb => by
        rw [List.take_succ_eq_append_getElem hlt', List.mem_append, List.mem_singleton] at hb
        rcases hb with hb | rfl
        · exact hh.out b hb
        · exact h
      generalize s.data.toList[j] = c at *
      have HC := Lib.hid (HA.out c)
      clear hget hh
      cases hc : ib c with
      | false =>
        rw [hc] at HC
        have HV := Lib.hid (HE.out hc)
        clear hc HE HS hlt'
        go_wp2_with (go_at_call 21; refine (HC.out _).mono ?_; rintro e w' ⟨rfl, rfl⟩)
        go_ret
        exact ⟨by rw [HV.out]; rfl, rfl⟩
      | true =>
        rw [hc] at HC
        have HV := Lib.hid (HS.out hc)
        clear hc HE HS hlt'
        go_wp2_with (go_at_call 21; refine (HC.out _).mono ?_; rintro e w' ⟨rfl, rfl⟩)
        go_roundw
        case rel => exact ⟨j + 1, by omega, by go_num, HV, by first | rfl | trivial⟩
        case measure => simp [intOf]; omega
    · obtain rfl : j = s.size := by omega
      have HV : Hid (run ib s.data.toList = s.size) := Lib.hid (by
        rw [← size_list]
        refine run_full fun b hb => hh.out b ?_
        rw [List.take_of_length_le (by rw [size_list]; exact Nat.le_refl _)]
        exact hb)
      go_wp2_with fail
      go_ret
      exact ⟨by rw [HV.out]; rfl, rfl⟩
set_option maxRecDepth 4000 in
theorem sizeOf_nel (s : ByteArray) (w : World) (hs : s.size ≤ 9223372036854775807) :
    Calls Tryd.prog 20 #[.string s, .func (.func 33) #[] #[]] w fun e w' => e = .returned (.int .i64 (run nel s.data.toList : Nat)) ∧ w = w' := by
  have HA : Hid (Asks 33 nel) := Lib.hid isInLine_any
  go_enter Tryd.func20, Tryd.ntmps20
  go_wp2_with fail
  go_loopw [8] (fun i wr => ∃ j : Nat, j ≤ s.size ∧ i = .int .i64 j ∧ Hid (∀ b ∈ s.data.toList.take j, nel b = true) ∧ w = wr)
    (fun i _ => s.size - (intOf i).toNat)
  case atStart => exact ⟨0, Nat.zero_le _, rfl, Lib.hid (by simp), rfl⟩
  case round =>
    obtain ⟨j, hj, rfl, hh, rfl⟩ := hrel
    by_cases hlt : j < s.size
    · have hlt' : j < s.data.toList.length := by rw [size_list]; exact hlt
      have hget : s.data.toList[j]? = some s.data.toList[j] := List.getElem?_eq_getElem hlt'
      have ix := fun w => index_run s j _ w hget
      have HE := Lib.hid fun h => run_eq (p := nel) hlt' hh.out h
      have HS : Hid (nel s.data.toList[j] = true → ∀ b ∈ s.data.toList.take (j + 1), nel b = true) := Lib.hid fun h b hb => by
        rw [List.take_succ_eq_append_getElem hlt', List.mem_append, List.mem_singleton] at hb
        rcases hb with hb | rfl
        · exact hh.out b hb
        · exact h
      generalize s.data.toList[j] = c at *
      have HC := Lib.hid (HA.out c)
      clear hget hh
      cases hc : nel c with
      | false =>
        rw [hc] at HC
        have HV := Lib.hid (HE.out hc)
        clear hc HE HS hlt'
        go_wp2_with (go_at_call 33; refine (HC.out _).mono ?_; rintro e w' ⟨rfl, rfl⟩)
        go_ret
        exact ⟨by rw [HV.out]; rfl, rfl⟩
      | true =>
        rw [hc] at HC
        have HV := Lib.hid (HS.out hc)
        clear hc HE HS hlt'
        go_wp2_with (go_at_call 33; refine (HC.out _).mono ?_; rintro e w' ⟨rfl, rfl⟩)
        go_roundw
        case rel => exact ⟨j + 1, by omega, by go_num, HV, by first | rfl | trivial⟩
        case measure => simp [intOf]; omega
    · obtain rfl : j = s.size := by omega
      have HV : Hid (run nel s.data.toList = s.size) := Lib.hid (by
        rw [← size_list]
        refine run_full fun b hb => hh.out b ?_
        rw [List.take_of_length_le (by rw [size_list]; exact Nat.le_refl _)]
        exact hb)
      go_wp2_with fail
      go_ret
      exact ⟨by rw [HV.out]; rfl, rfl⟩
set_option maxRecDepth 4000 in
theorem sizeOf_dg (s : ByteArray) (w : World) (hs : s.size ≤ 9223372036854775807) :
    Calls Tryd.prog 20 #[.string s, .func (.func 19) #[] #[]] w fun e w' => e = .returned (.int .i64 (run dg s.data.toList : Nat)) ∧ w = w' := by
  have HA : Hid (Asks 19 dg) := Lib.hid isDigit_any
  go_enter Tryd.func20, Tryd.ntmps20
  go_wp2_with fail
  go_loopw [8] (fun i wr => ∃ j : Nat, j ≤ s.size ∧ i = .int .i64 j ∧ Hid (∀ b ∈ s.data.toList.take j, dg b = true) ∧ w = wr)
    (fun i _ => s.size - (intOf i).toNat)
  case atStart => exact ⟨0, Nat.zero_le _, rfl, Lib.hid (by simp), rfl⟩
  case round =>
    obtain ⟨j, hj, rfl, hh, rfl⟩ := hrel
    by_cases hlt : j < s.size
    · have hlt' : j < s.data.toList.length := by rw [size_list]; exact hlt
      have hget : s.data.toList[j]? = some s.data.toList[j] := List.getElem?_eq_getElem hlt'
      have ix := fun w => index_run s j _ w hget
      have HE := Lib.hid fun h => run_eq (p := dg) hlt' hh.out h
      have HS : Hid (dg s.data.toList[j] = true → ∀ b ∈ s.data.toList.take (j + 1), dg b = true) := Lib.hid fun h b hb => by
        rw [List.take_succ_eq_append_getElem hlt', List.mem_append, List.mem_singleton] at hb
        rcases hb with hb | rfl
        · exact hh.out b hb
        · exact h
      generalize s.data.toList[j] = c at *
      have HC := Lib.hid (HA.out c)
      clear hget hh
      cases hc : dg c with
      | false =>
        rw [hc] at HC
        have HV := Lib.hid (HE.out hc)
        clear hc HE HS hlt'
        go_wp2_with (go_at_call 19; refine (HC.out _).mono ?_; rintro e w' ⟨rfl, rfl⟩)
        go_ret
        exact ⟨by rw [HV.out]; rfl, rfl⟩
      | true =>
        rw [hc] at HC
        have HV := Lib.hid (HS.out hc)
        clear hc HE HS hlt'
        go_wp2_with (go_at_call 19; refine (HC.out _).mono ?_; rintro e w' ⟨rfl, rfl⟩)
        go_roundw
        case rel => exact ⟨j + 1, by omega, by go_num, HV, by first | rfl | trivial⟩
        case measure => simp [intOf]; omega
    · obtain rfl : j = s.size := by omega
      have HV : Hid (run dg s.data.toList = s.size) := Lib.hid (by
        rw [← size_list]
        refine run_full fun b hb => hh.out b ?_
        rw [List.take_of_length_le (by rw [size_list]; exact Nat.le_refl _)]
        exact hb)
      go_wp2_with fail
      go_ret
      exact ⟨by rw [HV.out]; rfl, rfl⟩
set_option maxRecDepth 4000 in
theorem sizeOf_hx (s : ByteArray) (w : World) (hs : s.size ≤ 9223372036854775807) :
    Calls Tryd.prog 20 #[.string s, .func (.func 55) #[] #[]] w fun e w' => e = .returned (.int .i64 (run hx s.data.toList : Nat)) ∧ w = w' := by
  have HA : Hid (Asks 55 hx) := Lib.hid isHexDigit_any
  go_enter Tryd.func20, Tryd.ntmps20
  go_wp2_with fail
  go_loopw [8] (fun i wr => ∃ j : Nat, j ≤ s.size ∧ i = .int .i64 j ∧ Hid (∀ b ∈ s.data.toList.take j, hx b = true) ∧ w = wr)
    (fun i _ => s.size - (intOf i).toNat)
  case atStart => exact ⟨0, Nat.zero_le _, rfl, Lib.hid (by simp), rfl⟩
  case round =>
    obtain ⟨j, hj, rfl, hh, rfl⟩ := hrel
    by_cases hlt : j < s.size
    · have hlt' : j < s.data.toList.length := by rw [size_list]; exact hlt
      have hget : s.data.toList[j]? = some s.data.toList[j] := List.getElem?_eq_getElem hlt'
      have ix := fun w => index_run s j _ w hget
      have HE := Lib.hid fun h => run_eq (p := hx) hlt' hh.out h
      have HS : Hid (hx s.data.toList[j] = true → ∀ b ∈ s.data.toList.take (j + 1), hx b = true) := Lib.hid fun h b hb => by
        rw [List.take_succ_eq_append_getElem hlt', List.mem_append, List.mem_singleton] at hb
        rcases hb with hb | rfl
        · exact hh.out b hb
        · exact h
      generalize s.data.toList[j] = c at *
      have HC := Lib.hid (HA.out c)
      clear hget hh
      cases hc : hx c with
      | false =>
        rw [hc] at HC
        have HV := Lib.hid (HE.out hc)
        clear hc HE HS hlt'
        go_wp2_with (go_at_call 55; refine (HC.out _).mono ?_; rintro e w' ⟨rfl, rfl⟩)
        go_ret
        exact ⟨by rw [HV.out]; rfl, rfl⟩
      | true =>
        rw [hc] at HC
        have HV := Lib.hid (HS.out hc)
        clear hc HE HS hlt'
        go_wp2_with (go_at_call 55; refine (HC.out _).mono ?_; rintro e w' ⟨rfl, rfl⟩)
        go_roundw
        case rel => exact ⟨j + 1, by omega, by go_num, HV, by first | rfl | trivial⟩
        case measure => simp [intOf]; omega
    · obtain rfl : j = s.size := by omega
      have HV : Hid (run hx s.data.toList = s.size) := Lib.hid (by
        rw [← size_list]
        refine run_full fun b hb => hh.out b ?_
        rw [List.take_of_length_le (by rw [size_list]; exact Nat.le_refl _)]
        exact hb)
      go_wp2_with fail
      go_ret
      exact ⟨by rw [HV.out]; rfl, rfl⟩
end Go.Proofs.YtkaamaopjcaalaaDoor.T
