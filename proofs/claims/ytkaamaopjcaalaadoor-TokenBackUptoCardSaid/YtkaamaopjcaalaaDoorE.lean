/-
  IsIdent, isHex; the reference's IsIdent.
-/
import Derived.Test.YtkaamaopjcaalaaDoorB
import Derived.Test.YtkaamaopjcaalaaDoorD
namespace Go.Proofs.YtkaamaopjcaalaaDoor.T
open Go.RowKit Go.Proofs.YtkaamaopjcaalaaDoor

theorem all_run (l : Bs) : l.all ib = decide (run ib l = l.length) := by
  rw [Bool.eq_iff_iff, decide_eq_true_iff, List.all_eq_true]
  constructor
  · exact run_full
  · intro h b hb
    have := run_all (p := ib) l b
    rw [h, List.take_length] at this
    exact this hb
theorem list_nil {s : ByteArray} (h : s.data.toList = []) : s = ⟨#[]⟩ := by
  apply ByteArray.ext; apply Array.toList_inj.1; exact h
theorem bI (a b : Nat) (x : Bool) (h : x = decide (a = b)) : ((a : Int) == (b : Int)) = x := by
  rw [h, Bool.eq_iff_iff, beq_iff_eq, decide_eq_true_iff]
  omega
theorem isI_cons (c : UInt8) (r : Bs) : isI (c :: r) = (decide ((c :: r).length ≤ 32) && (!dg c && (c :: r).all ib)) := rfl
theorem ne_i {a : Nat} {b : Int} (h : ¬ (a : Int) = b) : ((a : Int) == b) = false := by rw [beq_eq_false_iff_ne]; exact h
set_option maxRecDepth 4000 in
theorem isIdent_any (s : ByteArray) (w : World) (hs : s.size ≤ 9223372036854775807) :
    Calls Tryd.prog 12 #[.string s] w fun e w' => e = .returned (.bool (isI s.data.toList)) ∧ w = w' := by
  cases hl : s.data.toList with
  | nil =>
    obtain rfl := list_nil hl
    go_enter Tryd.func12, Tryd.ntmps12
    go_wp2
    go_ret
    exact ⟨rfl, rfl⟩
  | cons c r =>
    have hemp := notEmpty hl
    have i0 : ∀ w, (Instr.index 9 (.string s) (.int .i64 0)).run Tryd.prog w = .ok (.int .u8 (c.toNat : Nat)) w := fun w => index_run s 0 c w (by rw [hl]; rfl)
    have hz : s.size = (c :: r).length := by rw [← hl, size_list]
    by_cases h32 : s.size ≤ 32
    · have hd := Lib.hid (isDigit_any c)
      have h32' : (s.size : Int) ≤ 32 := by omega
      have hpos : (0 : Int) < (s.size : Int) := by rw [hz]; simp only [List.length_cons]; omega
      cases hdc : dg c with
      | true =>
        rw [hdc] at hd
        have HV : Hid (isI (c :: r) = false) := Lib.hid (by rw [isI_cons, hdc]; simp)
        clear hl hz hdc
        go_enter Tryd.func12, Tryd.ntmps12
        go_wp2_with (go_at_call 19; refine (hd.out _).mono ?_; rintro e w' ⟨rfl, rfl⟩)
        go_ret
        exact ⟨by rw [HV.out]; rfl, rfl⟩
      | false =>
        rw [hdc] at hd
        have HS := Lib.hid (sizeOf_ib s)
        have hq := bI (run ib s.data.toList) s.size (isI (c :: r)) (by
          rw [hl]
          rw [isI_cons, all_run, hdc, decide_eq_true (by rw [← hz]; exact h32), hz]
          simp)
        generalize run ib s.data.toList = k at *
        generalize isI (c :: r) = b at *
        clear hl hz hdc
        go_enter Tryd.func12, Tryd.ntmps12
        go_wp2_with (first
          | (go_at_call 19; refine (hd.out _).mono ?_; rintro e w' ⟨rfl, rfl⟩)
          | (go_at_call 20; refine (HS.out _ (by omega)).mono ?_; rintro e w' ⟨rfl, rfl⟩))
        go_ret
        exact ⟨rfl, rfl⟩
    · have h32' : 32 < (s.size : Int) := by omega
      have HV : Hid (isI (c :: r) = false) := Lib.hid (by rw [isI_cons, decide_eq_false (by rw [← hz]; exact h32)]; rfl)
      clear hl hz h32
      go_enter Tryd.func12, Tryd.ntmps12
      go_wp2
      go_ret
      exact ⟨by rw [HV.out]; rfl, rfl⟩
set_option maxRecDepth 4000 in
set_option maxHeartbeats 1000000 in
theorem refIsIdent_any (s : ByteArray) (w : World) (hs : s.size ≤ 9223372036854775807) :
    Calls Tryd.prog 13 #[.string s] w fun e w' => e = .returned (.bool (isI s.data.toList)) ∧ w = w' := by
  cases hl : s.data.toList with
  | nil =>
    obtain rfl := list_nil hl
    go_enter Tryd.func13, Tryd.ntmps13
    go_wp2
    go_ret
    exact ⟨rfl, rfl⟩
  | cons c r =>
    have i0 : ∀ w, (Instr.index 9 (.string s) (.int .i64 0)).run Tryd.prog w = .ok (.int .u8 (c.toNat : Nat)) w := fun w => index_run s 0 c w (by rw [hl]; rfl)
    have hz : s.size = (c :: r).length := by rw [← hl, size_list]
    have hpos : (1 : Int) ≤ (s.size : Int) := by rw [hz]; simp only [List.length_cons]; omega
    have hpos' : (0 : Int) < (s.size : Int) := by omega
    by_cases h32 : s.size ≤ 32
    · have hd := Lib.hid (refDigit_any c)
      have h32' : (s.size : Int) ≤ 32 := by omega
      cases hdc : dg c with
      | true =>
        rw [hdc] at hd
        have HV : Hid (isI (c :: r) = false) := Lib.hid (by rw [isI_cons, hdc]; simp)
        clear hl hz hdc
        go_enter Tryd.func13, Tryd.ntmps13
        go_wp2_with (go_at_call 22; refine (hd.out _).mono ?_; rintro e w' ⟨rfl, rfl⟩)
        go_ret
        exact ⟨by rw [HV.out]; rfl, rfl⟩
      | false =>
        rw [hdc] at hd
        have HI : Hid (isI (c :: r) = (c :: r).all ib) := Lib.hid (by rw [isI_cons, hdc, decide_eq_true (by rw [← hz]; exact h32)]; simp)
        have HL : Hid (Asks 23 lt) := Lib.hid refLetter_any
        have HD : Hid (Asks 22 dg) := Lib.hid refDigit_any
        have HLl := Lib.hid hl
        have HIX := Lib.hid (index_run s)
        have HZ := Lib.hid hz
        clear hl hz hdc
        go_enter Tryd.func13, Tryd.ntmps13
        go_wp2_with (go_at_call 22; refine (hd.out _).mono ?_; rintro e w' ⟨rfl, rfl⟩)
        clear hd i0
        go_loopw [3] (fun i wr => ∃ j : Nat, j ≤ s.size ∧ i = .int .i64 j ∧ Hid (∀ b ∈ (c :: r).take j, ib b = true) ∧ w = wr)
          (fun i _ => s.size - (intOf i).toNat)
        case atStart => exact ⟨0, Nat.zero_le _, rfl, Lib.hid (by simp), rfl⟩
        case round =>
          obtain ⟨j, hj, rfl, hh, rfl⟩ := hrel
          by_cases hlt : j < s.size
          · have hlt' : j < (c :: r).length := by rw [← HZ.out]; exact hlt
            have ij := fun w => HIX.out j _ w (by rw [HLl.out]; exact List.getElem?_eq_getElem hlt')
            have HE : Hid (ib (c :: r)[j] = false → (c :: r).all ib = false) := Lib.hid fun h => by
              rw [Bool.eq_false_iff]
              intro ha
              rw [List.all_eq_true.1 ha _ (List.getElem_mem hlt')] at h
              cases h
            have HS : Hid (ib (c :: r)[j] = true → ∀ b ∈ (c :: r).take (j + 1), ib b = true) := Lib.hid fun h b hb => by
              rw [List.take_succ_eq_append_getElem hlt', List.mem_append, List.mem_singleton] at hb
              rcases hb with hb | rfl
              · exact hh.out b hb
              · exact h
            generalize (c :: r)[j] = x at *
            have HC1 := Lib.hid (HL.out x)
            have HC2 := Lib.hid (HD.out x)
            have hxb : ib x = (lt x || dg x) := rfl
            clear hh hlt'
            cases hl1 : lt x with
            | true =>
              rw [hl1] at HC1
              have HV := Lib.hid (HS.out (by rw [hxb, hl1]; rfl))
              clear hl1 HE HS hxb
              go_wp2_with (first | (go_at_call 23; refine (HC1.out _).mono ?_; rintro e w' ⟨rfl, rfl⟩) | (go_at_call 22; refine (HC2.out _).mono ?_; rintro e w' ⟨rfl, rfl⟩))
              go_roundw
              case rel => exact ⟨j + 1, by omega, by go_num, HV, by first | rfl | trivial⟩
              case measure => simp [intOf]; omega
            | false =>
              rw [hl1] at HC1
              cases hd1 : dg x with
              | true =>
                rw [hd1] at HC2
                have HV := Lib.hid (HS.out (by rw [hxb, hl1, hd1]; rfl))
                clear hl1 hd1 HE HS hxb
                go_wp2_with (first | (go_at_call 23; refine (HC1.out _).mono ?_; rintro e w' ⟨rfl, rfl⟩) | (go_at_call 22; refine (HC2.out _).mono ?_; rintro e w' ⟨rfl, rfl⟩))
                go_roundw
                case rel => exact ⟨j + 1, by omega, by go_num, HV, by first | rfl | trivial⟩
                case measure => simp [intOf]; omega
              | false =>
                rw [hd1] at HC2
                have HV := Lib.hid (HE.out (by rw [hxb, hl1, hd1]; rfl))
                clear hl1 hd1 HE HS hxb
                go_wp2_with (first | (go_at_call 23; refine (HC1.out _).mono ?_; rintro e w' ⟨rfl, rfl⟩) | (go_at_call 22; refine (HC2.out _).mono ?_; rintro e w' ⟨rfl, rfl⟩))
                go_ret
                exact ⟨by rw [HI.out, HV.out]; rfl, rfl⟩
          · obtain rfl : j = s.size := by omega
            have HV : Hid ((c :: r).all ib = true) := Lib.hid (List.all_eq_true.2 fun b hb => hh.out b (by rw [HZ.out, List.take_length]; exact hb))
            go_wp2_with fail
            go_ret
            exact ⟨by rw [HI.out, HV.out]; rfl, rfl⟩
    · have h32' : 32 < (s.size : Int) := by omega
      have HV : Hid (isI (c :: r) = false) := Lib.hid (by rw [isI_cons, decide_eq_false (by rw [← hz]; exact h32)]; rfl)
      clear hl hz h32
      go_enter Tryd.func13, Tryd.ntmps13
      go_wp2
      go_ret
      exact ⟨by rw [HV.out]; rfl, rfl⟩
set_option maxRecDepth 4000 in
theorem isHex_any (s : ByteArray) (w : World) (hs : s.size ≤ 9223372036854775807) :
    Calls Tryd.prog 54 #[.string s] w fun e w' => e = .returned (.bool (isH s.data.toList)) ∧ w = w' := by
  have hz : s.size = s.data.toList.length := by rw [size_list]
  have hix := fun j x w h => index_run s j x w h
  generalize s.data.toList = l at *
  match l, hz with
  | [], hz | [_], hz | [_, _], hz =>
    have hz' : (s.size : Int) ≤ 2 := by rw [hz]; simp
    clear hix hz
    go_enter Tryd.func54, Tryd.ntmps54
    go_wp2
    go_ret
    exact ⟨rfl, rfl⟩
  | a :: x :: d :: r, hz =>
    have hz' : 2 < (s.size : Int) := by rw [hz]; simp only [List.length_cons]; omega
    have hz0 : 0 < (s.size : Int) := by omega
    have hz1 : 1 < (s.size : Int) := by omega
    have i0 : ∀ w, (Instr.index 9 (.string s) (.int .i64 0)).run Tryd.prog w = .ok (.int .u8 (a.toNat : Nat)) w := fun w => hix 0 a w rfl
    have i1 : ∀ w, (Instr.index 9 (.string s) (.int .i64 1)).run Tryd.prog w = .ok (.int .u8 (x.toNat : Nat)) w := fun w => hix 1 x w rfl
    have i2 : ∀ w, (Instr.index 9 (.string s) (.int .i64 2)).run Tryd.prog w = .ok (.int .u8 (d.toNat : Nat)) w := fun w => hix 2 d w rfl
    have HD := Lib.hid (isHexDigit_any d)
    have hv : isH (a :: x :: d :: r) = (decide (a.toNat = 48) && (decide (x.toNat = 120 ∨ x.toNat = 88) && hx d)) := by
      have e1 : (a = 48) = (a.toNat = 48) := propext ⟨fun h => by rw [h]; rfl, fun h => UInt8.toNat_inj.1 h⟩
      have e2 : (x = 120) = (x.toNat = 120) := propext ⟨fun h => by rw [h]; rfl, fun h => UInt8.toNat_inj.1 h⟩
      have e3 : (x = 88) = (x.toNat = 88) := propext ⟨fun h => by rw [h]; rfl, fun h => UInt8.toNat_inj.1 h⟩
      unfold isH
      simp only [e1, e2, e3]
    have HV := Lib.hid hv
    clear hix hz hv
    generalize a.toNat = n0 at *
    generalize x.toNat = n1 at *
    generalize hx d = b at *
    by_cases h0 : n0 = 48
    · subst h0
      have hc : n1 = 120 ∨ n1 = 88 ∨ (¬ n1 = 120 ∧ ¬ n1 = 88) := by omega
      rcases hc with rfl | rfl | ⟨h1, h2⟩
      · go_enter Tryd.func54, Tryd.ntmps54
        go_wp2_with (go_at_call 55; refine (HD.out _).mono ?_; rintro e w' ⟨rfl, rfl⟩)
        go_ret
        exact ⟨by rw [HV.out]; rfl, rfl⟩
      · go_enter Tryd.func54, Tryd.ntmps54
        go_wp2_with (go_at_call 55; refine (HD.out _).mono ?_; rintro e w' ⟨rfl, rfl⟩)
        go_ret
        exact ⟨by rw [HV.out]; rfl, rfl⟩
      · have b1 : ((n1 : Int) == 120) = false := ne_i (by omega)
        have b2 : ((n1 : Int) == 88) = false := ne_i (by omega)
        have HF := Lib.hid (decide_eq_false (by omega : ¬ (n1 = 120 ∨ n1 = 88)))
        clear h1 h2
        go_enter Tryd.func54, Tryd.ntmps54
        go_wp2_with (go_at_call 55; refine (HD.out _).mono ?_; rintro e w' ⟨rfl, rfl⟩)
        go_ret
        exact ⟨by rw [HV.out, HF.out]; rfl, rfl⟩
    · have b1 : ((n0 : Int) == 48) = false := ne_i (by omega)
      have HF := Lib.hid (decide_eq_false h0)
      clear h0
      go_enter Tryd.func54, Tryd.ntmps54
      go_wp2_with (go_at_call 55; refine (HD.out _).mono ?_; rintro e w' ⟨rfl, rfl⟩)
      go_ret
      exact ⟨by rw [HV.out, HF.out]; rfl, rfl⟩
end Go.Proofs.YtkaamaopjcaalaaDoor.T
