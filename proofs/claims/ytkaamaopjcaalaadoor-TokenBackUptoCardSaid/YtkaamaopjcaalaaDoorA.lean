/-
  WHAT A BYTE IS: the package's and the reference's small functions, by contract.
-/
import Derived.Test.YtkaamaopjcaalaaDoorUA
import Derived.Test.YtkaamaopjcaalaaDoorP
import Derived.Test.YtkaamaopjcaalaaDoorShelf
namespace Go.Proofs.YtkaamaopjcaalaaDoor.T
open Go.RowKit Go.Proofs.YtkaamaopjcaalaaDoor

/-- a byte's question, answered -/
abbrev Asks (f : Nat) (p : UInt8 → Bool) : Prop := ∀ (c : UInt8) (w : World), Calls Tryd.prog f #[.int .u8 (c.toNat : Nat)] w fun e w' => e = .returned (.bool (p c)) ∧ w = w'
theorem isDigit_any : Asks 19 dg := fun c w => by
  obtain ⟨n, hn⟩ : ∃ n, c.toNat = n := ⟨_, rfl⟩
  have HD : Hid (dg c = decide (48 ≤ n ∧ n ≤ 57)) := Lib.hid (by rw [← hn]; rfl)
  rw [hn]
  go_enter Tryd.func19, Tryd.ntmps19
  go_wp2
  all_goals go_ret
  all_goals exact ⟨ret_bool (by rw [HD.out, Bool.eq_iff_iff]; simp; omega), rfl⟩
theorem refDigit_any : Asks 22 dg := fun c w => by
  obtain ⟨n, hn⟩ : ∃ n, c.toNat = n := ⟨_, rfl⟩
  have HD : Hid (dg c = decide (48 ≤ n ∧ n ≤ 57)) := Lib.hid (by rw [← hn]; rfl)
  rw [hn]
  go_enter Tryd.func22, Tryd.ntmps22
  go_wp2
  all_goals go_ret
  all_goals exact ⟨ret_bool (by rw [HD.out, Bool.eq_iff_iff]; simp; omega), rfl⟩
theorem isBlank_any : Asks 31 ws := fun c w => by
  obtain ⟨n, hn⟩ : ∃ n, c.toNat = n := ⟨_, rfl⟩
  have HD : Hid (ws c = decide (9 ≤ n ∧ n ≤ 13 ∨ n = 32)) := Lib.hid (by rw [← hn]; rfl)
  rw [hn]
  go_enter Tryd.func31, Tryd.ntmps31
  go_wp2
  all_goals go_ret
  all_goals exact ⟨ret_bool (by rw [HD.out, Bool.eq_iff_iff]; simp; omega), rfl⟩
set_option maxRecDepth 4000 in
theorem isIdentByte_any : Asks 21 ib := fun c w => by
  have HDg := Lib.hid (isDigit_any c)
  obtain ⟨n, hn⟩ : ∃ n, c.toNat = n := ⟨_, rfl⟩
  have hD : ib c = (decide (97 ≤ n ∧ n ≤ 122 ∨ 65 ≤ n ∧ n ≤ 90 ∨ n = 95 ∨ n = 36) || dg c) := by rw [← hn]; rfl
  have HD := Lib.hid hD
  rw [hn] at HDg
  rw [hn]
  clear hD hn
  generalize dg c = d at *
  cases d
  all_goals
    go_enter Tryd.func21, Tryd.ntmps21
    go_wp2_with (go_at_call 19; refine (HDg.out _).mono ?_; rintro e w' ⟨rfl, rfl⟩)
    all_goals go_ret
    all_goals exact ⟨ret_bool (by rw [HD.out, Bool.eq_iff_iff]; simp; try omega), rfl⟩
set_option maxRecDepth 4000 in
theorem isHexDigit_any : Asks 55 hx := fun c w => by
  have HDg := Lib.hid (isDigit_any c)
  obtain ⟨n, hn⟩ : ∃ n, c.toNat = n := ⟨_, rfl⟩
  have hD : hx c = (dg c || decide (97 ≤ n ∧ n ≤ 102 ∨ 65 ≤ n ∧ n ≤ 70)) := by rw [← hn, Bool.eq_iff_iff]; simp [hx, dg]
  have HD := Lib.hid hD
  rw [hn] at HDg
  rw [hn]
  clear hD hn
  generalize dg c = d at *
  cases d
  all_goals
    go_enter Tryd.func55, Tryd.ntmps55
    go_wp2_with (go_at_call 19; refine (HDg.out _).mono ?_; rintro e w' ⟨rfl, rfl⟩)
    all_goals go_ret
    all_goals exact ⟨ret_bool (by rw [HD.out, Bool.eq_iff_iff]; simp; try omega), rfl⟩
set_option maxRecDepth 4000 in
theorem refLetter_any : Asks 23 lt := fun c w => by
  obtain ⟨n, hn⟩ : ∃ n, c.toNat = n := ⟨_, rfl⟩
  have HD : Hid (lt c = decide (97 ≤ n ∧ n ≤ 122 ∨ 65 ≤ n ∧ n ≤ 90 ∨ n = 95 ∨ n = 36)) := Lib.hid (by rw [← hn]; rfl)
  rw [hn]
  go_enter Tryd.func23, Tryd.ntmps23
  go_wp2
  all_goals go_ret
  all_goals exact ⟨ret_bool (by rw [HD.out, Bool.eq_iff_iff]; simp; try omega), rfl⟩
/-- a digit's number, or -1 -/
def vI (c : UInt8) : Int := if hx c then (dv c : Int) else -1
theorem refValue_any (c : UInt8) (w : World) : Calls Tryd.prog 60 #[.int .u8 (c.toNat : Nat)] w fun e w' => e = .returned (.int .i64 (vI c)) ∧ w = w' := by
  have HDg := Lib.hid (refDigit_any c)
  obtain ⟨n, hn⟩ : ∃ n, c.toNat = n := ⟨_, rfl⟩
  have hD : vI c = if 48 ≤ n ∧ n ≤ 57 then (n : Int) - 48 else if 97 ≤ n ∧ n ≤ 102 then (n : Int) - 87 else if 65 ≤ n ∧ n ≤ 70 then (n : Int) - 55 else -1 := by
    unfold vI hx dv
    rw [hn]
    simp only [decide_eq_true_eq]
    repeat' split
    all_goals omega
  have hd : dg c = decide (48 ≤ n ∧ n ≤ 57) := by rw [← hn]; rfl
  have hlt : n < 256 := by rw [← hn]; exact c.toNat_lt
  rw [hn, hd] at HDg
  rw [hn]
  have HD := Lib.hid hD
  clear hD hn hd
  by_cases h1 : 48 ≤ n ∧ n ≤ 57
  · rw [decide_eq_true h1] at HDg
    go_enter Tryd.func60, Tryd.ntmps60
    go_wp2_with (go_at_call 22; refine (HDg.out _).mono ?_; rintro e w' ⟨rfl, rfl⟩)
    go_ret
    exact ⟨ret_int (by rw [HD.out, if_pos h1]), rfl⟩
  · rw [decide_eq_false h1] at HDg
    go_enter Tryd.func60, Tryd.ntmps60
    go_wp2_with (go_at_call 22; refine (HDg.out _).mono ?_; rintro e w' ⟨rfl, rfl⟩)
    all_goals go_ret
    all_goals refine ⟨ret_int ?_, rfl⟩
    all_goals rw [HD.out]
    all_goals (repeat' split)
    all_goals omega
theorem isInLine_any : Asks 33 nel := fun c w => by
  have HI := Lib.hid (Tryd.strings_IndexByte ⟨#[10, 13]⟩ (c.toNat : Nat))
  have e : ((c.toNat : Int)).toNat.toUInt8 = c := by simp
  rw [e] at HI
  have hV : Lib.indexByte [10, 13] c = if c = 10 then 0 else if c = 13 then 1 else -1 := by
    unfold Lib.indexByte Lib.indexByte Lib.indexByte
    by_cases h1 : c = 10
    · subst h1; rfl
    · by_cases h2 : c = 13
      · subst h2; rfl
      · rw [if_neg h1, if_neg h2]
        simp [Ne.symm h1, Ne.symm h2]
  have hN : nel c = decide (Lib.indexByte [10, 13] c < 0) := by
    rw [hV]
    unfold nel el
    by_cases h1 : c = 10
    · subst h1; rfl
    · by_cases h2 : c = 13
      · subst h2; rfl
      · rw [if_neg h1, if_neg h2]
        have n1 : ¬ c.toNat = 10 := fun h => h1 (UInt8.toNat_inj.1 h)
        have n2 : ¬ c.toNat = 13 := fun h => h2 (UInt8.toNat_inj.1 h)
        simp [n1, n2]
  have HN := Lib.hid hN
  have eL : (ByteArray.mk #[10, 13]).data.toList = [10, 13] := rfl
  rw [eL] at HI
  clear hV hN e eL
  generalize Lib.indexByte [10, 13] c = r at *
  by_cases hr : r < 0
  · go_enter Tryd.func33, Tryd.ntmps33
    go_wp2_with fail
    refine (HI.out _).mono ?_
    rintro e w' ⟨rfl, rfl⟩
    go_wp2
    go_ret
    exact ⟨ret_bool (by rw [HN.out, decide_eq_true hr]), rfl⟩
  · have hr' : 0 ≤ r := by omega
    go_enter Tryd.func33, Tryd.ntmps33
    go_wp2_with fail
    refine (HI.out _).mono ?_
    rintro e w' ⟨rfl, rfl⟩
    go_wp2
    go_ret
    exact ⟨ret_bool (by rw [HN.out, decide_eq_false (by omega)]), rfl⟩
end Go.Proofs.YtkaamaopjcaalaaDoor.T
