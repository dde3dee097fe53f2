/-
  digit, isSpace, isHex, behind, by contract; a unit at an index.
-/
import Derived.Test.YtjgafhodogbemaaDoorA
namespace Go.Proofs.YtjgafhodogbemaaDoor.N
open Go.RowKit Go.Proofs.YtjgafhodogbemaaDoor

set_option maxHeartbeats 1000000 in
theorem digit_any (x : Int) (n : Nat) (hx : x = (n : Int)) (w : World) :
    Calls Tryd.prog 50 #[.int .i64 x] w fun e w' => e = .returned (.int .i64 (dgt n)) ∧ w' = w := by
  have HD : Hid (dgt n = if 48 ≤ x ∧ x ≤ 57 then x - 48 else if 97 ≤ x ∧ x ≤ 102 then x - 87 else if 65 ≤ x ∧ x ≤ 70 then x - 55 else 16) := Lib.hid (by
    unfold dgt
    subst hx
    split <;> split <;> (try split) <;> (try split) <;> (try split) <;> omega)
  clear hx
  by_cases h1 : 48 ≤ x ∧ x ≤ 57
  · obtain ⟨h1, h2⟩ := h1
    have e1 : IntKind.i64.wrap (x - 48) = x - 48 := IntWalk.i64_in _ (by omega)
    go_enter Tryd.func50, Tryd.ntmps50
    go_wp2
    go_ret
    exact ⟨ret_int (by rw [HD.out, if_pos (by omega)]), rfl⟩
  · by_cases h2 : 97 ≤ x ∧ x ≤ 102
    · obtain ⟨h2, h3⟩ := h2
      have h4 : 48 ≤ x := by omega
      have h5 : ¬ x ≤ 57 := by omega
      have e1 : IntKind.i64.wrap (x - 97) = x - 97 := IntWalk.i64_in _ (by omega)
      have e2 : IntKind.i64.wrap (x - 97 + 10) = x - 97 + 10 := IntWalk.i64_in _ (by omega)
      clear h1
      go_enter Tryd.func50, Tryd.ntmps50
      go_wp2
      go_ret
      exact ⟨ret_int (by rw [HD.out, if_neg (by omega), if_pos (by omega)]; omega), rfl⟩
    · by_cases h3 : 65 ≤ x ∧ x ≤ 70
      · obtain ⟨h3, h6⟩ := h3
        have h4 : 48 ≤ x := by omega
        have h5 : ¬ x ≤ 57 := by omega
        have h7 : ¬ 97 ≤ x := by omega
        have e1 : IntKind.i64.wrap (x - 65) = x - 65 := IntWalk.i64_in _ (by omega)
        have e2 : IntKind.i64.wrap (x - 65 + 10) = x - 65 + 10 := IntWalk.i64_in _ (by omega)
        clear h1 h2
        go_enter Tryd.func50, Tryd.ntmps50
        go_wp2
        go_ret
        exact ⟨ret_int (by rw [HD.out, if_neg (by omega), if_neg (by omega), if_pos (by omega)]; omega), rfl⟩
      · have HE : Hid (dgt n = 16) := Lib.hid (by rw [HD.out, if_neg h1, if_neg h2, if_neg h3])
        have hh : x < 48 ∨ (57 < x ∧ x < 65) ∨ (70 < x ∧ x < 97) ∨ 102 < x := by omega
        clear h1 h2 h3 HD
        rcases hh with h | ⟨h, h'⟩ | ⟨h, h'⟩ | h
        · have g1 : ¬ 48 ≤ x := by omega
          have g2 : ¬ 65 ≤ x := by omega
          have g3 : ¬ 97 ≤ x := by omega
          go_enter Tryd.func50, Tryd.ntmps50
          go_wp2
          go_ret
          exact ⟨ret_int HE.out.symm, rfl⟩
        · have g1 : 48 ≤ x := by omega
          have g2 : ¬ 65 ≤ x := by omega
          have g3 : ¬ 97 ≤ x := by omega
          have g4 : ¬ x ≤ 57 := by omega
          go_enter Tryd.func50, Tryd.ntmps50
          go_wp2
          go_ret
          exact ⟨ret_int HE.out.symm, rfl⟩
        · have g1 : 48 ≤ x := by omega
          have g2 : 65 ≤ x := by omega
          have g3 : ¬ 97 ≤ x := by omega
          have g4 : ¬ x ≤ 57 := by omega
          have g5 : ¬ x ≤ 70 := by omega
          go_enter Tryd.func50, Tryd.ntmps50
          go_wp2
          go_ret
          exact ⟨ret_int HE.out.symm, rfl⟩
        · have g1 : 48 ≤ x := by omega
          have g2 : 65 ≤ x := by omega
          have g3 : 97 ≤ x := by omega
          have g4 : ¬ x ≤ 57 := by omega
          have g5 : ¬ x ≤ 70 := by omega
          have g6 : ¬ x ≤ 102 := by omega
          go_enter Tryd.func50, Tryd.ntmps50
          go_wp2
          go_ret
          exact ⟨ret_int HE.out.symm, rfl⟩
set_option maxHeartbeats 1000000 in
theorem isSpace_any (x : Int) (n : Nat) (hx : x = (n : Int)) (w : World) :
    Calls Tryd.prog 48 #[.int .i64 x] w fun e w' => e = .returned (.bool (sp n)) ∧ w' = w := by
  by_cases h : x = 9 ∨ x = 10 ∨ x = 11 ∨ x = 12 ∨ x = 13 ∨ x = 32 ∨ x = 160 ∨ x = 8232 ∨ x = 8233 ∨ x = 65279
  · have HS : Hid (sp n = true) := Lib.hid (by unfold sp; rw [decide_eq_true_eq]; omega)
    clear hx
    rcases h with rfl | rfl | rfl | rfl | rfl | rfl | rfl | rfl | rfl | rfl
    all_goals
      go_enter Tryd.func48, Tryd.ntmps48
      go_wp2
      go_ret
      exact ⟨ret_bool HS.out.symm, rfl⟩
  · have HS : Hid (sp n = false) := Lib.hid (by unfold sp; rw [decide_eq_false_iff_not]; omega)
    clear hx
    simp only [not_or] at h
    obtain ⟨g1, g2, g3, g4, g5, g6, g7, g8, g9, g10⟩ := h
    go_enter Tryd.func48, Tryd.ntmps48
    go_wp2
    go_ret
    exact ⟨ret_bool HS.out.symm, rfl⟩
theorem at_nat (s : ByteArray) (k : Nat) (x : Int) (hx : x = (k : Int)) (w : World) (hs : s.size ≤ maxLen) (h : k < (us s.data.toList).length) :
    Calls Tryd.prog 35 #[.string s, .int .i64 x] w fun e w' => e = .returned (.int .i64 (((us s.data.toList)[k] : Nat) : Int)) ∧ Below w.heap.size w w' := by
  subst hx
  have := at_any s k w hs
  rw [show atOf s k = (((us s.data.toList)[k] : Nat) : Int) from atI_in h] at this
  exact this
theorem isHex_any (s : ByteArray) (w : World) (hs : s.size ≤ maxLen) :
    Calls Tryd.prog 36 #[.string s] w fun e w' => e = .returned (.bool (hx (us s.data.toList))) ∧ Below w.heap.size w w' := by
  have HX : Hid (hx (us s.data.toList) = decide (atOf s 0 = 48 ∧ (atOf s 1 = 120 ∨ atOf s 1 = 88))) := Lib.hid rfl
  by_cases g0 : atOf s 0 = 48
  · by_cases g1 : atOf s 1 = 120
    · have HY := Lib.hid (HX.out.trans (decide_eq_true ⟨g0, .inl g1⟩))
      clear HX
      go_enter Tryd.func36, Tryd.ntmps36
      go_wp2_with fail
      refine (at_any s _ _ hs).mono ?_
      rintro e w1 ⟨rfl, hb1⟩
      go_wp2_with fail
      refine (at_any s _ _ hs).mono ?_
      rintro e w2 ⟨rfl, hb2⟩
      go_wp2_with fail
      go_ret
      exact ⟨ret_bool HY.out.symm, hb1.trans (hb2.mono hb1.size)⟩
    · by_cases g2 : atOf s 1 = 88
      · have HY := Lib.hid (HX.out.trans (decide_eq_true ⟨g0, .inr g2⟩))
        clear HX
        go_enter Tryd.func36, Tryd.ntmps36
        go_wp2_with fail
        refine (at_any s _ _ hs).mono ?_
        rintro e w1 ⟨rfl, hb1⟩
        go_wp2_with fail
        refine (at_any s _ _ hs).mono ?_
        rintro e w2 ⟨rfl, hb2⟩
        go_wp2_with fail
        go_ret
        exact ⟨ret_bool HY.out.symm, hb1.trans (hb2.mono hb1.size)⟩
      · have HY := Lib.hid (HX.out.trans (decide_eq_false (fun h => h.2.elim g1 g2)))
        have HZ : Hid ((atOf s 1 == 120 || atOf s 1 == 88) = false) := Lib.hid (by simp [g1, g2])
        clear HX
        go_enter Tryd.func36, Tryd.ntmps36
        go_wp2_with fail
        refine (at_any s _ _ hs).mono ?_
        rintro e w1 ⟨rfl, hb1⟩
        go_wp2_with fail
        refine (at_any s _ _ hs).mono ?_
        rintro e w2 ⟨rfl, hb2⟩
        go_wp2_with fail
        go_ret
        exact ⟨ret_bool (by first | exact HZ.out.trans HY.out.symm | exact HY.out.symm), hb1.trans (hb2.mono hb1.size)⟩
  · have HY := Lib.hid (HX.out.trans (decide_eq_false (fun h => g0 h.1)))
    clear HX
    go_enter Tryd.func36, Tryd.ntmps36
    go_wp2_with fail
    refine (at_any s _ _ hs).mono ?_
    rintro e w1 ⟨rfl, hb1⟩
    go_wp2_with fail
    refine (at_any s _ _ hs).mono ?_
    rintro e w2 ⟨rfl, hb2⟩
    go_wp2_with fail
    go_ret
    exact ⟨ret_bool HY.out.symm, hb1.trans (hb2.mono hb1.size)⟩
end Go.Proofs.YtjgafhodogbemaaDoor.N
