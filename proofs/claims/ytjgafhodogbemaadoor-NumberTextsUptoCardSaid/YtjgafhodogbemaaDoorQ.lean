/-
  The reference's blank and value, by contract.
-/
import Derived.Test.YtjgafhodogbemaaDoorC
import Derived.Test.YtjgafhodogbemaaDoorD
namespace Go.Proofs.YtjgafhodogbemaaDoor.N
open Go.RowKit Go.Proofs.YtjgafhodogbemaaDoor

/-- the reference's digit; 99: it is none -/
def vl (n : Nat) : Int := if dgt n = 16 then 99 else dgt n
theorem vl_lt {b : Int} (hb : b ≤ 16) {n : Nat} (h : ¬ b ≤ dgt n) : vl n = dgt n := by
  unfold vl
  rw [if_neg (by omega)]
theorem vl_ge {b : Int} (hb : b ≤ 16) {n : Nat} (h : b ≤ dgt n) : b ≤ vl n := by
  unfold vl
  split <;> omega
set_option maxHeartbeats 1000000 in
theorem value_any (x : Int) (n : Nat) (hx : x = (n : Int)) (w : World) :
    Calls Tryd.prog 42 #[.int .i64 x] w fun e w' => e = .returned (.int .i64 (vl n)) ∧ w' = w := by
  have HD : Hid (vl n = if 48 ≤ x ∧ x ≤ 57 then x - 48 else if 97 ≤ x ∧ x ≤ 102 then x - 87 else if 65 ≤ x ∧ x ≤ 70 then x - 55 else 99) := Lib.hid (by
    unfold vl dgt
    subst hx
    split <;> split <;> (try split) <;> (try split) <;> (try split) <;> (try split) <;> (try split) <;> (try split) <;> omega)
  clear hx
  by_cases h1 : 48 ≤ x ∧ x ≤ 57
  · obtain ⟨h1, h2⟩ := h1
    have e1 : IntKind.i64.wrap (x - 48) = x - 48 := IntWalk.i64_in _ (by omega)
    go_enter Tryd.func42, Tryd.ntmps42
    go_wp2
    go_ret
    exact ⟨ret_int (by rw [HD.out, if_pos (by omega)]), rfl⟩
  · by_cases h2 : 97 ≤ x ∧ x ≤ 102
    · obtain ⟨h2, h3⟩ := h2
      have h4 : 48 ≤ x := by omega
      have h5 : ¬ x ≤ 57 := by omega
      have e1 : IntKind.i64.wrap (x - 97) = x - 97 := IntWalk.i64_in _ (by omega)
      have e2 : IntKind.i64.wrap (x - 97 + 10) = x - 97 + 10 := IntWalk.i64_in _ (by omega)
      clear h1
      go_enter Tryd.func42, Tryd.ntmps42
      go_wp2
      go_ret
      exact ⟨ret_int (by rw [HD.out, if_neg (by omega), if_pos (by omega)]; omega), rfl⟩
    · by_cases h3 : 65 ≤ x ∧ x ≤ 70
      · obtain ⟨h3, h6⟩ := h3
        have h4 : 48 ≤ x := by omega
        have h5 : ¬ x ≤ 57 := by omega
        have h7 : ¬ 97 ≤ x := by omega
        have e1 : IntKind.i64.wrap (x - 65) = x - 65 := IntWalk.i64_in _ (by omega)
        have e2 : IntKind.i64.wrap (x - 65 + 10) = x - 65 + 10 := IntWalk.i64_in _ (by omega)
        clear h1 h2
        go_enter Tryd.func42, Tryd.ntmps42
        go_wp2
        go_ret
        exact ⟨ret_int (by rw [HD.out, if_neg (by omega), if_neg (by omega), if_pos (by omega)]; omega), rfl⟩
      · have HE : Hid (vl n = 99) := Lib.hid (by rw [HD.out, if_neg h1, if_neg h2, if_neg h3])
        have hh : x < 48 ∨ (57 < x ∧ x < 65) ∨ (70 < x ∧ x < 97) ∨ 102 < x := by omega
        clear h1 h2 h3 HD
        rcases hh with h | ⟨h, h'⟩ | ⟨h, h'⟩ | h
        · have g1 : ¬ 48 ≤ x := by omega
          have g2 : ¬ 65 ≤ x := by omega
          have g3 : ¬ 97 ≤ x := by omega
          go_enter Tryd.func42, Tryd.ntmps42
          go_wp2
          go_ret
          exact ⟨ret_int HE.out.symm, rfl⟩
        · have g1 : 48 ≤ x := by omega
          have g2 : ¬ 65 ≤ x := by omega
          have g3 : ¬ 97 ≤ x := by omega
          have g4 : ¬ x ≤ 57 := by omega
          go_enter Tryd.func42, Tryd.ntmps42
          go_wp2
          go_ret
          exact ⟨ret_int HE.out.symm, rfl⟩
        · have g1 : 48 ≤ x := by omega
          have g2 : 65 ≤ x := by omega
          have g3 : ¬ 97 ≤ x := by omega
          have g4 : ¬ x ≤ 57 := by omega
          have g5 : ¬ x ≤ 70 := by omega
          go_enter Tryd.func42, Tryd.ntmps42
          go_wp2
          go_ret
          exact ⟨ret_int HE.out.symm, rfl⟩
        · have g1 : 48 ≤ x := by omega
          have g2 : 65 ≤ x := by omega
          have g3 : 97 ≤ x := by omega
          have g4 : ¬ x ≤ 57 := by omega
          have g5 : ¬ x ≤ 70 := by omega
          have g6 : ¬ x ≤ 102 := by omega
          go_enter Tryd.func42, Tryd.ntmps42
          go_wp2
          go_ret
          exact ⟨ret_int HE.out.symm, rfl⟩
set_option maxHeartbeats 1000000 in
theorem blank_any (x : Int) (n : Nat) (hx : x = (n : Int)) (w : World) :
    Calls Tryd.prog 41 #[.int .i64 x] w fun e w' => e = .returned (.bool (sp n)) ∧ w' = w := by
  by_cases h0 : 9 ≤ x ∧ x ≤ 13
  · have HS : Hid (sp n = true) := Lib.hid (by unfold sp; rw [decide_eq_true_eq]; omega)
    obtain ⟨h1, h2⟩ := h0
    clear hx
    go_enter Tryd.func41, Tryd.ntmps41
    go_wp2
    go_ret
    exact ⟨ret_bool HS.out.symm, rfl⟩
  · by_cases h : x = 32 ∨ x = 160 ∨ x = 8232 ∨ x = 8233 ∨ x = 65279
    · have HS : Hid (sp n = true) := Lib.hid (by unfold sp; rw [decide_eq_true_eq]; omega)
      clear hx h0
      rcases h with rfl | rfl | rfl | rfl | rfl
      all_goals
        go_enter Tryd.func41, Tryd.ntmps41
        go_wp2
        go_ret
        exact ⟨ret_bool HS.out.symm, rfl⟩
    · have HS : Hid (sp n = false) := Lib.hid (by unfold sp; rw [decide_eq_false_iff_not]; omega)
      simp only [not_or] at h
      obtain ⟨g1, g2, g3, g4, g5⟩ := h
      have b1 : (x == 32) = false := by rw [beq_eq_false_iff_ne]; exact g1
      have b2 : (x == 160) = false := by rw [beq_eq_false_iff_ne]; exact g2
      have b3 : (x == 8232) = false := by rw [beq_eq_false_iff_ne]; exact g3
      have b4 : (x == 8233) = false := by rw [beq_eq_false_iff_ne]; exact g4
      have b5 : (x == 65279) = false := by rw [beq_eq_false_iff_ne]; exact g5
      by_cases h9 : 9 ≤ x
      · have h13 : ¬ x ≤ 13 := by omega
        clear hx h0
        go_enter Tryd.func41, Tryd.ntmps41
        go_wp2
        go_ret
        exact ⟨ret_bool HS.out.symm, rfl⟩
      · clear hx h0
        go_enter Tryd.func41, Tryd.ntmps41
        go_wp2
        go_ret
        exact ⟨ret_bool HS.out.symm, rfl⟩
end Go.Proofs.YtjgafhodogbemaaDoor.N
