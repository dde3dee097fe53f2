/-
  THE PROGRAM'S ARITHMETIC, each function by contract.
-/
import Derived.Test.YtjgafhodogbemaaDoorP
namespace Go.Proofs.YtjgafhodogbemaaDoor.N
open Go.RowKit Go.Proofs.YtjgafhodogbemaaDoor

theorem inRange_any (n : Int) (w : World) :
    Calls Tryd.prog 27 #[.int .i64 n] w fun e w' => e = .returned (.tuple #[.int .i64 (nv (inr n)), .int .i64 (er (inr n))]) ∧ w' = w := by
  cases h : sf n
  · have hr := Lib.hid (inr_none h)
    rw [sf_no] at h
    rcases h with h | h
    · go_enter Tryd.func27, Tryd.ntmps27
      go_wp2
      all_goals go_ret2
      all_goals exact ⟨by rw [hr.out]; rfl, rfl⟩
    · have h2 : ¬ n < -9007199254740991 := by omega
      go_enter Tryd.func27, Tryd.ntmps27
      go_wp2
      all_goals go_ret2
      all_goals exact ⟨by rw [hr.out]; rfl, rfl⟩
  · have hr := Lib.hid (inr_some h)
    rw [sf_iff] at h
    obtain ⟨h1, h2⟩ := h
    go_enter Tryd.func27, Tryd.ntmps27
    go_wp2
    go_ret2
    exact ⟨by rw [hr.out]; rfl, rfl⟩
theorem check_n (n : Int) (w : World) :
    Calls Tryd.prog 11 #[.int .i64 n] w fun e w' => e = .returned (.int .i64 (er (inr n))) ∧ w' = w := by
  go_enter Tryd.func11, Tryd.ntmps11
  go_wp2_with (go_at_call 27; refine (inRange_any n _).mono ?_; rintro e w' ⟨rfl, rfl⟩)
  go_ret
  exact ⟨rfl, rfl⟩
theorem er_inr (n : Int) : er (inr n) = if sf n then 0 else 100 := by
  unfold inr
  split <;> rfl
theorem areNumbers_any (a b : Int) (w : World) :
    Calls Tryd.prog 26 #[.int .i64 a, .int .i64 b] w fun e w' => e = .returned (.bool (sf a && sf b)) ∧ w' = w := by
  have ea := er_inr a
  have eb := er_inr b
  cases h1 : sf a
  · rw [h1, if_neg (by simp)] at ea
    clear eb
    go_enter Tryd.func26, Tryd.ntmps26
    go_wp2_with (go_at_call 11; refine (check_n _ _).mono ?_; rintro e w' ⟨rfl, rfl⟩)
    go_ret
    exact ⟨rfl, rfl⟩
  · rw [h1, if_pos rfl] at ea
    cases h2 : sf b
    · rw [h2, if_neg (by simp)] at eb
      go_enter Tryd.func26, Tryd.ntmps26
      go_wp2_with (go_at_call 11; refine (check_n _ _).mono ?_; rintro e w' ⟨rfl, rfl⟩)
      go_ret
      exact ⟨rfl, rfl⟩
    · rw [h2, if_pos rfl] at eb
      go_enter Tryd.func26, Tryd.ntmps26
      go_wp2_with (go_at_call 11; refine (check_n _ _).mono ?_; rintro e w' ⟨rfl, rfl⟩)
      go_ret
      exact ⟨rfl, rfl⟩
end Go.Proofs.YtjgafhodogbemaaDoor.N
