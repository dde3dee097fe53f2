/-
  Add, Sub, Mul, Mod, Div, by contract.
-/
import Derived.Test.YtjgafhodogbemaaDoorA
namespace Go.Proofs.YtjgafhodogbemaaDoor.N
open Go.RowKit Go.Proofs.YtjgafhodogbemaaDoor

theorem are_no {a b : Int} (h : (sf a && sf b) = false) (w : World) :
    Calls Tryd.prog 26 #[.int .i64 a, .int .i64 b] w fun e w' => e = .returned (.bool false) ∧ w' = w := h ▸ areNumbers_any a b w
theorem are_yes {a b : Int} (h : (sf a && sf b) = true) (w : World) :
    Calls Tryd.prog 26 #[.int .i64 a, .int .i64 b] w fun e w' => e = .returned (.bool true) ∧ w' = w := h ▸ areNumbers_any a b w
theorem both {a b : Int} (h : (sf a && sf b) = true) : (-9007199254740991 ≤ a ∧ a ≤ 9007199254740991) ∧ -9007199254740991 ≤ b ∧ b ≤ 9007199254740991 := by
  rw [Bool.and_eq_true, sf_iff, sf_iff] at h
  exact h
theorem add_any (a b : Int) (w : World) :
    Calls Tryd.prog 8 #[.int .i64 a, .int .i64 b] w fun e w' => e = .returned (.tuple #[.int .i64 (nv (add a b)), .int .i64 (er (add a b))]) ∧ w' = w := by
  cases h : (sf a && sf b)
  · have HR : Hid (add a b = none) := Lib.hid (by unfold add; rw [h]; rfl)
    have H := Lib.hid (are_no h)
    clear h
    go_enter Tryd.func8, Tryd.ntmps8
    go_wp2_with (go_at_call 26; refine (H.out _).mono ?_; rintro e w' ⟨rfl, rfl⟩)
    go_ret2
    exact ⟨by rw [HR.out]; rfl, rfl⟩
  · have HR : Hid (add a b = inr (a + b)) := Lib.hid (by unfold add; rw [h]; rfl)
    have H := Lib.hid (are_yes h)
    have hb := both h
    have e1 : IntKind.i64.wrap (a + b) = a + b := IntWalk.i64_in _ (by omega)
    clear h hb
    go_enter Tryd.func8, Tryd.ntmps8
    go_wp2_with (first | (go_at_call 26; refine (H.out _).mono ?_; rintro e w' ⟨rfl, rfl⟩) | (go_at_call 27; refine (inRange_any _ _).mono ?_; rintro e w' ⟨rfl, rfl⟩))
    go_ret2
    exact ⟨by rw [HR.out]; rfl, rfl⟩
theorem sub_any (a b : Int) (w : World) :
    Calls Tryd.prog 13 #[.int .i64 a, .int .i64 b] w fun e w' => e = .returned (.tuple #[.int .i64 (nv (sub a b)), .int .i64 (er (sub a b))]) ∧ w' = w := by
  cases h : (sf a && sf b)
  · have HR : Hid (sub a b = none) := Lib.hid (by unfold sub; rw [h]; rfl)
    have H := Lib.hid (are_no h)
    clear h
    go_enter Tryd.func13, Tryd.ntmps13
    go_wp2_with (go_at_call 26; refine (H.out _).mono ?_; rintro e w' ⟨rfl, rfl⟩)
    go_ret2
    exact ⟨by rw [HR.out]; rfl, rfl⟩
  · have HR : Hid (sub a b = inr (a - b)) := Lib.hid (by unfold sub; rw [h]; rfl)
    have H := Lib.hid (are_yes h)
    have hb := both h
    have e1 : IntKind.i64.wrap (a - b) = a - b := IntWalk.i64_in _ (by omega)
    clear h hb
    go_enter Tryd.func13, Tryd.ntmps13
    go_wp2_with (first | (go_at_call 26; refine (H.out _).mono ?_; rintro e w' ⟨rfl, rfl⟩) | (go_at_call 27; refine (inRange_any _ _).mono ?_; rintro e w' ⟨rfl, rfl⟩))
    go_ret2
    exact ⟨by rw [HR.out]; rfl, rfl⟩
theorem size_any (n : Int) (h : sf n = true) (w : World) :
    Calls Tryd.prog 30 #[.int .i64 n] w fun e w' => e = .returned (.int .i64 (n.natAbs : Int)) ∧ w' = w := by
  rw [sf_iff] at h
  obtain ⟨h1, h2⟩ := h
  have e1 : IntKind.i64.wrap (-n) = -n := IntWalk.i64_in _ (by omega)
  go_enter Tryd.func30, Tryd.ntmps30
  go_wp2
  go_ret
  exact ⟨ret_int (by omega), rfl⟩
theorem mul_any (a b : Int) (w : World) :
    Calls Tryd.prog 15 #[.int .i64 a, .int .i64 b] w fun e w' => e = .returned (.tuple #[.int .i64 (nv (mul a b)), .int .i64 (er (mul a b))]) ∧ w' = w := by
  cases h : (sf a && sf b)
  · have HR : Hid (mul a b = none) := Lib.hid (by unfold mul; rw [h]; rfl)
    have H := Lib.hid (are_no h)
    clear h
    go_enter Tryd.func15, Tryd.ntmps15
    go_wp2_with (go_at_call 26; refine (H.out _).mono ?_; rintro e w' ⟨rfl, rfl⟩)
    go_ret2
    exact ⟨by rw [HR.out]; rfl, rfl⟩
  · have HR : Hid (mul a b = inr (a * b)) := Lib.hid (by unfold mul; rw [h]; rfl)
    have H := Lib.hid (are_yes h)
    have ha : sf a = true := by rw [Bool.and_eq_true] at h; exact h.1
    have hb : sf b = true := by rw [Bool.and_eq_true] at h; exact h.2
    by_cases h0 : a = 0
    · subst h0
      have HZ : Hid (inr (0 * b) = some 0) := Lib.hid (by rw [Int.zero_mul]; rfl)
      clear h ha hb
      go_enter Tryd.func15, Tryd.ntmps15
      go_wp2_with (go_at_call 26; refine (H.out _).mono ?_; rintro e w' ⟨rfl, rfl⟩)
      go_ret2
      exact ⟨by rw [HR.out, HZ.out]; rfl, rfl⟩
    · have HL := Lib.hid (size_le a b h0)
      have HA := Lib.hid (size_any a ha)
      have HB := Lib.hid (size_any b hb)
      have hp : (a.natAbs : Int) ≠ 0 := by omega
      have hp2 : 0 < (a.natAbs : Int) := by omega
      have hq : (9007199254740991 : Int).tdiv (a.natAbs : Int) ≤ 9007199254740991 ∧ 0 ≤ (9007199254740991 : Int).tdiv (a.natAbs : Int) := by
        have e : (9007199254740991 : Int).tdiv (a.natAbs : Int) = ((9007199254740991 / a.natAbs : Nat) : Int) := by
          rw [show (9007199254740991 : Int) = ((9007199254740991 : Nat) : Int) from rfl, ← Int.ofNat_tdiv]
        rw [e]
        exact ⟨Int.ofNat_le.2 (Nat.div_le_self 9007199254740991 a.natAbs), Int.natCast_nonneg _⟩
      have eq1 : IntKind.i64.wrap ((9007199254740991 : Int).tdiv (a.natAbs : Int)) = (9007199254740991 : Int).tdiv (a.natAbs : Int) := IntWalk.i64_in _ (by omega)
      have hbb := both h
      clear h ha hb
      generalize hx : (a.natAbs : Int) = x at *
      generalize hy : (b.natAbs : Int) = y at *
      clear hx hy
      cases hs : sf (a * b)
      · have HN := Lib.hid (inr_none hs)
        have hg : (9007199254740991 : Int).tdiv x < y := by
          rcases Int.lt_or_le ((9007199254740991 : Int).tdiv x) y with h | h
          · exact h
          · rw [HL.out.1 h] at hs
            cases hs
        clear hbb hq
        go_enter Tryd.func15, Tryd.ntmps15
        go_wp2_with (first | (go_at_call 26; refine (H.out _).mono ?_; rintro e w' ⟨rfl, rfl⟩) | (go_at_call 30; first | (refine (HB.out _).mono ?_; rintro e w' ⟨rfl, rfl⟩) | (refine (HA.out _).mono ?_; rintro e w' ⟨rfl, rfl⟩)))
        go_ret2
        exact ⟨by rw [HR.out, HN.out]; rfl, rfl⟩
      · have HN := Lib.hid (inr_some hs)
        have hg : ¬ (9007199254740991 : Int).tdiv x < y := by
          have := HL.out.2 hs
          omega
        rw [sf_iff] at hs
        have e1 : IntKind.i64.wrap (a * b) = a * b := IntWalk.i64_in _ (by omega)
        clear hbb hq hs
        go_enter Tryd.func15, Tryd.ntmps15
        go_wp2_with (first | (go_at_call 26; refine (H.out _).mono ?_; rintro e w' ⟨rfl, rfl⟩) | (go_at_call 30; first | (refine (HB.out _).mono ?_; rintro e w' ⟨rfl, rfl⟩) | (refine (HA.out _).mono ?_; rintro e w' ⟨rfl, rfl⟩)))
        go_ret2
        exact ⟨by rw [HR.out, HN.out]; rfl, rfl⟩
theorem mod_any (a b : Int) (w : World) :
    Calls Tryd.prog 19 #[.int .i64 a, .int .i64 b] w fun e w' => e = .returned (.tuple #[.int .i64 (nv (md a b)), .int .i64 (er (md a b))]) ∧ w' = w := by
  cases h : (sf a && sf b)
  · have HR : Hid (md a b = none) := Lib.hid (by unfold md; rw [h]; rfl)
    have H := Lib.hid (are_no h)
    clear h
    go_enter Tryd.func19, Tryd.ntmps19
    go_wp2_with (go_at_call 26; refine (H.out _).mono ?_; rintro e w' ⟨rfl, rfl⟩)
    go_ret2
    exact ⟨by rw [HR.out]; rfl, rfl⟩
  · have H := Lib.hid (are_yes h)
    by_cases h0 : b = 0
    · subst h0
      have HR : Hid (md a 0 = none) := Lib.hid (by unfold md; rw [h]; rfl)
      clear h
      go_enter Tryd.func19, Tryd.ntmps19
      go_wp2_with (go_at_call 26; refine (H.out _).mono ?_; rintro e w' ⟨rfl, rfl⟩)
      go_ret2
      exact ⟨by rw [HR.out]; rfl, rfl⟩
    · have HR : Hid (md a b = some (a.tmod b)) := Lib.hid (by unfold md; rw [h, decide_eq_false h0]; rfl)
      have hbb := both h
      have hm : -9007199254740991 ≤ a.tmod b ∧ a.tmod b ≤ 9007199254740991 := by
        have h1 : (a.tmod b).natAbs = a.natAbs % b.natAbs := Int.natAbs_tmod a b
        have h2 := Nat.mod_le a.natAbs b.natAbs
        omega
      have e1 : IntKind.i64.wrap (a.tmod b) = a.tmod b := IntWalk.i64_in _ (by omega)
      clear h hbb hm
      go_enter Tryd.func19, Tryd.ntmps19
      go_wp2_with (go_at_call 26; refine (H.out _).mono ?_; rintro e w' ⟨rfl, rfl⟩)
      go_ret2
      exact ⟨by rw [HR.out]; rfl, rfl⟩
theorem md_some {a b n : Int} (h : md a b = some n) : (sf a && sf b) = true ∧ b ≠ 0 ∧ n = a.tmod b := by
  unfold md at h
  split at h
  · rename_i h1
    simp only [Bool.and_eq_true, Bool.not_eq_true', decide_eq_false_iff_not, Option.some.injEq] at h1 h ⊢
    exact ⟨h1.1, h1.2, h.symm⟩
  · cases h
theorem md_none {a b : Int} (h : md a b = none) : dv a b = none := by
  unfold md at h
  split at h
  · cases h
  · rename_i h1
    unfold dv
    rw [if_neg]
    intro h2
    rw [Bool.and_eq_true] at h2
    exact h1 h2.1
theorem div_any (a b : Int) (w : World) :
    Calls Tryd.prog 17 #[.int .i64 a, .int .i64 b] w fun e w' => e = .returned (.tuple #[.int .i64 (nv (dv a b)), .int .i64 (er (dv a b))]) ∧ w' = w := by
  cases h : md a b with
  | none =>
    have HR := Lib.hid (md_none h)
    have H : Hid (∀ w, Calls Tryd.prog 19 #[.int .i64 a, .int .i64 b] w fun e w' => e = .returned (.tuple #[.int .i64 0, .int .i64 100]) ∧ w' = w) := Lib.hid fun w => by
      have := mod_any a b w
      rw [h] at this
      exact this
    clear h
    go_enter Tryd.func17, Tryd.ntmps17
    go_wp2_with (go_at_call 19; refine (H.out _).mono ?_; rintro e w' ⟨rfl, rfl⟩)
    go_ret2
    exact ⟨by rw [HR.out]; rfl, rfl⟩
  | some n =>
    obtain ⟨hs, h0, hn⟩ := md_some h
    have H : Hid (∀ w, Calls Tryd.prog 19 #[.int .i64 a, .int .i64 b] w fun e w' => e = .returned (.tuple #[.int .i64 n, .int .i64 0]) ∧ w' = w) := Lib.hid fun w => by
      have := mod_any a b w
      rw [h] at this
      exact this
    clear h
    by_cases hz : n = 0
    · have HR : Hid (dv a b = some (a.tdiv b)) := Lib.hid (by unfold dv; rw [hs, decide_eq_false h0, ← hn, hz]; rfl)
      have hbb := both hs
      have hm : -9007199254740991 ≤ a.tdiv b ∧ a.tdiv b ≤ 9007199254740991 := by
        have h1 : (a.tdiv b).natAbs = a.natAbs / b.natAbs := Int.natAbs_tdiv a b
        have h2 := Nat.div_le_self a.natAbs b.natAbs
        omega
      have e1 : IntKind.i64.wrap (a.tdiv b) = a.tdiv b := IntWalk.i64_in _ (by omega)
      clear hs hbb hm hn
      subst hz
      go_enter Tryd.func17, Tryd.ntmps17
      go_wp2_with (go_at_call 19; refine (H.out _).mono ?_; rintro e w' ⟨rfl, rfl⟩)
      go_ret2
      exact ⟨by rw [HR.out]; rfl, rfl⟩
    · have HR : Hid (dv a b = none) := Lib.hid (by unfold dv; rw [hs, ← hn, decide_eq_false hz, Bool.and_false]; rfl)
      clear hs hn
      go_enter Tryd.func17, Tryd.ntmps17
      go_wp2_with (go_at_call 19; refine (H.out _).mono ?_; rintro e w' ⟨rfl, rfl⟩)
      go_ret2
      exact ⟨by rw [HR.out]; rfl, rfl⟩
end Go.Proofs.YtjgafhodogbemaaDoor.N
