/-
  THE REFERENCE'S ARITHMETIC, by contract.
-/
import Derived.Test.YtjgafhodogbemaaDoorB
namespace Go.Proofs.YtjgafhodogbemaaDoor.N
open Go.RowKit Go.Proofs.YtjgafhodogbemaaDoor

theorem safe_any (n : Int) (w : World) :
    Calls Tryd.prog 28 #[.int .i64 n] w fun e w' => e = .returned (.bool (sf n)) ∧ w' = w := by
  cases h : sf n
  · rw [sf_no] at h
    rcases h with h | h
    · go_enter Tryd.func28, Tryd.ntmps28
      go_wp2
      go_ret
      exact ⟨rfl, rfl⟩
    · have h2 : -9007199254740991 ≤ n := by omega
      go_enter Tryd.func28, Tryd.ntmps28
      go_wp2
      go_ret
      exact ⟨ret_bool (decide_eq_false (by omega)), rfl⟩
  · rw [sf_iff] at h
    obtain ⟨h1, h2⟩ := h
    go_enter Tryd.func28, Tryd.ntmps28
    go_wp2
    go_ret
    exact ⟨rfl, rfl⟩
theorem safe_yes {n : Int} (h : sf n = true) (w : World) :
    Calls Tryd.prog 28 #[.int .i64 n] w fun e w' => e = .returned (.bool true) ∧ w' = w := h ▸ safe_any n w
theorem safe_no {n : Int} (h : sf n = false) (w : World) :
    Calls Tryd.prog 28 #[.int .i64 n] w fun e w' => e = .returned (.bool false) ∧ w' = w := h ▸ safe_any n w
theorem refCheck_n (n : Int) (w : World) :
    Calls Tryd.prog 12 #[.int .i64 n] w fun e w' => e = .returned (.int .i64 (er (inr n))) ∧ w' = w := by
  cases h : sf n
  · have HR : Hid (er (inr n) = 100) := Lib.hid (by rw [inr_none h]; rfl)
    have H := Lib.hid (safe_no h)
    clear h
    go_enter Tryd.func12, Tryd.ntmps12
    go_wp2_with (go_at_call 28; refine (H.out _).mono ?_; rintro e w' ⟨rfl, rfl⟩)
    go_ret
    exact ⟨by rw [HR.out]; rfl, rfl⟩
  · have HR : Hid (er (inr n) = 0) := Lib.hid (by rw [inr_some h]; rfl)
    have H := Lib.hid (safe_yes h)
    clear h
    go_enter Tryd.func12, Tryd.ntmps12
    go_wp2_with (go_at_call 28; refine (H.out _).mono ?_; rintro e w' ⟨rfl, rfl⟩)
    go_ret
    exact ⟨by rw [HR.out]; rfl, rfl⟩
theorem info64 : (Tryd.prog.info? 2).map (fun i => (i.zero, i.size, i.bytes)) = some (some (.int .i64 0), 1, 8) := by kernel_rfl
theorem one_of_own {w : World} {B : Nat} {e : TypeId} {v x : Value} (h : w.ownsRow B e 1 v 1 [x]) : ∃ g c, v = .slice (some ⟨g, 0, none⟩) 1 c ∧ w.cell? ⟨g, 0, none⟩ = some x := by
  rcases h.2 with ⟨rfl, h0⟩ | ⟨g, cap, cur, rfl, hb, hg, _⟩
  · cases h0
  · refine ⟨_, _, rfl, ?_⟩
    have hc := h.cells (g := g) rfl 0 x (by simp)
    have hadd : (⟨g, 0, none⟩ : Addr).add 0 = ⟨g, 0, none⟩ := by unfold Addr.add; split <;> simp_all
    rw [hadd] at hc
    exact hc
theorem told_any (n : Int) (w : World) :
    Calls Tryd.prog 29 #[.int .i64 n, .slice none 0 0] w fun e w' => e = .returned (.tuple #[.int .i64 (nv (inr n)), .int .i64 (er (inr n))]) ∧ Below w.heap.size w w' := by
  obtain ⟨i0, hi, hz0, hz1, hz2⟩ := info_parts info64
  go_enter Tryd.func29, Tryd.ntmps29
  go_wp2_with (at_builtin; refine app_lit _ rfl _ _ 53 (by rfl) w.heap.size 2 i0 _ 8 Tryd.underlying53 hi hz0 hz1 hz2 rfl _ 0 [] (by rfl) (World.ownsRow_nil _ _ _ _) _ 1 (by rfl) rfl ?c1 ?c2 ?c3 (Nat.le_refl _) ?_)
  case c1 => rfl
  case c2 => unfold maxLen; omega
  case c3 => omega
  intro v1 w1 hown hb
  obtain ⟨g, c, rfl, hcell⟩ := one_of_own hown
  clear hown
  go_wp2
  go_loopw [13] (fun i wr => ∃ k : Nat, k ≤ 1 ∧ i = .int .i64 k ∧ Hid (k = 1 → sf n = true) ∧ wr = w1)
    (fun i _ => 1 - (intOf i).toNat)
  case atStart => exact ⟨0, by omega, rfl, Lib.hid (by omega), rfl⟩
  case round =>
    obtain ⟨k, hk, rfl, hs, rfl⟩ := hrel
    by_cases hlt : k < 1
    · obtain rfl : k = 0 := by omega
      cases h : sf n
      · have HR := Lib.hid (inr_none h)
        have H := Lib.hid (safe_no h)
        clear h hs
        go_wp2_with (go_at_call 28; refine (H.out _).mono ?_; rintro e w' ⟨rfl, rfl⟩)
        go_ret2
        exact ⟨by rw [HR.out]; rfl, hb⟩
      · have H := Lib.hid (safe_yes h)
        have HS := Lib.hid h
        clear h hs
        go_wp2_with (go_at_call 28; refine (H.out _).mono ?_; rintro e w' ⟨rfl, rfl⟩)
        go_roundw
        case rel => exact ⟨1, by omega, by go_num, Lib.hid (by first | trivial | exact fun _ => HS.out), by first | rfl | trivial⟩
        case measure => simp [intOf]
    · obtain rfl : k = 1 := by omega
      have HR := Lib.hid (inr_some (hs.out rfl))
      clear hs
      go_wp2
      go_ret2
      exact ⟨by rw [HR.out]; rfl, hb⟩
theorem refAdd_any (a b : Int) (w : World) :
    Calls Tryd.prog 9 #[.int .i64 a, .int .i64 b] w fun e w' => e = .returned (.tuple #[.int .i64 (nv (add a b)), .int .i64 (er (add a b))]) ∧ Below w.heap.size w w' := by
  cases h1 : sf a
  · have HR : Hid (add a b = none) := Lib.hid (by unfold add; rw [h1]; rfl)
    have H := Lib.hid (safe_no h1)
    clear h1
    go_enter Tryd.func9, Tryd.ntmps9
    go_wp2_with (go_at_call 28; refine (H.out _).mono ?_; rintro e w' ⟨rfl, rfl⟩)
    go_ret2
    exact ⟨by rw [HR.out]; rfl, Below.refl _ _⟩
  · cases h2 : sf b
    · have HR : Hid (add a b = none) := Lib.hid (by unfold add; rw [h1, h2]; rfl)
      go_enter Tryd.func9, Tryd.ntmps9
      go_wp2_with (go_at_call 28; refine (safe_any _ _).mono ?_; rintro e w' ⟨rfl, rfl⟩)
      go_ret2
      exact ⟨by rw [HR.out]; rfl, Below.refl _ _⟩
    · have HR : Hid (add a b = inr (a + b)) := Lib.hid (by unfold add; rw [h1, h2]; rfl)
      have hb : (-9007199254740991 ≤ a ∧ a ≤ 9007199254740991) ∧ -9007199254740991 ≤ b ∧ b ≤ 9007199254740991 := ⟨(sf_iff a).1 h1, (sf_iff b).1 h2⟩
      have e1 : IntKind.i64.wrap (a + b) = a + b := IntWalk.i64_in _ (by omega)
      clear hb
      go_enter Tryd.func9, Tryd.ntmps9
      go_wp2_with (first | (go_at_call 28; refine (safe_any _ _).mono ?_; rintro e w' ⟨rfl, rfl⟩) | (go_at_call 29; refine (told_any _ _).mono ?_; rintro e w' ⟨rfl, hb1⟩))
      go_ret2
      exact ⟨by rw [HR.out]; rfl, hb1⟩
theorem refSub_any (a b : Int) (w : World) :
    Calls Tryd.prog 14 #[.int .i64 a, .int .i64 b] w fun e w' => e = .returned (.tuple #[.int .i64 (nv (sub a b)), .int .i64 (er (sub a b))]) ∧ Below w.heap.size w w' := by
  cases h1 : sf a
  · have HR : Hid (sub a b = none) := Lib.hid (by unfold sub; rw [h1]; rfl)
    have H := Lib.hid (safe_no h1)
    clear h1
    go_enter Tryd.func14, Tryd.ntmps14
    go_wp2_with (go_at_call 28; refine (H.out _).mono ?_; rintro e w' ⟨rfl, rfl⟩)
    go_ret2
    exact ⟨by rw [HR.out]; rfl, Below.refl _ _⟩
  · cases h2 : sf b
    · have HR : Hid (sub a b = none) := Lib.hid (by unfold sub; rw [h1, h2]; rfl)
      go_enter Tryd.func14, Tryd.ntmps14
      go_wp2_with (go_at_call 28; refine (safe_any _ _).mono ?_; rintro e w' ⟨rfl, rfl⟩)
      go_ret2
      exact ⟨by rw [HR.out]; rfl, Below.refl _ _⟩
    · have HR : Hid (sub a b = inr (a - b)) := Lib.hid (by unfold sub; rw [h1, h2]; rfl)
      have hb : (-9007199254740991 ≤ a ∧ a ≤ 9007199254740991) ∧ -9007199254740991 ≤ b ∧ b ≤ 9007199254740991 := ⟨(sf_iff a).1 h1, (sf_iff b).1 h2⟩
      have e1 : IntKind.i64.wrap (a - b) = a - b := IntWalk.i64_in _ (by omega)
      clear hb
      go_enter Tryd.func14, Tryd.ntmps14
      go_wp2_with (first | (go_at_call 28; refine (safe_any _ _).mono ?_; rintro e w' ⟨rfl, rfl⟩) | (go_at_call 29; refine (told_any _ _).mono ?_; rintro e w' ⟨rfl, hb1⟩))
      go_ret2
      exact ⟨by rw [HR.out]; rfl, hb1⟩
theorem refSize_n (n : Int) (h : sf n = true) (w : World) :
    Calls Tryd.prog 31 #[.int .i64 n] w fun e w' => e = .returned (.int .i64 (n.natAbs : Int)) ∧ w' = w := by
  rw [sf_iff] at h
  obtain ⟨h1, h2⟩ := h
  have e1 : IntKind.i64.wrap (-n) = -n := IntWalk.i64_in _ (by omega)
  by_cases h0 : n < 0
  · go_enter Tryd.func31, Tryd.ntmps31
    go_wp2
    all_goals go_ret
    exact ⟨ret_int (by omega), rfl⟩
  · go_enter Tryd.func31, Tryd.ntmps31
    go_wp2
    all_goals go_ret
    exact ⟨ret_int (by omega), rfl⟩
set_option maxHeartbeats 1000000 in
theorem refMul_in (a b : Int) (ha : sf a = true) (hb : sf b = true) (w : World) :
    Calls Tryd.prog 16 #[.int .i64 a, .int .i64 b] w fun e w' => e = .returned (.tuple #[.int .i64 (nv (mul a b)), .int .i64 (er (mul a b))]) ∧ w' = w := by
  have h : (sf a && sf b) = true := by rw [ha, hb]; rfl
  have HR : Hid (mul a b = inr (a * b)) := Lib.hid (by unfold mul; rw [h]; rfl)
  by_cases h0 : a = 0
  · subst h0
    have HZ : Hid (inr (0 * b) = some 0) := Lib.hid (by rw [Int.zero_mul]; rfl)
    clear h
    go_enter Tryd.func16, Tryd.ntmps16
    go_wp2_with (go_at_call 28; refine (safe_any _ _).mono ?_; rintro e w' ⟨rfl, rfl⟩)
    go_ret2
    exact ⟨by rw [HR.out, HZ.out]; rfl, rfl⟩
  · have HL := Lib.hid (size_le a b h0)
    have HA := Lib.hid (refSize_n a ha)
    have HB := Lib.hid (refSize_n b hb)
    have hp : (a.natAbs : Int) ≠ 0 := by omega
    have hp2 : 0 < (a.natAbs : Int) := by omega
    have hq : (9007199254740991 : Int).tdiv (a.natAbs : Int) ≤ 9007199254740991 ∧ 0 ≤ (9007199254740991 : Int).tdiv (a.natAbs : Int) := by
      have e : (9007199254740991 : Int).tdiv (a.natAbs : Int) = ((9007199254740991 / a.natAbs : Nat) : Int) := by
        rw [show (9007199254740991 : Int) = ((9007199254740991 : Nat) : Int) from rfl, ← Int.ofNat_tdiv]
      rw [e]
      exact ⟨Int.ofNat_le.2 (Nat.div_le_self 9007199254740991 a.natAbs), Int.natCast_nonneg _⟩
    have eq1 : IntKind.i64.wrap ((9007199254740991 : Int).tdiv (a.natAbs : Int)) = (9007199254740991 : Int).tdiv (a.natAbs : Int) := IntWalk.i64_in _ (by omega)
    have hbb := (⟨(sf_iff a).1 ha, (sf_iff b).1 hb⟩ : (-9007199254740991 ≤ a ∧ a ≤ 9007199254740991) ∧ -9007199254740991 ≤ b ∧ b ≤ 9007199254740991)
    clear h
    generalize hx : (a.natAbs : Int) = x at *
    generalize hy : (b.natAbs : Int) = y at *
    clear hx hy
    cases hs : sf (a * b)
    · have HN := Lib.hid (inr_none hs)
      have hg : (9007199254740991 : Int).tdiv x < y := by
        rcases Int.lt_or_le ((9007199254740991 : Int).tdiv x) y with h | h
        · exact h
        · rw [HL.out.1 h] at hs
          cases hs
      clear hbb hq
      go_enter Tryd.func16, Tryd.ntmps16
      go_wp2_with (first | (go_at_call 28; refine (safe_any _ _).mono ?_; rintro e w' ⟨rfl, rfl⟩) | (go_at_call 31; first | (refine (HB.out _).mono ?_; rintro e w' ⟨rfl, rfl⟩) | (refine (HA.out _).mono ?_; rintro e w' ⟨rfl, rfl⟩)))
      go_ret2
      exact ⟨by rw [HR.out, HN.out]; rfl, rfl⟩
    · have HN := Lib.hid (inr_some hs)
      have hg : ¬ (9007199254740991 : Int).tdiv x < y := by
        have := HL.out.2 hs
        omega
      rw [sf_iff] at hs
      have e1 : IntKind.i64.wrap (a * b) = a * b := IntWalk.i64_in _ (by omega)
      clear hbb hq hs
      go_enter Tryd.func16, Tryd.ntmps16
      go_wp2_with (first | (go_at_call 28; refine (safe_any _ _).mono ?_; rintro e w' ⟨rfl, rfl⟩) | (go_at_call 31; first | (refine (HB.out _).mono ?_; rintro e w' ⟨rfl, rfl⟩) | (refine (HA.out _).mono ?_; rintro e w' ⟨rfl, rfl⟩)))
      go_ret2
      exact ⟨by rw [HR.out, HN.out]; rfl, rfl⟩
theorem refMul_any (a b : Int) (w : World) :
    Calls Tryd.prog 16 #[.int .i64 a, .int .i64 b] w fun e w' => e = .returned (.tuple #[.int .i64 (nv (mul a b)), .int .i64 (er (mul a b))]) ∧ w' = w := by
  cases h1 : sf a
  · have HR : Hid (mul a b = none) := Lib.hid (by unfold mul; rw [h1]; rfl)
    have H := Lib.hid (safe_no h1)
    clear h1
    go_enter Tryd.func16, Tryd.ntmps16
    go_wp2_with (go_at_call 28; refine (H.out _).mono ?_; rintro e w' ⟨rfl, rfl⟩)
    go_ret2
    exact ⟨by rw [HR.out]; rfl, rfl⟩
  · cases h2 : sf b
    · have HR : Hid (mul a b = none) := Lib.hid (by unfold mul; rw [h1, h2]; rfl)
      go_enter Tryd.func16, Tryd.ntmps16
      go_wp2_with (go_at_call 28; refine (safe_any _ _).mono ?_; rintro e w' ⟨rfl, rfl⟩)
      go_ret2
      exact ⟨by rw [HR.out]; rfl, rfl⟩
    · exact refMul_in a b h1 h2 w
theorem refMod_any (a b : Int) (w : World) :
    Calls Tryd.prog 20 #[.int .i64 a, .int .i64 b] w fun e w' => e = .returned (.tuple #[.int .i64 (nv (md a b)), .int .i64 (er (md a b))]) ∧ w' = w := by
  cases h1 : sf a
  · have HR : Hid (md a b = none) := Lib.hid (by unfold md; rw [h1]; rfl)
    have H := Lib.hid (safe_no h1)
    clear h1
    go_enter Tryd.func20, Tryd.ntmps20
    go_wp2_with (go_at_call 28; refine (H.out _).mono ?_; rintro e w' ⟨rfl, rfl⟩)
    go_ret2
    exact ⟨by rw [HR.out]; rfl, rfl⟩
  · cases h2 : sf b
    · have HR : Hid (md a b = none) := Lib.hid (by unfold md; rw [h1, h2]; rfl)
      go_enter Tryd.func20, Tryd.ntmps20
      go_wp2_with (go_at_call 28; refine (safe_any _ _).mono ?_; rintro e w' ⟨rfl, rfl⟩)
      go_ret2
      exact ⟨by rw [HR.out]; rfl, rfl⟩
    · by_cases h0 : b = 0
      · subst h0
        have HR : Hid (md a 0 = none) := Lib.hid (by unfold md; rw [h1, h2]; rfl)
        go_enter Tryd.func20, Tryd.ntmps20
        go_wp2_with (go_at_call 28; refine (safe_any _ _).mono ?_; rintro e w' ⟨rfl, rfl⟩)
        go_ret2
        exact ⟨by rw [HR.out]; rfl, rfl⟩
      · have HR : Hid (md a b = some (a.tmod b)) := Lib.hid (by unfold md; rw [h1, h2, decide_eq_false h0]; rfl)
        have hbb : (-9007199254740991 ≤ a ∧ a ≤ 9007199254740991) ∧ -9007199254740991 ≤ b ∧ b ≤ 9007199254740991 := ⟨(sf_iff a).1 h1, (sf_iff b).1 h2⟩
        have hm : -9007199254740991 ≤ a.tmod b ∧ a.tmod b ≤ 9007199254740991 := by
          have h1 : (a.tmod b).natAbs = a.natAbs % b.natAbs := Int.natAbs_tmod a b
          have h2 := Nat.mod_le a.natAbs b.natAbs
          omega
        have e1 : IntKind.i64.wrap (a.tmod b) = a.tmod b := IntWalk.i64_in _ (by omega)
        clear hbb hm
        go_enter Tryd.func20, Tryd.ntmps20
        go_wp2_with (go_at_call 28; refine (safe_any _ _).mono ?_; rintro e w' ⟨rfl, rfl⟩)
        go_ret2
        exact ⟨by rw [HR.out]; rfl, rfl⟩
theorem refDiv_any (a b : Int) (w : World) :
    Calls Tryd.prog 18 #[.int .i64 a, .int .i64 b] w fun e w' => e = .returned (.tuple #[.int .i64 (nv (dv a b)), .int .i64 (er (dv a b))]) ∧ w' = w := by
  cases h : md a b with
  | none =>
    have HR := Lib.hid (md_none h)
    have H : Hid (∀ w, Calls Tryd.prog 20 #[.int .i64 a, .int .i64 b] w fun e w' => e = .returned (.tuple #[.int .i64 0, .int .i64 100]) ∧ w' = w) := Lib.hid fun w => by
      have := refMod_any a b w
      rw [h] at this
      exact this
    clear h
    go_enter Tryd.func18, Tryd.ntmps18
    go_wp2_with (go_at_call 20; refine (H.out _).mono ?_; rintro e w' ⟨rfl, rfl⟩)
    go_ret2
    exact ⟨by rw [HR.out]; rfl, rfl⟩
  | some n =>
    obtain ⟨hs, h0, hn⟩ := md_some h
    have H : Hid (∀ w, Calls Tryd.prog 20 #[.int .i64 a, .int .i64 b] w fun e w' => e = .returned (.tuple #[.int .i64 n, .int .i64 0]) ∧ w' = w) := Lib.hid fun w => by
      have := refMod_any a b w
      rw [h] at this
      exact this
    clear h
    by_cases hz : n = 0
    · have HR : Hid (dv a b = some (a.tdiv b)) := Lib.hid (by unfold dv; rw [hs, decide_eq_false h0, ← hn, hz]; rfl)
      have hbb := both hs
      have hm : -9007199254740991 ≤ a.tdiv b ∧ a.tdiv b ≤ 9007199254740991 := by
        have h1 : (a.tdiv b).natAbs = a.natAbs / b.natAbs := Int.natAbs_tdiv a b
        have h2 := Nat.div_le_self a.natAbs b.natAbs
        omega
      have e1 : IntKind.i64.wrap (a.tdiv b) = a.tdiv b := IntWalk.i64_in _ (by omega)
      clear hs hbb hm hn
      subst hz
      go_enter Tryd.func18, Tryd.ntmps18
      go_wp2_with (go_at_call 20; refine (H.out _).mono ?_; rintro e w' ⟨rfl, rfl⟩)
      go_ret2
      exact ⟨by rw [HR.out]; rfl, rfl⟩
    · have HR : Hid (dv a b = none) := Lib.hid (by unfold dv; rw [hs, ← hn, decide_eq_false hz, Bool.and_false]; rfl)
      clear hs hn
      go_enter Tryd.func18, Tryd.ntmps18
      go_wp2_with (go_at_call 20; refine (H.out _).mono ?_; rintro e w' ⟨rfl, rfl⟩)
      go_ret2
      exact ⟨by rw [HR.out]; rfl, rfl⟩
end Go.Proofs.YtjgafhodogbemaaDoor.N
