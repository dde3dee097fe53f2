/-
  live: the chapter's examples; the laws OctetsWrite, OctetsRead, OctetsOrder, by contract.
-/
import Derived.Test.YtjjjbjepgieahaaJ
namespace Go.Proofs.Ytjjjbjepgieahaa
open Go.RowKit

theorem byt_lit (w : World) (l : Bs) (arr : Array Value) (t : TypeId) (g : Nat) (hg : g = w.heap.size) (h : arr = (l.map bv).toArray) : Byt (w.alloc (.cells arr t)) (some ⟨g, 0, none⟩) l := by
  subst h
  subst hg
  refine .inr ⟨_, 0, rfl, by simp, fun j hj => ?_⟩
  rw [World.cell?_alloc_at _ _ _ _ rfl]
  simp [hj]
theorem live_num : num 300 = [172, 2] := by decide
theorem live_rd1 : rd 0 0 [128, 0] = (0, 0, 22) := by decide
theorem live_rd2 : rd 0 0 [172, 2] = (300, 2, 0) := by decide
theorem num_small {n : Nat} (h : n ≤ 140737488351232) : n < lim 9 := len_lim h
set_option maxRecDepth 4000 in
set_option maxHeartbeats 400000 in
theorem live_any (w : World) : Calls Try.prog 10 #[] w fun e w' => e = .returned (.bool true) ∧ Below w.heap.size w w' := by
  have h1 : Hid (∀ w A, Byt w A [128, 0] → Calls Try.prog 16 #[.slice A 2 2] w fun e w' => e = .returned (.tuple #[.int .u64 0, .int .i64 0, .int .i64 22]) ∧ w = w') := fun w A h => by
    have := readNum_any A [128, 0] 2 w h (by decide)
    rw [live_rd1] at this
    exact this
  have h2 : Hid (∀ w A, Byt w A [172, 2] → Calls Try.prog 16 #[.slice A 2 2] w fun e w' => e = .returned (.tuple #[.int .u64 300, .int .i64 2, .int .i64 0]) ∧ w = w') := fun w A h => by
    have := readNum_any A [172, 2] 2 w h (by decide)
    rw [live_rd2] at this
    exact this
  have h3 : Hid (∀ w, Calls Try.prog 12 #[.int .u64 300] w (GivesB w [172, 2])) := fun w => by
    have := num_any 300 w (num_small (by omega))
    rw [live_num] at this
    exact this
  have h4 : Hid (∀ w A B c d, Byt w A [172, 2] → Byt w B [172, 2] → Calls Try.prog 11 #[.slice A 2 c, .slice B 2 d] w fun e w' => e = .returned (.bool true) ∧ w = w') := fun w A B c d hA hB => same_any A B [172, 2] c d w hA hB
  go_enter Try.func10, Try.ntmps10
  go_wp2_with fail
  refine (h1.out _ _ ?b1).mono ?_
  case b1 => exact byt_lit _ _ _ _ _ (by simp) (by rfl)
  rintro e w' ⟨rfl, rfl⟩
  go_wp2_with fail
  refine (h2.out _ _ ?b2).mono ?_
  case b2 => exact byt_lit _ _ _ _ _ (by simp) (by rfl)
  rintro e w' ⟨rfl, rfl⟩
  go_wp2_with fail
  refine (h3.out _).mono ?_
  rintro e w1 ⟨v, rfl, hown, hb⟩
  obtain ⟨hk, A, c, rfl, _, hY⟩ := Byt.of_own hown
  have hb1 : Below w.heap.size w w1 := (((Below.refl _ _).alloc (Nat.le_refl _) _).alloc (by simp) _).trans (hb.mono (by simp; omega))
  have hY2 := fun o => hY.below ((Below.refl w1.heap.size w1).alloc (Nat.le_refl _) o)
  have HY := Lib.hid hY2
  clear hown hb hk hY hY2
  go_wp2_with fail
  refine (h4.out _ _ _ _ _ ?b3 ?b4).mono ?_
  case b3 => exact HY.out _
  case b4 => exact byt_lit _ _ _ _ _ (by simp) (by rfl)
  rintro e w' ⟨rfl, rfl⟩
  go_wp2
  go_ret
  exact ⟨rfl, hb1.alloc hb1.size _⟩
end Go.Proofs.Ytjjjbjepgieahaa
