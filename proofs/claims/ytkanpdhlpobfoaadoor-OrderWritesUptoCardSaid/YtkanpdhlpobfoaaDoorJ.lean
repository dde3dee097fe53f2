/-
  Compare, by contract.
-/
import Derived.Test.YtkanpdhlpobfoaaDoorC
namespace Go.Proofs.YtkanpdhlpobfoaaDoor
open Go.RowKit
open K (Pt)

theorem cmpB_lib : ∀ a b : Bs, Lib.compareBytes a b = K.cmpB a b
  | [], [] => rfl
  | [], _ :: _ => rfl
  | _ :: _, [] => rfl
  | a :: r, b :: s => by
    have ih := cmpB_lib r s
    unfold Lib.compareBytes
    simp only [K.cmpB, K.lexI] at *
    rw [ih]
    unfold K.cmpU K.cmpI
    simp only [UInt8.lt_iff_toNat_lt]
    by_cases h1 : a.toNat < b.toNat
    · rw [if_pos h1, if_pos (by omega : (a.toNat : Int) < b.toNat), if_neg (by decide)]
    · rw [if_neg h1, if_neg (by omega : ¬ (a.toNat : Int) < b.toNat)]
      by_cases h2 : b.toNat < a.toNat
      · rw [if_pos h2, if_pos (by omega : (b.toNat : Int) < a.toNat), if_neg (by decide)]
      · rw [if_neg h2, if_neg (by omega : ¬ (b.toNat : Int) < a.toNat), if_pos rfl]
theorem cmpInt_any (a b : Int) (w : World) : Calls Tryd.prog 45 #[.int .i64 a, .int .i64 b] w fun e w' => e = .returned (.int .i64 (K.cmpI a b)) ∧ w = w' := by
  have HN : Hid (∀ (x : Int) (w : World), Calls Tryd.prog 53 #[.int .i64 x] w fun e w' => e = .returned (.bool false) ∧ w = w') := by
    intro x w
    go_enter Tryd.func53, Tryd.ntmps53
    go_wp2
    go_ret
    exact ⟨by simp, rfl⟩
  rcases Int.lt_trichotomy a b with h | rfl | h
  · have HC : Hid (K.cmpI a b = -1) := by unfold K.cmpI; rw [if_pos h]; exact Lib.hid rfl
    go_enter Tryd.func45, Tryd.ntmps45
    go_wp2_with (go_at_call 53; refine (HN.out _ _).mono ?_; rintro e w' ⟨rfl, rfl⟩)
    go_ret
    exact ⟨by rw [HC.out]; rfl, rfl⟩
  · have HC : Hid (K.cmpI a a = 0) := K.cmpI_tot.refl a
    go_enter Tryd.func45, Tryd.ntmps45
    go_wp2_with (go_at_call 53; refine (HN.out _ _).mono ?_; rintro e w' ⟨rfl, rfl⟩)
    go_ret
    exact ⟨by rw [HC.out]; rfl, rfl⟩
  · have HC : Hid (K.cmpI a b = 1) := by unfold K.cmpI; rw [if_neg (by omega), if_pos h]; exact Lib.hid rfl
    go_enter Tryd.func45, Tryd.ntmps45
    go_wp2_with (go_at_call 53; refine (HN.out _ _).mono ?_; rintro e w' ⟨rfl, rfl⟩)
    go_ret
    exact ⟨by rw [HC.out]; rfl, rfl⟩
theorem below_two (w : World) (a b : Obj) : Below w.heap.size w ((w.alloc a).alloc b) := ((Below.refl _ _).alloc (Nat.le_refl _) _).alloc (by simp) _

set_option maxRecDepth 4000 in
set_option maxHeartbeats 1000000 in
theorem comparePart_any (p q : Pt) (w : World) : Calls Tryd.prog 35 #[pV p, pV q] w fun e w' => e = .returned (.int .i64 (K.cmpP p q)) ∧ Below w.heap.size w w' := by
  have HI := Lib.hid fun w => cmpInt_any p.n q.n w
  have HS := Lib.hid fun w => Tryd.strings_Compare p.s q.s w
  have HB := Lib.hid (cmpB_lib p.l q.l)
  have HP : Hid (K.cmpP p q = if p.t = true ∧ q.t = false then 1 else if q.t = true ∧ p.t = false then -1 else if p.t then K.cmpB p.l q.l else K.cmpI p.n q.n) := Lib.hid rfl
  have HL : Hid (Lib.compareBytes p.s.data.toList q.s.data.toList = K.cmpB p.l q.l) := Lib.hid (cmpB_lib p.l q.l)
  unfold pV
  obtain ⟨t, n, s⟩ := p
  obtain ⟨t', n', s'⟩ := q
  simp only at *
  cases t <;> cases t' <;> simp only [Bool.false_eq_true, reduceCtorEq, and_false, and_true, and_self, if_false, if_true] at HP
  · go_enter Tryd.func35, Tryd.ntmps35
    go_wp2_with fail
    refine (HI.out _).mono ?_
    rintro e w1 ⟨rfl, rfl⟩
    go_wp2_with fail
    go_ret
    exact ⟨by rw [HP.out]; rfl, below_two _ _ _⟩
  · go_enter Tryd.func35, Tryd.ntmps35
    go_wp2_with fail
    go_ret
    exact ⟨by rw [HP.out]; rfl, below_two _ _ _⟩
  · go_enter Tryd.func35, Tryd.ntmps35
    go_wp2_with fail
    go_ret
    exact ⟨by rw [HP.out]; rfl, below_two _ _ _⟩
  · go_enter Tryd.func35, Tryd.ntmps35
    go_wp2_with fail
    refine (HS.out _).mono ?_
    rintro e w1 ⟨rfl, rfl⟩
    go_wp2_with fail
    go_ret
    exact ⟨by rw [HP.out, ← HL.out]; rfl, below_two _ _ _⟩
end Go.Proofs.YtkanpdhlpobfoaaDoor
