/-
  The questions of one node, by contract: isFunction, isName, isLoop, isLoopOrSwitch; a name that is barred.
-/
import Derived.Test.YtgehgccgologpaaZa
import Derived.Test.YtgehgccgologpaaQ0
import Derived.Lib.Strings
namespace Go.Proofs.Ytgehgccgologpaa.Z
open Go.RowKit Go.Proofs.Ytgehgccgologpaa Go.Proofs.Ytgehgccgologpaa.R Go.Proofs.Ytgehgccgologpaa.T

theorem ret_b {a b : Bool} (h : a = b) : Ending.returned (.bool a) = .returned (.bool b) := by rw [h]
abbrev AnsB (w : World) (b : Bool) (e : Ending) (w' : World) : Prop := e = .returned (.bool b) ∧ Below w.heap.size w w'
def kFn (k : Int) : Bool := decide (k = 10) || decide (k = 39)
def kLp (k : Int) : Bool := decide (k = 27 ∨ k = 28 ∨ k = 29 ∨ k = 30)
theorem beqT {a b : Int} (h : a = b) : (a == b) = true := by simp [h]
theorem beqF {a b : Int} (h : ¬ a = b) : (a == b) = false := by simp [h]

set_option maxRecDepth 4000 in
theorem isFunction_x (x : X) (w : World) : Calls Try.prog 28 #[x.v] w (AnsB w (kFn x.k)) := by
  have HB := Lib.hid (below_alloc w)
  obtain ⟨k, nm, n, s, ka, kn, kc, la, ln, lc⟩ := x
  simp only [X.v]
  unfold kFn
  by_cases h1 : k = 10
  · subst h1
    go_enter Try.func28, Try.ntmps28
    go_wp2
    go_ret
    exact ⟨rfl, HB.out _⟩
  · rw [decide_eq_false h1, Bool.false_or]
    have e1 := beqF h1
    by_cases h2 : k = 39
    · subst h2
      clear h1
      go_enter Try.func28, Try.ntmps28
      go_wp2
      go_ret
      exact ⟨rfl, HB.out _⟩
    · rw [decide_eq_false h2]
      have e2 := beqF h2
      clear h1 h2
      go_enter Try.func28, Try.ntmps28
      go_wp2
      go_ret
      exact ⟨rfl, HB.out _⟩
set_option maxRecDepth 4000 in
theorem isName_x (x : X) (w : World) : Calls Try.prog 46 #[x.v] w (AnsB w (decide (x.k = 3))) := by
  have HB := Lib.hid (below_alloc w)
  obtain ⟨k, nm, n, s, ka, kn, kc, la, ln, lc⟩ := x
  simp only [X.v]
  by_cases h1 : k = 3
  · subst h1
    go_enter Try.func46, Try.ntmps46
    go_wp2
    go_ret
    exact ⟨rfl, HB.out _⟩
  · rw [decide_eq_false h1]
    have e1 := beqF h1
    clear h1
    go_enter Try.func46, Try.ntmps46
    go_wp2
    go_ret
    exact ⟨rfl, HB.out _⟩
set_option maxRecDepth 4000 in
theorem isLoop_x (x : X) (w : World) : Calls Try.prog 51 #[x.v] w (AnsB w (kLp x.k)) := by
  have HB := Lib.hid (below_alloc w)
  obtain ⟨k, nm, n, s, ka, kn, kc, la, ln, lc⟩ := x
  simp only [X.v]
  have HK : Hid (∀ h : k = 27 ∨ k = 28 ∨ k = 29 ∨ k = 30, kLp k = true) := fun h => decide_eq_true h
  have HN : Hid (∀ h : ¬ (k = 27 ∨ k = 28 ∨ k = 29 ∨ k = 30), kLp k = false) := fun h => decide_eq_false h
  generalize kLp k = b at *
  by_cases h1 : k = 27
  · have HE := Lib.hid (HK.out (.inl h1))
    subst h1
    clear HK HN
    go_enter Try.func51, Try.ntmps51
    go_wp2
    go_ret
    exact ⟨ret_b HE.out.symm, HB.out _⟩
  by_cases h2 : k = 28
  · have HE := Lib.hid (HK.out (.inr (.inl h2)))
    subst h2
    clear HK HN
    go_enter Try.func51, Try.ntmps51
    go_wp2
    go_ret
    exact ⟨ret_b HE.out.symm, HB.out _⟩
  by_cases h3 : k = 29
  · have HE := Lib.hid (HK.out (.inr (.inr (.inl h3))))
    subst h3
    clear HK HN
    go_enter Try.func51, Try.ntmps51
    go_wp2
    go_ret
    exact ⟨ret_b HE.out.symm, HB.out _⟩
  by_cases h4 : k = 30
  · have HE := Lib.hid (HK.out (.inr (.inr (.inr h4))))
    subst h4
    clear HK HN
    go_enter Try.func51, Try.ntmps51
    go_wp2
    go_ret
    exact ⟨ret_b HE.out.symm, HB.out _⟩
  · have HE := Lib.hid (HN.out (by omega))
    have e1 := beqF h1
    have e2 := beqF h2
    have e3 := beqF h3
    have e4 := beqF h4
    clear HK HN h1 h2 h3 h4
    go_enter Try.func51, Try.ntmps51
    go_wp2
    go_ret
    exact ⟨ret_b HE.out.symm, HB.out _⟩
set_option maxRecDepth 4000 in
theorem isLS_x (x : X) (w : World) : Calls Try.prog 49 #[x.v] w (AnsB w (kLp x.k || decide (x.k = 36))) := by
  have HB := Lib.hid (below_alloc w)
  have HL := Lib.hid (isLoop_x x)
  obtain ⟨k, nm, n, s, ka, kn, kc, la, ln, lc⟩ := x
  simp only [X.v] at HL ⊢
  have HR : Hid (At (w.alloc (.cells #[.int .i64 k, .string nm, .int .i64 n, .string s, .slice ka kn kc, .slice la ln lc] 25)) w.heap.size 0 ⟨k, nm, n, s, ka, kn, kc, la, ln, lc⟩) := by
    refine ⟨?_, ?_, ?_, ?_, ?_, ?_⟩ <;> simp
  cases hb : kLp k with
  | true =>
    rw [hb] at HL
    clear hb
    go_enter Try.func49, Try.ntmps49
    go_wp2_with fail
    refine (HL.out _).mono ?_
    rintro e w1 ⟨rfl, hb1⟩
    have HB1 := Lib.hid (((HB.out _).trans (hb1.mono (by simp))))
    clear hb1
    go_wp2_with fail
    go_ret
    exact ⟨rfl, HB1.out⟩
  | false =>
    rw [hb] at HL
    rw [Bool.false_or]
    clear hb
    by_cases h2 : k = 36
    · subst h2
      go_enter Try.func49, Try.ntmps49
      go_wp2_with fail
      refine (HL.out _).mono ?_
      rintro e w1 ⟨rfl, hb1⟩
      have HB1 := Lib.hid (((HB.out _).trans (hb1.mono (by simp))))
      obtain ⟨c0, -⟩ := (HR.out.below (by simp) hb1).six
      clear hb1
      go_wp2_with fail
      go_ret
      exact ⟨rfl, HB1.out⟩
    · rw [decide_eq_false h2]
      have e2 := beqF h2
      clear h2
      go_enter Try.func49, Try.ntmps49
      go_wp2_with fail
      refine (HL.out _).mono ?_
      rintro e w1 ⟨rfl, hb1⟩
      have HB1 := Lib.hid (((HB.out _).trans (hb1.mono (by simp))))
      obtain ⟨c0, -⟩ := (HR.out.below (by simp) hb1).six
      clear hb1
      go_wp2_with fail
      go_ret
      exact ⟨rfl, HB1.out⟩
theorem evalS_l : evalS.toList = [101, 118, 97, 108] := by rw [ByteArray.toList_eq]; rfl
theorem argsS_l : argsS.toList = [97, 114, 103, 117, 109, 101, 110, 116, 115] := by rw [ByteArray.toList_eq]; rfl
theorem bar_iff (s : ByteArray) : bar s = ((s.toList == [101, 118, 97, 108]) || (s.toList == [97, 114, 103, 117, 109, 101, 110, 116, 115])) := by
  rw [← evalS_l, ← argsS_l]
  unfold bar
  have h : ∀ t : ByteArray, decide (s = t) = (s.toList == t.toList) := by
    intro t
    rw [Bool.eq_iff_iff, decide_eq_true_eq, beq_iff_eq]
    refine ⟨fun e => by rw [e], fun e => ?_⟩
    rw [ByteArray.toList_eq, ByteArray.toList_eq] at e
    exact ByteArray.ext (Array.toList_inj.1 e)
  rw [h, h]
set_option maxRecDepth 4000 in
theorem isBarred_any (s : ByteArray) (w : World) : Calls Try.prog 42 #[.string s] w fun e w' => e = .returned (.bool (bar s)) ∧ w = w' := by
  have HB := Lib.hid (bar_iff s)
  generalize bar s = b at *
  cases e1 : (s.toList == [101, 118, 97, 108]) with
  | true =>
    rw [e1] at HB
    go_enter Try.func42, Try.ntmps42
    go_wp2
    go_ret
    exact ⟨ret_b HB.out.symm, rfl⟩
  | false =>
    rw [e1] at HB
    cases e2 : (s.toList == [97, 114, 103, 117, 109, 101, 110, 116, 115]) with
    | true =>
      rw [e2] at HB
      go_enter Try.func42, Try.ntmps42
      go_wp2
      go_ret
      exact ⟨ret_b HB.out.symm, rfl⟩
    | false =>
      rw [e2] at HB
      go_enter Try.func42, Try.ntmps42
      go_wp2
      go_ret
      exact ⟨ret_b HB.out.symm, rfl⟩
end Go.Proofs.Ytgehgccgologpaa.Z
