/-
  Laid by wip/scope/lay.py out of wip/tree: Sa Sc.
  Same: strings' rows, alike, EqualFunc.
  PLAIN and MEMORY: when two trees are the same; the stack of pairs of rows.
-/
import Derived.Test.YtgehgccgologpaaQ0
import Derived.Test.YtgehgccgologpaaS
import Derived.Test.YtgehgccgologpaaWn
import Derived.Deep.Draws
import Derived.Maps.AppendAt
namespace Go.Proofs.Ytgehgccgologpaa.R
open Go.RowKit Go.Proofs.Ytgehgccgologpaa Go.Proofs.Ytgehgccgologpaa.T
theorem str_ne {a b : ByteArray} (h : ¬ a = b) : (a.toList == b.toList) = false := by
  rw [beq_eq_false_iff_ne]
  intro e
  rw [ByteArray.toList_eq, ByteArray.toList_eq] at e
  exact h (ByteArray.ext (Array.toList_inj.1 e))
/-- two nodes are alike, whatever their children are -/
def alk (u v : V) : Bool := decide (u.k = v.k ∧ u.nm = v.nm ∧ u.n = v.n ∧ u.s = v.s ∧ u.ks = v.ks)
theorem two_below (w : World) (a b : Obj) : Below w.heap.size w ((w.alloc a).alloc b) := (below_alloc w _).alloc (by simp) _
end Go.Proofs.Ytgehgccgologpaa.R
namespace Go.Proofs.Ytgehgccgologpaa.R
open Go.RowKit Go.Proofs.Ytgehgccgologpaa Go.Proofs.Ytgehgccgologpaa.T
mutual
def V.same : V → V → Bool
  | .mk k nm n s ks l, .mk k' nm' n' s' ks' l' => decide (k = k' ∧ nm = nm' ∧ n = n' ∧ s = s' ∧ ks = ks') && V.sames l l'
def V.sames : List V → List V → Bool
  | [], [] => true
  | a :: l, b :: m => V.same a b && V.sames l m
  | _, _ => false
end
theorem same_eq (a b : V) : V.same a b = (alk a b && V.sames a.l b.l) := by cases a; cases b; rfl
mutual
theorem same_iff : ∀ a b : V, V.same a b = true ↔ a = b
  | .mk k nm n s ks l, .mk k' nm' n' s' ks' l' => by
    rw [V.same, Bool.and_eq_true, decide_eq_true_eq, sames_iff l l', V.mk.injEq]
    simp only [and_assoc]
theorem sames_iff : ∀ l m : List V, V.sames l m = true ↔ l = m
  | [], [] => by simp [V.sames]
  | a :: l, b :: m => by rw [V.sames, Bool.and_eq_true, same_iff a b, sames_iff l m, List.cons.injEq]
  | [], _ :: _ => by simp [V.sames]
  | _ :: _, [] => by simp [V.sames]
end
end Go.Proofs.Ytgehgccgologpaa.R
