/-
  PLAIN: which values may be, what Check answers.
-/
import Derived.Test.YtnjcofjphneccaaDoorPlain
namespace Go.Proofs.YtnjcofjphneccaaDoor
open Go.RowKit

/-- the keys of a Record: strings of units, no two the same -/
def okKeys (ks : List ByteArray) : Prop := (∀ k ∈ ks, k.size % 2 = 0) ∧ ks.Nodup
instance (ks : List ByteArray) : Decidable (okKeys ks) := inferInstanceAs (Decidable (_ ∧ _))
/-- a value may be, but for those within -/
def V.own (v : V) : Bool :=
  if v.k = 0 ∨ v.k = 1 then decide (v.n = 0 ∧ v.s.size = 0 ∧ v.ks.length = 0 ∧ v.l.length = 0)
  else if v.k = 2 then decide ((v.n = 0 ∨ v.n = 1) ∧ v.s.size = 0 ∧ v.ks.length = 0 ∧ v.l.length = 0)
  else if v.k = 3 then decide ((-9007199254740991 ≤ v.n ∧ v.n ≤ 9007199254740991) ∧ v.s.size = 0 ∧ v.ks.length = 0 ∧ v.l.length = 0)
  else if v.k = 4 then decide (v.n = 0 ∧ v.s.size % 2 = 0 ∧ v.ks.length = 0 ∧ v.l.length = 0)
  else if v.k = 5 then decide (v.n = 0 ∧ v.s.size = 0 ∧ v.ks.length = 0)
  else if v.k = 6 then decide (v.n = 0 ∧ v.s.size = 0 ∧ v.ks.length = v.l.length ∧ okKeys v.ks)
  else false
mutual
def V.may : V → Bool
  | .mk k n s ks l => V.own (.mk k n s ks l) && V.mays l
def V.mays : List V → Bool
  | [] => true
  | v :: r => v.may && V.mays r
end
theorem may_eq (v : V) : v.may = (v.own && V.mays v.l) := by cases v; rfl
theorem mays_append (a b : List V) : V.mays (a ++ b) = (V.mays a && V.mays b) := by
  induction a with
  | nil => simp [V.mays]
  | cons x r ih => simp only [List.cons_append, V.mays, ih, Bool.and_assoc]
theorem mays_all (l : List V) : V.mays l = l.all V.may := by
  induction l with
  | nil => rfl
  | cons x r ih => simp only [V.mays, ih, List.all_cons]
/-- what Check answers -/
def V.chk (v : V) : Int := if v.may = true then (if 20 < v.deep then 31 else 0) else 30
end Go.Proofs.YtnjcofjphneccaaDoor
