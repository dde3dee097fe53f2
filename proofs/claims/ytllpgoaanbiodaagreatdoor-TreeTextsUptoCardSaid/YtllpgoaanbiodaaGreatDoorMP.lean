/-

-/
import Derived.Lib.Hide
namespace Go.Proofs.YtllpgoaanbiodaaGreatDoor.R
open Go.RowKit
inductive V where
 | mk (k : Int) (nm : ByteArray) (n : Int) (s : ByteArray) (ks : List ByteArray) (l : List V)
 deriving Inhabited
def V.k : V → Int | .mk k _ _ _ _ _ => k
def V.nm : V → ByteArray | .mk _ nm _ _ _ _ => nm
def V.n : V → Int | .mk _ _ n _ _ _ => n
def V.s : V → ByteArray | .mk _ _ _ s _ _ => s
def V.ks : V → List ByteArray | .mk _ _ _ _ ks _ => ks
def V.l : V → List V | .mk _ _ _ _ _ l => l
mutual
def V.size : V → Nat
 | .mk _ _ _ _ _ l => 1 + V.sizes l
def V.sizes : List V → Nat
 | [] => 0
 | v :: r => v.size + V.sizes r
end
mutual
def V.deep : V → Nat
 | .mk _ _ _ _ _ l => V.deeps l + 1
def V.deeps : List V → Nat
 | [] => 0
 | v :: r => max v.deep (V.deeps r)
end
def keysBulk : List ByteArray → Nat
 | [] => 0
 | k :: r => k.size + 1 + keysBulk r
mutual
def V.bulk : V → Nat
 | .mk _ nm _ s ks l => 1 + nm.size + s.size + keysBulk ks + V.bulks l
def V.bulks : List V → Nat
 | [] => 0
 | v :: r => v.bulk + V.bulks r
end
theorem V.ind {P : V → Prop} (h : ∀ k nm n s ks l, (∀ v ∈ l, P v) → P (.mk k nm n s ks l)) : ∀ v, P v
 | .mk k nm n s ks l => h k nm n s ks l (V.inds l)
 where
 V.inds : ∀ l : List V, ∀ v ∈ l, P v
  | [], _, hv => by cases hv
  | x :: r, v, hv => by
   cases hv with
   | head => exact V.ind h x
   | tail _ hv => exact V.inds r v hv
theorem bulks_append (a b : List V) : V.bulks (a ++ b) = V.bulks a + V.bulks b := by
 induction a with
 | nil => simp [V.bulks]
 | cons x r ih => simp only [List.cons_append, V.bulks, ih]; omega
theorem deeps_append (a b : List V) : V.deeps (a ++ b) = max (V.deeps a) (V.deeps b) := by
 induction a with
 | nil => simp [V.deeps]
 | cons x r ih => simp only [List.cons_append, V.deeps, ih]; omega
theorem bulk_pos : ∀ v : V, 1 ≤ v.bulk
 | .mk _ _ _ _ _ _ => by simp only [V.bulk]; omega
theorem length_le_bulks (l : List V) : l.length ≤ V.bulks l := by
 induction l with
 | nil => simp
 | cons x r ih => have := bulk_pos x; simp only [List.length_cons, V.bulks]; omega
theorem bulk_le_of_mem {v : V} {l : List V} (h : v ∈ l) : v.bulk ≤ V.bulks l := by
 induction l with
 | nil => cases h
 | cons x r ih =>
  simp only [V.bulks]
  cases h with
  | head => omega
  | tail _ h => have := ih h; omega
theorem length_le_keysBulk (ks : List ByteArray) : ks.length ≤ keysBulk ks := by
 induction ks with
 | nil => simp
 | cons x r ih => simp only [List.length_cons, keysBulk]; omega
theorem key_le_keysBulk {k : ByteArray} {ks : List ByteArray} (h : k ∈ ks) : k.size ≤ keysBulk ks := by
 induction ks with
 | nil => cases h
 | cons x r ih =>
  simp only [keysBulk]
  cases h with
  | head => omega
  | tail _ h => have := ih h; omega
theorem size_le_bulk : ∀ v : V, v.size ≤ v.bulk := by
 refine V.ind fun k nm n s ks l ih => ?_
 have : V.sizes l ≤ V.bulks l := by
  induction l with
  | nil => simp [V.sizes, V.bulks]
  | cons x r ih2 =>
   have h1 := ih x (by simp)
   have h2 := ih2 fun v hv => ih v (by simp [hv])
   simp only [V.sizes, V.bulks]; omega
 simp only [V.size, V.bulk]; omega
theorem size_pos : ∀ v : V, 1 ≤ v.size
 | .mk _ _ _ _ _ _ => by simp only [V.size]; omega
theorem deep_le_size : ∀ v : V, v.deep ≤ v.size := by
 refine V.ind fun k nm n s ks l ih => ?_
 have : V.deeps l ≤ V.sizes l := by
  induction l with
  | nil => simp [V.sizes, V.deeps]
  | cons x r ih2 =>
   have h1 := ih x (by simp)
   have h2 := ih2 fun v hv => ih v (by simp [hv])
   simp only [V.sizes, V.deeps]; omega
 simp only [V.size, V.deep]; omega
theorem snoc_get {α : Type} (l : List α) (k : Nat) (h : k < l.length) : l.take (k + 1) = l.take k ++ [l[k]] := List.take_succ_eq_append_getElem h
theorem bulks_take_le (l : List V) (k : Nat) : V.bulks (l.take k) ≤ V.bulks l := by
 conv => rhs; rw [← List.take_append_drop k l, bulks_append]
 omega
theorem size_mem {u : V} {l : List V} (h : u ∈ l) : u.size ≤ V.sizes l := by
 induction l with
 | nil => cases h
 | cons x r ih =>
  simp only [V.sizes]
  cases h with
  | head => omega
  | tail _ h => have := ih h; omega
theorem size_kid {u v : V} (h : u ∈ v.l) : u.size < v.size := by
 have := size_mem h
 cases v
 simp only [V.size, V.l] at *
 omega
end Go.Proofs.YtllpgoaanbiodaaGreatDoor.R
