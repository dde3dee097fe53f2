/-

-/
import Derived.Test.YtllpgoaanbiodaaGreatDoorProg
import Derived.Test.YtllpgoaanbiodaaGreatDoorMP
import Derived.Test.YtllpgoaanbiodaaGreatDoorMS
import Derived.WalkKit
import Derived.Below
import Derived.Lib.Hide
import Derived.Deep.Draws
namespace Go.Proofs.YtllpgoaanbiodaaGreatDoor.R
open Go.RowKit Go.Proofs.YtllpgoaanbiodaaGreatDoor Go.Proofs.YtllpgoaanbiodaaGreatDoor.T
structure X where
 k : Int
 nm : ByteArray
 n : Int
 s : ByteArray
 ka : Option Addr
 kn : Nat
 kc : Nat
 la : Option Addr
 ln : Nat
 lc : Nat
def X.v (x : X) : Value := .agg #[.int .i64 x.k, .string x.nm, .int .i64 x.n, .string x.s, .slice x.ka x.kn x.kc, .slice x.la x.ln x.lc]
def X.cells (x : X) : Array Value := #[.int .i64 x.k, .string x.nm, .int .i64 x.n, .string x.s, .slice x.ka x.kn x.kc, .slice x.la x.ln x.lc]
structure At (w : World) (g o : Nat) (x : X) : Prop where
 c0 : w.cell? ⟨g, o, none⟩ = some (.int .i64 x.k)
 c1 : w.cell? ⟨g, o + 1, none⟩ = some (.string x.nm)
 c2 : w.cell? ⟨g, o + 2, none⟩ = some (.int .i64 x.n)
 c3 : w.cell? ⟨g, o + 3, none⟩ = some (.string x.s)
 c4 : w.cell? ⟨g, o + 4, none⟩ = some (.slice x.ka x.kn x.kc)
 c5 : w.cell? ⟨g, o + 5, none⟩ = some (.slice x.la x.ln x.lc)
def StrsB (w : World) (B : Nat) (A : Option Addr) (ks : List ByteArray) : Prop :=
 ks = [] ∨ ∃ g o, A = some ⟨g, o, none⟩ ∧ g < B ∧ ∀ j (h : j < ks.length), w.cell? ⟨g, o + j, none⟩ = some (.string ks[j])
mutual
def IsB (w : World) (B : Nat) : V → X → Prop
 | .mk k nm n s ks l, x => (x.k = k ∧ x.nm = nm ∧ x.n = n ∧ x.s = s) ∧ (x.kn = ks.length ∧ x.kn ≤ x.kc ∧ StrsB w B x.ka ks) ∧ x.ln = l.length ∧ x.ln ≤ x.lc ∧ (l = [] ∨ ∃ g o, x.la = some ⟨g, o, none⟩ ∧ g < B ∧ IsAllB w B g o l)
def IsAllB (w : World) (B : Nat) : Nat → Nat → List V → Prop
 | _, _, [] => True
 | g, o, v :: r => (∃ y, At w g o y ∧ IsB w B v y) ∧ IsAllB w B g (o + 6) r
end
def RowB (w : World) (B : Nat) (A : Option Addr) (l : List V) : Prop := l = [] ∨ ∃ g o, A = some ⟨g, o, none⟩ ∧ g < B ∧ IsAllB w B g o l
theorem isAll_iff (w : World) (B g : Nat) : ∀ (o : Nat) (l : List V), IsAllB w B g o l ↔ ∀ i (h : i < l.length), ∃ y, At w g (o + i * 6) y ∧ IsB w B l[i] y
 | o, [] => by simp [IsAllB]
 | o, v :: r => by
  rw [IsAllB, isAll_iff w B g (o + 6) r]
  constructor
  ·rintro ⟨h0, h⟩ i hi
   cases i with
   | zero => exact h0
   | succ i =>
    obtain ⟨y, h1, h2⟩ := h i (by simpa using hi)
    exact ⟨y, by rw [show o + (i + 1) * 6 = o + 6 + i * 6 by omega]; exact h1, h2⟩
  ·intro h
   refine ⟨h 0 (by simp), fun i hi => ?_⟩
   obtain ⟨y, h1, h2⟩ := h (i + 1) (by simpa using hi)
   exact ⟨y, by rw [show o + 6 + i * 6 = o + (i + 1) * 6 by omega]; exact h1, h2⟩
theorem isB_iff (w : World) (B : Nat) (v : V) (x : X) : IsB w B v x ↔ (x.k = v.k ∧ x.nm = v.nm ∧ x.n = v.n ∧ x.s = v.s) ∧ (x.kn = v.ks.length ∧ x.kn ≤ x.kc ∧ StrsB w B x.ka v.ks) ∧ x.ln = v.l.length ∧ x.ln ≤ x.lc ∧ RowB w B x.la v.l := by
 cases v
 rw [IsB]
 rfl
theorem RowB.at_ {w : World} {B : Nat} {A : Option Addr} {l : List V} (h : RowB w B A l) {i : Nat} (hi : i < l.length) : ∃ g o, A = some ⟨g, o, none⟩ ∧ g < B ∧ ∃ y, At w g (o + i * 6) y ∧ IsB w B l[i] y := by
 rcases h with h | ⟨g, o, rfl, h1, h2⟩
 ·subst h; simp at hi
 ·exact ⟨g, o, rfl, h1, (isAll_iff w B g o l).1 h2 i hi⟩
theorem StrsB.at_ {w : World} {B : Nat} {A : Option Addr} {l : List ByteArray} (h : StrsB w B A l) {i : Nat} (hi : i < l.length) : ∃ g o, A = some ⟨g, o, none⟩ ∧ g < B ∧ w.cell? ⟨g, o + i, none⟩ = some (.string l[i]) := by
 rcases h with h | ⟨g, o, rfl, h1, h2⟩
 ·subst h; simp at hi
 ·exact ⟨g, o, rfl, h1, h2 i hi⟩
theorem At.below {w w' : World} {g o : Nat} {x : X} {B : Nat} (h : At w g o x) (hg : g < B) (hb : Below B w w') : At w' g o x :=
 ⟨(hb.cell (p := ⟨g, o, none⟩) hg).trans h.c0, (hb.cell (p := ⟨g, o + 1, none⟩) hg).trans h.c1, (hb.cell (p := ⟨g, o + 2, none⟩) hg).trans h.c2, (hb.cell (p := ⟨g, o + 3, none⟩) hg).trans h.c3, (hb.cell (p := ⟨g, o + 4, none⟩) hg).trans h.c4, (hb.cell (p := ⟨g, o + 5, none⟩) hg).trans h.c5⟩
theorem StrsB.to {w w' : World} {B B' : Nat} {A : Option Addr} {l : List ByteArray} (h : StrsB w B A l) (hb : Below B w w') (hB : B ≤ B') : StrsB w' B' A l := by
 rcases h with h | ⟨g, o, rfl, h2, h3⟩
 ·exact .inl h
 ·exact .inr ⟨g, o, rfl, Nat.lt_of_lt_of_le h2 hB, fun j hj => (hb.cell (p := ⟨g, o + j, none⟩) h2).trans (h3 j hj)⟩
theorem RowB.to_of {w w' : World} {B B' : Nat} (hb : Below B w w') (hB : B ≤ B') {A : Option Addr} {l : List V} (ih : ∀ v ∈ l, ∀ x, IsB w B v x → IsB w' B' v x) (h : RowB w B A l) : RowB w' B' A l := by
 rcases h with h | ⟨g, o, rfl, h1, h2⟩
 ·exact .inl h
 ·refine .inr ⟨g, o, rfl, Nat.lt_of_lt_of_le h1 hB, (isAll_iff w' B' g o l).2 fun i hi => ?_⟩
  obtain ⟨y, h3, h4⟩ := (isAll_iff w B g o l).1 h2 i hi
  exact ⟨y, h3.below h1 hb, ih _ (List.getElem_mem hi) y h4⟩
theorem IsB.to {w w' : World} {B B' : Nat} (hb : Below B w w') (hB : B ≤ B') : ∀ (v : V) (x : X), IsB w B v x → IsB w' B' v x := by
 refine V.ind fun k nm n s ks l ih => ?_
 intro x h
 rw [isB_iff] at h ⊢
 obtain ⟨h1, ⟨h2, h3, h4⟩, h5, h6, h7⟩ := h
 exact ⟨h1, ⟨h2, h3, h4.to hb hB⟩, h5, h6, h7.to_of hb hB ih⟩
theorem RowB.to {w w' : World} {B B' : Nat} {A : Option Addr} {l : List V} (h : RowB w B A l) (hb : Below B w w') (hB : B ≤ B') : RowB w' B' A l := h.to_of hb hB fun v _ x hx => IsB.to hb hB v x hx
abbrev Strs (w : World) (A : Option Addr) (ks : List ByteArray) : Prop := StrsB w w.heap.size A ks
abbrev Is (w : World) (v : V) (x : X) : Prop := IsB w w.heap.size v x
abbrev Row (w : World) (A : Option Addr) (l : List V) : Prop := RowB w w.heap.size A l
theorem is_iff (w : World) (v : V) (x : X) : Is w v x ↔ (x.k = v.k ∧ x.nm = v.nm ∧ x.n = v.n ∧ x.s = v.s) ∧ (x.kn = v.ks.length ∧ x.kn ≤ x.kc ∧ Strs w x.ka v.ks) ∧ x.ln = v.l.length ∧ x.ln ≤ x.lc ∧ Row w x.la v.l := isB_iff w _ v x
theorem StrsB.below {w w' : World} {A : Option Addr} {l : List ByteArray} (h : Strs w A l) (hb : Below w.heap.size w w') : Strs w' A l := h.to hb hb.size
theorem Is.below {w w' : World} (hb : Below w.heap.size w w') (v : V) (x : X) (h : Is w v x) : Is w' v x := IsB.to hb hb.size v x h
theorem RowB.below {w w' : World} {A : Option Addr} {l : List V} (h : Row w A l) (hb : Below w.heap.size w w') : Row w' A l := h.to hb hb.size
theorem IsB.up {w w' : World} {B : Nat} {v : V} {x : X} (h : IsB w B v x) (hb : Below B w w') (hB : B ≤ w'.heap.size) : Is w' v x := IsB.to hb hB v x h
theorem IsB.open {w : World} {B : Nat} {v : V} {x : X} (h : IsB w B v x) : ∃ ka kc la lc, x = ⟨v.k, v.nm, v.n, v.s, ka, v.ks.length, kc, la, v.l.length, lc⟩ ∧ v.ks.length ≤ kc ∧ v.l.length ≤ lc ∧ StrsB w B ka v.ks ∧ RowB w B la v.l := by
 rw [isB_iff] at h
 obtain ⟨⟨h1, h0, h2, h3⟩, ⟨h4, h5, h6⟩, h7, h8, h9⟩ := h
 obtain ⟨k, nm, n, s, ka, kn, kc, la, ln, lc⟩ := x
 simp only at *
 subst h1 h0 h2 h3 h4 h7
 exact ⟨ka, kc, la, lc, rfl, h5, h8, h6, h9⟩
theorem Is.mk {w : World} {v : V} {ka la : Option Addr} {kc lc : Nat} (h1 : v.ks.length ≤ kc) (h2 : v.l.length ≤ lc) (h3 : Strs w ka v.ks) (h4 : Row w la v.l) : Is w v ⟨v.k, v.nm, v.n, v.s, ka, v.ks.length, kc, la, v.l.length, lc⟩ := by
 rw [is_iff]
 exact ⟨⟨rfl, rfl, rfl, rfl⟩, ⟨rfl, h1, h3⟩, rfl, h2, h4⟩
theorem below_alloc (w : World) (o : Obj) : Below w.heap.size w (w.alloc o) := (Below.refl _ _).alloc (Nat.le_refl _) _
theorem At.six {w : World} {g o : Nat} {k n : Int} {nm s : ByteArray} {ka la : Option Addr} {kn kc ln lc : Nat} (h : At w g o ⟨k, nm, n, s, ka, kn, kc, la, ln, lc⟩) :
  w.cell? ⟨g, o, none⟩ = some (.int .i64 k) ∧ w.cell? ⟨g, o + 1, none⟩ = some (.string nm) ∧ w.cell? ⟨g, o + 2, none⟩ = some (.int .i64 n) ∧ w.cell? ⟨g, o + 3, none⟩ = some (.string s) ∧ w.cell? ⟨g, o + 4, none⟩ = some (.slice ka kn kc) ∧ w.cell? ⟨g, o + 5, none⟩ = some (.slice la ln lc) :=
 ⟨h.c0, h.c1, h.c2, h.c3, h.c4, h.c5⟩
end Go.Proofs.YtllpgoaanbiodaaGreatDoor.R
