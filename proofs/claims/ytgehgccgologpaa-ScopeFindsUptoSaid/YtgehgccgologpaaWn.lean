/-
  Laid by wip/scope/lay.py out of wip/tree: Wk M Wm Wn.
  PLAIN: a tree's lists, by a stack of places: what comes, and what is left.
  MEMORY: a struct of Go that reads as a tree; slices of strings, slices of nodes.
  What a round of a loop over a tree's lists keeps (Kp); the iterator's stack of places in memory.
  A loop over an iterator that keeps cells of its own: what the loop's body says speaks of what lay ahead of the loop alone.
-/
import Derived.Test.YtgehgccgologpaaS
import Derived.Test.YtgehgccgologpaaProg
import Derived.WalkKit
import Derived.Below
import Derived.Lib.Hide
import Derived.Deep.Draws
import Derived.Laws.AppendOwn
import Derived.RangeFuncNested
import Derived.RangeFuncBound
import Derived.RangeFuncCalls
import Derived.RangeFuncLeaves
namespace Go.Proofs.Ytgehgccgologpaa.R
open Go.RowKit Go.Proofs.Ytgehgccgologpaa Go.Proofs.Ytgehgccgologpaa.T
/-- a place: a depth, and the nodes that lie there -/
abbrev Pl := Nat × List V
/-- the places below a place -/
def below (d : Nat) : List V → List Pl
  | [] => []
  | v :: r => if v.l.isEmpty then below d r else (d + 1, v.l) :: below d r
/-- from one place the lists pre have come, and the stack st is left (its top is its last) -/
inductive Reach (p0 : Pl) : List Pl → List Pl → Prop
  | zero : Reach p0 [] [p0]
  | step {pre st : List Pl} {p : Pl} : Reach p0 pre (st ++ [p]) → Reach p0 (pre ++ [p]) (st ++ below p.1 p.2)
/-- how many nodes have come -/
def lenP (l : List Pl) : Nat := (l.map fun p => p.2.length).sum
def sizeP (l : List Pl) : Nat := (l.map fun p => V.sizes p.2).sum
def bulkP (l : List Pl) : Nat := (l.map fun p => V.bulks p.2).sum
/-- the deepest that has come -/
def maxP : List Pl → Nat
  | [] => 0
  | p :: r => max p.1 (maxP r)
def deepP : List Pl → Nat
  | [] => 0
  | p :: r => max (p.1 - 1 + V.deeps p.2) (deepP r)
def oksP (l : List Pl) : Bool := l.all fun p => V.oks p.2
def rightP (l : List Pl) : Bool := l.all fun p => p.2.all right
theorem lenP_snoc (l : List Pl) (p : Pl) : lenP (l ++ [p]) = lenP l + p.2.length := by simp [lenP]
theorem sizeP_append (a b : List Pl) : sizeP (a ++ b) = sizeP a + sizeP b := by simp [sizeP]
theorem bulkP_append (a b : List Pl) : bulkP (a ++ b) = bulkP a + bulkP b := by simp [bulkP]
theorem sizeP_one (p : Pl) : sizeP [p] = V.sizes p.2 := by simp [sizeP]
theorem bulkP_one (p : Pl) : bulkP [p] = V.bulks p.2 := by simp [bulkP]
theorem maxP_append (a b : List Pl) : maxP (a ++ b) = max (maxP a) (maxP b) := by
  induction a with
  | nil => simp [maxP]
  | cons x r ih => simp only [List.cons_append, maxP, ih]; omega
theorem deepP_append (a b : List Pl) : deepP (a ++ b) = max (deepP a) (deepP b) := by
  induction a with
  | nil => simp [deepP]
  | cons x r ih => simp only [List.cons_append, deepP, ih]; omega
theorem maxP_snoc (l : List Pl) (p : Pl) : maxP (l ++ [p]) = max (maxP l) p.1 := by
  rw [maxP_append]
  simp [maxP]
theorem oksP_append (a b : List Pl) : oksP (a ++ b) = (oksP a && oksP b) := by simp [oksP]
theorem rightP_snoc (l : List Pl) (p : Pl) : rightP (l ++ [p]) = (rightP l && p.2.all right) := by simp [rightP]
theorem size_eq (v : V) : v.size = 1 + V.sizes v.l := by cases v; rfl
theorem deep_eq (v : V) : v.deep = V.deeps v.l + 1 := by cases v; rfl
theorem bulk_ge (v : V) : 1 + V.bulks v.l ≤ v.bulk := by cases v; simp only [V.bulk, V.l]; omega
theorem size_below (d : Nat) : ∀ l : List V, sizeP (below d l) + l.length = V.sizes l
  | [] => rfl
  | v :: r => by
    have ih := size_below d r
    simp only [below, V.sizes, List.length_cons, size_eq v]
    cases hv : v.l with
    | nil => simp only [List.isEmpty_nil, if_true, V.sizes]; omega
    | cons a b =>
      simp only [List.isEmpty_cons, Bool.false_eq_true, if_false]
      have : sizeP ((d + 1, a :: b) :: below d r) = V.sizes (a :: b) + sizeP (below d r) := by simp [sizeP]
      omega
theorem bulk_below (d : Nat) : ∀ l : List V, bulkP (below d l) + l.length ≤ V.bulks l
  | [] => Nat.le_refl _
  | v :: r => by
    have ih := bulk_below d r
    have hb := bulk_ge v
    simp only [below, V.bulks, List.length_cons]
    cases hv : v.l with
    | nil => simp only [List.isEmpty_nil, if_true]; omega
    | cons a b =>
      rw [hv] at hb
      simp only [List.isEmpty_cons, Bool.false_eq_true, if_false]
      have : bulkP ((d + 1, a :: b) :: below d r) = V.bulks (a :: b) + bulkP (below d r) := by simp [bulkP]
      omega
theorem deep_below (d : Nat) (hd : 1 ≤ d) : ∀ l : List V, max d (deepP (below d l)) = max d (d - 1 + V.deeps l)
  | [] => by simp only [below, deepP, V.deeps]; omega
  | v :: r => by
    have ih := deep_below d hd r
    simp only [below, V.deeps, deep_eq v]
    cases hv : v.l with
    | nil => simp only [List.isEmpty_nil, if_true, V.deeps]; omega
    | cons a b =>
      simp only [List.isEmpty_cons, Bool.false_eq_true, if_false, deepP]
      omega
theorem oks_below (d : Nat) : ∀ l : List V, V.oks l = (l.all right && oksP (below d l))
  | [] => rfl
  | v :: r => by
    have ih := oks_below d r
    simp only [below, V.oks, List.all_cons, ok_eq v, ih]
    cases hv : v.l with
    | nil => simp only [List.isEmpty_nil, if_true, V.oks, Bool.and_true, Bool.and_assoc]
    | cons a b =>
      simp only [List.isEmpty_cons, Bool.false_eq_true, if_false]
      have : oksP ((d + 1, a :: b) :: below d r) = (V.oks (a :: b) && oksP (below d r)) := by simp [oksP]
      rw [this]
      cases right v <;> cases r.all right <;> simp
theorem deeps_pos {l : List V} (h : ¬ l = []) : 1 ≤ V.deeps l := by
  cases l with
  | nil => exact absurd rfl h
  | cons a b => simp only [V.deeps, deep_eq a]; omega
theorem below_ok (d : Nat) : ∀ l : List V, ∀ p ∈ below d l, 1 ≤ p.1 ∧ ¬ p.2 = []
  | [], p, h => by cases h
  | v :: r, p, h => by
    unfold below at h
    split at h
    · exact below_ok d r p h
    · rcases List.mem_cons.1 h with rfl | h
      · rename_i hv
        exact ⟨by simp, by simpa using hv⟩
      · exact below_ok d r p h
theorem below_append (d : Nat) : ∀ a b : List V, below d (a ++ b) = below d a ++ below d b
  | [], _ => rfl
  | x :: r, b => by
    rw [List.cons_append, below, below, below_append d r b]
    split <;> rfl
theorem below_no (d : Nat) (l : List V) (j : Nat) (h : j < l.length) (he : l[j].l = []) : below d (l.take (j + 1)) = below d (l.take j) := by
  rw [List.take_succ_eq_append_getElem h, below_append]
  simp [below, he]
theorem below_yes (d : Nat) (l : List V) (j : Nat) (h : j < l.length) (he : ¬ l[j].l = []) : below d (l.take (j + 1)) = below d (l.take j) ++ [(d + 1, l[j].l)] := by
  rw [List.take_succ_eq_append_getElem h, below_append]
  simp [below, he]
/-- what all that has come and all that is left keep -/
structure Kept (v : V) (pre st : List Pl) : Prop where
  len : lenP pre + sizeP st = v.size
  deep : max (maxP pre) (deepP st) = v.deep
  oks : (rightP pre && oksP st) = v.ok
  bulk : pre.length + bulkP st ≤ v.bulk
  ok : ∀ p ∈ st, 1 ≤ p.1 ∧ ¬ p.2 = []
theorem Reach.kept {v : V} {pre st : List Pl} (h : Reach (1, [v]) pre st) : Kept v pre st := by
  generalize hp : ((1, [v]) : Pl) = p0 at h
  induction h with
  | zero =>
    subst hp
    refine ⟨?_, ?_, ?_, ?_, ?_⟩
    · simp [lenP, sizeP, V.sizes]
    · simp only [maxP, deepP, V.deeps]; omega
    · simp [rightP, oksP, V.oks]
    · simp [bulkP, V.bulks]
    · intro p h
      simp only [List.mem_cons, List.not_mem_nil, or_false] at h
      subst h
      exact ⟨Nat.le_refl _, by simp⟩
  | @step pre st p h ih =>
    obtain ⟨h1, h2, h3, h4, h5⟩ := ih
    obtain ⟨hd, hne⟩ := h5 p (by simp)
    have hlen : 1 ≤ p.2.length := by
      rcases he : p.2 with _ | ⟨a, b⟩
      · exact absurd he hne
      · simp
    refine ⟨?_, ?_, ?_, ?_, ?_⟩
    · have := size_below p.1 p.2
      rw [lenP_snoc, sizeP_append]
      rw [sizeP_append, sizeP_one] at h1
      omega
    · have := deep_below p.1 hd p.2
      have := deeps_pos hne
      rw [maxP_snoc, deepP_append]
      rw [deepP_append] at h2
      simp only [deepP] at h2
      omega
    · have := oks_below p.1 p.2
      rw [rightP_snoc, oksP_append]
      rw [oksP_append] at h3
      rw [← h3]
      have e : oksP [p] = V.oks p.2 := by simp [oksP]
      rw [e, this]
      cases rightP pre <;> cases oksP st <;> cases p.2.all right <;> simp
    · have := bulk_below p.1 p.2
      rw [bulkP_append]
      rw [bulkP_append, bulkP_one] at h4
      simp only [List.length_append, List.length_cons, List.length_nil]
      omega
    · intro q hq
      rcases List.mem_append.1 hq with hq | hq
      · exact h5 q (List.mem_append_left _ hq)
      · exact below_ok p.1 p.2 q hq
end Go.Proofs.Ytgehgccgologpaa.R
namespace Go.Proofs.Ytgehgccgologpaa.R
open Go.RowKit Go.Proofs.Ytgehgccgologpaa Go.Proofs.Ytgehgccgologpaa.T
/-- what a struct of type Node holds: the pieces of its six cells -/
structure X where
  k : Int
  nm : ByteArray
  n : Int
  s : ByteArray
  ka : Option Addr
  kn : Nat
  kc : Nat
  la : Option Addr
  ln : Nat
  lc : Nat
def X.v (x : X) : Value := .agg #[.int .i64 x.k, .string x.nm, .int .i64 x.n, .string x.s, .slice x.ka x.kn x.kc, .slice x.la x.ln x.lc]
def X.cells (x : X) : Array Value := #[.int .i64 x.k, .string x.nm, .int .i64 x.n, .string x.s, .slice x.ka x.kn x.kc, .slice x.la x.ln x.lc]
/-- the six cells from place o of block g on -/
structure At (w : World) (g o : Nat) (x : X) : Prop where
  c0 : w.cell? ⟨g, o, none⟩ = some (.int .i64 x.k)
  c1 : w.cell? ⟨g, o + 1, none⟩ = some (.string x.nm)
  c2 : w.cell? ⟨g, o + 2, none⟩ = some (.int .i64 x.n)
  c3 : w.cell? ⟨g, o + 3, none⟩ = some (.string x.s)
  c4 : w.cell? ⟨g, o + 4, none⟩ = some (.slice x.ka x.kn x.kc)
  c5 : w.cell? ⟨g, o + 5, none⟩ = some (.slice x.la x.ln x.lc)
/-- a slice of strings that reads as ks, below block B -/
def StrsB (w : World) (B : Nat) (A : Option Addr) (ks : List ByteArray) : Prop :=
  ks = [] ∨ ∃ g o, A = some ⟨g, o, none⟩ ∧ g < B ∧ ∀ j (h : j < ks.length), w.cell? ⟨g, o + j, none⟩ = some (.string ks[j])
mutual
/-- the struct x reads as v, its rows below block B -/
def IsB (w : World) (B : Nat) : V → X → Prop
  | .mk k nm n s ks l, x => (x.k = k ∧ x.nm = nm ∧ x.n = n ∧ x.s = s) ∧ (x.kn = ks.length ∧ x.kn ≤ x.kc ∧ StrsB w B x.ka ks) ∧ x.ln = l.length ∧ x.ln ≤ x.lc ∧ (l = [] ∨ ∃ g o, x.la = some ⟨g, o, none⟩ ∧ g < B ∧ IsAllB w B g o l)
/-- the structs from place o of block g on read as l -/
def IsAllB (w : World) (B : Nat) : Nat → Nat → List V → Prop
  | _, _, [] => True
  | g, o, v :: r => (∃ y, At w g o y ∧ IsB w B v y) ∧ IsAllB w B g (o + 6) r
end
/-- a slice of values that reads as l, below block B -/
def RowB (w : World) (B : Nat) (A : Option Addr) (l : List V) : Prop := l = [] ∨ ∃ g o, A = some ⟨g, o, none⟩ ∧ g < B ∧ IsAllB w B g o l
theorem isAll_iff (w : World) (B g : Nat) : ∀ (o : Nat) (l : List V), IsAllB w B g o l ↔ ∀ i (h : i < l.length), ∃ y, At w g (o + i * 6) y ∧ IsB w B l[i] y
  | o, [] => by simp [IsAllB]
  | o, v :: r => by
    rw [IsAllB, isAll_iff w B g (o + 6) r]
    constructor
    · rintro ⟨h0, h⟩ i hi
      cases i with
      | zero => exact h0
      | succ i =>
        obtain ⟨y, h1, h2⟩ := h i (by simpa using hi)
        exact ⟨y, by rw [show o + (i + 1) * 6 = o + 6 + i * 6 by omega]; exact h1, h2⟩
    · intro h
      refine ⟨h 0 (by simp), fun i hi => ?_⟩
      obtain ⟨y, h1, h2⟩ := h (i + 1) (by simpa using hi)
      exact ⟨y, by rw [show o + 6 + i * 6 = o + (i + 1) * 6 by omega]; exact h1, h2⟩
theorem isB_iff (w : World) (B : Nat) (v : V) (x : X) : IsB w B v x ↔ (x.k = v.k ∧ x.nm = v.nm ∧ x.n = v.n ∧ x.s = v.s) ∧ (x.kn = v.ks.length ∧ x.kn ≤ x.kc ∧ StrsB w B x.ka v.ks) ∧ x.ln = v.l.length ∧ x.ln ≤ x.lc ∧ RowB w B x.la v.l := by
  cases v
  rw [IsB]
  rfl
theorem RowB.at_ {w : World} {B : Nat} {A : Option Addr} {l : List V} (h : RowB w B A l) {i : Nat} (hi : i < l.length) : ∃ g o, A = some ⟨g, o, none⟩ ∧ g < B ∧ ∃ y, At w g (o + i * 6) y ∧ IsB w B l[i] y := by
  rcases h with h | ⟨g, o, rfl, h1, h2⟩
  · subst h; simp at hi
  · exact ⟨g, o, rfl, h1, (isAll_iff w B g o l).1 h2 i hi⟩
theorem StrsB.at_ {w : World} {B : Nat} {A : Option Addr} {l : List ByteArray} (h : StrsB w B A l) {i : Nat} (hi : i < l.length) : ∃ g o, A = some ⟨g, o, none⟩ ∧ g < B ∧ w.cell? ⟨g, o + i, none⟩ = some (.string l[i]) := by
  rcases h with h | ⟨g, o, rfl, h1, h2⟩
  · subst h; simp at hi
  · exact ⟨g, o, rfl, h1, h2 i hi⟩
theorem At.below {w w' : World} {g o : Nat} {x : X} {B : Nat} (h : At w g o x) (hg : g < B) (hb : Below B w w') : At w' g o x :=
  ⟨(hb.cell (p := ⟨g, o, none⟩) hg).trans h.c0, (hb.cell (p := ⟨g, o + 1, none⟩) hg).trans h.c1, (hb.cell (p := ⟨g, o + 2, none⟩) hg).trans h.c2, (hb.cell (p := ⟨g, o + 3, none⟩) hg).trans h.c3, (hb.cell (p := ⟨g, o + 4, none⟩) hg).trans h.c4, (hb.cell (p := ⟨g, o + 5, none⟩) hg).trans h.c5⟩
theorem StrsB.to {w w' : World} {B B' : Nat} {A : Option Addr} {l : List ByteArray} (h : StrsB w B A l) (hb : Below B w w') (hB : B ≤ B') : StrsB w' B' A l := by
  rcases h with h | ⟨g, o, rfl, h2, h3⟩
  · exact .inl h
  · exact .inr ⟨g, o, rfl, Nat.lt_of_lt_of_le h2 hB, fun j hj => (hb.cell (p := ⟨g, o + j, none⟩) h2).trans (h3 j hj)⟩
theorem RowB.to_of {w w' : World} {B B' : Nat} (hb : Below B w w') (hB : B ≤ B') {A : Option Addr} {l : List V} (ih : ∀ v ∈ l, ∀ x, IsB w B v x → IsB w' B' v x) (h : RowB w B A l) : RowB w' B' A l := by
  rcases h with h | ⟨g, o, rfl, h1, h2⟩
  · exact .inl h
  · refine .inr ⟨g, o, rfl, Nat.lt_of_lt_of_le h1 hB, (isAll_iff w' B' g o l).2 fun i hi => ?_⟩
    obtain ⟨y, h3, h4⟩ := (isAll_iff w B g o l).1 h2 i hi
    exact ⟨y, h3.below h1 hb, ih _ (List.getElem_mem hi) y h4⟩
theorem IsB.to {w w' : World} {B B' : Nat} (hb : Below B w w') (hB : B ≤ B') : ∀ (v : V) (x : X), IsB w B v x → IsB w' B' v x := by
  refine V.ind fun k nm n s ks l ih => ?_
  intro x h
  rw [isB_iff] at h ⊢
  obtain ⟨h1, ⟨h2, h3, h4⟩, h5, h6, h7⟩ := h
  exact ⟨h1, ⟨h2, h3, h4.to hb hB⟩, h5, h6, h7.to_of hb hB ih⟩
theorem RowB.to {w w' : World} {B B' : Nat} {A : Option Addr} {l : List V} (h : RowB w B A l) (hb : Below B w w') (hB : B ≤ B') : RowB w' B' A l := h.to_of hb hB fun v _ x hx => IsB.to hb hB v x hx
/-- .. wherever in memory -/
abbrev Strs (w : World) (A : Option Addr) (ks : List ByteArray) : Prop := StrsB w w.heap.size A ks
abbrev Is (w : World) (v : V) (x : X) : Prop := IsB w w.heap.size v x
abbrev Row (w : World) (A : Option Addr) (l : List V) : Prop := RowB w w.heap.size A l
theorem is_iff (w : World) (v : V) (x : X) : Is w v x ↔ (x.k = v.k ∧ x.nm = v.nm ∧ x.n = v.n ∧ x.s = v.s) ∧ (x.kn = v.ks.length ∧ x.kn ≤ x.kc ∧ Strs w x.ka v.ks) ∧ x.ln = v.l.length ∧ x.ln ≤ x.lc ∧ Row w x.la v.l := isB_iff w _ v x
theorem StrsB.below {w w' : World} {A : Option Addr} {l : List ByteArray} (h : Strs w A l) (hb : Below w.heap.size w w') : Strs w' A l := h.to hb hb.size
theorem Is.below {w w' : World} (hb : Below w.heap.size w w') (v : V) (x : X) (h : Is w v x) : Is w' v x := IsB.to hb hb.size v x h
theorem RowB.below {w w' : World} {A : Option Addr} {l : List V} (h : Row w A l) (hb : Below w.heap.size w w') : Row w' A l := h.to hb hb.size
theorem IsB.up {w w' : World} {B : Nat} {v : V} {x : X} (h : IsB w B v x) (hb : Below B w w') (hB : B ≤ w'.heap.size) : Is w' v x := IsB.to hb hB v x h
/-- the pieces of a struct that reads as v -/
theorem IsB.open {w : World} {B : Nat} {v : V} {x : X} (h : IsB w B v x) : ∃ ka kc la lc, x = ⟨v.k, v.nm, v.n, v.s, ka, v.ks.length, kc, la, v.l.length, lc⟩ ∧ v.ks.length ≤ kc ∧ v.l.length ≤ lc ∧ StrsB w B ka v.ks ∧ RowB w B la v.l := by
  rw [isB_iff] at h
  obtain ⟨⟨h1, h0, h2, h3⟩, ⟨h4, h5, h6⟩, h7, h8, h9⟩ := h
  obtain ⟨k, nm, n, s, ka, kn, kc, la, ln, lc⟩ := x
  simp only at *
  subst h1 h0 h2 h3 h4 h7
  exact ⟨ka, kc, la, lc, rfl, h5, h8, h6, h9⟩
theorem Is.mk {w : World} {v : V} {ka la : Option Addr} {kc lc : Nat} (h1 : v.ks.length ≤ kc) (h2 : v.l.length ≤ lc) (h3 : Strs w ka v.ks) (h4 : Row w la v.l) : Is w v ⟨v.k, v.nm, v.n, v.s, ka, v.ks.length, kc, la, v.l.length, lc⟩ := by
  rw [is_iff]
  exact ⟨⟨rfl, rfl, rfl, rfl⟩, ⟨rfl, h1, h3⟩, rfl, h2, h4⟩
theorem below_alloc (w : World) (o : Obj) : Below w.heap.size w (w.alloc o) := (Below.refl _ _).alloc (Nat.le_refl _) _
theorem At.six {w : World} {g o : Nat} {k n : Int} {nm s : ByteArray} {ka la : Option Addr} {kn kc ln lc : Nat} (h : At w g o ⟨k, nm, n, s, ka, kn, kc, la, ln, lc⟩) :
    w.cell? ⟨g, o, none⟩ = some (.int .i64 k) ∧ w.cell? ⟨g, o + 1, none⟩ = some (.string nm) ∧ w.cell? ⟨g, o + 2, none⟩ = some (.int .i64 n) ∧ w.cell? ⟨g, o + 3, none⟩ = some (.string s) ∧ w.cell? ⟨g, o + 4, none⟩ = some (.slice ka kn kc) ∧ w.cell? ⟨g, o + 5, none⟩ = some (.slice la ln lc) :=
  ⟨h.c0, h.c1, h.c2, h.c3, h.c4, h.c5⟩
end Go.Proofs.Ytgehgccgologpaa.R
namespace Go.Proofs.Ytgehgccgologpaa.R
open Go.RowKit Go.Proofs.Ytgehgccgologpaa Go.Proofs.Ytgehgccgologpaa.T
/-- what lay below n0 is as it was, and so is every block of cells but one -/
structure Kp (n0 B : Nat) (w w' : World) : Prop where
  below : Below n0 w w'
  cells : ∀ k o, k ≠ B → w.heap[k]? = some o → o.isCells = true → w'.heap[k]? = some o
theorem Kp.refl (n0 B : Nat) (w : World) : Kp n0 B w w := ⟨Below.refl _ _, fun _ _ _ h _ => h⟩
theorem Kp.trans {n0 B : Nat} {a b c : World} (h : Kp n0 B a b) (k : Kp n0 B b c) : Kp n0 B a c :=
  ⟨h.below.trans k.below, fun i o hi ho hc => k.cells i o hi (h.cells i o hi ho hc) hc⟩
theorem Kp.turn {n0 B : Nat} {w : World} (hn : n0 ≤ w.heap.size) (W : World) (l : Nat) (o o' : Obj) (hl : w.heap.size ≤ l) (h : W.heap[l]? = some o) (hc : o.isCells = false) (hw : o.isWalk = false) : Kp n0 B W (W.putObj l o') := by
  refine ⟨belowK_b hn W l o o' hl h hc hw, fun k u _ hu hcu => ?_⟩
  have hk : k < W.heap.size := (Array.getElem?_eq_some_iff.1 hu).1
  refine ((grownBy_putObj' W l o').block k hk fun e => ?_).trans hu
  cases e
  rw [h] at hu
  cases hu
  rw [hc] at hcu
  cases hcu
theorem Kp.of_below {n0 B : Nat} {w w' : World} (hn : n0 ≤ w.heap.size) (h : Below w.heap.size w w') : Kp n0 B w w' :=
  ⟨h.mono hn, fun k _ _ hu _ => (h.block k (Array.getElem?_eq_some_iff.1 hu).1).trans hu⟩
theorem Kp.set {n0 B : Nat} {w : World} (hn : n0 ≤ B) (u : Value) : Kp n0 B w (w.setCell ⟨B, 0, none⟩ u) :=
  ⟨(Below.refl n0 w).setCell (p := ⟨B, 0, none⟩) hn u, fun k _ hk hu _ => (Below.heap_setCell w ⟨B, 0, none⟩ u k hk).trans hu⟩
theorem Kp.cell {n0 B : Nat} {w w' : World} (h : Kp n0 B w w') {p : Addr} {u : Value} (hp : p.block ≠ B) (hc : w.cell? p = some u) : w'.cell? p = some u := by
  obtain ⟨o, ho, hco⟩ := cells_of_cell hc
  exact (World.cell?_of_block (w := w) ((h.cells _ _ hp ho hco).trans ho.symm)).trans hc
/-- a place as it lies in memory -/
structure Pr where
  d : Int
  A : Option Addr
  n : Nat
  c : Nat
def Pr.vals (p : Pr) : List Value := [.int .i64 p.d, .slice p.A p.n p.c]
/-- a row of nodes that lies below C and away from block B; what hangs on it lies below n0 -/
def RowX (w : World) (n0 B C : Nat) (A : Option Addr) (l : List V) : Prop :=
  l = [] ∨ ∃ g o, A = some ⟨g, o, none⟩ ∧ g ≠ B ∧ g < C ∧ ∀ i (h : i < l.length), ∃ y, At w g (o + i * 6) y ∧ IsB w n0 l[i] y
theorem RowX.kept {w w' : World} {n0 B C : Nat} {A : Option Addr} {l : List V} (h : RowX w n0 B C A l) (hk : Kp n0 B w w') : RowX w' n0 B C A l := by
  rcases h with h | ⟨g, o, rfl, hB, hg, h⟩
  · exact .inl h
  · refine .inr ⟨g, o, rfl, hB, hg, fun i hi => ?_⟩
    obtain ⟨y, ha, hy⟩ := h i hi
    exact ⟨y, ⟨hk.cell (p := ⟨g, o + i * 6, none⟩) hB ha.c0, hk.cell (p := ⟨g, o + i * 6 + 1, none⟩) hB ha.c1, hk.cell (p := ⟨g, o + i * 6 + 2, none⟩) hB ha.c2, hk.cell (p := ⟨g, o + i * 6 + 3, none⟩) hB ha.c3, hk.cell (p := ⟨g, o + i * 6 + 4, none⟩) hB ha.c4, hk.cell (p := ⟨g, o + i * 6 + 5, none⟩) hB ha.c5⟩,
      hy.to hk.below (Nat.le_refl _)⟩
theorem RowX.row {w : World} {n0 B C : Nat} {A : Option Addr} {l : List V} (h : RowX w n0 B C A l) (hn : n0 ≤ w.heap.size) (hC : C ≤ w.heap.size) : Row w A l := by
  rcases h with h | ⟨g, o, rfl, hB, hg, h⟩
  · exact .inl h
  · refine .inr ⟨g, o, rfl, Nat.lt_of_lt_of_le hg hC, (isAll_iff w w.heap.size g o l).2 fun i hi => ?_⟩
    obtain ⟨y, ha, hy⟩ := h i hi
    exact ⟨y, ha, hy.up (Below.refl _ _) hn⟩
theorem RowB.x {w : World} {n0 B C : Nat} {A : Option Addr} {l : List V} (h : RowB w n0 A l) (hB : n0 ≤ B) (hn : n0 ≤ C) : RowX w n0 B C A l := by
  rcases h with h | ⟨g, o, rfl, hg, h⟩
  · exact .inl h
  · exact .inr ⟨g, o, rfl, by omega, by omega, (isAll_iff w n0 g o l).1 h⟩
/-- it holds this place -/
structure PrIs (w : World) (n0 B C : Nat) (p : Pr) (q : Pl) : Prop where
  d : p.d = (q.1 : Int)
  n : p.n = q.2.length
  c : p.n ≤ p.c
  row : RowX w n0 B C p.A q.2
def PrsIs (w : World) (n0 B C : Nat) : List Pr → List Pl → Prop
  | [], [] => True
  | p :: r, q :: s => PrIs w n0 B C p q ∧ PrsIs w n0 B C r s
  | _, _ => False
theorem PrIs.to {w w' : World} {n0 B C : Nat} {p : Pr} {q : Pl} (h : PrIs w n0 B C p q) (hb : Kp n0 B w w') : PrIs w' n0 B C p q := ⟨h.d, h.n, h.c, h.row.kept hb⟩
theorem PrsIs.to {w w' : World} {n0 B C : Nat} (hb : Kp n0 B w w') : ∀ {ps : List Pr} {qs : List Pl}, PrsIs w n0 B C ps qs → PrsIs w' n0 B C ps qs
  | [], [], _ => trivial
  | _ :: _, _ :: _, h => ⟨h.1.to hb, PrsIs.to hb h.2⟩
  | [], _ :: _, h => h.elim
  | _ :: _, [], h => h.elim
theorem PrsIs.len {w : World} {n0 B C : Nat} : ∀ {ps : List Pr} {qs : List Pl}, PrsIs w n0 B C ps qs → ps.length = qs.length
  | [], [], _ => rfl
  | _ :: _, _ :: _, h => by rw [List.length_cons, List.length_cons, PrsIs.len h.2]
  | [], _ :: _, h => h.elim
  | _ :: _, [], h => h.elim
theorem PrsIs.app {w : World} {n0 B C : Nat} {p : Pr} {q : Pl} : ∀ {ps : List Pr} {qs : List Pl}, PrsIs w n0 B C ps qs → PrIs w n0 B C p q → PrsIs w n0 B C (ps ++ [p]) (qs ++ [q])
  | [], [], _, h => ⟨h, trivial⟩
  | _ :: _, _ :: _, h, k => ⟨h.1, PrsIs.app h.2 k⟩
  | [], _ :: _, h, _ => h.elim
  | _ :: _, [], h, _ => h.elim
theorem PrsIs.last {w : World} {n0 B C : Nat} : ∀ {ps : List Pr} {qs : List Pl}, PrsIs w n0 B C ps qs → ¬ qs = [] → ∃ ps' p qs' q, ps = ps' ++ [p] ∧ qs = qs' ++ [q] ∧ PrsIs w n0 B C ps' qs' ∧ PrIs w n0 B C p q
  | [], [], _, h => absurd rfl h
  | [p], [q], h, _ => ⟨[], p, [], q, rfl, rfl, trivial, h.1⟩
  | p :: p2 :: r, q :: q2 :: s, h, _ => by
    obtain ⟨ps', p', qs', q', e1, e2, h1, h2⟩ := PrsIs.last h.2 (by simp)
    exact ⟨p :: ps', p', q :: qs', q', by rw [e1]; rfl, by rw [e2]; rfl, ⟨h.1, h1⟩, h2⟩
  | [_], _ :: _ :: _, h, _ => h.2.elim
  | _ :: _ :: _, [_], h, _ => h.2.elim
  | [], _ :: _, h, _ => h.elim
  | _ :: _, [], h, _ => h.elim
/-- the slice v is a row of the call's own that holds these places, away from block B -/
def StkT (w : World) (n0 B : Nat) (v : Value) (ps : List Pr) : Prop :=
  w.ownsRow n0 73 2 v ps.length (ps.flatMap Pr.vals) ∧ ∀ k, v.ownBlock = some k → k ≠ B
theorem own_pushT {w w' : World} {B : Nat} {e : TypeId} {n : Nat} {v : Value} {xs : List Value} (h : w.ownsRow B e 2 v n xs) (hb : ∀ k o, v.ownBlock = some k → w.heap[k]? = some o → o.isCells = true → w'.heap[k]? = some o) : w'.ownsRow B e 2 v n xs := by
  refine ⟨h.1, ?_⟩
  rcases h.2 with h2 | ⟨g, cap, cur, rfl, hb', hg, r⟩
  · exact .inl h2
  · exact .inr ⟨g, cap, cur, rfl, hb', hb g _ rfl hg rfl, r⟩
theorem StkT.kept {w w' : World} {b n0 B : Nat} {v : Value} {ps : List Pr} (h : StkT w b B v ps) (hk : Kp n0 B w w') : StkT w' b B v ps :=
  ⟨own_pushT h.1 fun k o e ho hc => hk.cells k o (h.2 k e) ho hc, h.2⟩
theorem flat_lenT (ps : List Pr) : (ps.flatMap Pr.vals).length = ps.length * 2 := by
  induction ps with
  | nil => rfl
  | cons p r ih => simp only [List.flatMap_cons, List.length_append, ih, Pr.vals, List.length_cons, List.length_nil]; omega
theorem flat_lastT (ps : List Pr) (p : Pr) : ((ps ++ [p]).flatMap Pr.vals)[ps.length * 2]? = some (.int .i64 p.d) ∧ ((ps ++ [p]).flatMap Pr.vals)[ps.length * 2 + 1]? = some (.slice p.A p.n p.c) := by
  rw [List.flatMap_append]
  have h := flat_lenT ps
  constructor
  · rw [List.getElem?_append_right (by omega), h]; simp [Pr.vals]
  · rw [List.getElem?_append_right (by omega), h]; simp [Pr.vals]
theorem own_popT {w : World} {B : Nat} {e : TypeId} {ps : List Pr} {p : Pr} {g cap : Nat} (h : w.ownsRow B e 2 (.slice (some ⟨g, 0, none⟩) (ps.length + 1) cap) (ps.length + 1) ((ps ++ [p]).flatMap Pr.vals)) :
    w.ownsRow B e 2 (.slice (some ⟨g, 0, none⟩) ps.length cap) ps.length (ps.flatMap Pr.vals) := by
  have hl := flat_lenT ps
  refine ⟨hl, ?_⟩
  rcases h.2 with ⟨hv, _⟩ | ⟨g', cap', cur, hv, hb, hg, hn, hm, hs, ht⟩
  · cases hv
  · injection hv with h1 h2 h3
    injection h1 with h1
    injection h1 with h1
    subst h1 h3
    refine .inr ⟨g, cap, cur, rfl, hb, hg, by omega, hm, hs, ?_⟩
    rw [List.flatMap_append] at ht
    have := congrArg (List.take (ps.length * 2)) ht
    rw [List.take_take, Nat.min_eq_left (by omega), List.take_left' hl] at this
    exact this
theorem StkT.pop {w : World} {n0 B : Nat} {v : Value} {ps : List Pr} {p : Pr} (h : StkT w n0 B v (ps ++ [p])) : ∃ g cap, v = .slice (some ⟨g, 0, none⟩) (ps.length + 1) cap ∧ ps.length + 1 ≤ cap ∧ n0 ≤ g ∧ g ≠ B ∧
    w.cell? ⟨g, ps.length * 2, none⟩ = some (.int .i64 p.d) ∧ w.cell? ⟨g, ps.length * 2 + 1, none⟩ = some (.slice p.A p.n p.c) ∧ StkT w n0 B (.slice (some ⟨g, 0, none⟩) ps.length cap) ps := by
  obtain ⟨hown, hB⟩ := h
  have hown' := hown
  rw [List.length_append, List.length_singleton] at hown hown'
  rcases hown.2 with ⟨_, hz⟩ | ⟨g, cap, cur, rfl, hb, hg, hn, hm, hs, ht⟩
  · exact absurd hz (by omega)
  obtain ⟨f0, f1⟩ := flat_lastT ps p
  rw [← ht] at f0 f1
  have gc : ∀ (j : Nat) (u : Value), (cur.toList.take ((ps.length + 1) * 2))[j]? = some u → w.cell? ⟨g, j, none⟩ = some u := by
    intro j u hj
    have hj2 : j < (ps.length + 1) * 2 := by
      have := (List.getElem?_eq_some_iff.1 hj).1
      rw [List.length_take] at this
      omega
    rw [List.getElem?_take_of_lt hj2, Array.getElem?_toList] at hj
    simp [World.cell?, hg, hj]
  exact ⟨g, cap, rfl, hn, hb, hB g rfl, gc _ _ f0, gc _ _ f1, own_popT hown', fun k e => hB k e⟩
end Go.Proofs.Ytgehgccgologpaa.R
namespace Go.Proofs.Ytgehgccgologpaa.R
open Go.RowKit Go.Proofs.Ytgehgccgologpaa Go.Proofs.Ytgehgccgologpaa.T
/-- J speaks of the blocks below C alone -/
def Low {β : Type} (C : Nat) (J : β → World → Prop) : Prop := ∀ s A A', J s A → Below C A A' → J s A'
/-- a call that hands its items to whatever rounds keep their word -/
def SeqLow {α : Type} (F : Fence) (n : Nat) (P : Program) (g : Nat) (lb : Array Value) (encs : α → Array Value) (K : World → World → Prop) (G : α → World → Prop) (S Sp : List α → Prop) (N : Nat) (w : World) : Prop :=
  ∀ (l : Nat) (J Jx : List α → World → Prop) (W : World), Below w.heap.size w W → Low W.heap.size J → Low W.heap.size Jx →
    (∀ pre x W1, J pre W1 → G x W1 → pre.length < N → YieldAt F (n - 1) P l (encs x) W1 fun e W' =>
      (e = .returned (.bool true) ∧ J (pre ++ [x]) W' ∧ K W1 W') ∨ (e = .returned (.bool false) ∧ Jx (pre ++ [x]) W')) →
    J [] W →
    CallsIn F n P g (#[.func (.yield l) #[] #[]] ++ lb) W fun e W' => (∃ v, e = .returned v) ∧ ((∃ xs, S xs ∧ J xs W') ∨ (∃ pre, Sp pre ∧ Jx pre W'))
theorem below_put {C : Nat} (W : World) (l : Nat) (o o' : Obj) (hl : C ≤ l) (h : W.heap[l]? = some o) : Below C W (W.putObj l o') :=
  (Below.refl C W).grown (grownBy_putObj' W l o') (by have := (Array.getElem?_eq_some_iff.1 h).1; omega) (fun k e => by cases e; exact hl)
theorem range_low {F : Fence} {n : Nat} {P : Program} {α : Type} {g : Operand} {ps : Array Tmp} {assign body : Code} {Q : Exit → Act → World → Prop} {a : Act} {w : World}
    (hro : F.round = none) (h1 : 1 ≤ n) {gf : Nat} {lb : Array Value} (hg : a.eval g = .func (.func gf) #[] lb) (hFg : F.fn gf) (eg : ∀ args w, (callFunc gf args).run P w = .ok (.enter gf args) w)
    {encs : α → Array Value} {K : World → World → Prop} {G : α → World → Prop} {S Sp : List α → Prop} {N : Nat} {w0 : World} (hseq : SeqLow F (n - 1) P gf lb encs K G S Sp N w0) (hG : ∀ x A B, G x A → K A B → G x B)
    (hKt : ∀ {A B C : World}, K A B → K B C → K A C) (hKb : ∀ (W : World) (l : Nat) (o o' : Obj), w.heap.size ≤ l → W.heap[l]? = some o → o.isCells = false → o.isWalk = false → K W (W.putObj l o')) (hb0 : Below w0.heap.size w0 w) (hps : ∀ x, (encs x).size = ps.size)
    (I : List α → World → Prop) (Ix : Code → List α → World → Prop) (hI : Low w.heap.size I) (hIx : ∀ c, Low w.heap.size (Ix c)) (h0 : I [] w) (a₁ : α → Act)
    (hassign : ∀ (l : Nat) (x : α) (W : World) (C : Act → World → Prop), C (a₁ x) W →
      assign.wpIn (F.inRound l) (n - 1 - 1) P (Exit.then C (fun _ _ _ => False)) { tmps := (ps.zip (encs x)).foldl (fun t (p, v) => t.setIfInBounds p v) a.tmps, defers := [] } W)
    (hbody : ∀ (l : Nat) (pre : List α) (x : α) (W : World), I pre W → G x W → pre.length < N → body.wpIn (F.inRound l) (n - 1 - 1) P (ownPostG w.heap.size K I Ix (pre ++ [x]) W) (a₁ x) W)
    (hdone : ∀ (D : Nat) (xs : List α) (W : World), w.heap.size ≤ D → S xs → I xs W → W.heap[D]? = some (.deferred (some [])) → Q .normal { a with defers := { target := .collected D, args := #[] } :: a.defers } W)
    (hstop : ∀ (D : Nat) (c : Code) (pre : List α) (W : World), w.heap.size ≤ D → Sp pre → Ix c pre W → W.heap[D]? = some (.deferred (some [])) → c.wpIn F n P Q { a with defers := { target := .collected D, args := #[] } :: a.defers } W) :
    (Code.rangeFunc g ps assign body).wpIn F n P Q a w := by
  refine wpIn_rangeFunc ?_
  intro fn hfn
  rw [hro]
  obtain ⟨rc, hrc⟩ : ∃ rc : LoopState → Option Code → Loop, rc = fun st pe => { state := st, pending := pe, fn, tmps := a.tmps, params := ps, assign, body, defers := w.heap.size } := ⟨_, rfl⟩
  obtain ⟨W1, hW1⟩ : ∃ W1, (w.alloc (.deferred (some []))).alloc (.loop (rc .ready none)) = W1 := ⟨_, rfl⟩
  have hB1 : Below w.heap.size w W1 := by rw [← hW1]; exact ((Below.refl _ w).alloc (Nat.le_refl _) _).alloc (by simp) _
  have hz1 : W1.heap.size = w.heap.size + 2 := by rw [← hW1]; simp
  have hL1 : W1.heap[w.heap.size + 1]? = some (.loop (rc .ready none)) := by
    have := World.alloc_heap_new (w.alloc (.deferred (some []))) (.loop (rc .ready none))
    rw [World.size_alloc, hW1] at this
    exact this
  have hD1 : W1.heap[w.heap.size]? = some (.deferred (some [])) := by
    rw [← hW1]
    exact (Below.heap_alloc _ _ _ (by simp)).trans (World.alloc_heap_new w _)
  refine ⟨w.heap.size + 1, [{ target := .collected w.heap.size, args := #[] }], W1, { target := .fn (.func gf) lb, args := #[.func (.yield (w.heap.size + 1)) #[] #[]] }, W1, gf,
    #[.func (.yield (w.heap.size + 1)) #[] #[]] ++ lb, W1, by rw [← hW1, hrc]; exact run_enterLoop_outer _ _ _ _ _, by simp only [resolve, hg]; simp [go_sem], fun f' hf' => by simp [Target.leads] at hf'; subst hf'; exact hFg, by simp [invoke, go_sem, eg], fun _ => h1, ?_⟩
  have hkeep : ∀ {A B : World}, Below W1.heap.size A B → ∀ {o o' : Obj}, A.heap[w.heap.size + 1]? = some o → A.heap[w.heap.size]? = some o' → B.heap[w.heap.size + 1]? = some o ∧ B.heap[w.heap.size]? = some o' := by
    intro A B hb o o' ha hd
    exact ⟨(hb.block _ (by omega)).trans ha, (hb.block _ (by omega)).trans hd⟩
  have hle : w.heap.size ≤ W1.heap.size := by omega
  refine (hseq (w.heap.size + 1)
    (fun pre W => I pre W ∧ W.heap[w.heap.size + 1]? = some (.loop (rc .ready none)) ∧ W.heap[w.heap.size]? = some (.deferred (some [])))
    (fun pre W => ∃ c, Ix c pre W ∧ W.heap[w.heap.size + 1]? = some (.loop (rc .done (some c))) ∧ W.heap[w.heap.size]? = some (.deferred (some [])))
    W1 (hb0.trans (hB1.mono hb0.size))
    (fun s A B hs hb => ⟨hI s A B hs.1 (hb.mono hle), hkeep hb hs.2.1 hs.2.2⟩)
    (fun s A B hs hb => by
      obtain ⟨c, hc, hl, hd⟩ := hs
      exact ⟨c, hIx c s A B hc (hb.mono hle), hkeep hb hl hd⟩)
    ?_ ⟨hI _ _ _ h0 hB1, hL1, hD1⟩).mono ?_
  · -- a round
    rintro pre x W ⟨hi, hl, hd⟩ hg0 hlen
    have hlt : w.heap.size + 1 < W.heap.size := (Array.getElem?_eq_some_iff.1 hl).1
    have hy := run_yield (P := P) (args := encs x) hl (by rw [hrc]; exact hps x)
    rw [hrc] at hy
    refine ⟨fn, _, assign, body, hy, roundIn_of_wpIn hfn (hassign _ x W _ ?_)⟩
    clear hy
    refine ⟨_, run_beginRound hl (by rw [hrc]), ?_⟩
    obtain ⟨W2, hW2⟩ : ∃ W2, W.putObj (w.heap.size + 1) (.loop { rc .ready none with state := .busy }) = W2 := ⟨_, rfl⟩
    have hl2 : W2.heap[w.heap.size + 1]? = some (.loop { rc .ready none with state := .busy }) := by rw [← hW2]; exact World.putObj_heap_same hlt
    have hd2 : W2.heap[w.heap.size]? = some (.deferred (some [])) := by rw [← hW2]; exact (World.putObj_heap_other (by omega)).trans hd
    have hk2 : K W W2 := by rw [← hW2]; exact hKb _ _ _ _ (by omega) hl rfl rfl
    have hi2 : I pre W2 := by rw [← hW2]; exact hI _ _ _ hi (below_put _ _ _ _ (by omega) hl)
    rw [hW2]
    refine wpIn_mono (hbody _ pre x W2 hi2 (hG _ _ _ hg0 hk2) hlen) ?_
    have fin : ∀ (jump : Option Code) (W3 : World), KeepsFrom w.heap.size W2 W3 → ∃ W4, (Instr.endRound (w.heap.size + 1) jump).run P W3 = .ok (.bool jump.isNone) W4 ∧ Below w.heap.size W3 W4 ∧ K W3 W4 ∧
        W4.heap[w.heap.size + 1]? = some (.loop (rc (if jump.isNone then .ready else .done) jump)) ∧ W4.heap[w.heap.size]? = some (.deferred (some [])) := by
      intro jump W3 hk3
      have hl3 := hk3.same _ _ (by omega) hl2 rfl
      have hd3 := hk3.same _ _ (Nat.le_refl _) hd2 rfl
      have hr := run_endRound (P := P) jump hl3
      refine ⟨_, hr, below_put _ _ _ _ (by omega) hl3, hKb _ _ _ _ (by omega) hl3 rfl rfl, ?_, (World.putObj_heap_other (by omega)).trans hd3⟩
      rw [World.putObj_heap_same (Array.getElem?_eq_some_iff.1 hl3).1, hrc]
    rintro e a3 W3 hp
    have out : ∀ c : Code, KeepsFrom w.heap.size W2 W3 → Ix c (pre ++ [x]) W3 → ∃ W4, (Instr.endRound (w.heap.size + 1) (some c)).run P W3 = .ok (.bool false) W4 ∧ ∃ c, Ix c (pre ++ [x]) W4 ∧ W4.heap[w.heap.size + 1]? = some (.loop (rc .done (some c))) ∧ W4.heap[w.heap.size]? = some (.deferred (some [])) := by
      intro c hk3 hi3
      obtain ⟨W4, hr, hb4, _, hl4, hd4⟩ := fin (some c) W3 hk3
      exact ⟨W4, hr, c, hIx c _ _ _ hi3 hb4, hl4, hd4⟩
    cases e with
    | normal =>
      obtain ⟨hk3, hkp3, hi3⟩ := hp
      obtain ⟨W4, hr, hb4, hk4, hl4, hd4⟩ := fin none W3 hk3
      exact ⟨_, _, hr, .inl ⟨rfl, ⟨hI _ _ _ hi3 hb4, hl4, hd4⟩, hKt hk2 (hKt hkp3 hk4)⟩⟩
    | ret =>
      obtain ⟨W4, hr, h4⟩ := out .ret hp.1 hp.2
      exact ⟨_, _, hr, .inr ⟨rfl, h4⟩⟩
    | exit id =>
      obtain ⟨W4, hr, h4⟩ := out (.exit id) hp.1 hp.2
      exact ⟨_, _, hr, .inr ⟨rfl, h4⟩⟩
    | goto t =>
      obtain ⟨W4, hr, h4⟩ := out (.goto t) hp.1 hp.2
      exact ⟨_, _, hr, .inr ⟨rfl, h4⟩⟩
    | panic ch => exact hp.elim
    | outgrown => exact hp.elim
  · -- behind the iterator
    rintro e W2 ⟨⟨v, rfl⟩, (⟨xs, hS, hi, hl, hd⟩ | ⟨pre, hSp, c, hi, hl, hd⟩)⟩
    · have hr := run_endLoop (P := P) hl (by rw [hrc]; simp)
      rw [hrc] at hr
      refine ⟨none, _, hr, hdone _ xs _ (Nat.le_refl _) hS (hI _ _ _ hi (below_put _ _ _ _ (by omega) hl)) ((World.putObj_heap_other (by omega)).trans hd)⟩
    · have hr := run_endLoop (P := P) hl (by rw [hrc]; simp)
      rw [hrc] at hr
      refine ⟨some c, _, hr, hstop _ c pre _ (Nat.le_refl _) hSp (hIx c _ _ _ hi (below_put _ _ _ _ (by omega) hl)) ((World.putObj_heap_other (by omega)).trans hd)⟩
end Go.Proofs.Ytgehgccgologpaa.R
