/-
  Laid by wip/prune.py out of wip/data: Plain UP UA Mem Spec Stk Ent Walk Fresh Sz Deep Dist.
-/
import Derived.Test.YtnkknlhdbhfjlaaProg
import Derived.Lib.Hide
import Derived.WalkKit
import Derived.ProofKit
import Derived.Outline
import Derived.IntWalk
import Derived.BigQuiet
import Derived.BigCall
import Derived.BigGuard
import Derived.Deep.QuietTactic
import Derived.Lib.Strings
import Derived.Below
import Derived.Deep.Draws
import Derived.Deep.AppendLies
import Derived.Deep.RegionLaw
import Derived.Deep.RegionHeld3
import Derived.Maps.AppendAt
import Derived.Laws.OwnMore
import Derived.Lib.MinMax
import Derived.Maps.OwnSet
namespace Go.Proofs.Ytnkknlhdbhfjlaa
open Go.RowKit

/-- a value: kind, number, text, keys, elements -/
inductive V where
  | mk (k n : Int) (s : ByteArray) (ks : List ByteArray) (l : List V)
  deriving Inhabited
def V.k : V → Int | .mk k _ _ _ _ => k
def V.n : V → Int | .mk _ n _ _ _ => n
def V.s : V → ByteArray | .mk _ _ s _ _ => s
def V.ks : V → List ByteArray | .mk _ _ _ ks _ => ks
def V.l : V → List V | .mk _ _ _ _ l => l
mutual
def V.size : V → Nat
  | .mk _ _ _ _ l => 1 + V.sizes l
def V.sizes : List V → Nat
  | [] => 0
  | v :: r => v.size + V.sizes r
end
mutual
def V.deep : V → Nat
  | .mk _ _ _ _ l => V.deeps l + 1
def V.deeps : List V → Nat
  | [] => 0
  | v :: r => max v.deep (V.deeps r)
end
def keysBulk : List ByteArray → Nat
  | [] => 0
  | k :: r => k.size + 1 + keysBulk r
mutual
def V.bulk : V → Nat
  | .mk _ _ s ks l => 1 + s.size + keysBulk ks + V.bulks l
def V.bulks : List V → Nat
  | [] => 0
  | v :: r => v.bulk + V.bulks r
end
theorem V.ind {P : V → Prop} (h : ∀ k n s ks l, (∀ v ∈ l, P v) → P (.mk k n s ks l)) : ∀ v, P v
  | .mk k n s ks l => h k n s ks l (V.inds l)
  where
  V.inds : ∀ l : List V, ∀ v ∈ l, P v
    | [], _, hv => by cases hv
    | x :: r, v, hv => by
      cases hv with
      | head => exact V.ind h x
      | tail _ hv => exact V.inds r v hv
theorem deeps_append (a b : List V) : V.deeps (a ++ b) = max (V.deeps a) (V.deeps b) := by
  induction a with
  | nil => simp [V.deeps]
  | cons x r ih => simp only [List.cons_append, V.deeps, ih]; omega
theorem bulk_pos : ∀ v : V, 1 ≤ v.bulk
  | .mk _ _ _ _ _ => by simp only [V.bulk]; omega
theorem length_le_bulks (l : List V) : l.length ≤ V.bulks l := by
  induction l with
  | nil => simp
  | cons x r ih => have := bulk_pos x; simp only [List.length_cons, V.bulks]; omega
theorem bulk_le_of_mem {v : V} {l : List V} (h : v ∈ l) : v.bulk ≤ V.bulks l := by
  induction l with
  | nil => cases h
  | cons x r ih =>
    simp only [V.bulks]
    cases h with
    | head => omega
    | tail _ h => have := ih h; omega
theorem length_le_keysBulk (ks : List ByteArray) : ks.length ≤ keysBulk ks := by
  induction ks with
  | nil => simp
  | cons x r ih => simp only [List.length_cons, keysBulk]; omega
theorem key_le_keysBulk {k : ByteArray} {ks : List ByteArray} (h : k ∈ ks) : k.size ≤ keysBulk ks := by
  induction ks with
  | nil => cases h
  | cons x r ih =>
    simp only [keysBulk]
    cases h with
    | head => omega
    | tail _ h => have := ih h; omega
theorem size_le_bulk : ∀ v : V, v.size ≤ v.bulk := by
  refine V.ind fun k n s ks l ih => ?_
  have : V.sizes l ≤ V.bulks l := by
    induction l with
    | nil => simp [V.sizes, V.bulks]
    | cons x r ih2 =>
      have h1 := ih x (by simp)
      have h2 := ih2 fun v hv => ih v (by simp [hv])
      simp only [V.sizes, V.bulks]; omega
  simp only [V.size, V.bulk]; omega
theorem deep_le_size : ∀ v : V, v.deep ≤ v.size := by
  refine V.ind fun k n s ks l ih => ?_
  have : V.deeps l ≤ V.sizes l := by
    induction l with
    | nil => simp [V.sizes, V.deeps]
    | cons x r ih2 =>
      have h1 := ih x (by simp)
      have h2 := ih2 fun v hv => ih v (by simp [hv])
      simp only [V.sizes, V.deeps]; omega
  simp only [V.size, V.deep]; omega
theorem deeps_le_bulks (l : List V) : V.deeps l ≤ V.bulks l := by
  induction l with
  | nil => simp [V.deeps, V.bulks]
  | cons x r ih => have := deep_le_size x; have := size_le_bulk x; simp only [V.deeps, V.bulks]; omega
theorem snoc_get {α : Type} (l : List α) (k : Nat) (h : k < l.length) : l.take (k + 1) = l.take k ++ [l[k]] := List.take_succ_eq_append_getElem h
theorem deeps_snoc (l : List V) (k : Nat) (h : k < l.length) : V.deeps (l.take (k + 1)) = max (V.deeps (l.take k)) l[k].deep := by
  rw [snoc_get l k h, deeps_append]; simp [V.deeps]
abbrev Bs := List UInt8
/-- a digit's number -/
def hexV (c : UInt8) : Option Nat :=
  if 48 ≤ c.toNat ∧ c.toNat ≤ 57 then some (c.toNat - 48) else if 97 ≤ c.toNat ∧ c.toNat ≤ 102 then some (c.toNat - 87)
  else if 65 ≤ c.toNat ∧ c.toNat ≤ 70 then some (c.toNat - 55) else none
/-- digits read one behind the other -/
def hexGo : Nat → Bs → Option Nat
  | acc, [] => some acc
  | acc, c :: r => match hexV c with
    | some d => hexGo (16 * acc + d) r
    | none => none
/-- what the letters of an escape sequence of one letter stand for; none: it is none -/
def simpleV (c : UInt8) : Option Nat :=
  if c = 110 then some 10 else if c = 116 then some 9 else if c = 114 then some 13 else if c = 98 then some 8 else if c = 102 then some 12 else if c = 118 then some 11
  else if 127 < c.toNat ∨ c = 13 ∨ c = 120 ∨ c = 117 ∨ (48 ≤ c.toNat ∧ c.toNat ≤ 57) ∨ c = 10 then none else some c.toNat
/-- what stands behind a backslash: the units that it stands for, and how many bytes (without the backslash); none: it may not stand there -/
def esc (s : Bs) : Option (List Nat × Nat) :=
  match s with
  | [] => none
  | c :: r =>
    if c = 10 then some ([], 1)
    else if c = 48 then (match r with
      | d :: _ => if 48 ≤ d.toNat ∧ d.toNat ≤ 57 then none else some ([0], 1)
      | [] => some ([0], 1))
    else if c = 120 then (if r.length < 2 then none else match hexGo 0 (r.take 2) with
      | some n => some ([n], 3)
      | none => none)
    else if c = 117 then (if r.length < 4 then none else match hexGo 0 (r.take 4) with
      | some n => some ([n], 5)
      | none => none)
    else match simpleV c with
      | some n => some ([n], 1)
      | none => none
/-- what stands at the head of a literal's inside -/
def unit1 (s : Bs) : Option (List Nat × Nat) :=
  match s with
  | [] => none
  | c :: r =>
    if c = 92 then (match esc r with
      | some (l, n) => some (l, n + 1)
      | none => none)
    else if c = 10 ∨ c = 13 ∨ 127 < c.toNat then none
    else some ([c.toNat], 1)
/-- the inside of a literal that ends with q: the units gathered, the place where the reader stands -/
def rdGo (q : UInt8) : Nat → Bs → List Nat → Nat → Option (List Nat × Nat)
  | 0, _, _, _ => none
  | _ + 1, [], _, _ => none
  | f + 1, c :: r, out, k =>
    if c = q then some (out, k + 1) else
    match unit1 (c :: r) with
    | some (l, n) => rdGo q f ((c :: r).drop n) (out ++ l) (k + n)
    | none => none
def read (s : Bs) : Option (List Nat × Nat) :=
  match s with
  | [] => none
  | q :: r => if q = 39 ∨ q = 34 then rdGo q (r.length + 1) r [] 1 else none
theorem ret_bool {a b : Bool} (h : a = b) : Ending.returned (.bool a) = .returned (.bool b) := by rw [h]
theorem below_drewN (B : Nat) (w : World) (n : Nat) : Below B w (w.drewN n) := by
  cases n <;> exact ⟨rfl, rfl, rfl, Nat.le_refl _, fun _ _ => rfl⟩
theorem check_any (s : ByteArray) (w : World) (hs : s.size ≤ maxLen) :
    Calls Try.prog 45 #[.string s] w fun e w' => e = .returned (.bool (decide (s.size % 2 = 0))) ∧ w = w' := by
  unfold maxLen at hs
  go_enter Try.func45, Try.ntmps45
  go_wp2
  go_ret
  exact ⟨ret_bool (by rw [Bool.eq_iff_iff]; simp; omega), rfl⟩
theorem refCheck_any (s : ByteArray) (w : World) (hs : s.size ≤ maxLen) :
    Calls Try.prog 55 #[.string s] w fun e w' => e = .returned (.bool (decide (s.size % 2 = 0))) ∧ w = w' := by
  unfold maxLen at hs
  go_enter Try.func55, Try.ntmps55
  go_wp2
  go_ret
  exact ⟨ret_bool (by rw [Bool.eq_iff_iff]; simp; omega), rfl⟩
theorem size_list (s : ByteArray) : s.data.toList.length = s.size := (Lib.size_eq s).symm
/-- what a struct of type Data holds: the pieces of its five cells -/
structure X where
  k : Int
  n : Int
  s : ByteArray
  ka : Option Addr
  kn : Nat
  kc : Nat
  la : Option Addr
  ln : Nat
  lc : Nat
def X.v (x : X) : Value := .agg #[.int .i64 x.k, .int .i64 x.n, .string x.s, .slice x.ka x.kn x.kc, .slice x.la x.ln x.lc]
def X.cells (x : X) : Array Value := #[.int .i64 x.k, .int .i64 x.n, .string x.s, .slice x.ka x.kn x.kc, .slice x.la x.ln x.lc]
/-- the five cells from place o of block g on -/
structure At (w : World) (g o : Nat) (x : X) : Prop where
  c0 : w.cell? ⟨g, o, none⟩ = some (.int .i64 x.k)
  c1 : w.cell? ⟨g, o + 1, none⟩ = some (.int .i64 x.n)
  c2 : w.cell? ⟨g, o + 2, none⟩ = some (.string x.s)
  c3 : w.cell? ⟨g, o + 3, none⟩ = some (.slice x.ka x.kn x.kc)
  c4 : w.cell? ⟨g, o + 4, none⟩ = some (.slice x.la x.ln x.lc)
/-- a slice of strings that reads as ks, below block B -/
def StrsB (w : World) (B : Nat) (A : Option Addr) (ks : List ByteArray) : Prop :=
  ks = [] ∨ ∃ g o, A = some ⟨g, o, none⟩ ∧ g < B ∧ ∀ j (h : j < ks.length), w.cell? ⟨g, o + j, none⟩ = some (.string ks[j])
mutual
/-- the struct x reads as v, its rows below block B -/
def IsB (w : World) (B : Nat) : V → X → Prop
  | .mk k n s ks l, x => (x.k = k ∧ x.n = n ∧ x.s = s) ∧ (x.kn = ks.length ∧ x.kn ≤ x.kc ∧ StrsB w B x.ka ks) ∧ x.ln = l.length ∧ x.ln ≤ x.lc ∧ (l = [] ∨ ∃ g o, x.la = some ⟨g, o, none⟩ ∧ g < B ∧ IsAllB w B g o l)
/-- the structs from place o of block g on read as l -/
def IsAllB (w : World) (B : Nat) : Nat → Nat → List V → Prop
  | _, _, [] => True
  | g, o, v :: r => (∃ y, At w g o y ∧ IsB w B v y) ∧ IsAllB w B g (o + 5) r
end
/-- a slice of values that reads as l, below block B -/
def RowB (w : World) (B : Nat) (A : Option Addr) (l : List V) : Prop := l = [] ∨ ∃ g o, A = some ⟨g, o, none⟩ ∧ g < B ∧ IsAllB w B g o l
theorem isAll_iff (w : World) (B g : Nat) : ∀ (o : Nat) (l : List V), IsAllB w B g o l ↔ ∀ i (h : i < l.length), ∃ y, At w g (o + i * 5) y ∧ IsB w B l[i] y
  | o, [] => by simp [IsAllB]
  | o, v :: r => by
    rw [IsAllB, isAll_iff w B g (o + 5) r]
    constructor
    · rintro ⟨h0, h⟩ i hi
      cases i with
      | zero => exact h0
      | succ i =>
        obtain ⟨y, h1, h2⟩ := h i (by simpa using hi)
        exact ⟨y, by rw [show o + (i + 1) * 5 = o + 5 + i * 5 by omega]; exact h1, h2⟩
    · intro h
      refine ⟨h 0 (by simp), fun i hi => ?_⟩
      obtain ⟨y, h1, h2⟩ := h (i + 1) (by simpa using hi)
      exact ⟨y, by rw [show o + 5 + i * 5 = o + (i + 1) * 5 by omega]; exact h1, h2⟩
theorem isB_iff (w : World) (B : Nat) (v : V) (x : X) : IsB w B v x ↔ (x.k = v.k ∧ x.n = v.n ∧ x.s = v.s) ∧ (x.kn = v.ks.length ∧ x.kn ≤ x.kc ∧ StrsB w B x.ka v.ks) ∧ x.ln = v.l.length ∧ x.ln ≤ x.lc ∧ RowB w B x.la v.l := by
  cases v
  rw [IsB]
  rfl
theorem RowB.at_ {w : World} {B : Nat} {A : Option Addr} {l : List V} (h : RowB w B A l) {i : Nat} (hi : i < l.length) : ∃ g o, A = some ⟨g, o, none⟩ ∧ g < B ∧ ∃ y, At w g (o + i * 5) y ∧ IsB w B l[i] y := by
  rcases h with h | ⟨g, o, rfl, h1, h2⟩
  · subst h; simp at hi
  · exact ⟨g, o, rfl, h1, (isAll_iff w B g o l).1 h2 i hi⟩
theorem StrsB.at_ {w : World} {B : Nat} {A : Option Addr} {l : List ByteArray} (h : StrsB w B A l) {i : Nat} (hi : i < l.length) : ∃ g o, A = some ⟨g, o, none⟩ ∧ g < B ∧ w.cell? ⟨g, o + i, none⟩ = some (.string l[i]) := by
  rcases h with h | ⟨g, o, rfl, h1, h2⟩
  · subst h; simp at hi
  · exact ⟨g, o, rfl, h1, h2 i hi⟩
theorem At.below {w w' : World} {g o : Nat} {x : X} {B : Nat} (h : At w g o x) (hg : g < B) (hb : Below B w w') : At w' g o x :=
  ⟨(hb.cell (p := ⟨g, o, none⟩) hg).trans h.c0, (hb.cell (p := ⟨g, o + 1, none⟩) hg).trans h.c1, (hb.cell (p := ⟨g, o + 2, none⟩) hg).trans h.c2, (hb.cell (p := ⟨g, o + 3, none⟩) hg).trans h.c3, (hb.cell (p := ⟨g, o + 4, none⟩) hg).trans h.c4⟩
theorem StrsB.to {w w' : World} {B B' : Nat} {A : Option Addr} {l : List ByteArray} (h : StrsB w B A l) (hb : Below B w w') (hB : B ≤ B') : StrsB w' B' A l := by
  rcases h with h | ⟨g, o, rfl, h2, h3⟩
  · exact .inl h
  · exact .inr ⟨g, o, rfl, Nat.lt_of_lt_of_le h2 hB, fun j hj => (hb.cell (p := ⟨g, o + j, none⟩) h2).trans (h3 j hj)⟩
theorem RowB.to_of {w w' : World} {B B' : Nat} (hb : Below B w w') (hB : B ≤ B') {A : Option Addr} {l : List V} (ih : ∀ v ∈ l, ∀ x, IsB w B v x → IsB w' B' v x) (h : RowB w B A l) : RowB w' B' A l := by
  rcases h with h | ⟨g, o, rfl, h1, h2⟩
  · exact .inl h
  · refine .inr ⟨g, o, rfl, Nat.lt_of_lt_of_le h1 hB, (isAll_iff w' B' g o l).2 fun i hi => ?_⟩
    obtain ⟨y, h3, h4⟩ := (isAll_iff w B g o l).1 h2 i hi
    exact ⟨y, h3.below h1 hb, ih _ (List.getElem_mem hi) y h4⟩
theorem IsB.to {w w' : World} {B B' : Nat} (hb : Below B w w') (hB : B ≤ B') : ∀ (v : V) (x : X), IsB w B v x → IsB w' B' v x := by
  refine V.ind fun k n s ks l ih => ?_
  intro x h
  rw [isB_iff] at h ⊢
  obtain ⟨h1, ⟨h2, h3, h4⟩, h5, h6, h7⟩ := h
  exact ⟨h1, ⟨h2, h3, h4.to hb hB⟩, h5, h6, h7.to_of hb hB ih⟩
theorem RowB.to {w w' : World} {B B' : Nat} {A : Option Addr} {l : List V} (h : RowB w B A l) (hb : Below B w w') (hB : B ≤ B') : RowB w' B' A l := h.to_of hb hB fun v _ x hx => IsB.to hb hB v x hx
/-- .. wherever in memory -/
abbrev Strs (w : World) (A : Option Addr) (ks : List ByteArray) : Prop := StrsB w w.heap.size A ks
abbrev Is (w : World) (v : V) (x : X) : Prop := IsB w w.heap.size v x
abbrev Row (w : World) (A : Option Addr) (l : List V) : Prop := RowB w w.heap.size A l
theorem is_iff (w : World) (v : V) (x : X) : Is w v x ↔ (x.k = v.k ∧ x.n = v.n ∧ x.s = v.s) ∧ (x.kn = v.ks.length ∧ x.kn ≤ x.kc ∧ Strs w x.ka v.ks) ∧ x.ln = v.l.length ∧ x.ln ≤ x.lc ∧ Row w x.la v.l := isB_iff w _ v x
theorem StrsB.below {w w' : World} {A : Option Addr} {l : List ByteArray} (h : Strs w A l) (hb : Below w.heap.size w w') : Strs w' A l := h.to hb hb.size
theorem Is.below {w w' : World} (hb : Below w.heap.size w w') (v : V) (x : X) (h : Is w v x) : Is w' v x := IsB.to hb hb.size v x h
theorem RowB.below {w w' : World} {A : Option Addr} {l : List V} (h : Row w A l) (hb : Below w.heap.size w w') : Row w' A l := h.to hb hb.size
/-- the pieces of a struct that reads as v -/
theorem IsB.open {w : World} {B : Nat} {v : V} {x : X} (h : IsB w B v x) : ∃ ka kc la lc, x = ⟨v.k, v.n, v.s, ka, v.ks.length, kc, la, v.l.length, lc⟩ ∧ v.ks.length ≤ kc ∧ v.l.length ≤ lc ∧ StrsB w B ka v.ks ∧ RowB w B la v.l := by
  rw [isB_iff] at h
  obtain ⟨⟨h1, h2, h3⟩, ⟨h4, h5, h6⟩, h7, h8, h9⟩ := h
  obtain ⟨k, n, s, ka, kn, kc, la, ln, lc⟩ := x
  simp only at *
  subst h1 h2 h3 h4 h7
  exact ⟨ka, kc, la, lc, rfl, h5, h8, h6, h9⟩
theorem Is.mk {w : World} {v : V} {ka la : Option Addr} {kc lc : Nat} (h1 : v.ks.length ≤ kc) (h2 : v.l.length ≤ lc) (h3 : Strs w ka v.ks) (h4 : Row w la v.l) : Is w v ⟨v.k, v.n, v.s, ka, v.ks.length, kc, la, v.l.length, lc⟩ := by
  rw [is_iff]
  exact ⟨⟨rfl, rfl, rfl⟩, ⟨rfl, h1, h3⟩, rfl, h2, h4⟩
theorem below_alloc (w : World) (o : Obj) : Below w.heap.size w (w.alloc o) := (Below.refl _ _).alloc (Nat.le_refl _) _
/-- the keys of a Record: strings of units, no two the same -/
def okKeys (ks : List ByteArray) : Prop := (∀ k ∈ ks, k.size % 2 = 0) ∧ ks.Nodup
instance (ks : List ByteArray) : Decidable (okKeys ks) := inferInstanceAs (Decidable (_ ∧ _))
/-- a value may be, but for those within -/
def V.own (v : V) : Bool :=
  if v.k = 0 ∨ v.k = 1 then decide (v.n = 0 ∧ v.s.size = 0 ∧ v.ks.length = 0 ∧ v.l.length = 0)
  else if v.k = 2 then decide ((v.n = 0 ∨ v.n = 1) ∧ v.s.size = 0 ∧ v.ks.length = 0 ∧ v.l.length = 0)
  else if v.k = 3 then decide ((-9007199254740991 ≤ v.n ∧ v.n ≤ 9007199254740991) ∧ v.s.size = 0 ∧ v.ks.length = 0 ∧ v.l.length = 0)
  else if v.k = 4 then decide (v.n = 0 ∧ v.s.size % 2 = 0 ∧ v.ks.length = 0 ∧ v.l.length = 0)
  else if v.k = 5 then decide (v.n = 0 ∧ v.s.size = 0 ∧ v.ks.length = 0)
  else if v.k = 6 then decide (v.n = 0 ∧ v.s.size = 0 ∧ v.ks.length = v.l.length ∧ okKeys v.ks)
  else false
mutual
def V.may : V → Bool
  | .mk k n s ks l => V.own (.mk k n s ks l) && V.mays l
def V.mays : List V → Bool
  | [] => true
  | v :: r => v.may && V.mays r
end
theorem may_eq (v : V) : v.may = (v.own && V.mays v.l) := by cases v; rfl
theorem mays_append (a b : List V) : V.mays (a ++ b) = (V.mays a && V.mays b) := by
  induction a with
  | nil => simp [V.mays]
  | cons x r ih => simp only [List.cons_append, V.mays, ih, Bool.and_assoc]
theorem mays_all (l : List V) : V.mays l = l.all V.may := by
  induction l with
  | nil => rfl
  | cons x r ih => simp only [V.mays, ih, List.all_cons]
/-- what Check answers -/
def V.chk (v : V) : Int := if v.may = true then (if 20 < v.deep then 31 else 0) else 30
/-- the blocks F are as they were; the streams are as they were -/
structure Fr (F : Nat → Prop) (w w' : World) : Prop where
  os : w'.os = w.os
  tape : w'.tape = w.tape
  output : w'.output = w.output
  size : w.heap.size ≤ w'.heap.size
  block : ∀ k, F k → w'.heap[k]? = w.heap[k]?
theorem Fr.refl (F : Nat → Prop) (w : World) : Fr F w w := ⟨rfl, rfl, rfl, Nat.le_refl _, fun _ _ => rfl⟩
theorem Fr.trans {F : Nat → Prop} {a b c : World} (h : Fr F a b) (k : Fr F b c) : Fr F a c :=
  ⟨k.os.trans h.os, k.tape.trans h.tape, k.output.trans h.output, Nat.le_trans h.size k.size, fun i hi => (k.block i hi).trans (h.block i hi)⟩
theorem Fr.mono {F F' : Nat → Prop} {a b : World} (h : Fr F a b) (hF : ∀ k, F' k → F k) : Fr F' a b := ⟨h.os, h.tape, h.output, h.size, fun k hk => h.block k (hF k hk)⟩
theorem Fr.below {B : Nat} {w w' : World} (h : Fr (· < B) w w') : Below B w w' := ⟨h.os, h.tape, h.output, h.size, h.block⟩
theorem Fr.of {B : Nat} {w w' : World} (h : Below B w w') {F : Nat → Prop} (hF : ∀ k, F k → k < B) : Fr F w w' := ⟨h.os, h.tape, h.output, h.size, fun k hk => h.block k (hF k hk)⟩
theorem Fr.alloc {F : Nat → Prop} {a w : World} (h : Fr F a w) (hF : ∀ k, F k → k < a.heap.size) (o : Obj) : Fr F a (w.alloc o) :=
  h.trans ⟨rfl, rfl, rfl, by simp, fun k hk => Below.heap_alloc _ _ _ (Nat.lt_of_lt_of_le (hF k hk) h.size)⟩
theorem Fr.setCell {F : Nat → Prop} {a w : World} (h : Fr F a w) {p : Addr} (hp : ¬ F p.block) (u : Value) : Fr F a (w.setCell p u) :=
  h.trans ⟨rfl, rfl, rfl, by simp [World.setCell], fun k hk => Below.heap_setCell _ _ _ _ (by rintro rfl; exact hp hk)⟩
theorem Fr.drew {F : Nat → Prop} {a w : World} (h : Fr F a w) : Fr F a w.drew := ⟨h.os, h.tape, h.output, h.size, h.block⟩
theorem Fr.drewN {F : Nat → Prop} {a w : World} (h : Fr F a w) (n : Nat) : Fr F a (w.drewN n) := h.trans ⟨rfl, rfl, rfl, Nat.le_refl _, fun _ _ => rfl⟩
theorem Fr.grown {F : Nat → Prop} {a w w' : World} {row : Option Nat} (h : Fr F a w) (hF : ∀ k, F k → k < a.heap.size) (hg : w.grownBy w' row) (hr : ∀ k, row = some k → ¬ F k) : Fr F a w' :=
  h.trans ⟨hg.os, hg.tape, hg.output, hg.size, fun k hk => hg.block k (Nat.lt_of_lt_of_le (hF k hk) h.size) (fun e => hr k e.symm hk)⟩
theorem Fr.cell {F : Nat → Prop} {w w' : World} (h : Fr F w w') {p : Addr} (hp : F p.block) : w'.cell? p = w.cell? p := World.cell?_of_block (w := w) (h.block p.block hp)
/-- a place as it lies in memory: a slice, a depth -/
structure Pr where
  A : Option Addr
  n : Nat
  c : Nat
  d : Int
def Pr.vals (p : Pr) : List Value := [.slice p.A p.n p.c, .int .i64 p.d]
def Pr.v (p : Pr) : Value := .agg #[.slice p.A p.n p.c, .int .i64 p.d]
/-- the variable in block b is a stack of the call's own that holds st, away from the blocks F -/
def Stk (w : World) (F : Nat → Prop) (b : Nat) (st : List Pr) : Prop :=
  ∃ v, w.cell? ⟨b, 0, none⟩ = some v ∧ w.frozen? ⟨b, 0, none⟩ = false ∧ b < w.heap.size ∧ ¬ F b ∧ w.ownsRow 0 51 2 v st.length (st.flatMap Pr.vals) ∧ ∀ k, v.ownBlock = some k → k ≠ b ∧ ¬ F k
theorem flat_len (st : List Pr) : (st.flatMap Pr.vals).length = st.length * 2 := by
  induction st with
  | nil => rfl
  | cons p r ih => simp only [List.flatMap_cons, List.length_append, ih, Pr.vals, List.length_cons, List.length_nil]; omega
theorem flat_last (st : List Pr) (p : Pr) : ((st ++ [p]).flatMap Pr.vals)[st.length * 2]? = some (.slice p.A p.n p.c) ∧ ((st ++ [p]).flatMap Pr.vals)[st.length * 2 + 1]? = some (.int .i64 p.d) := by
  rw [List.flatMap_append]
  have h := flat_len st
  constructor
  · rw [List.getElem?_append_right (by omega), h]; simp [Pr.vals]
  · rw [List.getElem?_append_right (by omega), h]; simp [Pr.vals]
theorem own_pop {w : World} {B : Nat} {e : TypeId} {st : List Pr} {p : Pr} {g cap : Nat} (h : w.ownsRow B e 2 (.slice (some ⟨g, 0, none⟩) (st.length + 1) cap) (st.length + 1) ((st ++ [p]).flatMap Pr.vals)) :
    w.ownsRow B e 2 (.slice (some ⟨g, 0, none⟩) st.length cap) st.length (st.flatMap Pr.vals) := by
  have hl := flat_len st
  refine ⟨hl, ?_⟩
  rcases h.2 with ⟨hv, _⟩ | ⟨g', cap', cur, hv, hb, hg, hn, hm, hs, ht⟩
  · cases hv
  · injection hv with h1 h2 h3
    injection h1 with h1
    injection h1 with h1
    subst h1 h3
    refine .inr ⟨g, cap, cur, rfl, hb, hg, by omega, hm, hs, ?_⟩
    rw [List.flatMap_append] at ht
    have := congrArg (List.take (st.length * 2)) ht
    rw [List.take_take, Nat.min_eq_left (by omega), List.take_left' hl] at this
    exact this
theorem own_push {w w' : World} {B : Nat} {e : TypeId} {n : Nat} {v : Value} {xs : List Value} (h : w.ownsRow B e 2 v n xs) (hb : ∀ k, v.ownBlock = some k → w'.heap[k]? = w.heap[k]?) : w'.ownsRow B e 2 v n xs := by
  refine ⟨h.1, ?_⟩
  rcases h.2 with h2 | ⟨g, cap, cur, rfl, hb', hg, r⟩
  · exact .inl h2
  · exact .inr ⟨g, cap, cur, rfl, hb', by rw [hb g rfl]; exact hg, r⟩
theorem Stk.below {w w' : World} {F : Nat → Prop} {b : Nat} {st : List Pr} (h : Stk w F b st) (hb : Below w.heap.size w w') : Stk w' F b st := by
  obtain ⟨v, hc, hf, hbs, hFb, hown, hk⟩ := h
  exact ⟨v, (hb.cell (p := ⟨b, 0, none⟩) hbs).trans hc, (hb.frozen (p := ⟨b, 0, none⟩) hbs).trans hf, Nat.lt_of_lt_of_le hbs hb.size, hFb, own_push hown fun k hk' => hb.block k (hown.lt k hk').2, hk⟩
theorem Stk.alloc {w : World} {F : Nat → Prop} {b : Nat} {st : List Pr} (h : Stk w F b st) (o : Obj) : Stk (w.alloc o) F b st := h.below (below_alloc w o)
theorem Stk.mono {w : World} {F F' : Nat → Prop} {b : Nat} {st : List Pr} (h : Stk w F b st) (hF : ∀ k, F' k → k < w.heap.size → F k ∨ (k ≠ b ∧ ∀ v, w.cell? ⟨b, 0, none⟩ = some v → v.ownBlock ≠ some k)) : Stk w F' b st := by
  obtain ⟨v, hc, hf, hbs, hFb, hown, hk⟩ := h
  refine ⟨v, hc, hf, hbs, fun h => ?_, hown, fun k hk' => ⟨(hk k hk').1, fun h => ?_⟩⟩
  · rcases hF b h hbs with h | h
    · exact hFb h
    · exact h.1 rfl
  · rcases hF k h (hown.lt k hk').2 with h | h
    · exact (hk k hk').2 h
    · exact h.2 v hc hk'
theorem stk_set {w : World} {F : Nat → Prop} {b : Nat} {st : List Pr} {v old : Value} (hc : w.cell? ⟨b, 0, none⟩ = some old) (hf : w.frozen? ⟨b, 0, none⟩ = false) (hbs : b < w.heap.size) (hFb : ¬ F b)
    (hown : w.ownsRow 0 51 2 v st.length (st.flatMap Pr.vals)) (hk : ∀ k, v.ownBlock = some k → k ≠ b ∧ ¬ F k) : Stk (w.setCell ⟨b, 0, none⟩ v) F b st :=
  ⟨v, World.cell?_setCell_same _ _ _ hc, by rw [← hf]; simp, by simpa [World.setCell] using hbs, hFb, own_push hown fun k hk' => Below.heap_setCell _ _ _ _ (hk k hk').1, hk⟩
set_option maxRecDepth 4000 in
set_option maxHeartbeats 400000 in
theorem leave_any (F : Nat → Prop) (b : Nat) (st : List Pr) (p : Pr) (w : World) (hF : ∀ k, F k → k < w.heap.size) (h : Stk w F b (st ++ [p])) (hl : st.length ≤ 4194304) :
    Calls Try.prog 25 #[.pointer (some ⟨b, 0, none⟩)] w fun e w' => e = .returned p.v ∧ Stk w' F b st ∧ Fr F w w' := by
  obtain ⟨v, hc, hf, hbs, hFb, hown, hk⟩ := h
  rw [List.length_append, List.length_singleton] at hown
  obtain ⟨g, cap, rfl, -, hgs⟩ := hown.form (by omega)
  obtain ⟨hgb, hFg⟩ := hk g rfl
  have hcells := hown.cells (g := g) rfl
  have h0 := hcells _ _ (flat_last st p).1
  have h1 := hcells _ _ (flat_last st p).2
  have hadd : ∀ j, (⟨g, 0, none⟩ : Addr).add j = ⟨g, j, none⟩ := fun j => by unfold Addr.add; split <;> simp_all
  rw [hadd] at h0 h1
  have hcap : st.length + 1 ≤ cap := by
    rcases hown.2 with ⟨hv, _⟩ | ⟨g', cap', cur, hv, hb, hg, hn, hm, hs, ht⟩
    · cases hv
    · injection hv with h1 h2 h3
      omega
  obtain ⟨n, hn⟩ : ∃ n, n = st.length := ⟨_, rfl⟩
  have HO := Lib.hid (own_pop hown)
  rw [← hn] at h0 h1 hcap hc hl
  have HN := Lib.hid hn
  clear hcells hown hadd hk hn
  unfold Pr.v
  go_enter Try.func25, Try.ntmps25
  go_wp2_with fail
  have HO := HO.out
  have hN := HN.out
  subst hN
  have hS := stk_set (b := b) hc hf hbs hFb HO (fun k hk' => by
    have : g = k := by simpa [Value.ownBlock] using hk'
    subst this
    exact ⟨hgb, hFg⟩)
  exact bodyPost_ret (v := .agg #[.slice p.A p.n p.c, .int .i64 p.d]) (by simp [results, Try.results25, go_sem]) rfl
    ⟨rfl, (hS.alloc _).alloc _, (((Fr.refl F w).setCell hFb _).alloc hF _).alloc hF _⟩
theorem infoPlace : (Try.prog.info? 51).map (fun i => (i.zero, i.size, i.bytes)) = some (some (.agg #[.slice none 0 0, .int .i64 0]), 2, 32) := by kernel_rfl
/-- structs in a row of a block -/
def Cells (w : World) (F : Nat → Prop) (A : Option Addr) (ys : List X) : Prop := ys = [] ∨ ∃ g o, A = some ⟨g, o, none⟩ ∧ F g ∧ ∀ i (h : i < ys.length), At w g (o + i * 5) ys[i]
/-- what a place's elements have as elements -/
def kids (d : Int) (ys : List X) : List Pr := (ys.filter (fun y => 0 < y.ln)).map fun y => ⟨y.la, y.ln, y.lc, d + 1⟩
theorem kids_snoc_yes (d : Int) (ys : List X) (j : Nat) (h : j < ys.length) (h0 : 0 < ys[j].ln) : kids d (ys.take (j + 1)) = kids d (ys.take j) ++ [⟨ys[j].la, ys[j].ln, ys[j].lc, d + 1⟩] := by
  unfold kids
  rw [snoc_get _ _ h, List.filter_append, List.map_append]
  simp [h0]
theorem kids_snoc_no (d : Int) (ys : List X) (j : Nat) (h : j < ys.length) (h0 : ys[j].ln = 0) : kids d (ys.take (j + 1)) = kids d (ys.take j) := by
  unfold kids
  rw [snoc_get _ _ h, List.filter_append]
  simp [h0]
theorem kids_length (d : Int) (ys : List X) : (kids d ys).length ≤ ys.length := by
  unfold kids
  rw [List.length_map]
  exact List.length_filter_le _ _
theorem length_take_le' {α : Type} (l : List α) (j : Nat) : (l.take j).length ≤ j := List.length_take_le _ _
theorem At.fr {F : Nat → Prop} {w w' : World} {g o : Nat} {x : X} (h : At w g o x) (hg : F g) (hb : Fr F w w') : At w' g o x :=
  ⟨(hb.cell (p := ⟨g, o, none⟩) hg).trans h.c0, (hb.cell (p := ⟨g, o + 1, none⟩) hg).trans h.c1, (hb.cell (p := ⟨g, o + 2, none⟩) hg).trans h.c2, (hb.cell (p := ⟨g, o + 3, none⟩) hg).trans h.c3, (hb.cell (p := ⟨g, o + 4, none⟩) hg).trans h.c4⟩
theorem heap2_old (w : World) (a b : Obj) : ∀ k, k < w.heap.size → ((w.alloc a).alloc b).drew.heap[k]? = w.heap[k]? := fun k hk =>
  (((Below.refl w.heap.size w).alloc (Nat.le_refl _) a).alloc (by simp) b).drew.block k hk
theorem heap2_new (w : World) (a b : Obj) : ((w.alloc a).alloc b).drew.heap[w.heap.size + 1]? = some b := by
  show ((w.heap.push a).push b)[w.heap.size + 1]? = some b
  rw [Array.getElem?_push, if_pos (by simp)]
theorem heap2_size (w : World) (a b : Obj) : ((w.alloc a).alloc b).drew.heap.size = w.heap.size + 2 := by
  show ((w.heap.push a).push b).size = _
  simp
/-- a place is appended to the stack, as one step of a statement that leaves its order open -/
theorem step_push {ops : Array Oper} {o : Oper} {a : Act} {w : World} {K : Act → World → Prop} {Q : Exit → Act → World → Prop} {E : Prop} (hgd : o.guard = none) (s x : Operand)
    (ho : o.op = .call { callee := .builtin .append, args := #[s, x], argTypes := #[48, 48] })
    (i : TypeInfo) (hi : Try.prog.info? 51 = some i) (hz : i.zero = some (.agg #[.slice none 0 0, .int .i64 0])) (hsize : i.size = 2) (hby : i.bytes = 32)
    (w0 : World) (v : Value) (n : Nat) (xs : List Value) (hs : a.eval s = v) (hown : w0.ownsRow 0 51 2 v n xs) (hbel : ∀ k, k < w0.heap.size → w.heap[k]? = w0.heap[k]?)
    (B : Nat) (p q : Value) (hx : a.eval x = .slice (some ⟨B, 0, none⟩) 1 1) (hblk : w.heap[B]? = some (.cells #[p, q] 51 (0, 0))) (hp : p.oneCell' = true) (hq : q.oneCell' = true)
    (hn : n ≤ 4194304) (H : Nat) (hH : w.heap.size = H)
    (S : World → Prop) (hS : ∀ w', (∀ k, k < H → some k ≠ v.ownBlock → w'.heap[k]? = w.heap[k]?) → S w')
    (h : ∀ g cap w', S w' → w'.ownsRow 0 51 2 (.slice (some ⟨g, 0, none⟩) (n + 1) cap) (n + 1) (xs ++ [p, q]) → w.grownBy w' v.ownBlock → (v.ownBlock = some g ∨ g = H) → g < w'.heap.size → K (a.put o.dst (.slice (some ⟨g, 0, none⟩) (n + 1) cap)) w') :
    if Region.wanted o (yielded ops a.tmps) = true then Oper.wp Try.prog o a w K Q else E :=
  step_append_lies w hgd s x 48 ho 0 51 i _ 2 32 Try.underlying48 hi hz hsize hby rfl (by decide) v n xs hs (own_push hown fun k hk => hbel k (hown.lt k hk).2) ⟨B, 0, none⟩ 1 1 [p, q] hx rfl
    (World.news_of_block hblk) (by simp [hp, hq]) (by decide) (by unfold maxLen; omega) (by omega) (Nat.zero_le _) H hH fun g cap w' h1 h2 h3 h4 => h g cap w' (hS w' fun k hk hne => h2.block k (hH ▸ hk) hne) h1 h2 h3 h4
set_option maxRecDepth 4000 in
set_option maxHeartbeats 1000000 in
theorem enter_any (F : Nat → Prop) (b : Nat) (st : List Pr) (A : Option Addr) (ys : List X) (c : Nat) (d : Int) (w : World) (hF : ∀ k, F k → k < w.heap.size) (h : Stk w F b st) (hy : Cells w F A ys)
    (hl : st.length + ys.length ≤ 4194304) (hd : 0 ≤ d) (hd2 : d ≤ 4194304) :
    Calls Try.prog 28 #[.pointer (some ⟨b, 0, none⟩), .agg #[.slice A ys.length c, .int .i64 d]] w fun e w' => e = .returned (.tuple #[]) ∧ Stk w' F b (st ++ kids d ys) ∧ Fr F w w' := by
  obtain ⟨i0, hi, hz0, hz1, hz2⟩ := info_parts infoPlace
  have HC := Lib.hid hy
  have HF := Lib.hid hF
  have HS := Lib.hid h
  clear hy hF h
  have hwd : IntKind.i64.wrap (d + 1) = d + 1 := IntWalk.i64_in _ (by omega)
  go_enter Try.func28, Try.ntmps28
  go_wp2_with fail
  go_loopw [9] (fun i wr => ∃ j : Nat, j ≤ ys.length ∧ i = .int .i64 j ∧ Stk wr (fun k => F k ∨ k = w.heap.size) b (st ++ kids d (ys.take j)) ∧ Fr (fun k => F k ∨ k = w.heap.size) (w.alloc (.cells #[.slice A ys.length c, .int .i64 d] 51)) wr)
    (fun i _ => ys.length - (intOf i).toNat)
  case atStart =>
    refine ⟨0, Nat.zero_le _, rfl, ?_, Fr.refl _ _⟩
    have h2 := HS.out.alloc (.cells #[.slice A ys.length c, .int .i64 d] 51)
    have e : kids d (ys.take 0) = [] := rfl
    rw [e, List.append_nil]
    obtain ⟨v, hc, hf, hbs, hFb, hown, hk⟩ := HS.out
    refine h2.mono fun k hk' _ => ?_
    rcases hk' with hk' | rfl
    · exact .inl hk'
    · refine .inr ⟨by omega, fun v' hv' => ?_⟩
      rw [World.cell?_alloc_lt _ _ _ hbs, hc] at hv'
      cases hv'
      intro hb'
      have := (hown.lt _ hb').2
      omega
  case round =>
    obtain ⟨j, hj, rfl, hs, hb⟩ := hrel
    by_cases hlt : j < ys.length
    · obtain ⟨g, o, rfl, hg, hcell⟩ : ∃ g o, A = some ⟨g, o, none⟩ ∧ F g ∧ ∀ i (h : i < ys.length), At w g (o + i * 5) ys[i] := by
        rcases HC.out with h | h
        · subst h; simp at hlt
        · exact h
      have hgs := HF.out g hg
      obtain ⟨c0, c1, c2, c3, c4⟩ := ((hcell j hlt).below (B := w.heap.size) hgs (below_alloc w (.cells #[.slice (some ⟨g, o, none⟩) ys.length c, .int .i64 d] 51))).fr (F := fun k => F k ∨ k = w.heap.size) (.inl hg) hb
      have p0 : wr.cell? ⟨w.heap.size, 1, none⟩ = some (.int .i64 d) := (hb.cell (p := ⟨w.heap.size, 1, none⟩) (.inr rfl)).trans (by simp)
      clear hcell
      by_cases h0 : 0 < ys[j].ln
      · have HK := Lib.hid (kids_snoc_yes d ys j hlt h0)
        obtain ⟨v, hc, hf, hbs, hFb, hown, hk⟩ := hs
        generalize ys[j] = y at *
        obtain ⟨k, n, s, ka, kn, kc, la, ln, lc⟩ := y
        simp only at *
        have hbb : b ≠ wr.heap.size := by omega
        have HO := Lib.hid hown
        have HKK := Lib.hid hk
        have hln := length_take_le' ys j
        have hkl := kids_length d (ys.take j)
        have hsl : (st ++ kids d (ys.take j)).length ≤ 4194304 - 1 := by
          rw [List.length_append]
          omega
        have hlv : v.oneCell' = true := by
          rcases hown.2 with ⟨rfl, _⟩ | ⟨_, _, _, rfl, _⟩ <;> rfl
        have hst : ∀ (x : Pr) (w2 : World), Stk w2 (fun k => F k ∨ k = w.heap.size) b (st ++ kids d (ys.take j) ++ [x]) → Stk w2 (fun k => F k ∨ k = w.heap.size) b (st ++ (kids d (ys.take j) ++ [x])) := fun x w2 h => by
          rw [← List.append_assoc]; exact h
        have hst := Lib.hid (hst ⟨la, ln, lc, d + 1⟩)
        generalize st ++ kids d (ys.take j) = st' at *
        have hvb : some b ≠ v.ownBlock := fun e => (hk b e.symm).1 rfl
        have hvw : some wr.heap.size ≠ v.ownBlock := fun e => by have := (hown.lt _ e.symm).2; omega
        have hvx : some w.heap.size ≠ v.ownBlock := fun e => (hk _ e.symm).2 (.inr rfl)
        have hsz : w.heap.size < wr.heap.size := by have := hb.size; simp at this; omega
        have HSS : Hid (∀ w' : World, (∀ q, q < wr.heap.size + 2 → some q ≠ v.ownBlock → w'.heap[q]? = ((wr.alloc (.cells #[.int .i64 k, .int .i64 n, .string s, .slice ka kn kc, .slice la ln lc] 25)).alloc (.cells #[.slice la ln lc, .int .i64 (d + 1)] 51)).drew.heap[q]?) →
            w'.cell? ⟨b, 0, none⟩ = some v ∧ w'.cell? ⟨wr.heap.size, 4, none⟩ = some (.slice la ln lc) ∧ w'.cell? ⟨w.heap.size, 1, none⟩ = some (.int .i64 d) ∧ w'.frozen? ⟨b, 0, none⟩ = false) := fun w' hw => by
          refine ⟨?_, ?_, ?_, ?_⟩
          · rw [World.cell?_of_block (w := wr) ((hw b (by omega) hvb).trans (heap2_old wr _ _ b hbs))]; exact hc
          · rw [World.cell?_of_block (hw wr.heap.size (by omega) hvw)]
            show ((wr.alloc _).alloc _).cell? _ = _
            rw [World.cell?_alloc_lt _ _ _ (by simp)]
            simp
          · rw [World.cell?_of_block (w := wr) ((hw w.heap.size (by omega) hvx).trans (heap2_old wr _ _ _ hsz))]; exact p0
          · rw [World.frozen?_of_block (w := wr) ((hw b (by omega) hvb).trans (heap2_old wr _ _ b hbs))]; exact hf
        clear hown hk hkl hln hvb hvw hvx
        go_wp2_with fail
        go_region_law
          ((first | (refine step_push rfl _ _ (by rfl) i0 hi hz0 hz1 hz2 wr v _ _ ?c1 HO.out ?c2 (wr.heap.size + 1) (.slice la ln lc) (.int .i64 (d + 1)) ?c3 ?c4 rfl rfl (by omega) (wr.heap.size + 2) ?c5 _ HSS.out ?_; (case c2 => exact heap2_old wr _ _); (case c4 => exact heap2_new wr _ _); (case c5 => exact heap2_size wr _ _); (case c1 => rfl); (case c3 => rfl); rintro g' cap' w1 ⟨e1, e2, e3, e4⟩ hown1 hgrow hat hlt1)))
        all_goals
          have HR : Hid (Stk (w1.setCell ⟨b, 0, none⟩ (.slice (some ⟨g', 0, none⟩) (st'.length + 1) cap')) (fun k => F k ∨ k = w.heap.size) b (st' ++ [⟨la, ln, lc, d + 1⟩]) ∧ Fr (fun k => F k ∨ k = w.heap.size) wr (w1.setCell ⟨b, 0, none⟩ (.slice (some ⟨g', 0, none⟩) (st'.length + 1) cap'))) := by
            have hF' : ∀ k, F k ∨ k = w.heap.size → k < wr.heap.size := fun k hk => by
              rcases hk with hk | rfl
              · exact Nat.lt_trans (HF.out k hk) hsz
              · exact hsz
            refine ⟨stk_set e1 e4 ?_ hFb ?_ fun k hk => ?_, ?_⟩
            · have := hgrow.size
              rw [heap2_size] at this
              omega
            · rw [List.length_append, List.flatMap_append]
              exact hown1
            · have : g' = k := by simpa [Value.ownBlock] using hk
              subst this
              rcases hat with hat | hat
              · exact HKK.out _ hat
              · subst hat
                exact ⟨by omega, fun h => by have := hF' _ h; omega⟩
            · exact ((((Fr.refl _ wr).alloc hF' _).alloc hF' _).drew.grown hF' hgrow fun k hk => (HKK.out k hk).2).setCell hFb _
          clear hown1 hgrow hat hlt1 e1 e2 e3 e4 HSS HO HKK
          generalize w1.setCell ⟨b, 0, none⟩ (.slice (some ⟨g', 0, none⟩) (st'.length + 1) cap') = w2 at *
          go_wp2_with fail
          go_roundw
          case rel => exact ⟨j + 1, by omega, by go_num, by rw [HK.out]; exact hst.out _ HR.out.1, hb.trans HR.out.2⟩
          case measure => simp [intOf]; omega
      · have HK := Lib.hid (kids_snoc_no d ys j hlt (by omega))
        have h0' : ys[j].ln = 0 := by omega
        generalize ys[j] = y at *
        obtain ⟨k, n, s, ka, kn, kc, la, ln, lc⟩ := y
        simp only at *
        subst h0'
        clear h0
        go_wp2_with fail
        go_roundw
        case rel => exact ⟨j + 1, by omega, by go_num, by rw [HK.out]; exact hs.alloc _, hb.alloc (fun k hk => by rcases hk with hk | rfl; exact Nat.lt_of_lt_of_le (HF.out k hk) (by simp); simp) _⟩
        case measure => simp [intOf]; omega
    · obtain rfl : j = ys.length := by omega
      go_wp2
      go_end0
      rw [List.take_length] at hs
      refine ⟨rfl, ?_, ?_⟩
      · exact hs.mono fun k hk _ => .inl (.inl hk)
      · exact ((Fr.refl F w).alloc HF.out _).trans (hb.mono fun k hk => .inl hk)
theorem at_of_block {w : World} {g : Nat} {x : X} {fr : Nat × Nat} (h : w.heap[g]? = some (.cells x.cells 25 fr)) : At w g 0 x :=
  ⟨by rw [cell_of_row w g 0 x.cells _ fr h]; rfl, by rw [cell_of_row w g 1 x.cells _ fr h]; rfl, by rw [cell_of_row w g 2 x.cells _ fr h]; rfl, by rw [cell_of_row w g 3 x.cells _ fr h]; rfl, by rw [cell_of_row w g 4 x.cells _ fr h]; rfl⟩
theorem heap3 (w : World) (a b c : Obj) : ((((w.alloc a).alloc b).alloc c).heap[w.heap.size + 1]? = some b) ∧ ((((w.alloc a).alloc b).alloc c).heap[w.heap.size + 2]? = some c) := by
  constructor
  · show (((w.heap.push a).push b).push c)[w.heap.size + 1]? = some b
    rw [Array.getElem?_push, if_neg (by simp), Array.getElem?_push, if_pos (by simp)]
  · show (((w.heap.push a).push b).push c)[w.heap.size + 2]? = some c
    rw [Array.getElem?_push, if_pos (by simp)]
theorem walkOf_any (x : X) (w : World) :
    Calls Try.prog 24 #[x.v] w fun e w' => ∃ g, e = .returned (.slice (some ⟨g + 1, 0, none⟩) 1 1) ∧ w.heap.size ≤ g ∧ g + 1 < w'.heap.size ∧ w'.heap[g]? = some (.cells x.cells 25 (0, 0)) ∧
      w'.ownsRow 0 51 2 (.slice (some ⟨g + 1, 0, none⟩) 1 1) 1 [.slice (some ⟨g, 0, none⟩) 1 1, .int .i64 1] ∧ Below w.heap.size w w' := by
  obtain ⟨k, n, s, ka, kn, kc, la, ln, lc⟩ := x
  unfold X.v X.cells
  go_enter Try.func24, Try.ntmps24
  go_wp2_with fail
  go_ret
  obtain ⟨h1, h2⟩ := heap3 w (.cells #[.int .i64 k, .int .i64 n, .string s, .slice ka kn kc, .slice la ln lc] 25) (.cells #[.int .i64 k, .int .i64 n, .string s, .slice ka kn kc, .slice la ln lc] 25) (.cells #[.slice (some ⟨w.heap.size + 1, 0, none⟩) 1 1, .int .i64 1] 51)
  refine ⟨w.heap.size + 1, rfl, by omega, by simp, h1, ⟨rfl, .inr ⟨_, _, _, rfl, Nat.zero_le _, h2, Nat.le_refl _, by decide, rfl, rfl⟩⟩, ?_⟩
  exact (((Below.refl _ _).alloc (Nat.le_refl _) _).alloc (by simp) _).alloc (by simp; omega) _
/-- a place: a slice that reads as l, a depth -/
structure Pl where
  A : Option Addr
  c : Nat
  l : List V
  d : Nat
def Pl.pr (p : Pl) : Pr := ⟨p.A, p.l.length, p.c, p.d⟩
def Rows (w : World) (B : Nat) (st : List Pl) : Prop := ∀ p ∈ st, RowB w B p.A p.l ∧ p.l ≠ []
def sumL (f : List V → Nat) : List Pl → Nat
  | [] => 0
  | p :: r => f p.l + sumL f r
theorem sumL_append (f : List V → Nat) (a b : List Pl) : sumL f (a ++ b) = sumL f a + sumL f b := by
  induction a with
  | nil => simp [sumL]
  | cons x r ih => simp only [List.cons_append, sumL, ih]; omega
theorem rows_len {w : World} {B : Nat} {st : List Pl} (h : Rows w B st) : st.length ≤ sumL V.bulks st := by
  induction st with
  | nil => simp
  | cons p r ih =>
    have h1 := ih fun q hq => h q (by simp [hq])
    have h2 : 1 ≤ p.l.length := by
      have := (h p (by simp)).2
      cases hp : p.l with
      | nil => exact absurd hp this
      | cons _ _ => simp
    have h3 := length_le_bulks p.l
    simp only [List.length_cons, sumL]
    omega
/-- the elements of a row, each with its struct -/
theorem all_pairs (w : World) (B g : Nat) : ∀ (l : List V) (o : Nat), IsAllB w B g o l → ∃ ps : List (V × X), ps.map (·.1) = l ∧ (∀ i (h : i < (ps.map (·.2)).length), At w g (o + i * 5) (ps.map (·.2))[i]) ∧ ∀ p ∈ ps, IsB w B p.1 p.2
  | [], o, _ => ⟨[], rfl, fun i h => by simp at h, fun p h => by cases h⟩
  | v :: r, o, h => by
    rw [IsAllB] at h
    obtain ⟨⟨y, h1, h2⟩, h3⟩ := h
    obtain ⟨ps, h4, h5, h6⟩ := all_pairs w B g r (o + 5) h3
    refine ⟨(v, y) :: ps, by simp [h4], fun i hi => ?_, fun p hp => ?_⟩
    · cases i with
      | zero => simpa using h1
      | succ i =>
        have := h5 i (by simpa using hi)
        rw [show o + (i + 1) * 5 = o + 5 + i * 5 by omega]
        simpa using this
    · cases hp with
      | head => exact h2
      | tail _ hp => exact h6 p hp
theorem row_pairs {w : World} {B : Nat} {A : Option Addr} {l : List V} (h : RowB w B A l) : ∃ ps : List (V × X), ps.map (·.1) = l ∧ Cells w (· < B) A (ps.map (·.2)) ∧ ∀ p ∈ ps, IsB w B p.1 p.2 := by
  rcases h with rfl | ⟨g, o, rfl, hg, h⟩
  · exact ⟨[], rfl, .inl rfl, fun p h => by cases h⟩
  · obtain ⟨ps, h1, h2, h3⟩ := all_pairs w B g l o h
    exact ⟨ps, h1, .inr ⟨g, o, rfl, hg, h2⟩, h3⟩
/-- the places that the elements of a row at depth d have -/
def kidsP (d : Nat) (ps : List (V × X)) : List Pl := (ps.filter (fun p => 0 < p.2.ln)).map fun p => ⟨p.2.la, p.2.lc, p.1.l, d + 1⟩
theorem is_len {w : World} {B : Nat} {v : V} {x : X} (h : IsB w B v x) : x.ln = v.l.length := ((isB_iff w B v x).1 h).2.2.1
theorem is_row {w : World} {B : Nat} {v : V} {x : X} (h : IsB w B v x) : RowB w B x.la v.l := ((isB_iff w B v x).1 h).2.2.2.2
theorem kidsP_pr {w : World} {B : Nat} (d : Nat) (ps : List (V × X)) (h : ∀ p ∈ ps, IsB w B p.1 p.2) : (kidsP d ps).map Pl.pr = kids d (ps.map (·.2)) := by
  unfold kidsP kids
  induction ps with
  | nil => rfl
  | cons p r ih =>
    have ih := ih fun q hq => h q (by simp [hq])
    have hl := is_len (h p (by simp))
    rw [List.map_cons, List.filter_cons, List.filter_cons]
    by_cases h0 : 0 < p.2.ln
    · simp only [h0, decide_true, if_true, List.map_cons, ih]
      congr 1
      show Pr.mk _ _ _ _ = _
      rw [← hl]
      rfl
    · simp only [h0, decide_false, Bool.false_eq_true, if_false, ih]
theorem kidsP_rows {w : World} {B : Nat} (d : Nat) (ps : List (V × X)) (h : ∀ p ∈ ps, IsB w B p.1 p.2) : Rows w B (kidsP d ps) := by
  intro q hq
  unfold kidsP at hq
  obtain ⟨p, hp, rfl⟩ := List.mem_map.1 hq
  obtain ⟨hp, h0⟩ := List.mem_filter.1 hp
  have := h p hp
  have hl := is_len this
  refine ⟨is_row this, fun e => ?_⟩
  have h0 := of_decide_eq_true h0
  simp only at e
  rw [e] at hl
  simp at hl
  omega
theorem kidsP_sum {w : World} {B : Nat} (f : List V → Nat) (hf : f [] = 0) (d : Nat) (ps : List (V × X)) (h : ∀ p ∈ ps, IsB w B p.1 p.2) : sumL f (kidsP d ps) = ((ps.map (·.1)).map fun v => f v.l).sum := by
  unfold kidsP
  induction ps with
  | nil => rfl
  | cons p r ih =>
    have ih := ih fun q hq => h q (by simp [hq])
    have hl := is_len (h p (by simp))
    rw [List.filter_cons]
    by_cases h0 : 0 < p.2.ln
    · simp only [h0, decide_true, if_true, List.map_cons, sumL, ih, List.sum_cons]
    · simp only [h0, decide_false, Bool.false_eq_true, if_false, ih, List.map_cons, List.sum_cons]
      have : p.1.l = [] := List.eq_nil_of_length_eq_zero (by omega)
      rw [this, hf]
      omega
theorem sum_bulks (l : List V) : (l.map fun v => V.bulks v.l).sum + l.length ≤ V.bulks l := by
  induction l with
  | nil => simp [V.bulks]
  | cons v r ih =>
    have : 1 + V.bulks v.l ≤ v.bulk := by cases v; simp only [V.bulk, V.l]; omega
    simp only [List.map_cons, List.sum_cons, List.length_cons, V.bulks]
    omega
theorem Cells.fr {w w' : World} {F F' : Nat → Prop} {A : Option Addr} {ys : List X} (h : Cells w F A ys) (hF : ∀ k, F k → F' k) (hb : Fr F w w') : Cells w' F' A ys := by
  rcases h with h | ⟨g, o, rfl, hg, hc⟩
  · exact .inl h
  · exact .inr ⟨g, o, rfl, hF g hg, fun i hi => (hc i hi).fr hg hb⟩
theorem Stk.open {w : World} {F : Nat → Prop} {b : Nat} {st : List Pr} (h : Stk w F b st) : ∃ A c, w.cell? ⟨b, 0, none⟩ = some (.slice A st.length c) := by
  obtain ⟨v, hc, _, _, _, hown, _⟩ := h
  rcases hown.2 with ⟨rfl, h0⟩ | ⟨g, cap, cur, rfl, _⟩
  · exact ⟨_, _, by rw [hc, h0]⟩
  · exact ⟨_, _, hc⟩
/-- the variable is copied: the stack lies there -/
theorem Stk.move {w : World} {F : Nat → Prop} {b : Nat} {st : List Pr} {A : Option Addr} {c : Nat} (h : Stk w F b st) (hF : ∀ k, F k → k < w.heap.size) (hc : w.cell? ⟨b, 0, none⟩ = some (.slice A st.length c)) : Stk (w.alloc (.cells #[.slice A st.length c] 48)) F w.heap.size st := by
  obtain ⟨v, hv, hf, hbs, hFb, hown, hk⟩ := h
  rw [hc] at hv
  injection hv with hv
  subst hv
  refine ⟨_, by simp, by simp, by simp, fun h => Nat.lt_irrefl _ (hF _ h), hown.alloc _, fun k hk' => ⟨?_, (hk k hk').2⟩⟩
  have := (hown.lt k hk').2
  omega
/-- the slice is new: its cells are news -/
def Fresh (w w' : World) (e : TypeId) (A : Option Addr) (m c : Nat) (news : List Value) : Prop :=
  (m = 0 ∧ A = none ∧ c = 0) ∨ (0 < m ∧ ∃ n cur, A = some ⟨n, 0, none⟩ ∧ w.heap.size ≤ n ∧ n < w'.heap.size ∧ m ≤ c ∧ w'.heap[n]? = some (.cells cur e (0, 0)) ∧ ∀ j u, news[j]? = some u → w'.cell? ⟨n, j, none⟩ = some u)
theorem Fresh.lt {w w' : World} {e : TypeId} {A : Option Addr} {m c : Nat} {news : List Value} (h : Fresh w w' e A m c news) : m ≤ c := by
  rcases h with ⟨h1, _, h2⟩ | ⟨_, _, _, _, _, _, h, _⟩ <;> omega
theorem run_nil_zero {P : Program} {w : World} (t ty e : TypeId) (i : TypeInfo) (ht : P.underlying t = some (.slice e)) (hi : P.info? e = some i) (A : Option Addr) (c : Nat) :
    (Builtin.append_ #[t, t] ty #[.slice none 0 0, .slice A 0 c]).run P w = .ok (.slice none 0 0) w := by
  cases A <;> simp [Builtin.append_, run_underlying ht, sizeOf, typeInfo, hi, Builtin.lenOf, Builtin.firstCells, loadCells, loadCellsFrom]
theorem max_nat (a b : Nat) : max (a : Int) (b : Int) = ((max a b : Nat) : Int) := by omega
set_option maxRecDepth 4000 in
set_option maxHeartbeats 400000 in
theorem refDeep_any : ∀ (v : V) (x : X) (w : World), Is w v x → v.bulk ≤ 4194304 →
    Calls Try.prog 33 #[x.v] w fun e w' => e = .returned (.int .i64 (v.deep : Nat)) ∧ Below w.heap.size w w' := by
  refine V.ind fun k n s ks l ih => ?_
  intro x w h hbk
  obtain ⟨ka, kc, la, lc, rfl, h1, h2, h3, h4⟩ := h.open
  simp only [V.k, V.n, V.s, V.ks, V.l] at *
  have hbl : V.bulks l ≤ 4194304 := by
    simp only [V.bulk] at hbk
    omega
  have hll : l.length ≤ 4194304 := Nat.le_trans (length_le_bulks l) hbl
  have hdl : V.deeps l ≤ 4194304 := Nat.le_trans (deeps_le_bulks l) hbl
  clear hbk
  unfold X.v
  go_enter Try.func33, Try.ntmps33
  go_wp2_with fail
  go_loopw [3, 9] (fun t i wr => ∃ j : Nat, j ≤ l.length ∧ i = .int .i64 j ∧ t = .int .i64 ((V.deeps (l.take j) : Nat) : Int) ∧ Below w.heap.size w wr)
    (fun _ i _ => l.length - (intOf i).toNat)
  case atStart => exact ⟨0, Nat.zero_le _, rfl, rfl, below_alloc w _⟩
  case round =>
    obtain ⟨j, hj, rfl, rfl, hb⟩ := hrel
    by_cases hlt : j < l.length
    · obtain ⟨g, o, rfl, hg, y, hy, hv⟩ := h4.at_ hlt
      have hy' := hy.below hg hb
      obtain ⟨c0, c1, c2, c3, c4⟩ := hy'
      obtain ⟨ka', kc', la', lc', rfl, h1', h2', h3', h4'⟩ := hv.open
      have hr := Lib.hid fun w' (hb' : Below w.heap.size w w') => ih l[j] (List.getElem_mem hlt) _ w' (Is.below hb' _ _ hv) (Nat.le_trans (bulk_le_of_mem (List.getElem_mem hlt)) hbl)
      have hs := Lib.hid (deeps_snoc l j hlt)
      have HM := max_nat (V.deeps (l.take j)) l[j].deep
      simp only [X.v] at *
      generalize l[j] = u at *
      clear hv hy
      go_wp2_with fail
      refine (hr.out _ (hb.alloc (by have := hb.size; omega) _)).mono ?_
      rintro e w1 ⟨rfl, hb1⟩
      have hb2 := (hb.alloc (B := w.heap.size) (by have := hb.size; omega) (.cells #[.int .i64 u.k, .int .i64 u.n, .string u.s, .slice ka' u.ks.length kc', .slice la' u.l.length lc'] 25)).trans (hb1.mono (by have := hb.size; simp; omega))
      clear c0 c1 c2 c3 c4 hb1 hb
      go_wp2
      go_roundw
      case rel => exact ⟨j + 1, by omega, by go_num, by rw [hs.out], hb2⟩
      case measure => simp [intOf]; omega
    · obtain rfl : j = l.length := by omega
      rw [List.take_length]
      go_wp2
      go_ret
      exact ⟨by rw [V.deep]; rfl, hb⟩
theorem str_ne {a b : ByteArray} (h : ¬ a = b) : (a.toList == b.toList) = false := by
  rw [beq_eq_false_iff_ne]
  intro e
  rw [ByteArray.toList_eq, ByteArray.toList_eq] at e
  exact h (ByteArray.ext (Array.toList_inj.1 e))
theorem nodup_snoc {l : List ByteArray} {k : Nat} (h : k < l.length) (h1 : (l.take k).Nodup) (h2 : ∀ i, (hi : i < k) → ¬ l[i] = l[k]) : (l.take (k + 1)).Nodup := by
  rw [snoc_get l k h]
  refine List.nodup_append.2 ⟨h1, by simp, fun a ha b hb => ?_⟩
  simp at hb
  subst hb
  obtain ⟨i, hi, rfl⟩ := List.getElem_of_mem ha
  rw [List.getElem_take]
  rw [List.length_take] at hi
  exact h2 i (by omega)
theorem nodup_get {l : List ByteArray} (h : l.Nodup) {i k : Nat} (hik : i < k) (hk : k < l.length) : ¬ l[i] = l[k] :=
  List.pairwise_iff_getElem.1 h i k (by omega) hk hik
set_option maxRecDepth 8000 in
set_option maxHeartbeats 1000000 in
theorem refKeys_any (v : V) (x : X) (w : World) (h : Is w v x) (hbk : v.bulk ≤ 4194304) :
    Calls Try.prog 57 #[x.v] w fun e w' => e = .returned (.bool (decide (v.ks.length = v.l.length ∧ okKeys v.ks))) ∧ Below w.heap.size w w' := by
  obtain ⟨ka, kc, la, lc, rfl, h1, h2, h3, h4⟩ := h.open
  have hsz : keysBulk v.ks ≤ 4194304 := by
    cases v
    simp only [V.bulk, V.ks] at *
    omega
  have hwl : v.ks.length ≤ 4194304 := Nat.le_trans (length_le_keysBulk _) hsz
  simp only [X.v]
  obtain ⟨k, hk⟩ : ∃ n, n = v.k := ⟨_, rfl⟩
  obtain ⟨n, hn⟩ : ∃ n, n = v.n := ⟨_, rfl⟩
  obtain ⟨s, hs⟩ : ∃ s, s = v.s := ⟨_, rfl⟩
  obtain ⟨ln, hln⟩ : ∃ n, n = v.l.length := ⟨_, rfl⟩
  rw [← hk, ← hn, ← hs, ← hln]
  generalize v.ks = ks at *
  clear hk hn hs hln h4 h h2 hbk
  by_cases hl : ks.length = ln
  · subst hl
    rw [show decide (ks.length = ks.length ∧ okKeys ks) = decide (okKeys ks) by simp]
    go_enter Try.func57, Try.ntmps57
    go_wp2_with fail
    go_loop [17] (fun i => ∃ j : Nat, j ≤ ks.length ∧ i = .int .i64 j ∧ Hid (∀ y ∈ ks.take j, y.size % 2 = 0) ∧ Hid (ks.take j).Nodup)
      (fun i => ks.length - (intOf i).toNat)
    case atStart => exact ⟨0, Nat.zero_le _, rfl, fun y hy => by simp at hy, List.nodup_nil⟩
    case round =>
      obtain ⟨j, hj, rfl, hev, hnd⟩ := hrel
      by_cases hlt : j < ks.length
      · obtain ⟨g, o, rfl, hg, hc⟩ := h3.at_ hlt
        have hcx := ((below_alloc w (.cells #[.int .i64 k, .int .i64 n, .string s, .slice (some ⟨g, o, none⟩) ks.length kc, .slice la ks.length lc] 25)).cell (p := ⟨g, o + j, none⟩) hg).trans hc
        have HC := Lib.hid fun i (hi : i < ks.length) => h3.at_ hi
        have hmem := List.getElem_mem hlt
        have HM := Lib.hid hmem
        have hsy : ks[j].size ≤ 4194304 := Nat.le_trans (key_le_keysBulk hmem) hsz
        have HN := Lib.hid fun (hn : (ks.take (j + 1)).Nodup) => hn
        have HS := Lib.hid (fun (hh : ∀ i, (hi : i < j) → ¬ ks[i] = ks[j]) => nodup_snoc hlt hnd.out hh)
        have HT := Lib.hid (snoc_get ks j hlt)
        obtain ⟨y, hy⟩ : ∃ y, y = ks[j] := ⟨_, rfl⟩
        have HY := Lib.hid hy
        rw [← hy] at hcx hsy
        clear hc h3 hmem hnd hy HN
        go_wp2_with fail
        go_loop [27] (fun i => ∃ q : Nat, q ≤ j ∧ i = .int .i64 q ∧ Hid (∀ i, (hi : i < q) → (hj : i < ks.length) → ¬ ks[i] = y))
          (fun i => j - (intOf i).toNat)
        case atStart => exact ⟨0, Nat.zero_le _, rfl, fun i hi => by omega⟩
        case round =>
          obtain ⟨q, hq, rfl, hh⟩ := hrel
          by_cases hqj : q < j
          · obtain ⟨g', o', hA, -, hcq⟩ := HC.out q (by omega)
            injection hA with hA
            injection hA with hA1 hA2
            subst hA1 hA2
            have hcq' := ((below_alloc w (.cells #[.int .i64 k, .int .i64 n, .string s, .slice (some ⟨g, o, none⟩) ks.length kc, .slice la ks.length lc] 25)).cell (p := ⟨g, o + q, none⟩) hg).trans hcq
            have HQ : Hid (∀ z, z = ks[q] → ¬ z = y → ∀ i, (hi : i < q + 1) → (hj : i < ks.length) → ¬ ks[i] = y) := fun z hz hne i hi hj => by
              rcases Nat.lt_succ_iff_lt_or_eq.1 hi with hi | rfl
              · exact hh.out i hi hj
              · rw [← hz]; exact hne
            have HD := Lib.hid fun (hn : ks.Nodup) => nodup_get hn hqj hlt
            obtain ⟨z, hz⟩ : ∃ z, z = ks[q] := ⟨_, rfl⟩
            have HZ := Lib.hid hz
            rw [← hz] at hcq'
            clear hcq hz
            by_cases hzy : z = y
            · have HV : Hid (decide (okKeys ks) = false) := by
                show _ = false
                refine decide_eq_false fun h => HD.out h.2 ?_
                rw [← HZ.out, ← HY.out, hzy]
              subst hzy
              clear HD HZ HY HQ
              go_wp2_with fail
              go_ret
              exact ⟨by rw [HV.out]; rfl, below_alloc w _⟩
            · have hne := str_ne hzy
              have HQ' := Lib.hid (HQ.out z HZ.out hzy)
              clear HD HQ hzy
              go_wp2_with fail
              go_round
              case rel => exact ⟨q + 1, by omega, by go_num, HQ'.out⟩
              case measure => simp [intOf]; omega
          · obtain rfl : q = j := by omega
            have HS2 : Hid (ks.take (q + 1)).Nodup := HS.out fun i hi => by
              rw [← HY.out]
              exact hh.out i hi (by omega)
            have HCk := Lib.hid fun w => refCheck_any y w (by unfold maxLen; omega)
            by_cases he : y.size % 2 = 0
            · rw [decide_eq_true he] at HCk
              have HE : Hid (∀ z ∈ ks.take (q + 1), z.size % 2 = 0) := by
                intro z hz
                rw [HT.out, List.mem_append, List.mem_singleton] at hz
                rcases hz with hz | rfl
                · exact hev.out z hz
                · rw [← HY.out]; exact he
              clear he
              go_wp2_with fail
              refine (HCk.out _).mono ?_
              rintro e w' ⟨rfl, rfl⟩
              go_wp2_with fail
              go_round
              case rel => exact ⟨q + 1, by omega, by go_num, HE.out, HS2.out⟩
              case measure => simp [intOf]; omega
            · rw [decide_eq_false he] at HCk
              have HV : Hid (decide (okKeys ks) = false) := by
                show _ = false
                refine decide_eq_false fun h => he ?_
                rw [HY.out]
                exact h.1 _ HM.out
              clear he
              go_wp2_with fail
              refine (HCk.out _).mono ?_
              rintro e w' ⟨rfl, rfl⟩
              go_wp2_with fail
              go_ret
              exact ⟨by rw [HV.out]; rfl, below_alloc w _⟩
      · obtain rfl : j = ks.length := by omega
        have HV : Hid (decide (okKeys ks) = true) := by
          show _ = true
          have h1 := hev.out
          have h2 := hnd.out
          rw [List.take_length] at h1 h2
          exact decide_eq_true ⟨h1, h2⟩
        go_wp2_with fail
        go_ret
        exact ⟨by rw [HV.out]; rfl, below_alloc w _⟩
  · have hl' : ((ks.length : Int) == (ln : Int)) = false := by rw [beq_eq_false_iff_ne]; omega
    have HV : Hid (decide (ks.length = ln ∧ okKeys ks) = false) := by
      show _ = false
      exact decide_eq_false fun h => hl h.1
    have hl2 : ((ks.length : Int) != (ln : Int)) = true := by simp; omega
    clear h3 hsz
    generalize ks.length = kn at *
    go_enter Try.func57, Try.ntmps57
    go_wp2_with fail
    go_ret
    exact ⟨by rw [HV.out]; rfl, below_alloc w _⟩
open Go.RowKit Go.Maps Go.WideMaps
def keyL (s : ByteArray) : Lit := .string s.data.toList
theorem keyL_lit (s : ByteArray) : WideAt.IsKeyLit (keyL s) := by
  unfold keyL
  trivial
theorem keyL_inj {a b : ByteArray} (h : keyL a = keyL b) : a = b := by
  unfold keyL at h
  injection h with h
  apply ByteArray.ext
  exact Array.toList_inj.1 h
theorem any_key (x : ByteArray) : ∀ L : List ByteArray, ((L.map keyL).any (fun y => y.sameKey (keyL x)) = true) ↔ x ∈ L
  | [] => by simp
  | y :: r => by
    have ih := any_key x r
    rw [List.map_cons, List.any_cons, Bool.or_eq_true, ih]
    by_cases h : x = y
    · subst h
      rw [WideAt.sameKey_self (keyL_lit x)]
      simp
    · rw [sameKey_ne (fun e => h (keyL_inj e).symm)]
      simp [h]
theorem fold_keys : ∀ (xs L : List ByteArray), ∃ M : List ByteArray, (xs.map keyL).foldl addKey (L.map keyL) = M.map keyL ∧ M.length ≤ L.length + xs.length ∧ (L.Nodup → (M.length = L.length + xs.length ↔ (L ++ xs).Nodup))
  | [], L => ⟨L, rfl, by simp, fun h => by simpa using h⟩
  | x :: r, L => by
    rw [List.map_cons, List.foldl_cons]
    unfold addKey
    by_cases h : x ∈ L
    · obtain ⟨M, h1, h2, h3⟩ := fold_keys r L
      refine ⟨M, ?_, by simp; omega, fun hn => ?_⟩
      · rw [if_pos ((any_key x L).2 h)]
        exact h1
      · constructor
        · intro e
          simp at e
          omega
        · intro e
          exact absurd rfl ((List.nodup_append.1 e).2.2 x h x (by simp))
    · obtain ⟨M, h1, h2, h3⟩ := fold_keys r (L ++ [x])
      refine ⟨M, ?_, by simp at h2; simp; omega, fun hn => ?_⟩
      · rw [if_neg (fun e => h ((any_key x L).1 e)), ← h1, List.map_append]
        rfl
      · have hn2 : (L ++ [x]).Nodup := List.nodup_append.2 ⟨hn, by simp, fun a ha b hb e => by simp at hb; subst hb; subst e; exact h ha⟩
        have := h3 hn2
        rw [List.append_assoc, List.singleton_append] at this
        rw [← this]
        simp
        omega
/-- the set of the first k keys -/
def Sn (ks : List ByteArray) (k : Nat) : DataW Unit := setOf (.agg []) ((ks.take k).map keyL)
theorem Sn_succ (ks : List ByteArray) (k : Nat) (hk : k < ks.length) : Sn ks (k + 1) = (Sn ks k).put (keyL ks[k]) (.agg []) := by
  unfold Sn
  rw [snoc_get _ _ hk, List.map_append, List.map_singleton, setOf_snoc]
theorem Sn_zero (ks : List ByteArray) : Sn ks 0 = .map [] := rfl
theorem Sn_size (ks : List ByteArray) : (Maps.size (Sn ks ks.length) = ks.length) ↔ ks.Nodup := by
  unfold Sn
  rw [List.take_length, size_setOf _ _ (fun x hx => by obtain ⟨y, _, rfl⟩ := List.mem_map.1 hx; exact keyL_lit y)]
  obtain ⟨M, h1, h2, h3⟩ := fold_keys ks []
  have h4 := h3 List.nodup_nil
  rw [List.map_nil] at h1
  rw [h1, List.length_map]
  simpa using h4
theorem law9 : Keyed Try.prog 9 := string_keyed Try.underlying9
theorem makeMap_hint (w : World) (n : Int) : (Instr.makeMap 77 (some (.int .i64 n))).run Try.prog w = .ok (.map (some w.heap.size)) (w.alloc (.map #[] 0)) := by
  simp [Instr.makeMap, run_underlying Try.underlying77, asInt, Result.andThen]
  rfl
set_option maxRecDepth 100000 in
set_option maxHeartbeats 1000000 in
theorem distinct_any (A : Option Addr) (ks : List ByteArray) (c : Nat) (w : World) (h : Strs w A ks) (hb : keysBulk ks ≤ 4194304) :
    Calls Try.prog 46 #[.slice A ks.length c] w fun e w' => e = .returned (.bool (decide (okKeys ks))) ∧ Below w.heap.size w w' := by
  have hlen := length_le_keysBulk ks
  have hmm := makeMap_hint
  have HS := Lib.hid (Sn_size ks)
  go_enter Try.func46, Try.ntmps46
  go_wp2_with fail
  go_loopw [11] (fun i wr => ∃ k : Nat, k ≤ ks.length ∧ i = .int .i64 k ∧ wr.ownsMap Try.prog 9 unitElem w.heap.size k (Sn ks k) ∧ Below w.heap.size w wr ∧ Hid (∀ x ∈ ks.take k, x.size % 2 = 0))
    (fun i _ => ks.length - (intOf i).toNat)
  case atStart => exact ⟨0, Nat.zero_le _, rfl, by rw [Sn_zero]; exact World.ownsMap_made _ _ _ _, (Below.refl _ _).alloc (Nat.le_refl _) _, fun x hx => by simp at hx⟩
  case round =>
    obtain ⟨k, hk, rfl, hown, hnx, hev⟩ := hrel
    by_cases hlt : k < ks.length
    · obtain ⟨g, o, rfl, hg, hc⟩ := h.at_ hlt
      have hcx : wr.cell? ⟨g, o + k, none⟩ = some (.string ks[k]) := (hnx.cell (p := ⟨g, o + k, none⟩) hg).trans hc
      have hm := key_le_keysBulk (List.getElem_mem hlt)
      have hcr := Lib.hid fun w => check_any ks[k] w (by unfold maxLen; omega)
      have hkey : keyOf Try.prog 9 (.string ks[k]) = some (keyL ks[k]) := keyOf_string_mk Try.underlying9 (by unfold maxLen; omega)
      have HSn := Lib.hid (Sn_succ ks k hlt)
      have HT := Lib.hid (snoc_get ks k hlt)
      have hmem := List.getElem_mem hlt
      clear hc
      by_cases he : ks[k].size % 2 = 0
      · rw [decide_eq_true he] at hcr
        have HE : Hid (∀ x ∈ ks.take (k + 1), x.size % 2 = 0) := by
          intro x hx
          rw [HT.out, List.mem_append, List.mem_singleton] at hx
          rcases hx with hx | rfl
          · exact hev.out x hx
          · exact he
        generalize ks[k] = y at *
        clear he
        go_wp2_with (first
          | (go_at_call 45; refine (hcr.out _).mono ?_; rintro e w' ⟨rfl, rfl⟩)
          | (at_mapUpdate; refine wpList_mapUpdate_own _ rfl _ _ _ 77 rfl 9 78 law9 Try.underlying77 unitElem w.heap.size k _ rfl hown (by unfold maxLen; omega) _ _ _ rfl rfl hkey _ [] unitElem_mk ?_; intro w1 hown1 hgrow1))
        go_roundw
        case rel => exact ⟨k + 1, by omega, by go_num, HSn.out.symm ▸ hown1, hnx.grown hgrow1 hnx.size (fun j hj => by cases hj; exact Nat.le_refl _), HE.out⟩
        case measure => simp [intOf]; omega
      · rw [decide_eq_false he] at hcr
        have HV : Hid (decide (okKeys ks) = false) := by
          show decide (okKeys ks) = false
          exact decide_eq_false fun h => he (h.1 _ hmem)
        generalize ks[k] = y at *
        go_wp2_with (go_at_call 45; refine (hcr.out _).mono ?_; rintro e w' ⟨rfl, rfl⟩)
        go_ret
        exact ⟨by rw [HV.out]; rfl, hnx⟩
    · obtain rfl : k = ks.length := by omega
      have HV : Hid (decide (okKeys ks) = ((Maps.size (Sn ks ks.length) : Int) == (ks.length : Int))) := by
        show decide (okKeys ks) = _
        rw [Bool.eq_iff_iff]
        simp only [decide_eq_true_eq, beq_iff_eq]
        constructor
        · intro h
          have := HS.out.2 h.2
          omega
        · intro h
          refine ⟨fun x hx => hev.out x (by rw [List.take_length]; exact hx), HS.out.1 (by omega)⟩
      go_wp2_with (at_len; refine wpList_len_own _ rfl _ 77 rfl 9 78 Try.underlying77 _ w.heap.size _ _ rfl hown ?_)
      go_ret
      exact ⟨by rw [HV.out]; rfl, hnx⟩
end Go.Proofs.Ytnkknlhdbhfjlaa
