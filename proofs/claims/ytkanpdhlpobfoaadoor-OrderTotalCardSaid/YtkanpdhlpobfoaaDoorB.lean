/-
  PARTS IN MEMORY: what a part is as a value, a slice of parts that reads as a key.
-/
import Derived.Test.YtkanpdhlpobfoaaDoorA
import Derived.Test.YtkanpdhlpobfoaaDoorK
import Derived.Below
import Derived.Deep.Draws
namespace Go.Proofs.YtkanpdhlpobfoaaDoor
open Go.RowKit
open K (Pt)

theorem ret_bool {a b : Bool} (h : a = b) : Ending.returned (.bool a) = .returned (.bool b) := by rw [h]
theorem ret_int {k : IntKind} {a b : Int} (h : a = b) : Ending.returned (.int k a) = .returned (.int k b) := by rw [h]
def pV (p : Pt) : Value := .agg #[.bool p.t, .int .i64 p.n, .string p.s]
/-- the three cells from place o of block g on -/
structure At (w : World) (g o : Nat) (p : Pt) : Prop where
  c0 : w.cell? ⟨g, o, none⟩ = some (.bool p.t)
  c1 : w.cell? ⟨g, o + 1, none⟩ = some (.int .i64 p.n)
  c2 : w.cell? ⟨g, o + 2, none⟩ = some (.string p.s)
/-- a slice of parts that reads as k -/
def Row (w : World) (A : Option Addr) (k : List Pt) : Prop :=
  k = [] ∨ ∃ g o, A = some ⟨g, o, none⟩ ∧ g < w.heap.size ∧ ∀ j (h : j < k.length), At w g (o + j * 3) k[j]
theorem At.below {w w' : World} {g o : Nat} {p : Pt} {B : Nat} (h : At w g o p) (hg : g < B) (hb : Below B w w') : At w' g o p :=
  ⟨(hb.cell (p := ⟨g, o, none⟩) hg).trans h.c0, (hb.cell (p := ⟨g, o + 1, none⟩) hg).trans h.c1, (hb.cell (p := ⟨g, o + 2, none⟩) hg).trans h.c2⟩
theorem Row.below {w w' : World} {A : Option Addr} {k : List Pt} (h : Row w A k) (hb : Below w.heap.size w w') : Row w' A k := by
  rcases h with h | ⟨g, o, rfl, h1, h2⟩
  · exact .inl h
  · exact .inr ⟨g, o, rfl, Nat.lt_of_lt_of_le h1 hb.size, fun j hj => (h2 j hj).below h1 hb⟩
theorem Row.at_ {w : World} {A : Option Addr} {k : List Pt} (h : Row w A k) {i : Nat} (hi : i < k.length) : ∃ g o, A = some ⟨g, o, none⟩ ∧ g < w.heap.size ∧ At w g (o + i * 3) k[i] := by
  rcases h with h | ⟨g, o, rfl, h1, h2⟩
  · subst h; simp at hi
  · exact ⟨g, o, rfl, h1, h2 i hi⟩
theorem Row.take {w : World} {A : Option Addr} {k : List Pt} (h : Row w A k) (n : Nat) : Row w A (k.take n) := by
  rcases h with h | ⟨g, o, rfl, h1, h2⟩
  · subst h; exact .inl (by simp)
  · exact .inr ⟨g, o, rfl, h1, fun j hj => by
      rw [List.length_take] at hj
      rw [List.getElem_take]
      exact h2 j (by omega)⟩
theorem below_alloc (w : World) (o : Obj) : Below w.heap.size w (w.alloc o) := (Below.refl _ _).alloc (Nat.le_refl _) _
theorem below_drewN (B : Nat) (w : World) (n : Nat) : Below B w (w.drewN n) := by
  cases n <;> exact ⟨rfl, rfl, rfl, Nat.le_refl _, fun _ _ => rfl⟩
theorem cell_of_row (w : World) (g j : Nat) (cs : Array Value) (t : TypeId) (fr : Nat × Nat) (h : w.heap[g]? = some (.cells cs t fr)) : w.cell? ⟨g, j, none⟩ = cs[j]? := by
  simp [World.cell?, h]

/-! how much a key holds -/
def bulk : List Pt → Nat
  | [] => 0
  | p :: r => p.s.size + 1 + bulk r
theorem bulk_append (a b : List Pt) : bulk (a ++ b) = bulk a + bulk b := by
  induction a with
  | nil => simp [bulk]
  | cons p r ih => simp only [List.cons_append, bulk, ih]; omega
theorem length_le_bulk (k : List Pt) : k.length ≤ bulk k := by
  induction k with
  | nil => simp
  | cons p r ih => simp only [List.length_cons, bulk]; omega
theorem mem_bulk {p : Pt} {k : List Pt} (h : p ∈ k) : p.s.size + 1 ≤ bulk k := by
  induction k with
  | nil => cases h
  | cons q r ih =>
    simp only [bulk]
    cases h with
    | head => omega
    | tail _ h => have := ih h; omega
theorem esc_length (l : Bs) : (K.esc l).length = l.length + l.count 0 := by
  induction l with
  | nil => rfl
  | cons b r ih =>
    simp only [K.esc]
    by_cases h : b = 0
    · subst h; rw [if_pos rfl, List.length_cons, List.length_cons, ih, List.length_cons, List.count_cons_self]; omega
    · rw [if_neg h, List.length_cons, ih, List.length_cons, List.count_cons_of_ne h]; omega
theorem enc_length (p : Pt) : p.enc.length = if p.t then p.s.size + p.l.count 0 + 3 else 9 := by
  unfold Pt.enc
  split
  · simp only [List.length_cons, List.length_append, List.length_nil, esc_length, K.l_length]
  · simp only [List.length_cons, K.be_length]
theorem enc_le (p : Pt) : p.enc.length ≤ 9 * (p.s.size + 1) := by
  have h := List.count_le_length (a := (0 : UInt8)) (l := p.l)
  rw [K.l_length] at h
  rw [enc_length]
  split <;> omega
theorem encs_le (k : List Pt) : (K.encs k).length ≤ 9 * bulk k := by
  induction k with
  | nil => simp [K.encs, bulk]
  | cons p r ih =>
    have := enc_le p
    rw [K.encs_cons, List.length_append, bulk]
    omega
theorem take_bulk (k : List Pt) (j : Nat) : bulk (k.take j) ≤ bulk k := by
  have := bulk_append (k.take j) (k.drop j)
  rw [List.take_append_drop] at this
  omega
theorem snoc_get {α : Type} (l : List α) (k : Nat) (h : k < l.length) : l.take (k + 1) = l.take k ++ [l[k]] := List.take_succ_eq_append_getElem h
theorem encs_snoc (k : List Pt) (j : Nat) (h : j < k.length) : K.encs (k.take (j + 1)) = K.encs (k.take j) ++ k[j].enc := by
  rw [snoc_get k j h, K.encs_append]
  simp [K.encs]
/-- a part in a block of its own -/
def cellsP (p : Pt) : Obj := .cells #[.bool p.t, .int .i64 p.n, .string p.s] 39
structure At0 (w : World) (g : Nat) (p : Pt) : Prop where
  c0 : w.cell? ⟨g, 0, none⟩ = some (.bool p.t)
  c1 : w.cell? ⟨g, 1, none⟩ = some (.int .i64 p.n)
  c2 : w.cell? ⟨g, 2, none⟩ = some (.string p.s)
theorem at_new (w : World) (p : Pt) : At0 (w.alloc (cellsP p)) w.heap.size p :=
  ⟨World.cell?_alloc_at _ _ _ _ rfl, World.cell?_alloc_at _ _ _ _ rfl, World.cell?_alloc_at _ _ _ _ rfl⟩
theorem At0.below {w w' : World} {g : Nat} {p : Pt} {B : Nat} (h : At0 w g p) (hg : g < B) (hb : Below B w w') : At0 w' g p :=
  ⟨(hb.cell (p := ⟨g, 0, none⟩) hg).trans h.c0, (hb.cell (p := ⟨g, 1, none⟩) hg).trans h.c1, (hb.cell (p := ⟨g, 2, none⟩) hg).trans h.c2⟩
theorem at_new' (w w' : World) (p : Pt) (hb : Below (w.alloc (cellsP p)).heap.size (w.alloc (cellsP p)) w') : At0 w' w.heap.size p := (at_new w p).below (by simp) hb
theorem chk_bad {k : List Pt} {j : Nat} (h : j < k.length) (hm : k[j].may = false) : K.chk k = 50 := by
  unfold K.chk
  rw [if_neg]
  intro ha
  rw [List.all_eq_true.1 ha _ (List.getElem_mem h)] at hm
  cases hm
theorem chk_good {k : List Pt} (h : ∀ p ∈ k, p.may = true) : K.chk k = if (K.encs k).length ≤ 256 then 0 else 2 := by
  unfold K.chk
  rw [if_pos (List.all_eq_true.2 h)]
theorem may_snoc {k : List Pt} {j : Nat} (h : j < k.length) (h1 : ∀ p ∈ k.take j, p.may = true) (h2 : k[j].may = true) : ∀ p ∈ k.take (j + 1), p.may = true := by
  intro p hp
  rw [snoc_get k j h, List.mem_append, List.mem_singleton] at hp
  rcases hp with hp | rfl
  · exact h1 p hp
  · exact h2
end Go.Proofs.YtkanpdhlpobfoaaDoor
