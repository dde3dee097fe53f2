/-
  walkOf, by contract; what stands on a stack; a place's elements and what they have.
-/
import Derived.Test.YtnjcofjphneccaaDoorEnt
import Derived.Test.YtnjcofjphneccaaDoorSpec
namespace Go.Proofs.YtnjcofjphneccaaDoor
open Go.RowKit

theorem at_of_block {w : World} {g : Nat} {x : X} {fr : Nat × Nat} (h : w.heap[g]? = some (.cells x.cells 25 fr)) : At w g 0 x :=
  ⟨by rw [cell_of_row w g 0 x.cells _ fr h]; rfl, by rw [cell_of_row w g 1 x.cells _ fr h]; rfl, by rw [cell_of_row w g 2 x.cells _ fr h]; rfl, by rw [cell_of_row w g 3 x.cells _ fr h]; rfl, by rw [cell_of_row w g 4 x.cells _ fr h]; rfl⟩
theorem heap3 (w : World) (a b c : Obj) : ((((w.alloc a).alloc b).alloc c).heap[w.heap.size + 1]? = some b) ∧ ((((w.alloc a).alloc b).alloc c).heap[w.heap.size + 2]? = some c) := by
  constructor
  · show (((w.heap.push a).push b).push c)[w.heap.size + 1]? = some b
    rw [Array.getElem?_push, if_neg (by simp), Array.getElem?_push, if_pos (by simp)]
  · show (((w.heap.push a).push b).push c)[w.heap.size + 2]? = some c
    rw [Array.getElem?_push, if_pos (by simp)]

theorem walkOf_any (x : X) (w : World) :
    Calls Tryd.prog 24 #[x.v] w fun e w' => ∃ g, e = .returned (.slice (some ⟨g + 1, 0, none⟩) 1 1) ∧ w.heap.size ≤ g ∧ g + 1 < w'.heap.size ∧ w'.heap[g]? = some (.cells x.cells 25 (0, 0)) ∧
      w'.ownsRow 0 44 2 (.slice (some ⟨g + 1, 0, none⟩) 1 1) 1 [.slice (some ⟨g, 0, none⟩) 1 1, .int .i64 1] ∧ Below w.heap.size w w' := by
  obtain ⟨k, n, s, ka, kn, kc, la, ln, lc⟩ := x
  unfold X.v X.cells
  go_enter Tryd.func24, Tryd.ntmps24
  go_wp2_with fail
  go_ret
  obtain ⟨h1, h2⟩ := heap3 w (.cells #[.int .i64 k, .int .i64 n, .string s, .slice ka kn kc, .slice la ln lc] 25) (.cells #[.int .i64 k, .int .i64 n, .string s, .slice ka kn kc, .slice la ln lc] 25) (.cells #[.slice (some ⟨w.heap.size + 1, 0, none⟩) 1 1, .int .i64 1] 44)
  refine ⟨w.heap.size + 1, rfl, by omega, by simp, h1, ⟨rfl, .inr ⟨_, _, _, rfl, Nat.zero_le _, h2, Nat.le_refl _, by decide, rfl, rfl⟩⟩, ?_⟩
  exact (((Below.refl _ _).alloc (Nat.le_refl _) _).alloc (by simp) _).alloc (by simp; omega) _

/-- a place: a slice that reads as l, a depth -/
structure Pl where
  A : Option Addr
  c : Nat
  l : List V
  d : Nat
def Pl.pr (p : Pl) : Pr := ⟨p.A, p.l.length, p.c, p.d⟩
def Rows (w : World) (B : Nat) (st : List Pl) : Prop := ∀ p ∈ st, RowB w B p.A p.l ∧ p.l ≠ []
def sumL (f : List V → Nat) : List Pl → Nat
  | [] => 0
  | p :: r => f p.l + sumL f r
theorem sumL_append (f : List V → Nat) (a b : List Pl) : sumL f (a ++ b) = sumL f a + sumL f b := by
  induction a with
  | nil => simp [sumL]
  | cons x r ih => simp only [List.cons_append, sumL, ih]; omega
theorem rows_len {w : World} {B : Nat} {st : List Pl} (h : Rows w B st) : st.length ≤ sumL V.bulks st := by
  induction st with
  | nil => simp
  | cons p r ih =>
    have h1 := ih fun q hq => h q (by simp [hq])
    have h2 : 1 ≤ p.l.length := by
      have := (h p (by simp)).2
      cases hp : p.l with
      | nil => exact absurd hp this
      | cons _ _ => simp
    have h3 := length_le_bulks p.l
    simp only [List.length_cons, sumL]
    omega
/-- the elements of a row, each with its struct -/
theorem all_pairs (w : World) (B g : Nat) : ∀ (l : List V) (o : Nat), IsAllB w B g o l → ∃ ps : List (V × X), ps.map (·.1) = l ∧ (∀ i (h : i < (ps.map (·.2)).length), At w g (o + i * 5) (ps.map (·.2))[i]) ∧ ∀ p ∈ ps, IsB w B p.1 p.2
  | [], o, _ => ⟨[], rfl, fun i h => by simp at h, fun p h => by cases h⟩
  | v :: r, o, h => by
    rw [IsAllB] at h
    obtain ⟨⟨y, h1, h2⟩, h3⟩ := h
    obtain ⟨ps, h4, h5, h6⟩ := all_pairs w B g r (o + 5) h3
    refine ⟨(v, y) :: ps, by simp [h4], fun i hi => ?_, fun p hp => ?_⟩
    · cases i with
      | zero => simpa using h1
      | succ i =>
        have := h5 i (by simpa using hi)
        rw [show o + (i + 1) * 5 = o + 5 + i * 5 by omega]
        simpa using this
    · cases hp with
      | head => exact h2
      | tail _ hp => exact h6 p hp
theorem row_pairs {w : World} {B : Nat} {A : Option Addr} {l : List V} (h : RowB w B A l) : ∃ ps : List (V × X), ps.map (·.1) = l ∧ Cells w (· < B) A (ps.map (·.2)) ∧ ∀ p ∈ ps, IsB w B p.1 p.2 := by
  rcases h with rfl | ⟨g, o, rfl, hg, h⟩
  · exact ⟨[], rfl, .inl rfl, fun p h => by cases h⟩
  · obtain ⟨ps, h1, h2, h3⟩ := all_pairs w B g l o h
    exact ⟨ps, h1, .inr ⟨g, o, rfl, hg, h2⟩, h3⟩
/-- the places that the elements of a row at depth d have -/
def kidsP (d : Nat) (ps : List (V × X)) : List Pl := (ps.filter (fun p => 0 < p.2.ln)).map fun p => ⟨p.2.la, p.2.lc, p.1.l, d + 1⟩
theorem is_len {w : World} {B : Nat} {v : V} {x : X} (h : IsB w B v x) : x.ln = v.l.length := ((isB_iff w B v x).1 h).2.2.1
theorem is_row {w : World} {B : Nat} {v : V} {x : X} (h : IsB w B v x) : RowB w B x.la v.l := ((isB_iff w B v x).1 h).2.2.2.2
theorem kidsP_pr {w : World} {B : Nat} (d : Nat) (ps : List (V × X)) (h : ∀ p ∈ ps, IsB w B p.1 p.2) : (kidsP d ps).map Pl.pr = kids d (ps.map (·.2)) := by
  unfold kidsP kids
  induction ps with
  | nil => rfl
  | cons p r ih =>
    have ih := ih fun q hq => h q (by simp [hq])
    have hl := is_len (h p (by simp))
    rw [List.map_cons, List.filter_cons, List.filter_cons]
    by_cases h0 : 0 < p.2.ln
    · simp only [h0, decide_true, if_true, List.map_cons, ih]
      congr 1
      show Pr.mk _ _ _ _ = _
      rw [← hl]
      rfl
    · simp only [h0, decide_false, Bool.false_eq_true, if_false, ih]
theorem kidsP_rows {w : World} {B : Nat} (d : Nat) (ps : List (V × X)) (h : ∀ p ∈ ps, IsB w B p.1 p.2) : Rows w B (kidsP d ps) := by
  intro q hq
  unfold kidsP at hq
  obtain ⟨p, hp, rfl⟩ := List.mem_map.1 hq
  obtain ⟨hp, h0⟩ := List.mem_filter.1 hp
  have := h p hp
  have hl := is_len this
  refine ⟨is_row this, fun e => ?_⟩
  have h0 := of_decide_eq_true h0
  simp only at e
  rw [e] at hl
  simp at hl
  omega
theorem kidsP_sum {w : World} {B : Nat} (f : List V → Nat) (hf : f [] = 0) (d : Nat) (ps : List (V × X)) (h : ∀ p ∈ ps, IsB w B p.1 p.2) : sumL f (kidsP d ps) = ((ps.map (·.1)).map fun v => f v.l).sum := by
  unfold kidsP
  induction ps with
  | nil => rfl
  | cons p r ih =>
    have ih := ih fun q hq => h q (by simp [hq])
    have hl := is_len (h p (by simp))
    rw [List.filter_cons]
    by_cases h0 : 0 < p.2.ln
    · simp only [h0, decide_true, if_true, List.map_cons, sumL, ih, List.sum_cons]
    · simp only [h0, decide_false, Bool.false_eq_true, if_false, ih, List.map_cons, List.sum_cons]
      have : p.1.l = [] := List.eq_nil_of_length_eq_zero (by omega)
      rw [this, hf]
      omega
theorem sum_sizes (l : List V) : (l.map fun v => V.sizes v.l).sum + l.length = V.sizes l := by
  induction l with
  | nil => rfl
  | cons v r ih =>
    have : v.size = 1 + V.sizes v.l := by cases v; rfl
    simp only [List.map_cons, List.sum_cons, List.length_cons, V.sizes]
    omega
theorem sum_bulks (l : List V) : (l.map fun v => V.bulks v.l).sum + l.length ≤ V.bulks l := by
  induction l with
  | nil => simp [V.bulks]
  | cons v r ih =>
    have : 1 + V.bulks v.l ≤ v.bulk := by cases v; simp only [V.bulk, V.l]; omega
    simp only [List.map_cons, List.sum_cons, List.length_cons, V.bulks]
    omega
theorem Cells.fr {w w' : World} {F F' : Nat → Prop} {A : Option Addr} {ys : List X} (h : Cells w F A ys) (hF : ∀ k, F k → F' k) (hb : Fr F w w') : Cells w' F' A ys := by
  rcases h with h | ⟨g, o, rfl, hg, hc⟩
  · exact .inl h
  · exact .inr ⟨g, o, rfl, hF g hg, fun i hi => (hc i hi).fr hg hb⟩

theorem Stk.open {w : World} {F : Nat → Prop} {b : Nat} {st : List Pr} (h : Stk w F b st) : ∃ A c, w.cell? ⟨b, 0, none⟩ = some (.slice A st.length c) := by
  obtain ⟨v, hc, _, _, _, hown, _⟩ := h
  rcases hown.2 with ⟨rfl, h0⟩ | ⟨g, cap, cur, rfl, _⟩
  · exact ⟨_, _, by rw [hc, h0]⟩
  · exact ⟨_, _, hc⟩
/-- the variable is copied: the stack lies there -/
theorem Stk.move {w : World} {F : Nat → Prop} {b : Nat} {st : List Pr} {A : Option Addr} {c : Nat} (h : Stk w F b st) (hF : ∀ k, F k → k < w.heap.size) (hc : w.cell? ⟨b, 0, none⟩ = some (.slice A st.length c)) : Stk (w.alloc (.cells #[.slice A st.length c] 41)) F w.heap.size st := by
  obtain ⟨v, hv, hf, hbs, hFb, hown, hk⟩ := h
  rw [hc] at hv
  injection hv with hv
  subst hv
  refine ⟨_, by simp, by simp, by simp, fun h => Nat.lt_irrefl _ (hF _ h), hown.alloc _, fun k hk' => ⟨?_, (hk k hk').2⟩⟩
  have := (hown.lt k hk').2
  omega
end Go.Proofs.YtnjcofjphneccaaDoor
