/-
  Rows of nodes, and of slices of nodes, that a call owns; a slice without its first; the stack of what is left, in memory.
-/
import Derived.Test.YtgehgccgologpaaZd
import Derived.Laws.OwnMore
import Derived.Laws.AppendOwn
import Derived.Maps.AppendAt
namespace Go.Proofs.Ytgehgccgologpaa.Z
open Go.RowKit Go.Proofs.Ytgehgccgologpaa Go.Proofs.Ytgehgccgologpaa.R Go.Proofs.Ytgehgccgologpaa.T

theorem infoNd : (Try.prog.info? 25).map (fun i => (i.zero, i.size, i.bytes)) = some (some (.agg #[.int .i64 0, .string ⟨#[]⟩, .int .i64 0, .string ⟨#[]⟩, .slice none 0 0, .slice none 0 0]), 6, 96) := by kernel_rfl
theorem infoNs : (Try.prog.info? 23).map (fun i => (i.zero, i.size, i.bytes)) = some (some (.slice none 0 0), 1, 24) := by kernel_rfl
def tlA (A : Option Addr) (c : Nat) : Option Addr := if c = 1 then A else A.map (·.add 6)
theorem run_tl (A : Option Addr) (n c : Nat) (hn : 0 < n) (w : World) :
    (Instr.slice 23 (.slice A n c) (some (.int .i64 1)) none none).run Try.prog w = .ok (.slice (tlA A c) (n - 1) (c - 1)) w := by
  obtain ⟨i0, hi0, hz0, hz1, hz2⟩ := info_parts infoNd
  have hu : Try.prog.underlying 23 = some (.slice 25) := by kernel_rfl
  have h1 : (1 : Int) ≤ (n : Int) := by omega
  simp [Instr.slice, Instr.sliceBounds, run_underlying hu, run_sliceBound w .i64 1 n _ (by omega) h1, sizeOf, typeInfo, hi0, hz1, tlA]
theorem row_tl {w : World} {B : Nat} {A : Option Addr} {l : List V} {c : Nat} (h : RowB w B A l) (hc : l.length ≤ c) : RowB w B (tlA A c) l.tail := by
  rcases l with _ | ⟨a, l⟩
  · exact .inl rfl
  rcases l with _ | ⟨b, l⟩
  · exact .inl rfl
  rcases h with h | ⟨g, o, rfl, hg, h⟩
  · cases h
  · refine .inr ⟨g, o + 6, ?_, hg, ?_⟩
    · simp only [List.length_cons] at hc
      unfold tlA
      rw [if_neg (by omega)]
      rfl
    · rw [IsAllB] at h
      exact h.2
theorem own_keepC {w w' : World} {B sz : Nat} {e : TypeId} {n : Nat} {v : Value} {xs : List Value} (h : w.ownsRow B e sz v n xs) (hb : ∀ k o, v.ownBlock = some k → w.heap[k]? = some o → o.isCells = true → w'.heap[k]? = some o) : w'.ownsRow B e sz v n xs := by
  refine ⟨h.1, ?_⟩
  rcases h.2 with h2 | ⟨g, cap, cur, rfl, hb', hg, r⟩
  · exact .inl h2
  · exact .inr ⟨g, cap, cur, rfl, hb', hb g _ rfl hg rfl, r⟩
theorem own_sameB {w w' : World} {B sz : Nat} {e : TypeId} {n : Nat} {v : Value} {xs : List Value} (h : w.ownsRow B e sz v n xs) (hb : ∀ k, v.ownBlock = some k → w'.heap[k]? = w.heap[k]?) : w'.ownsRow B e sz v n xs :=
  own_keepC h fun k _ e ho _ => (hb k e).trans ho
abbrev flatX (xs : List X) : List Value := xs.flatMap fun y => y.cells.toList
theorem flatX_len : ∀ xs : List X, (flatX xs).length = xs.length * 6
  | [] => rfl
  | x :: xs => by
    have h := flatX_len xs
    have hl : x.cells.toList.length = 6 := rfl
    show (x.cells.toList ++ flatX xs).length = _
    rw [List.length_append, h, hl, List.length_cons]
    omega
theorem flatX_get : ∀ (xs : List X) (i r : Nat) (y : X) (u : Value), xs[i]? = some y → y.cells.toList[r]? = some u → (flatX xs)[i * 6 + r]? = some u
  | [], i, r, y, u, h, _ => by simp at h
  | x :: xs, 0, r, y, u, h, hu => by
    obtain rfl : x = y := by simpa using h
    show (x.cells.toList ++ flatX xs)[0 * 6 + r]? = some u
    rw [Nat.zero_mul, Nat.zero_add, List.getElem?_append_left (List.getElem?_eq_some_iff.1 hu).1]
    exact hu
  | x :: xs, i + 1, r, y, u, h, hu => by
    show (x.cells.toList ++ flatX xs)[(i + 1) * 6 + r]? = some u
    have hl : x.cells.toList.length = 6 := rfl
    rw [List.getElem?_append_right (by omega), hl, show (i + 1) * 6 + r - 6 = i * 6 + r by omega]
    exact flatX_get xs i r y u (by simpa using h) hu
theorem flatX_one (xs : List X) : ∀ u ∈ flatX xs, u.oneCell' = true := fun u hu => by
  obtain ⟨y, -, hy⟩ := List.mem_flatMap.1 hu
  simp only [X.cells, List.mem_cons, List.not_mem_nil, or_false] at hy
  rcases hy with rfl | rfl | rfl | rfl | rfl | rfl <;> rfl
def XsIs (w : World) (n0 : Nat) (xs : List X) (l : List V) : Prop := xs.length = l.length ∧ ∀ i (h : i < l.length), ∃ y, xs[i]? = some y ∧ IsB w n0 l[i] y
theorem XsIs.low {w w' : World} {n0 : Nat} {xs : List X} {l : List V} (h : XsIs w n0 xs l) (hb : Below n0 w w') : XsIs w' n0 xs l := ⟨h.1, fun i hi => by
  obtain ⟨y, h1, h2⟩ := h.2 i hi
  exact ⟨y, h1, IsB.to hb (Nat.le_refl _) _ _ h2⟩⟩
theorem XsIs.app {w : World} {n0 : Nat} {xs ys : List X} {l m : List V} (h : XsIs w n0 xs l) (k : XsIs w n0 ys m) : XsIs w n0 (xs ++ ys) (l ++ m) := by
  refine ⟨by rw [List.length_append, List.length_append, h.1, k.1], fun i hi => ?_⟩
  by_cases hl : i < l.length
  · obtain ⟨y, h1, h2⟩ := h.2 i hl
    refine ⟨y, ?_, ?_⟩
    · rw [List.getElem?_append_left (by rw [h.1]; exact hl)]
      exact h1
    · rw [List.getElem_append_left hl]
      exact h2
  · have hm : i - l.length < m.length := by rw [List.length_append] at hi; omega
    obtain ⟨y, h1, h2⟩ := k.2 (i - l.length) hm
    refine ⟨y, ?_, ?_⟩
    · rw [List.getElem?_append_right (by rw [h.1]; omega), h.1]
      exact h1
    · rw [List.getElem_append_right (by omega)]
      exact h2
theorem xs_of {w : World} {n0 g : Nat} : ∀ (o : Nat) (l : List V), IsAllB w n0 g o l → ∃ xs, XsIs w n0 xs l ∧ ∀ j u, (flatX xs)[j]? = some u → w.cell? ⟨g, o + j, none⟩ = some u
  | _, [], _ => ⟨[], ⟨rfl, fun i h => absurd h (Nat.not_lt_zero _)⟩, fun j u h => by simp at h⟩
  | o, v :: r, h => by
    rw [IsAllB] at h
    obtain ⟨⟨y, ha, hy⟩, hr⟩ := h
    obtain ⟨ys, h1, h2⟩ := xs_of (o + 6) r hr
    refine ⟨y :: ys, ⟨by rw [List.length_cons, List.length_cons, h1.1], fun i hi => ?_⟩, fun j u hu => ?_⟩
    · cases i with
      | zero => exact ⟨y, rfl, hy⟩
      | succ i => exact h1.2 i (by simpa using hi)
    · have e : flatX (y :: ys) = y.cells.toList ++ flatX ys := rfl
      have hl : y.cells.toList.length = 6 := rfl
      rw [e] at hu
      by_cases hj : j < 6
      · rw [List.getElem?_append_left (by omega)] at hu
        obtain ⟨a0, a1, a2, a3, a4, a5⟩ := ha
        match j, hj, hu with
        | 0, _, hu => rw [← hu]; exact a0
        | 1, _, hu => rw [← hu]; exact a1
        | 2, _, hu => rw [← hu]; exact a2
        | 3, _, hu => rw [← hu]; exact a3
        | 4, _, hu => rw [← hu]; exact a4
        | 5, _, hu => rw [← hu]; exact a5
      · rw [List.getElem?_append_right (by omega), hl] at hu
        have := h2 _ _ hu
        rw [show o + 6 + (j - 6) = o + j by omega] at this
        exact this
/-- a row of nodes that the call owns -/
def OwnN (w : World) (b n0 : Nat) (v : Value) (l : List V) : Prop := ∃ xs, XsIs w n0 xs l ∧ w.ownsRow b 25 6 v l.length (flatX xs)
theorem ownN_nil (w : World) (b n0 : Nat) : OwnN w b n0 (.slice none 0 0) [] := ⟨[], ⟨rfl, fun _ h => absurd h (Nat.not_lt_zero _)⟩, rfl, .inl ⟨rfl, rfl⟩⟩
theorem OwnN.push {w w' : World} {b n0 : Nat} {v : Value} {l : List V} (h : OwnN w b n0 v l) (hb : Below n0 w w') (hk : ∀ k, v.ownBlock = some k → w'.heap[k]? = w.heap[k]?) : OwnN w' b n0 v l := by
  obtain ⟨xs, h1, h2⟩ := h
  exact ⟨xs, h1.low hb, own_sameB h2 hk⟩
theorem OwnN.lt {w : World} {b n0 : Nat} {v : Value} {l : List V} (h : OwnN w b n0 v l) : ∀ k, v.ownBlock = some k → b ≤ k ∧ k < w.heap.size := by
  obtain ⟨xs, _, h2⟩ := h
  exact h2.lt
theorem OwnN.row {w : World} {b n0 : Nat} {v : Value} {l : List V} (h : OwnN w b n0 v l) (hn : n0 ≤ w.heap.size) : ∃ A c, v = .slice A l.length c ∧ l.length ≤ c ∧ Row w A l := by
  obtain ⟨xs, h1, hl, h2⟩ := h
  rcases h2 with ⟨rfl, h0⟩ | ⟨g, cap, cur, rfl, _, hg, hnc, _, _, htk⟩
  · exact ⟨none, 0, by rw [h0], by omega, .inl (List.eq_nil_of_length_eq_zero h0)⟩
  · refine ⟨_, cap, rfl, hnc, .inr ⟨g, 0, rfl, (Array.getElem?_eq_some_iff.1 hg).1, (isAll_iff _ _ _ _ _).2 fun i hi => ?_⟩⟩
    obtain ⟨y, e1, e2⟩ := h1.2 i hi
    have gc : ∀ (r : Nat) (u : Value), y.cells.toList[r]? = some u → w.cell? ⟨g, 0 + i * 6 + r, none⟩ = some u := by
      intro r u hr
      have hj := flatX_get xs i r y u e1 hr
      have hr6 : r < 6 := (List.getElem?_eq_some_iff.1 hr).1
      rw [← htk, List.getElem?_take_of_lt (by omega), Array.getElem?_toList] at hj
      rw [Nat.zero_add]
      simp [World.cell?, hg, hj]
    exact ⟨y, ⟨gc 0 _ rfl, gc 1 _ rfl, gc 2 _ rfl, gc 3 _ rfl, gc 4 _ rfl, gc 5 _ rfl⟩, IsB.to (Below.refl _ _) hn _ _ e2⟩

/-- a slice of nodes, as it lies in memory -/
structure Pc where
  A : Option Addr
  n : Nat
  c : Nat
def Pc.v (p : Pc) : Value := .slice p.A p.n p.c
structure PcIs (w : World) (n0 : Nat) (p : Pc) (l : List V) : Prop where
  n : p.n = l.length
  c : p.n ≤ p.c
  row : RowB w n0 p.A l
theorem PcIs.to {w w' : World} {n0 : Nat} {p : Pc} {l : List V} (h : PcIs w n0 p l) (hb : Below n0 w w') : PcIs w' n0 p l := ⟨h.n, h.c, h.row.to hb (Nat.le_refl _)⟩
def PcsIs (w : World) (n0 : Nat) : List Pc → List (List V) → Prop
  | [], [] => True
  | p :: r, q :: s => PcIs w n0 p q ∧ PcsIs w n0 r s
  | _, _ => False
theorem PcsIs.to {w w' : World} {n0 : Nat} (hb : Below n0 w w') : ∀ {ps : List Pc} {qs : List (List V)}, PcsIs w n0 ps qs → PcsIs w' n0 ps qs
  | [], [], _ => trivial
  | _ :: _, _ :: _, h => ⟨h.1.to hb, PcsIs.to hb h.2⟩
  | [], _ :: _, h => h.elim
  | _ :: _, [], h => h.elim
theorem PcsIs.len {w : World} {n0 : Nat} : ∀ {ps : List Pc} {qs : List (List V)}, PcsIs w n0 ps qs → ps.length = qs.length
  | [], [], _ => rfl
  | _ :: _, _ :: _, h => by rw [List.length_cons, List.length_cons, PcsIs.len h.2]
  | [], _ :: _, h => h.elim
  | _ :: _, [], h => h.elim
theorem PcsIs.app {w : World} {n0 : Nat} {p : Pc} {q : List V} : ∀ {ps : List Pc} {qs : List (List V)}, PcsIs w n0 ps qs → PcIs w n0 p q → PcsIs w n0 (ps ++ [p]) (qs ++ [q])
  | [], [], _, h => ⟨h, trivial⟩
  | _ :: _, _ :: _, h, k => ⟨h.1, PcsIs.app h.2 k⟩
  | [], _ :: _, h, _ => h.elim
  | _ :: _, [], h, _ => h.elim
theorem PcsIs.last {w : World} {n0 : Nat} {q : List V} : ∀ {ps : List Pc} {qs : List (List V)}, PcsIs w n0 ps (qs ++ [q]) → ∃ ps' p, ps = ps' ++ [p] ∧ PcsIs w n0 ps' qs ∧ PcIs w n0 p q
  | [], [], h => h.elim
  | [p], [], h => ⟨[], p, rfl, trivial, h.1⟩
  | _ :: _ :: _, [], h => h.2.elim
  | [], _ :: _, h => h.elim
  | p :: r, _ :: s, h => by
    obtain ⟨ps', p', e1, h1, h2⟩ := PcsIs.last (ps := r) (qs := s) h.2
    exact ⟨p :: ps', p', by rw [e1]; rfl, ⟨h.1, h1⟩, h2⟩
abbrev vls (ps : List Pc) : List Value := ps.map Pc.v
/-- a row of slices of nodes that the call owns -/
def OwnS (w : World) (b : Nat) (v : Value) (ps : List Pc) : Prop := w.ownsRow b 23 1 v ps.length (vls ps)
theorem own_take {w : World} {b sz : Nat} {e : TypeId} {g n cap m : Nat} {xs : List Value} (h : w.ownsRow b e sz (.slice (some ⟨g, 0, none⟩) n cap) n xs) (hm : m ≤ n) :
    w.ownsRow b e sz (.slice (some ⟨g, 0, none⟩) m cap) m (xs.take (m * sz)) := by
  have hmn : m * sz ≤ n * sz := Nat.mul_le_mul_right _ hm
  refine ⟨by rw [List.length_take, h.1]; omega, ?_⟩
  rcases h.2 with ⟨hv, _⟩ | ⟨g', cap', cur, hv, hb, hg, hn, hmx, hs, ht⟩
  · cases hv
  · injection hv with h1 h2 h3
    injection h1 with h1
    injection h1 with h1
    subst h1 h3
    refine .inr ⟨g, cap, cur, rfl, hb, hg, by omega, hmx, hs, ?_⟩
    rw [← ht, List.take_take, Nat.min_eq_left hmn]
theorem OwnN.keepC {w w' : World} {b n0 : Nat} {v : Value} {l : List V} (h : OwnN w b n0 v l) (hb : Below n0 w w') (hk : ∀ k o, v.ownBlock = some k → w.heap[k]? = some o → o.isCells = true → w'.heap[k]? = some o) : OwnN w' b n0 v l := by
  obtain ⟨xs, h1, h2⟩ := h
  exact ⟨xs, h1.low hb, own_keepC h2 hk⟩
theorem flatX_take : ∀ (xs : List X) (m : Nat), (flatX xs).take (m * 6) = flatX (xs.take m)
  | [], m => by simp
  | x :: xs, 0 => by simp
  | x :: xs, m + 1 => by
    have hl : x.cells.toList.length = 6 := rfl
    show (x.cells.toList ++ flatX xs).take ((m + 1) * 6) = x.cells.toList ++ flatX (xs.take m)
    rw [List.take_append, hl, List.take_of_length_le (by rw [hl]; omega), show (m + 1) * 6 - 6 = m * 6 by omega, flatX_take xs m]
theorem OwnN.take {w : World} {b n0 g n cap m : Nat} {l : List V} (h : OwnN w b n0 (.slice (some ⟨g, 0, none⟩) n cap) l) (hn : n = l.length) (hm : m ≤ n) : OwnN w b n0 (.slice (some ⟨g, 0, none⟩) m cap) (l.take m) := by
  subst hn
  obtain ⟨xs, h1, h2⟩ := h
  refine ⟨xs.take m, ⟨by rw [List.length_take, List.length_take, h1.1], fun i hi => ?_⟩, ?_⟩
  · rw [List.length_take] at hi
    obtain ⟨y, e1, e2⟩ := h1.2 i (by omega)
    exact ⟨y, by rw [List.getElem?_take_of_lt (by omega)]; exact e1, by rw [List.getElem_take]; exact e2⟩
  · rw [← flatX_take, List.length_take, Nat.min_eq_left hm]
    exact own_take h2 hm
theorem OwnN.form {w : World} {b n0 : Nat} {v : Value} {l : List V} (h : OwnN w b n0 v l) : (v = .slice none 0 0 ∧ l = []) ∨ ∃ g cap, v = .slice (some ⟨g, 0, none⟩) l.length cap ∧ l.length ≤ cap ∧ b ≤ g := by
  obtain ⟨xs, h1, hl, h2⟩ := h
  rcases h2 with ⟨rfl, h0⟩ | ⟨g, cap, cur, rfl, hb, hg, hnc, _, _, htk⟩
  · exact .inl ⟨rfl, List.eq_nil_of_length_eq_zero h0⟩
  · exact .inr ⟨g, cap, rfl, hnc, hb⟩
/-- a row of nodes away from the body's blocks; what hangs on it lies below n0 -/
def RowD (w : World) (n0 B : Nat) (A : Option Addr) (l : List V) : Prop :=
  l = [] ∨ ∃ g o, A = some ⟨g, o, none⟩ ∧ ¬ Dd B w g ∧ ∀ i (h : i < l.length), ∃ y, At w g (o + i * 6) y ∧ IsB w n0 l[i] y
theorem RowD.kept {w w' : World} {n0 B : Nat} {A : Option Addr} {l : List V} (h : RowD w n0 B A l) (hk : Kd n0 B w w') : RowD w' n0 B A l := by
  by_cases hl : l = []
  · exact .inl hl
  rcases h with h | ⟨g, o, rfl, hg, h⟩
  · exact .inl h
  · have hgw : g < w.heap.size := by
      obtain ⟨y, ha, _⟩ := h 0 (List.length_pos_iff.2 hl)
      obtain ⟨u, hu, _⟩ := cells_of_cell ha.c0
      exact (Array.getElem?_eq_some_iff.1 hu).1
    refine .inr ⟨g, o, rfl, hk.not hgw hg, fun i hi => ?_⟩
    obtain ⟨y, ha, hy⟩ := h i hi
    exact ⟨y, ⟨hk.cell (p := ⟨g, o + i * 6, none⟩) hg ha.c0, hk.cell (p := ⟨g, o + i * 6 + 1, none⟩) hg ha.c1, hk.cell (p := ⟨g, o + i * 6 + 2, none⟩) hg ha.c2, hk.cell (p := ⟨g, o + i * 6 + 3, none⟩) hg ha.c3, hk.cell (p := ⟨g, o + i * 6 + 4, none⟩) hg ha.c4, hk.cell (p := ⟨g, o + i * 6 + 5, none⟩) hg ha.c5⟩,
      hy.to hk.below (Nat.le_refl _)⟩
theorem RowD.row {w : World} {n0 B : Nat} {A : Option Addr} {l : List V} (h : RowD w n0 B A l) (hn : n0 ≤ w.heap.size) : Row w A l := by
  by_cases hl : l = []
  · exact .inl hl
  rcases h with h | ⟨g, o, rfl, hg, h⟩
  · exact .inl h
  · have hgw : g < w.heap.size := by
      obtain ⟨y, ha, _⟩ := h 0 (List.length_pos_iff.2 hl)
      obtain ⟨u, hu, _⟩ := cells_of_cell ha.c0
      exact (Array.getElem?_eq_some_iff.1 hu).1
    refine .inr ⟨g, o, rfl, hgw, (isAll_iff w w.heap.size g o l).2 fun i hi => ?_⟩
    obtain ⟨y, ha, hy⟩ := h i hi
    exact ⟨y, ha, hy.up (Below.refl _ _) hn⟩
theorem OwnN.rowD {w : World} {b n0 B : Nat} {v : Value} {l : List V} (h : OwnN w b n0 v l) (hd : ∀ k, v.ownBlock = some k → ¬ Dd B w k) : ∃ A c, v = .slice A l.length c ∧ l.length ≤ c ∧ RowD w n0 B A l := by
  obtain ⟨xs, h1, hl, h2⟩ := h
  rcases h2 with ⟨rfl, h0⟩ | ⟨g, cap, cur, rfl, _, hg, hnc, _, _, htk⟩
  · exact ⟨none, 0, by rw [h0], by omega, .inl (List.eq_nil_of_length_eq_zero h0)⟩
  · refine ⟨_, cap, rfl, hnc, .inr ⟨g, 0, rfl, hd g rfl, fun i hi => ?_⟩⟩
    obtain ⟨y, e1, e2⟩ := h1.2 i hi
    have gc : ∀ (r : Nat) (u : Value), y.cells.toList[r]? = some u → w.cell? ⟨g, 0 + i * 6 + r, none⟩ = some u := by
      intro r u hr
      have hj := flatX_get xs i r y u e1 hr
      have hr6 : r < 6 := (List.getElem?_eq_some_iff.1 hr).1
      rw [← htk, List.getElem?_take_of_lt (by omega), Array.getElem?_toList] at hj
      rw [Nat.zero_add]
      simp [World.cell?, hg, hj]
    exact ⟨y, ⟨gc 0 _ rfl, gc 1 _ rfl, gc 2 _ rfl, gc 3 _ rfl, gc 4 _ rfl, gc 5 _ rfl⟩, e2⟩
theorem sizes_le_bulks : ∀ l : List V, V.sizes l ≤ V.bulks l
  | [] => Nat.le_refl _
  | v :: r => by
    have h1 := size_le_bulk v
    have h2 := sizes_le_bulks r
    rw [V.sizes, V.bulks]
    omega
/-- an item as it is handed over -/
structure Er where
  A : Option Addr
  c : Nat
  x : X
  it : Go.Proofs.Ytgehgccgologpaa.Z.It
def Er.enc (e : Er) : Array Value := #[.slice e.A e.it.1.length e.c, e.x.v]
/-- what a round is told of its item -/
structure Gw (n0 B M : Nat) (L : List Go.Proofs.Ytgehgccgologpaa.Z.It) (e : Er) (w : World) : Prop where
  nz : n0 ≤ w.heap.size
  c : e.it.1.length ≤ e.c
  row : RowD w n0 B e.A e.it.1
  is : IsB w n0 e.it.2 e.x
  bulk : e.it.2.bulk ≤ M
  bulks : ∀ u ∈ e.it.1, u.bulk ≤ M
  len : e.it.1.length ≤ M
  mem : e.it ∈ L
theorem Gw.kept {n0 B M : Nat} {L : List Go.Proofs.Ytgehgccgologpaa.Z.It} (e : Er) (A C : World) (h : Gw n0 B M L e A) (hk : Kd n0 B A C) : Gw n0 B M L e C :=
  ⟨Nat.le_trans h.nz hk.below.size, h.c, h.row.kept hk, h.is.to hk.below (Nat.le_refl _), h.bulk, h.bulks, h.len, h.mem⟩
end Go.Proofs.Ytgehgccgologpaa.Z
