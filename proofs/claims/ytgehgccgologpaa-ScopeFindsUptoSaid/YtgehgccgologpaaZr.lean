/-
  What Check keeps: the row of bodies in memory, the marks that loops over an iterator leave among the deferred calls.
-/
import Derived.Test.YtgehgccgologpaaZi
import Derived.Test.YtgehgccgologpaaZq
import Derived.Test.YtgehgccgologpaaWr
namespace Go.Proofs.Ytgehgccgologpaa.Z
open Go.RowKit Go.Shelf Go.Proofs.Ytgehgccgologpaa Go.Proofs.Ytgehgccgologpaa.R Go.Proofs.Ytgehgccgologpaa.T

theorem szs_cons (v : V) (l : List V) : szs (v :: l) = v.size + szs l := by simp [szs]
theorem length_le_szs : ∀ l : List V, l.length ≤ szs l
  | [] => Nat.zero_le _
  | v :: r => by
    have h1 := length_le_szs r
    have h2 : szs (v :: r) = v.size + szs r := by simp [szs]
    rw [h2, size_eq, List.length_cons]
    omega
/-- marks among the deferred calls, the youngest first: each below T, none below B -/
def Marks (B : Nat) : Nat → List Deferred → World → Prop
  | _, [], _ => True
  | T, d :: ds, W => ∃ D, d = { target := .collected D, args := #[] } ∧ B ≤ D ∧ D < T ∧ W.heap[D]? = some (.deferred (some [])) ∧ Marks B D ds W
theorem Marks.to {B : Nat} : ∀ {T : Nat} {ds : List Deferred} {W W' : World}, Marks B T ds W → (∀ D, B ≤ D → D < T → W.heap[D]? = some (.deferred (some [])) → W'.heap[D]? = some (.deferred (some []))) → Marks B T ds W'
  | _, [], _, _, _, _ => trivial
  | _, _ :: _, _, _, ⟨D, h1, h2, h3, h4, h5⟩, h => ⟨D, h1, h2, h3, h D h2 h3 h4, h5.to fun D' a b c => h D' a (Nat.lt_trans b h3) c⟩
theorem Marks.mono {B : Nat} : ∀ {T T' : Nat} {ds : List Deferred} {W : World}, Marks B T ds W → T ≤ T' → Marks B T' ds W
  | _, _, [], _, _, _ => trivial
  | _, _, _ :: _, _, ⟨D, h1, h2, h3, h4, h5⟩, h => ⟨D, h1, h2, Nat.lt_of_lt_of_le h3 h, h4, h5⟩
theorem leaves_marks {F : Fence} {n : Nat} {P : Program} {fn : Func} {tmps : Array Value} {R : Ending → World → Prop} {B : Nat} : ∀ (T : Nat) (ds : List Deferred) (W : World), Marks B T ds W →
    (∀ W', Below B W W' → ∃ v, (results fn tmps).run P W' = .ok v W' ∧ R (.returned v) W') → LeavesInM F n P fn tmps R ds .returning W
  | _, [], W, _, h => h W (Below.refl _ _)
  | T, d :: ds, W, ⟨D, h1, h2, h3, h4, h5⟩, h => by
    subst h1
    refine ⟨by simp, .inl ⟨D, _, rfl, run_takeDeferred h4, ?_⟩⟩
    have hb : Below B W (W.putObj D (.deferred none)) := below_put W D _ _ h2 h4
    refine leaves_marks D ds _ (h5.to fun D' _ b c => ?_) fun W' hW' => h W' (hb.trans hW')
    exact (World.putObj_heap_other (by omega)).trans c
theorem OwnN.el {w : World} {b n0 : Nat} {v : Value} {l : List V} (h : OwnN w b n0 v l) {i : Nat} (hi : i < l.length) : ∃ g cap y, v = .slice (some ⟨g, 0, none⟩) l.length cap ∧ l.length ≤ cap ∧ At w g (i * 6) y ∧ IsB w n0 l[i] y := by
  obtain ⟨xs, h1, hl, h2⟩ := h
  rcases h2 with ⟨rfl, h0⟩ | ⟨g, cap, cur, rfl, _, hg, hnc, _, _, htk⟩
  · omega
  · obtain ⟨y, e1, e2⟩ := h1.2 i hi
    have gc : ∀ (r : Nat) (u : Value), y.cells.toList[r]? = some u → w.cell? ⟨g, i * 6 + r, none⟩ = some u := by
      intro r u hr
      have hj := flatX_get xs i r y u e1 hr
      have hr6 : r < 6 := (List.getElem?_eq_some_iff.1 hr).1
      rw [← htk, List.getElem?_take_of_lt (by omega), Array.getElem?_toList] at hj
      simp [World.cell?, hg, hj]
    exact ⟨g, cap, y, rfl, hnc, ⟨gc 0 _ rfl, gc 1 _ rfl, gc 2 _ rfl, gc 3 _ rfl, gc 4 _ rfl, gc 5 _ rfl⟩, e2⟩
/-- what Check keeps: the cells of bodies, of the result, of the counter -/
structure Ic (w : World) (bB bi i : Nat) (Bd : List V) (T : Nat) (ds : List Deferred) (W : World) : Prop where
  cel : ∃ bv, W.cell? ⟨bB, 0, none⟩ = some bv ∧ OwnN W w.heap.size w.heap.size bv Bd ∧ bv.ownBlock ≠ some bB ∧ bv.ownBlock ≠ some (w.heap.size + 1) ∧ bv.ownBlock ≠ some bi
  fz : W.frozen? ⟨bB, 0, none⟩ = false
  rc : W.cell? ⟨w.heap.size + 1, 0, none⟩ = some (.int .i64 0)
  rf : W.frozen? ⟨w.heap.size + 1, 0, none⟩ = false
  ic : W.cell? ⟨bi, 0, none⟩ = some (.int .i64 i)
  if' : W.frozen? ⟨bi, 0, none⟩ = false
  bl : Below w.heap.size w W
  mks : Marks (w.heap.size + 2) T ds W
  n1 : w.heap.size + 1 < bB
  n2 : bB < bi
theorem OwnN.cells {w : World} {b n0 : Nat} {v : Value} {l : List V} (h : OwnN w b n0 v l) {k : Nat} (hk : v.ownBlock = some k) : b ≤ k ∧ ∃ o, w.heap[k]? = some o ∧ o.isCells = true := by
  obtain ⟨xs, _, _, h2⟩ := h
  rcases h2 with ⟨rfl, h0⟩ | ⟨g, cap, cur, rfl, hb, hg, _⟩
  · cases hk
  · cases hk
    exact ⟨hb, _, hg, rfl⟩
theorem Ic.dd {w : World} {bB bi i : Nat} {Bd : List V} {T : Nat} {ds : List Deferred} {W : World} (h : Ic w bB bi i Bd T ds W) : ∀ k, Dd bB W k → ∃ o, W.heap[k]? = some o ∧ o.isCells = true := by
  obtain ⟨bv, h1, h2, -⟩ := h.cel
  intro k hk
  rcases hk with rfl | ⟨u, hu, hk⟩
  · exact cells_of_cell h1
  · rw [h1] at hu
    cases hu
    exact (h2.cells hk).2
theorem Ic.lts {w : World} {bB bi i : Nat} {Bd : List V} {T : Nat} {ds : List Deferred} {W : World} (h : Ic w bB bi i Bd T ds W) : bi < W.heap.size := by
  obtain ⟨u, hu, -⟩ := cells_of_cell h.ic
  exact (Array.getElem?_eq_some_iff.1 hu).1
/-- it speaks of what lies below C, and of the body's blocks -/
theorem Ic.lowD {w : World} {bB bi i : Nat} {Bd : List V} {T : Nat} {ds : List Deferred} {C : Nat} (hC : bi < C) (hT : T ≤ C) {W W' : World} (h : Ic w bB bi i Bd T ds W) (hf : Fr (fun k => k < C ∨ Dd bB W k) W W') : Ic w bB bi i Bd T ds W' := by
  obtain ⟨⟨bv, h1, h2, h3, h4, h5⟩, hz, hr, hrf, hi, hif, hb, hm, n1, n2⟩ := h
  have hbn : Below w.heap.size W W' := (hf.mono fun k hk => .inl (by omega)).below
  have hc : ∀ k, k < C → W'.heap[k]? = W.heap[k]? := fun k hk => hf.block k (.inl hk)
  have hcell : ∀ k, k < C → W'.cell? ⟨k, 0, none⟩ = W.cell? ⟨k, 0, none⟩ := fun k hk => World.cell?_of_block (a := ⟨k, 0, none⟩) (hc k hk)
  have hfro : ∀ k, k < C → W'.frozen? ⟨k, 0, none⟩ = W.frozen? ⟨k, 0, none⟩ := fun k hk => World.frozen?_of_block (a := ⟨k, 0, none⟩) (hc k hk)
  exact ⟨⟨bv, (hcell bB (by omega)).trans h1, h2.push hbn fun k hk => hf.block k (.inr (.inr ⟨bv, h1, hk⟩)), h3, h4, h5⟩, (hfro bB (by omega)).trans hz, (hcell _ (by omega)).trans hr, (hfro _ (by omega)).trans hrf, (hcell bi hC).trans hi, (hfro bi hC).trans hif,
    hb.trans hbn, hm.to fun D _ b c => (hc D (by omega)).trans c, n1, n2⟩
/-- all that lay there is as it was -/
theorem Ic.low {w : World} {bB bi i : Nat} {Bd : List V} {T : Nat} {ds : List Deferred} {W W' : World} (h : Ic w bB bi i Bd T ds W) (hT : T ≤ W.heap.size) (hf : Below W.heap.size W W') : Ic w bB bi i Bd T ds W' :=
  h.lowD h.lts hT (Fr_of hf fun k hk => hk.elim id fun e => by obtain ⟨u, hu, -⟩ := h.dd k e; exact (Array.getElem?_eq_some_iff.1 hu).1)

/-- the next round: a counter of its own, one mark more -/
theorem Ic.next {w : World} {bB bi i : Nat} {Bd : List V} {T D : Nat} {ds : List Deferred} {W : World} (h : Ic w bB bi i Bd T ds W) (hT : T ≤ D) (hD : D < W.heap.size) (hDw : w.heap.size + 2 ≤ D) (hK : W.heap[D]? = some (.deferred (some []))) :
    Ic w bB W.heap.size (i + 1) Bd (W.alloc (.cells #[.int .i64 ((i : Int) + 1)] 3)).heap.size ({ target := .collected D, args := #[] } :: ds) (W.alloc (.cells #[.int .i64 ((i : Int) + 1)] 3)) := by
  have hb2 := below_alloc W (.cells #[.int .i64 ((i : Int) + 1)] 3)
  have hc2 : (W.alloc (.cells #[.int .i64 ((i : Int) + 1)] 3)).cell? ⟨W.heap.size, 0, none⟩ = some (.int .i64 ((i + 1 : Nat) : Int)) := by simp
  have hf2 : (W.alloc (.cells #[.int .i64 ((i : Int) + 1)] 3)).frozen? ⟨W.heap.size, 0, none⟩ = false := by simp
  have hs2 : (W.alloc (.cells #[.int .i64 ((i : Int) + 1)] 3)).heap.size = W.heap.size + 1 := by simp
  generalize W.alloc (.cells #[.int .i64 ((i : Int) + 1)] 3) = w1 at *
  have hlt := h.lts
  have h2 := h.low (by omega) hb2
  obtain ⟨⟨bv, a1, a2, a3, a4, a5⟩, hz, hr, hrf, hi, hif, hb, hm, n1, n2⟩ := h2
  refine ⟨⟨bv, a1, a2, a3, a4, fun e => ?_⟩, hz, hr, hrf, hc2, hf2, hb, ⟨D, rfl, hDw, by omega, (hb2.block D hD).trans hK, hm.mono hT⟩, n1, by omega⟩
  obtain ⟨bv', a1', a2', -⟩ := h.cel
  have hbb : w1.cell? ⟨bB, 0, none⟩ = W.cell? ⟨bB, 0, none⟩ := hb2.cell (p := ⟨bB, 0, none⟩) (by show bB < W.heap.size; omega)
  rw [hbb, a1'] at a1
  cases a1
  exact Nat.lt_irrefl _ (a2'.lt _ e).2
/-! a node is appended and stored -/
def V0 : V := .mk 0 ⟨#[]⟩ 0 ⟨#[]⟩ [] []
theorem is_V0 (w : World) (n0 : Nat) : IsB w n0 V0 ⟨0, ⟨#[]⟩, 0, ⟨#[]⟩, none, 0, 0, none, 0, 0⟩ := (isB_iff _ _ _ _).2 ⟨⟨rfl, rfl, rfl, rfl⟩, ⟨rfl, Nat.le_refl _, .inl rfl⟩, rfl, Nat.le_refl _, .inl rfl⟩
theorem flat_set6 (ys : List X) (z y : X) : ((((((flatX (ys ++ [z])).set (ys.length * 6) (.int .i64 y.k)).set (ys.length * 6 + 1) (.string y.nm)).set (ys.length * 6 + 2) (.int .i64 y.n)).set (ys.length * 6 + 3) (.string y.s)).set (ys.length * 6 + 4) (.slice y.ka y.kn y.kc)).set (ys.length * 6 + 5) (.slice y.la y.ln y.lc) = flatX (ys ++ [y]) := by
  have h : ∀ y : X, flatX (ys ++ [y]) = flatX ys ++ [.int .i64 y.k, .string y.nm, .int .i64 y.n, .string y.s, .slice y.ka y.kn y.kc, .slice y.la y.ln y.lc] := fun y => List.flatMap_append
  have hl := flatX_len ys
  rw [h z, h y]
  rw [← hl]
  have hs : ∀ (l : List Value) (j : Nat) (u : Value), (flatX ys ++ l).set ((flatX ys).length + j) u = flatX ys ++ l.set j u := fun l j u => by rw [List.set_append_right _ _ (by omega), Nat.add_sub_cancel_left]
  have h0 := hs [.int .i64 z.k, .string z.nm, .int .i64 z.n, .string z.s, .slice z.ka z.kn z.kc, .slice z.la z.ln z.lc] 0 (.int .i64 y.k)
  rw [Nat.add_zero] at h0
  rw [h0, hs, hs, hs, hs, hs]
  rfl
/-- the world behind the store of a node into a row's place m -/
def putAt (w : World) (g m : Nat) (y : X) : World :=
  (((((w.setCell ⟨g, m, none⟩ (.int .i64 y.k)).setCell ⟨g, m + 1, none⟩ (.string y.nm)).setCell ⟨g, m + 2, none⟩ (.int .i64 y.n)).setCell ⟨g, m + 3, none⟩ (.string y.s)).setCell ⟨g, m + 4, none⟩ (.slice y.ka y.kn y.kc)).setCell ⟨g, m + 5, none⟩ (.slice y.la y.ln y.lc)
theorem putAt_grown {w : World} {b : Nat} {g n cap : Nat} {xs : List Value} (h : w.ownsRow b 25 6 (.slice (some ⟨g, 0, none⟩) n cap) n xs) (m : Nat) (y : X) :
    (putAt w g m y).ownsRow b 25 6 (.slice (some ⟨g, 0, none⟩) n cap) n ((((((xs.set m (.int .i64 y.k)).set (m + 1) (.string y.nm)).set (m + 2) (.int .i64 y.n)).set (m + 3) (.string y.s)).set (m + 4) (.slice y.ka y.kn y.kc)).set (m + 5) (.slice y.la y.ln y.lc)) ∧ w.grownBy (putAt w g m y) (some g) := by
  obtain ⟨a1, g1⟩ := World.ownsRow.stored h m (.int .i64 y.k)
  obtain ⟨a2, g2⟩ := World.ownsRow.stored a1 (m + 1) (.string y.nm)
  obtain ⟨a3, g3⟩ := World.ownsRow.stored a2 (m + 2) (.int .i64 y.n)
  obtain ⟨a4, g4⟩ := World.ownsRow.stored a3 (m + 3) (.string y.s)
  obtain ⟨a5, g5⟩ := World.ownsRow.stored a4 (m + 4) (.slice y.ka y.kn y.kc)
  obtain ⟨a6, g6⟩ := World.ownsRow.stored a5 (m + 5) (.slice y.la y.ln y.lc)
  have hs : (putAt w g m y).heap.size = w.heap.size := by unfold putAt; simp [World.setCell]
  refine ⟨a6, ⟨by rw [← g1.os, ← g2.os, ← g3.os, ← g4.os, ← g5.os, ← g6.os]; rfl, by rw [← g1.tape, ← g2.tape, ← g3.tape, ← g4.tape, ← g5.tape, ← g6.tape]; rfl, by rw [← g1.output, ← g2.output, ← g3.output, ← g4.output, ← g5.output, ← g6.output]; rfl, by rw [hs]; exact Nat.le_refl _, fun k h1 h2 => ?_⟩⟩
  have hz : ∀ (w : World) (j : Nat) (u : Value), (w.setCell ⟨g, j, none⟩ u).heap[k]? = w.heap[k]? := fun w j u => Below.heap_setCell w ⟨g, j, none⟩ u k fun e => h2 (by rw [e])
  unfold putAt
  rw [hz, hz, hz, hz, hz, hz]
/-- .. of the last node of a row that the call owns -/
theorem OwnN.last {w : World} {b n0 g n cap : Nat} {l : List V} {z v : V} {y : X} (h : OwnN w b n0 (.slice (some ⟨g, 0, none⟩) n cap) (l ++ [z])) (hn : n = l.length + 1) (hnb : n0 ≤ b) (hy : IsB w n0 v y) :
    OwnN (putAt w g (l.length * 6) y) b n0 (.slice (some ⟨g, 0, none⟩) n cap) (l ++ [v]) ∧ w.grownBy (putAt w g (l.length * 6) y) (some g) ∧
    (∀ j, j < 6 → (w.cell? ⟨g, l.length * 6 + j, none⟩).isSome = true) ∧ (∀ j, w.frozen? ⟨g, j, none⟩ = false) := by
  subst hn
  obtain ⟨xs, h1, h2⟩ := h
  have h2' : w.ownsRow b 25 6 (.slice (some ⟨g, 0, none⟩) (l.length + 1) cap) (l.length + 1) (flatX xs) := by
    rw [List.length_append] at h2
    exact h2
  obtain ⟨q1, q2⟩ := putAt_grown h2' (l.length * 6) y
  have hbn : Below n0 w (putAt w g (l.length * 6) y) := grownN q2 (by have := (h2'.lt g rfl); omega) fun k hk => by cases hk; have := (h2'.lt g rfl).1; omega
  have hxl : xs.length = l.length + 1 := by rw [h1.1]; simp
  obtain ⟨ys, z', rfl⟩ : ∃ ys z', xs = ys ++ [z'] := ⟨xs.dropLast, xs.getLast (fun e => by subst e; cases hxl), (List.dropLast_concat_getLast _).symm⟩
  have hyl : ys.length = l.length := by rw [List.length_append, List.length_singleton] at hxl; omega
  rw [← hyl, flat_set6] at q1
  refine ⟨⟨ys ++ [y], ⟨by rw [List.length_append, List.length_append, hyl]; rfl, fun i hi => ?_⟩, ?_⟩, q2, fun j hj => ?_, fun j => World.ownsRow.frozenAt h2' j⟩
  · by_cases hil : i < l.length
    · obtain ⟨u, e1, e2⟩ := h1.2 i (by rw [List.length_append]; omega)
      rw [List.getElem?_append_left (by omega)] at e1
      rw [List.getElem_append_left hil] at e2
      refine ⟨u, by rw [List.getElem?_append_left (by omega)]; exact e1, ?_⟩
      rw [List.getElem_append_left hil]
      exact e2.to hbn (Nat.le_refl _)
    · have hie : i = l.length := by rw [List.length_append, List.length_singleton] at hi; omega
      subst hie
      refine ⟨y, by rw [List.getElem?_append_right (by omega), hyl]; simp, ?_⟩
      rw [List.getElem_append_right (by omega)]
      simp only [Nat.sub_self, List.getElem_cons_zero]
      exact hy.to hbn (Nat.le_refl _)
  · rw [List.length_append]
    rw [hyl] at q1
    exact q1
  · rw [World.ownsRow.cellAt h2' (l.length * 6 + j) (by omega), List.getElem?_eq_getElem (by rw [flatX_len, hxl]; omega)]
    rfl
theorem setCell_comm (w : World) (p q : Addr) (u v : Value) (h : p.block ≠ q.block) : (w.setCell p u).setCell q v = (w.setCell q v).setCell p u := by
  unfold World.setCell
  dsimp only
  congr 1
  apply Array.ext_getElem?
  intro k
  simp only [Array.getElem?_modify]
  by_cases h1 : p.block = k
  · rw [if_pos h1, if_pos h1, if_neg (by omega), if_neg (by omega)]
  · rw [if_neg h1, if_neg h1]
theorem putAt_heap (w : World) (g m : Nat) (y : X) (k : Nat) (h : k ≠ g) : (putAt w g m y).heap[k]? = w.heap[k]? := by
  have hz : ∀ (w : World) (j : Nat) (u : Value), (w.setCell ⟨g, j, none⟩ u).heap[k]? = w.heap[k]? := fun w j u => Below.heap_setCell w ⟨g, j, none⟩ u k h
  unfold putAt
  rw [hz, hz, hz, hz, hz, hz]
theorem putAt_comm (w : World) (g m : Nat) (y : X) (q : Addr) (v : Value) (h : g ≠ q.block) : putAt (w.setCell q v) g m y = (putAt w g m y).setCell q v := by
  unfold putAt
  rw [setCell_comm w q _ v _ h.symm, setCell_comm _ q _ v _ h.symm, setCell_comm _ q _ v _ h.symm, setCell_comm _ q _ v _ h.symm, setCell_comm _ q _ v _ h.symm, setCell_comm _ q _ v _ h.symm]
/-- a body more -/
theorem Ic.push {w : World} {bB bi i : Nat} {Bd : List V} {T : Nat} {ds : List Deferred} {W W1 : World} (h : Ic w bB bi i Bd T ds W) (hT : T ≤ W.heap.size) {bv : Value} (hc : W.cell? ⟨bB, 0, none⟩ = some bv) {g n cap : Nat}
    (hown : OwnN W1 w.heap.size w.heap.size (.slice (some ⟨g, 0, none⟩) n cap) (Bd ++ [V0])) (hn : n = Bd.length + 1) (hg : W.grownBy W1 bv.ownBlock)
    (ho : (Value.slice (some ⟨g, 0, none⟩) n cap).ownBlock = bv.ownBlock ∨ (Value.slice (some ⟨g, 0, none⟩) n cap).ownBlock = some W.heap.size) {v : V} {y : X} (hy : IsB W w.heap.size v y) (C : Nat) :
    Ic w bB bi i (Bd ++ [v]) T ds ((putAt W1 g (Bd.length * 6) y).setCell ⟨bB, 0, none⟩ (.slice (some ⟨g, 0, none⟩) n cap)) ∧ Stp w.heap.size bB C W ((putAt W1 g (Bd.length * 6) y).setCell ⟨bB, 0, none⟩ (.slice (some ⟨g, 0, none⟩) n cap)) ∧
    (∀ j, j < 6 → ∃ u, W1.cell? ⟨g, Bd.length * 6 + j, none⟩ = some u) ∧ (∀ j, W1.frozen? ⟨g, j, none⟩ = false) ∧ g ≠ bB ∧ W1.cell? ⟨bB, 0, none⟩ = some bv ∧ W1.frozen? ⟨bB, 0, none⟩ = false := by
  have hlt := h.lts
  obtain ⟨⟨bv', a1, a2, a3, a4, a5⟩, hz, hr, hrf, hi, hif, hb, hm, n1, n2⟩ := h
  have hbe : bv' = bv := by rw [hc] at a1; cases a1; rfl
  subst hbe
  have hbn : Below w.heap.size W W1 := grownN hg (by omega) fun k hk => (a2.cells hk).1
  obtain ⟨o1, o2, o3, o4⟩ := hown.last hn (Nat.le_refl _) (hy.to hbn (Nat.le_refl _))
  have hgb : ∀ k, k < W.heap.size → bv'.ownBlock ≠ some k → g ≠ k := fun k h1 h2 e => by
    subst e
    rcases ho with ho | ho
    · exact h2 ho.symm
    · have : g = W.heap.size := Option.some.inj ho
      omega
  have hG : W.grownBy (putAt W1 g (Bd.length * 6) y) bv'.ownBlock := ⟨o2.os.trans hg.os, o2.tape.trans hg.tape, o2.output.trans hg.output, Nat.le_trans hg.size o2.size, fun k hk hne => (o2.block k (Nat.lt_of_lt_of_le hk hg.size) fun e => hgb k hk (fun e' => hne e'.symm) (Option.some.inj e).symm).trans (hg.block k hk hne)⟩
  have hst := Stp.app (n0 := w.heap.size) (C := C) (v' := .slice (some ⟨g, 0, none⟩) n cap) hc hG ho (by omega) a3 fun k hk => a2.cells hk
  have hgB := hgb bB (by omega) a3
  have hB1 : (putAt W1 g (Bd.length * 6) y).cell? ⟨bB, 0, none⟩ = some bv' := (World.cell?_of_block (a := ⟨bB, 0, none⟩) (hG.block bB (by omega) fun e => a3 e.symm)).trans hc
  have hB2 : (putAt W1 g (Bd.length * 6) y).frozen? ⟨bB, 0, none⟩ = false := (World.frozen?_of_block (a := ⟨bB, 0, none⟩) (hG.block bB (by omega) fun e => a3 e.symm)).trans hz
  have hB3 := (World.cell?_of_block (a := ⟨bB, 0, none⟩) (hg.block bB (by omega) fun e => a3 e.symm)).trans hc
  have hB4 := (World.frozen?_of_block (a := ⟨bB, 0, none⟩) (hg.block bB (by omega) fun e => a3 e.symm)).trans hz
  have hk : ∀ k, k < W.heap.size → k ≠ bB → bv'.ownBlock ≠ some k → ((putAt W1 g (Bd.length * 6) y).setCell ⟨bB, 0, none⟩ (.slice (some ⟨g, 0, none⟩) n cap)).heap[k]? = W.heap[k]? := fun k h1 h2 h3 => (Below.heap_setCell _ ⟨bB, 0, none⟩ _ k h2).trans (hG.block k h1 fun e => h3 e.symm)
  have hbn2 : Below w.heap.size (putAt W1 g (Bd.length * 6) y) ((putAt W1 g (Bd.length * 6) y).setCell ⟨bB, 0, none⟩ (.slice (some ⟨g, 0, none⟩) n cap)) := (Below.refl _ _).setCell (p := ⟨bB, 0, none⟩) (by show w.heap.size ≤ bB; omega) _
  refine ⟨⟨⟨_, World.cell?_setCell_same _ _ _ hB1, o1.push hbn2 fun k hk => Below.heap_setCell _ ⟨bB, 0, none⟩ _ k (fun e => ?_), fun e => hgB (Option.some.inj e), fun e => hgb _ (by omega) a4 (Option.some.inj e), fun e => hgb _ hlt a5 (Option.some.inj e)⟩, by simp [hB2], ?_, ?_, ?_, ?_, hb.trans hst.kd.below, ?_, n1, n2⟩, hst, fun j hj => Option.isSome_iff_exists.1 (o3 j hj), o4, hgB, hB3, hB4⟩
  · cases hk
    exact hgB e
  · exact (World.cell?_of_block (a := ⟨w.heap.size + 1, 0, none⟩) (hk _ (by show w.heap.size + 1 < W.heap.size; omega) (by show w.heap.size + 1 ≠ bB; omega) a4)).trans hr
  · exact (World.frozen?_of_block (a := ⟨w.heap.size + 1, 0, none⟩) (hk _ (by show w.heap.size + 1 < W.heap.size; omega) (by show w.heap.size + 1 ≠ bB; omega) a4)).trans hrf
  · exact (World.cell?_of_block (a := ⟨bi, 0, none⟩) (hk _ hlt (by show bi ≠ bB; omega) a5)).trans hi
  · exact (World.frozen?_of_block (a := ⟨bi, 0, none⟩) (hk _ hlt (by show bi ≠ bB; omega) a5)).trans hif
  · refine hm.to fun D _ hD he => (hk D (by omega) (fun e => ?_) fun e => ?_).trans he
    · subst e
      obtain ⟨o, q1, q2⟩ := cells_of_cell hc
      rw [show (⟨D, 0, none⟩ : Addr).block = D from rfl, he] at q1
      cases q1
      cases q2
    · obtain ⟨-, o, q1, q2⟩ := a2.cells e
      rw [he] at q1
      cases q1
      cases q2
end Go.Proofs.Ytgehgccgologpaa.Z
