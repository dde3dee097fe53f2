/-
  The stack of what is left and the row of what is around, in memory; a node laid upon both, whatever order.
-/
import Derived.Test.YtgehgccgologpaaZe
namespace Go.Proofs.Ytgehgccgologpaa.Z
open Go.RowKit Go.Proofs.Ytgehgccgologpaa Go.Proofs.Ytgehgccgologpaa.R Go.Proofs.Ytgehgccgologpaa.T

theorem OwnS.form {w : World} {b : Nat} {v : Value} {ps : List Pc} (h : OwnS w b v ps) : (v = .slice none 0 0 ∧ ps = []) ∨ ∃ g cap, v = .slice (some ⟨g, 0, none⟩) ps.length cap ∧ ps.length ≤ cap ∧ b ≤ g ∧ g < w.heap.size := by
  rcases h.2 with ⟨rfl, h0⟩ | ⟨g, cap, cur, rfl, hb, hg, hnc, _⟩
  · exact .inl ⟨rfl, List.eq_nil_of_length_eq_zero h0⟩
  · exact .inr ⟨g, cap, rfl, hnc, hb, (Array.getElem?_eq_some_iff.1 hg).1⟩
theorem OwnS.lt {w : World} {b : Nat} {v : Value} {ps : List Pc} (h : OwnS w b v ps) {k : Nat} (hk : v.ownBlock = some k) : b ≤ k ∧ k < w.heap.size := World.ownsRow.lt h k hk
/-- the state of the iterator -/
structure St (C n0 B M T : Nat) (L : List (List V)) (A : List V) (lv av : Value) (w : World) : Prop where
  own : ∃ ps, OwnS w C lv ps ∧ PcsIs w n0 ps L.reverse
  arn : OwnN w C n0 av A.reverse
  nl : ∀ k, lv.ownBlock = some k → ¬ Dd B w k
  na : ∀ k, av.ownBlock = some k → ¬ Dd B w k
  ne : ∀ k, lv.ownBlock = some k → av.ownBlock ≠ some k
  len : A.length + 1 = L.length ∨ (L = [] ∧ A = [])
  sz : L.length + szL L ≤ T
  bl : ∀ m ∈ L, V.bulks m ≤ M
  ba : ∀ u ∈ A, u.bulk ≤ M
  cs : C ≤ w.heap.size
  dc : ∀ k, Dd B w k → k < w.heap.size
/-- all that it speaks of is as it was -/
theorem St.same {C n0 B M T : Nat} {L : List (List V)} {A : List V} {lv av : Value} {w w' : World} (h : St C n0 B M T L A lv av w) (hn : Below n0 w w')
    (hl : ∀ k o, lv.ownBlock = some k → w.heap[k]? = some o → o.isCells = true → w'.heap[k]? = some o) (ha : ∀ k o, av.ownBlock = some k → w.heap[k]? = some o → o.isCells = true → w'.heap[k]? = some o)
    (hd : ∀ k, k < w.heap.size → Dd B w' k → Dd B w k) (hdc : ∀ k, Dd B w' k → k < w'.heap.size) : St C n0 B M T L A lv av w' := by
  obtain ⟨ps, h1, h2⟩ := h.own
  exact ⟨⟨ps, own_keepC h1 hl, h2.to hn⟩, h.arn.keepC hn ha, fun k hk e => h.nl k hk (hd k (h1.lt hk).2 e), fun k hk e => h.na k hk (hd k (h.arn.lt k hk).2 e), h.ne, h.len, h.sz, h.bl, h.ba, Nat.le_trans h.cs hn.size, hdc⟩
theorem St.kd {C n0 B M T : Nat} {L : List (List V)} {A : List V} {lv av : Value} {w w' : World} (h : St C n0 B M T L A lv av w) (hk : Kd n0 B w w') (hdc : ∀ k, Dd B w' k → k < w'.heap.size) : St C n0 B M T L A lv av w' :=
  h.same hk.below (fun k o e ho hc => hk.cells k o (h.nl k e) ho hc) (fun k o e ho hc => hk.cells k o (h.na k e) ho hc) hk.own hdc
theorem St.low {C n0 B M T : Nat} {L : List (List V)} {A : List V} {lv av : Value} {w w' : World} (h : St C n0 B M T L A lv av w) (hn : n0 ≤ C) (hb : Below w.heap.size w w') : St C n0 B M T L A lv av w' := by
  have hB : B < w.heap.size := h.dc B (.inl rfl)
  exact h.kd (Kd.of_below (Nat.le_trans hn h.cs) hB hb) fun k e => Nat.lt_of_lt_of_le (h.dc k (Dd.of (hb.block B hB) e)) hb.size
/-- what the loop's body says stays -/
theorem St.j {C n0 B M T : Nat} {L : List (List V)} {A : List V} {lv av : Value} {w w' : World} (h : St C n0 B M T L A lv av w) {β : Type} {J : β → World → Prop} (hJ : LowD C B J) {s : β} (hj : J s w) (hf : Fr (fun k => k < w.heap.size ∧ lv.ownBlock ≠ some k ∧ av.ownBlock ≠ some k) w w') : J s w' := by
  refine hJ s w w' hj (hf.mono fun k hk => ?_)
  obtain ⟨ps, h1, h2⟩ := h.own
  rcases hk with hk | hk
  · refine ⟨Nat.lt_of_lt_of_le hk h.cs, fun e => ?_, fun e => ?_⟩
    · have := (h1.lt e).1; omega
    · have := (h.arn.lt k e).1; omega
  · exact ⟨h.dc k hk, fun e => h.nl k e hk, fun e => h.na k e hk⟩
theorem St.jlow {C n0 B M T : Nat} {L : List (List V)} {A : List V} {lv av : Value} {w w' : World} (h : St C n0 B M T L A lv av w) {β : Type} {J : β → World → Prop} (hJ : LowD C B J) {s : β} (hj : J s w) (hb : Below w.heap.size w w') : J s w' :=
  h.j hJ hj (Fr_of hb fun _ hk => hk.1)
theorem own_grownF {w w' : World} {row : Option Nat} (hg : w.grownBy w' row) {F : Nat → Prop} (hF : ∀ k, F k → k < w.heap.size ∧ row ≠ some k) : Fr F w w' :=
  ⟨hg.os, hg.tape, hg.output, hg.size, fun k hk => hg.block k (hF k hk).1 fun e => (hF k hk).2 e.symm⟩
theorem take_rev : ∀ A : List V, A.reverse.take (A.length - 1) = A.tail.reverse
  | [] => rfl
  | a :: r => by rw [List.reverse_cons, List.length_cons, Nat.add_sub_cancel, List.take_left' (by simp)]; rfl
/-- a list is at its end -/
theorem St.pop {C n0 B M T : Nat} {L : List (List V)} {A : List V} {lv av : Value} {w : World} (h : St C n0 B M T ([] :: L) A lv av w) :
    ∃ g cap, lv = .slice (some ⟨g, 0, none⟩) (L.length + 1) cap ∧ L.length + 1 ≤ cap ∧ A.length = L.length ∧ (∃ A1 c1, w.cell? ⟨g, L.length, none⟩ = some (.slice A1 0 c1)) ∧
      ((av = .slice none 0 0 ∧ A = [] ∧ St C n0 B M T L A.tail (.slice (some ⟨g, 0, none⟩) L.length cap) av w) ∨
       ∃ g2 cap2, av = .slice (some ⟨g2, 0, none⟩) A.length cap2 ∧ A.length ≤ cap2 ∧ St C n0 B M T L A.tail (.slice (some ⟨g, 0, none⟩) L.length cap) (.slice (some ⟨g2, 0, none⟩) (A.length - 1) cap2) w) := by
  obtain ⟨ps, h1, h2⟩ := h.own
  rw [List.reverse_cons] at h2
  obtain ⟨ps', p, rfl, h3, h4⟩ := h2.last
  have hal : A.length = L.length := by
    rcases h.len with e | ⟨e, _⟩
    · simpa using e
    · cases e
  have hpl : ps'.length = L.length := by rw [h3.len, List.length_reverse]
  rcases h1.form with ⟨_, e⟩ | ⟨g, cap, rfl, hc, hg, hgw⟩
  · simp at e
  rw [List.length_append, List.length_singleton, hpl] at hc
  have hcell : w.cell? ⟨g, L.length, none⟩ = some p.v := by
    have := World.ownsRow.cellAt h1 L.length (by rw [List.length_append, hpl]; simp)
    rw [this, vls, List.map_append, List.getElem?_append_right (by rw [List.length_map]; omega), List.length_map, hpl]
    simp
  have hown : OwnS w C (.slice (some ⟨g, 0, none⟩) L.length cap) ps' := by
    have := own_take (m := L.length) h1 (by rw [List.length_append, hpl]; omega)
    rw [Nat.mul_one, vls, List.map_append, List.take_append_of_le_length (by rw [List.length_map]; omega), List.take_of_length_le (by rw [List.length_map]; omega)] at this
    show World.ownsRow _ _ _ _ _ ps'.length _
    rw [hpl]
    exact this
  have hp0 : p.n = 0 := h4.n
  refine ⟨g, cap, by rw [List.length_append, List.length_singleton, hpl], hc, hal, ⟨p.A, p.c, by rw [hcell, ← hp0]; rfl⟩, ?_⟩
  have hlen : A.tail.length + 1 = L.length ∨ (L = [] ∧ A.tail = []) := by
    rcases L with _ | ⟨m, L⟩
    · exact .inr ⟨rfl, by rw [List.eq_nil_of_length_eq_zero hal]; rfl⟩
    · exact .inl (by rw [List.length_tail, hal]; simp)
  have hsz : L.length + szL L ≤ T := by
    have := h.sz
    rw [szL_cons, List.length_cons] at this
    omega
  have hbl : ∀ m ∈ L, V.bulks m ≤ M := fun m hm => h.bl m (List.mem_cons_of_mem _ hm)
  have hba : ∀ u ∈ A.tail, u.bulk ≤ M := fun u hu => h.ba u (List.mem_of_mem_tail hu)
  have hnl := h.nl
  have hne := h.ne
  rcases h.arn.form with ⟨rfl, e⟩ | ⟨g2, cap2, rfl, hc2, hg2⟩
  · have hA : A = [] := by simpa using e
    subst hA
    exact .inl ⟨rfl, rfl, ⟨⟨ps', hown, h3⟩, h.arn, fun k hk => hnl k hk, h.na, fun k hk => hne k hk, hlen, hsz, hbl, hba, h.cs, h.dc⟩⟩
  · rw [List.length_reverse] at hc2
    refine .inr ⟨g2, cap2, by rw [List.length_reverse], hc2, ⟨⟨ps', hown, h3⟩, ?_, fun k hk => hnl k hk, fun k hk => h.na k hk, fun k hk => hne k hk, hlen, hsz, hbl, hba, h.cs, h.dc⟩⟩
    have := h.arn.take (m := A.length - 1) rfl (by rw [List.length_reverse]; omega)
    rw [take_rev A] at this
    exact this
/-- the next node -/
theorem St.next {C n0 B M T : Nat} {v : V} {r : List V} {L : List (List V)} {A : List V} {lv av : Value} {w : World} (hn : n0 ≤ C) (h : St C n0 B M T ((v :: r) :: L) A lv av w) :
    ∃ g cap A1 c1 gn on y, lv = .slice (some ⟨g, 0, none⟩) (L.length + 1) cap ∧ L.length + 1 ≤ cap ∧ A.length = L.length ∧ w.cell? ⟨g, L.length, none⟩ = some (.slice A1 (r.length + 1) c1) ∧ r.length + 1 ≤ c1 ∧ C ≤ g ∧ g < w.heap.size ∧
      A1 = some ⟨gn, on, none⟩ ∧ gn < n0 ∧ At w gn on y ∧ IsB w n0 v y ∧
      ∃ w2, (w.alloc (.cells y.cells 25)).setCell ⟨g, L.length, none⟩ (.slice (tlA A1 c1) r.length (c1 - 1)) = w2 ∧ (w.alloc (.cells y.cells 25)).frozen? ⟨g, L.length, none⟩ = false ∧
      St C n0 B M T (r :: L) A lv av w2 ∧ At w2 w.heap.size 0 y ∧ ¬ Dd B w2 w.heap.size ∧ IsB w2 n0 v y ∧ w2.heap.size = w.heap.size + 1 ∧ (∀ {β : Type} {J : β → World → Prop}, LowD C B J → ∀ s, J s w → J s w2) := by
  have hcs := h.cs
  obtain ⟨ps, h1, h2⟩ := h.own
  rw [List.reverse_cons] at h2
  obtain ⟨ps', p, rfl, h3, h4⟩ := h2.last
  have hal : A.length = L.length := by
    rcases h.len with e | ⟨e, _⟩
    · simpa using e
    · cases e
  have hpl : ps'.length = L.length := by rw [h3.len, List.length_reverse]
  rcases h1.form with ⟨_, e⟩ | ⟨g, cap, rfl, hc, hg, hgw⟩
  · simp at e
  rw [List.length_append, List.length_singleton, hpl] at hc h1
  have h1 : w.ownsRow C 23 1 (.slice (some ⟨g, 0, none⟩) (L.length + 1) cap) (L.length + 1) (vls (ps' ++ [p])) := by
    have h1' : w.ownsRow C 23 1 (.slice (some ⟨g, 0, none⟩) (L.length + 1) cap) (ps' ++ [p]).length (vls (ps' ++ [p])) := h1
    rw [List.length_append, List.length_singleton, hpl] at h1'
    exact h1'
  have hcell : w.cell? ⟨g, L.length, none⟩ = some p.v := by
    have := World.ownsRow.cellAt h1 L.length (by omega)
    rw [this, vls, List.map_append, List.getElem?_append_right (by rw [List.length_map]; omega), List.length_map, hpl]
    simp
  obtain ⟨gn, on, hA, hgn, y, hat, hy⟩ := h4.row.at_ (i := 0) (by simp)
  rw [Nat.zero_mul, Nat.add_zero] at hat
  have hy : IsB w n0 v y := hy
  have hpn : p.n = r.length + 1 := h4.n
  have hpc : r.length + 1 ≤ p.c := by rw [← hpn]; exact h4.c
  obtain ⟨w1, hw1⟩ : ∃ w1, w.alloc (.cells y.cells 25) = w1 := ⟨_, rfl⟩
  have hb1 : Below w.heap.size w w1 := by rw [← hw1]; exact below_alloc _ _
  have hz1 : w1.heap.size = w.heap.size + 1 := by rw [← hw1]; simp
  have h11 := own_sameB h1 (w' := w1) fun k hk => hb1.block k (by cases hk; exact hgw)
  obtain ⟨w2, hw2⟩ : ∃ w2, w1.setCell ⟨g, L.length, none⟩ (.slice (tlA p.A p.c) r.length (p.c - 1)) = w2 := ⟨_, rfl⟩
  obtain ⟨h12, hgr⟩ := World.ownsRow.stored h11 L.length (.slice (tlA p.A p.c) r.length (p.c - 1))
  rw [hw2] at h12 hgr
  have hz2 : w2.heap.size = w.heap.size + 1 := by rw [← hw2, ← hz1]; simp [World.setCell]
  have hnb2 : ∀ k, k < w.heap.size → k ≠ g → w2.heap[k]? = w.heap[k]? := fun k h5 h6 => (hgr.block k (by omega) (fun e => by cases e; exact h6 rfl)).trans (hb1.block k h5)
  have hBg : B ≠ g := fun e => h.nl g rfl (.inl e.symm)
  have hBw : B < w.heap.size := h.dc B (.inl rfl)
  have hDd : ∀ k, Dd B w2 k → Dd B w k := fun k e => Dd.of (hnb2 B hBw hBg) e
  have hfr : Fr (fun k => k < w.heap.size ∧ k ≠ g) w w2 := ⟨hgr.os.trans hb1.os, hgr.tape.trans hb1.tape, hgr.output.trans hb1.output, by omega, fun k hk => hnb2 k hk.1 hk.2⟩
  have hbn : Below n0 w w2 := (hfr.mono (F' := (· < n0)) fun k hk => ⟨by omega, by omega⟩).below
  have hfz : w1.frozen? ⟨g, L.length, none⟩ = false := World.ownsRow.frozenAt h11 _
  have hrow : PcIs w2 n0 ⟨tlA p.A p.c, r.length, p.c - 1⟩ r := by
    refine ⟨rfl, by show r.length ≤ p.c - 1; omega, ?_⟩
    have := row_tl (h4.to hbn).row (by rw [List.length_cons]; exact hpc)
    exact this
  refine ⟨g, cap, p.A, p.c, gn, on, y, by rw [List.length_append, List.length_singleton, hpl], hc, hal, by rw [hcell, ← hpn]; rfl, hpc, hg, hgw, hA, hgn, hat, hy, w2, by rw [hw1]; exact hw2, by rw [hw1]; exact hfz, ?_, ?_, ?_, hy.to hbn (Nat.le_refl _), hz2, ?_⟩
  · refine ⟨⟨ps' ++ [⟨tlA p.A p.c, r.length, p.c - 1⟩], ?_, ?_⟩, ?_, fun k hk e => h.nl k hk (hDd k e), fun k hk e => h.na k hk (hDd k e), h.ne, ?_, ?_, ?_, h.ba, by omega, fun k e => by have := h.dc k (hDd k e); omega⟩
    · have e : (vls (ps' ++ [p])).set L.length (.slice (tlA p.A p.c) r.length (p.c - 1)) = vls (ps' ++ [⟨tlA p.A p.c, r.length, p.c - 1⟩]) := by
        rw [vls, vls, List.map_append, List.map_append, List.set_append_right _ _ (by rw [List.length_map]; omega), List.length_map, hpl, Nat.sub_self]
        rfl
      rw [e] at h12
      have e2 : (ps' ++ [(⟨tlA p.A p.c, r.length, p.c - 1⟩ : Pc)]).length = L.length + 1 := by rw [List.length_append, List.length_singleton, hpl]
      show World.ownsRow _ _ _ _ _ (ps' ++ [(⟨tlA p.A p.c, r.length, p.c - 1⟩ : Pc)]).length _
      rw [e2, show (ps' ++ [p]).length = L.length + 1 by rw [List.length_append, List.length_singleton, hpl]]
      exact h12
    · rw [List.reverse_cons]
      exact (h3.to hbn).app hrow
    · refine h.arn.keepC hbn fun k o hk ho _ => ?_
      rw [hnb2 k (h.arn.lt k hk).2 fun e => h.ne g rfl (by rw [← e]; exact hk)]
      exact ho
    · rcases h.len with e | ⟨e, _⟩
      · exact .inl e
      · cases e
    · have := h.sz
      rw [szL_cons, sizes_cons, List.length_cons] at this
      rw [szL_cons, List.length_cons]
      omega
    · intro m hm
      rcases List.mem_cons.1 hm with rfl | hm
      · have := h.bl (v :: m) (List.mem_cons_self ..)
        rw [V.bulks] at this
        omega
      · exact h.bl m (List.mem_cons_of_mem _ hm)
  · have h0 : At w1 w.heap.size 0 y := by
      rw [← hw1]
      obtain ⟨k, nm, n, s, ka, kn, kc, la, ln, lc⟩ := y
      refine ⟨?_, ?_, ?_, ?_, ?_, ?_⟩ <;> simp [X.cells]
    have hbl : ∀ j, w2.cell? ⟨w.heap.size, j, none⟩ = w1.cell? ⟨w.heap.size, j, none⟩ := fun j => World.cell?_of_block (hgr.block w.heap.size (by omega) (fun e => by cases e; omega))
    exact ⟨(hbl _).trans h0.c0, (hbl _).trans h0.c1, (hbl _).trans h0.c2, (hbl _).trans h0.c3, (hbl _).trans h0.c4, (hbl _).trans h0.c5⟩
  · intro e
    have := h.dc _ (hDd _ e)
    omega
  · intro β J hJ s hs
    refine hJ s w w2 hs (hfr.mono fun k hk => ?_)
    rcases hk with hk | hk
    · exact ⟨by omega, by omega⟩
    · exact ⟨h.dc k hk, fun e => h.nl k (by rw [e]; rfl) hk⟩
end Go.Proofs.Ytgehgccgologpaa.Z
