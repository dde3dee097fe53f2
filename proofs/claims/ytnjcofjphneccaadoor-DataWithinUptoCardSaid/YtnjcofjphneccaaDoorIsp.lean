/-
  MEMORY: a struct that reads as a value, its rows in the blocks of P.
-/
import Derived.Test.YtnjcofjphneccaaDoorDet
namespace Go.Proofs.YtnjcofjphneccaaDoor
open Go.RowKit

def StrsP (w : World) (P : Nat → Prop) (A : Option Addr) (ks : List ByteArray) : Prop :=
  ks = [] ∨ ∃ g o, A = some ⟨g, o, none⟩ ∧ P g ∧ ∀ j (h : j < ks.length), w.cell? ⟨g, o + j, none⟩ = some (.string ks[j])
mutual
def IsP (w : World) (P : Nat → Prop) : V → X → Prop
  | .mk k n s ks l, x => (x.k = k ∧ x.n = n ∧ x.s = s) ∧ (x.kn = ks.length ∧ x.kn ≤ x.kc ∧ StrsP w P x.ka ks) ∧ x.ln = l.length ∧ x.ln ≤ x.lc ∧ (l = [] ∨ ∃ g o, x.la = some ⟨g, o, none⟩ ∧ P g ∧ IsAllP w P g o l)
def IsAllP (w : World) (P : Nat → Prop) : Nat → Nat → List V → Prop
  | _, _, [] => True
  | g, o, v :: r => (∃ y, At w g o y ∧ IsP w P v y) ∧ IsAllP w P g (o + 5) r
end
theorem isAllP_iff (w : World) (P : Nat → Prop) (g : Nat) : ∀ (o : Nat) (l : List V), IsAllP w P g o l ↔ ∀ i (h : i < l.length), ∃ y, At w g (o + i * 5) y ∧ IsP w P l[i] y
  | o, [] => by simp [IsAllP]
  | o, v :: r => by
    rw [IsAllP, isAllP_iff w P g (o + 5) r]
    constructor
    · rintro ⟨h0, h⟩ i hi
      cases i with
      | zero => exact h0
      | succ i =>
        obtain ⟨y, h1, h2⟩ := h i (by simpa using hi)
        exact ⟨y, by rw [show o + (i + 1) * 5 = o + 5 + i * 5 by omega]; exact h1, h2⟩
    · intro h
      refine ⟨h 0 (by simp), fun i hi => ?_⟩
      obtain ⟨y, h1, h2⟩ := h (i + 1) (by simpa using hi)
      exact ⟨y, by rw [show o + 5 + i * 5 = o + (i + 1) * 5 by omega]; exact h1, h2⟩
theorem isP_iff (w : World) (P : Nat → Prop) (v : V) (x : X) : IsP w P v x ↔ (x.k = v.k ∧ x.n = v.n ∧ x.s = v.s) ∧ (x.kn = v.ks.length ∧ x.kn ≤ x.kc ∧ StrsP w P x.ka v.ks) ∧ x.ln = v.l.length ∧ x.ln ≤ x.lc ∧ (v.l = [] ∨ ∃ g o, x.la = some ⟨g, o, none⟩ ∧ P g ∧ IsAllP w P g o v.l) := by
  cases v
  rw [IsP]
  rfl
theorem StrsP.fr {w w' : World} {P P' : Nat → Prop} {A : Option Addr} {ks : List ByteArray} (h : StrsP w P A ks) (hb : Fr P w w') (hP : ∀ g, P g → P' g) : StrsP w' P' A ks := by
  rcases h with h | ⟨g, o, rfl, h2, h3⟩
  · exact .inl h
  · exact .inr ⟨g, o, rfl, hP g h2, fun j hj => (hb.cell (p := ⟨g, o + j, none⟩) h2).trans (h3 j hj)⟩
theorem IsP.fr {w w' : World} {P P' : Nat → Prop} (hb : Fr P w w') (hP : ∀ g, P g → P' g) : ∀ (v : V) (x : X), IsP w P v x → IsP w' P' v x := by
  refine V.ind fun k n s ks l ih => ?_
  intro x h
  rw [isP_iff] at h ⊢
  obtain ⟨h1, ⟨h2, h3, h4⟩, h5, h6, h7⟩ := h
  refine ⟨h1, ⟨h2, h3, h4.fr hb hP⟩, h5, h6, h7.imp id fun ⟨g, o, e1, e2, e3⟩ => ⟨g, o, e1, hP g e2, (isAllP_iff w' P' g o l).2 fun i hi => ?_⟩⟩
  obtain ⟨y, f1, f2⟩ := (isAllP_iff w P g o l).1 e3 i hi
  exact ⟨y, f1.fr e2 hb, ih _ (List.getElem_mem hi) y f2⟩
theorem IsP.is {w : World} {P : Nat → Prop} (hP : ∀ g, P g → g < w.heap.size) : ∀ (v : V) (x : X), IsP w P v x → Is w v x := by
  refine V.ind fun k n s ks l ih => ?_
  intro x h
  rw [isP_iff] at h
  rw [is_iff]
  obtain ⟨h1, ⟨h2, h3, h4⟩, h5, h6, h7⟩ := h
  refine ⟨h1, ⟨h2, h3, h4.imp id fun ⟨g, o, e1, e2, e3⟩ => ⟨g, o, e1, hP g e2, e3⟩⟩, h5, h6, h7.imp id fun ⟨g, o, e1, e2, e3⟩ => ⟨g, o, e1, hP g e2, (isAll_iff _ _ g o l).2 fun i hi => ?_⟩⟩
  obtain ⟨y, f1, f2⟩ := (isAllP_iff w P g o l).1 e3 i hi
  exact ⟨y, f1, ih _ (List.getElem_mem hi) y f2⟩
/-- append to nothing, wherever in a statement -/
theorem wp_fresh {P : Program} {w : World} {o : Oper} {a : Act} {K : Act → World → Prop} {Q : Exit → Act → World → Prop} (s x : Operand) (t : TypeId)
    (ho : o.op = .call { callee := .builtin .append, args := #[s, x], argTypes := #[t, t] })
    (e : TypeId) (i : TypeInfo) (z : Value) (size bytes : Nat) (ht : P.underlying t = some (.slice e)) (hi : P.info? e = some i) (hz : i.zero = some z)
    (hsize : i.size = size) (hby : i.bytes = bytes) (hzs : z.cells.size = size) (hsz : 0 < size) (hs : a.eval s = .slice none 0 0)
    (A : Option Addr) (m c : Nat) (hx : a.eval x = .slice A m c) (news : List Value) (hl : news.length = m * size) (hnews : m = 0 ∨ ∃ ad, A = some ad ∧ ∀ j u, news[j]? = some u → w.cell? (ad.add j) = some u) (h1 : ∀ u ∈ news, u.oneCell' = true)
    (hm : m ≤ 4194304) (hb : bytes ≤ 1048576)
    (h : ∀ A' c' w', Below w.heap.size w w' → Hid (Fresh w w' e A' m c' news) → K (a.put o.dst (.slice A' m c')) w') : o.wp P a w K Q := by
  rcases Nat.eq_zero_or_pos m with rfl | hm0
  · have hrun := run_nil_zero (P := P) (w := w) t o.type e i ht hi A c
    unfold Oper.wp
    simp [execOp, ho, resolve, invoke, builtin, hs, hx, hrun, Result.andThen]
    exact h none 0 w (Below.refl _ _) (.inl ⟨rfl, rfl, rfl⟩)
  · obtain ⟨ad, rfl, hn⟩ : ∃ ad, A = some ad ∧ ∀ j u, news[j]? = some u → w.cell? (ad.add j) = some u := hnews.resolve_left (by omega)
    have hle : (0 + m) * bytes ≤ 4194304 * 1048576 := Nat.mul_le_mul (by omega) hb
    refine wp_append_lies (P := P) w s x t ho 0 e i z size bytes ht hi hz hsize hby hzs hsz (.slice none 0 0) 0 [] hs ⟨by simp, .inl ⟨rfl, rfl⟩⟩ ad m c news hx hl hn h1 hm0 (by unfold maxLen; omega) (by omega) (Nat.zero_le _) _ rfl ?_
    intro g cap w' hown hg hat hlt
    rcases hown.2 with ⟨h0, _⟩ | ⟨n, cap', cur, hv, _, hgs, hnc, _, hcs, htk⟩
    · cases h0
    · injection hv with e1 _ e3
      injection e1 with e1
      injection e1 with e1
      subst e1 e3
      have hgw : g = w.heap.size := by
        rcases hat with h | h
        · simp [Value.ownBlock] at h
        · exact h
      have hbel : Below w.heap.size w w' := ⟨hg.os, hg.tape, hg.output, hg.size, fun k hk => hg.block k hk (by simp [Value.ownBlock])⟩
      rw [Nat.zero_add] at hnc ⊢
      refine h _ cap w' hbel (.inr ⟨hm0, g, cur, rfl, Nat.le_of_eq hgw.symm, hlt, hnc, hgs, fun j u hu => ?_⟩)
      rw [cell_of_row w' _ j cur e (0, 0) hgs]
      have hj : j < news.length := (List.getElem?_eq_some_iff.1 hu).1
      rw [List.nil_append, Nat.zero_add] at htk
      rw [← htk, List.getElem?_take, if_pos (by omega)] at hu
      rw [← hu, Array.getElem?_toList]
theorem step_fresh {P : Program} {w : World} {ops : Array Oper} {o : Oper} {a : Act} {K : Act → World → Prop} {Q : Exit → Act → World → Prop} {E : Prop} (hgd : o.guard = none) (s x : Operand) (t : TypeId)
    (ho : o.op = .call { callee := .builtin .append, args := #[s, x], argTypes := #[t, t] })
    (e : TypeId) (i : TypeInfo) (z : Value) (size bytes : Nat) (ht : P.underlying t = some (.slice e)) (hi : P.info? e = some i) (hz : i.zero = some z)
    (hsize : i.size = size) (hby : i.bytes = bytes) (hzs : z.cells.size = size) (hsz : 0 < size) (hs : a.eval s = .slice none 0 0)
    (A : Option Addr) (m c : Nat) (hx : a.eval x = .slice A m c) (news : List Value) (hl : news.length = m * size) (hnews : m = 0 ∨ ∃ ad, A = some ad ∧ ∀ j u, news[j]? = some u → w.cell? (ad.add j) = some u) (h1 : ∀ u ∈ news, u.oneCell' = true)
    (hm : m ≤ 4194304) (hb : bytes ≤ 1048576)
    (h : ∀ A' c' w', Below w.heap.size w w' → Hid (Fresh w w' e A' m c' news) → K (a.put o.dst (.slice A' m c')) w') :
    if Region.wanted o (yielded ops a.tmps) = true then Oper.wp P o a w K Q else E := by
  have hw : Region.wanted o (yielded ops a.tmps) = true := by simp [Region.wanted, hgd]
  rw [if_pos hw]
  exact wp_fresh s x t ho e i z size bytes ht hi hz hsize hby hzs hsz hs A m c hx news hl hnews h1 hm hb h

theorem flat5_snoc (ys : List X) (y : X) : flat5 (ys ++ [y]) = flat5 ys ++ y.cells.toList := by
  unfold flat5
  rw [List.flatMap_append]
  simp
/-- the reference's copy while its elements are made -/
structure Cp (w1 : World) (sg : Nat) (c0 c1 c2 c3 : Value) (l : List V) (j : Nat) (wr : World) (lA : Option Addr) (lC : Nat) (ys : List X) : Prop where
  lt : sg < w1.heap.size
  fr : Fr (fun k => k < w1.heap.size ∧ k ≠ sg) w1 wr
  row : wr.heap[sg]? = some (.cells #[c0, c1, c2, c3, .slice lA j lC] 25 (0, 0))
  own : wr.ownsRow w1.heap.size 25 5 (.slice lA j lC) j (flat5 ys)
  len : ys.length = j
  kid : ∀ i (_ : i < ys.length) (h2 : i < l.length), IsP wr (fun g => w1.heap.size ≤ g ∧ g < wr.heap.size ∧ some g ≠ (Value.slice lA j lC).ownBlock) l[i] ys[i]
theorem Cp.step {w1 wr wa w2 w3 : World} {sg : Nat} {c0 c1 c2 c3 : Value} {l : List V} {j : Nat} {lA : Option Addr} {lC : Nat} {ys : List X} (h : Cp w1 sg c0 c1 c2 c3 l j wr lA lC ys) (hj : j < l.length) {y : X}
    (ha : Below wr.heap.size wr wa) (h2 : Below wa.heap.size wa w2) (hy : IsP w2 (fun g => wa.heap.size ≤ g ∧ g < w2.heap.size) l[j] y)
    {g cap : Nat} (h3 : w3.ownsRow w1.heap.size 25 5 (.slice (some ⟨g, 0, none⟩) (j + 1) cap) (j + 1) (flat5 ys ++ y.cells.toList)) (hg : (w2.alloc (.cells y.cells 25)).grownBy w3 (Value.slice lA j lC).ownBlock)
    (hat : (Value.slice lA j lC).ownBlock = some g ∨ g = w2.heap.size + 1) : Cp w1 sg c0 c1 c2 c3 l (j + 1) (w3.setCell ⟨sg, 4, none⟩ (.slice (some ⟨g, 0, none⟩) (j + 1) cap)) (some ⟨g, 0, none⟩) cap (ys ++ [y]) := by
  obtain ⟨hlt, hfr, hrow, hown, hlen, hkid⟩ := h
  have hs1 := hfr.size
  have hs2 := ha.size
  have hs3 := h2.size
  have hs4 := hg.size
  have hs4' : w2.heap.size + 1 ≤ w3.heap.size := by simpa using hs4
  have hob : ∀ k, (Value.slice lA j lC).ownBlock = some k → w1.heap.size ≤ k ∧ k < wr.heap.size := hown.lt
  have hgs : w1.heap.size ≤ g := by
    rcases hat with e | e
    · exact (hob g e).1
    · omega
  -- what was there stays
  have hold : ∀ k, k < wr.heap.size → some k ≠ (Value.slice lA j lC).ownBlock → w3.heap[k]? = wr.heap[k]? := fun k hk hne => by
    rw [hg.block k (by simp; omega) hne, Below.heap_alloc _ _ _ (by omega), h2.block k (by omega), ha.block k hk]
  have hsgn : some sg ≠ (Value.slice lA j lC).ownBlock := fun e => by
    have := (hob sg e.symm).1
    omega
  have hrow3 : w3.heap[sg]? = some (.cells #[c0, c1, c2, c3, .slice lA j lC] 25 (0, 0)) := (hold sg (by omega) hsgn).trans hrow
  have hset : ∀ k, k ≠ sg → (w3.setCell ⟨sg, 4, none⟩ (.slice (some ⟨g, 0, none⟩) (j + 1) cap)).heap[k]? = w3.heap[k]? := fun k hk => Below.heap_setCell _ _ _ _ hk
  have hsz : (w3.setCell ⟨sg, 4, none⟩ (.slice (some ⟨g, 0, none⟩) (j + 1) cap)).heap.size = w3.heap.size := by simp [World.setCell]
  have hos : (w3.setCell ⟨sg, 4, none⟩ (.slice (some ⟨g, 0, none⟩) (j + 1) cap)).os = wr.os ∧ (w3.setCell ⟨sg, 4, none⟩ (.slice (some ⟨g, 0, none⟩) (j + 1) cap)).tape = wr.tape ∧ (w3.setCell ⟨sg, 4, none⟩ (.slice (some ⟨g, 0, none⟩) (j + 1) cap)).output = wr.output :=
    ⟨hg.os.trans (h2.os.trans ha.os), hg.tape.trans (h2.tape.trans ha.tape), hg.output.trans (h2.output.trans ha.output)⟩
  refine ⟨hlt, hfr.trans ⟨hos.1, hos.2.1, hos.2.2, by rw [hsz]; omega, fun k hk => ?_⟩, hp_row_set hrow3 _, ?_, by simp [hlen], fun i hi hl => ?_⟩
  · rw [hset k hk.2, hold k (by omega) (fun e => by have := (hob k e.symm).1; omega)]
  · rw [flat5_snoc]
    refine ⟨h3.1, ?_⟩
    rcases h3.2 with h | ⟨g', cap', cur, hv, hb', hg', r⟩
    · exact .inl h
    · refine .inr ⟨g', cap', cur, hv, hb', ?_, r⟩
      rw [hset g' (by omega)]
      exact hg'
  · rw [hsz]
    by_cases e : i < ys.length
    · rw [List.getElem_append_left e]
      refine IsP.fr ?_ ?_ _ _ (hkid i e hl)
      · refine ⟨hos.1, hos.2.1, hos.2.2, by rw [hsz]; omega, fun k hk => ?_⟩
        rw [hset k (by omega), hold k hk.2.1 hk.2.2]
      · rintro k ⟨k1, k2, k3⟩
        refine ⟨k1, by omega, fun e => ?_⟩
        have : k = g := by simpa [Value.ownBlock] using e
        subst this
        rcases hat with e | e
        · exact k3 e.symm
        · omega
    · have hi' : i = j := by
        simp at hi
        omega
      subst hi'
      rw [List.getElem_append_right (by omega)]
      have e0 : (ys ++ [y]).length = i + 1 := by simp [hlen]
      have : ∀ q (hq : q < [y].length), [y][q] = y := fun q hq => by
        simp at hq
        subst hq
        rfl
      rw [this]
      refine IsP.fr ?_ ?_ _ _ hy
      · refine ⟨hg.os, hg.tape, hg.output, by rw [hsz]; omega, fun k hk => ?_⟩
        rw [hset k (by omega), hg.block k (by simp; omega) (fun e => by have := (hob k e.symm).2; omega), Below.heap_alloc _ _ _ hk.2]
      · rintro k ⟨k1, k2⟩
        refine ⟨by omega, by omega, fun e => ?_⟩
        have : k = g := by simpa [Value.ownBlock] using e
        subst this
        rcases hat with e | e
        · have := (hob k e).2
          omega
        · omega
end Go.Proofs.YtnjcofjphneccaaDoor
