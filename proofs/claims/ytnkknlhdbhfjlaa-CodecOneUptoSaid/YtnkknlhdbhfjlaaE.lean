/-
  Laid by wip/prune.py out of wip/data: Two Det Isp Typ Cpy Pop Copy Rcp.
-/
import Derived.Test.YtnkknlhdbhfjlaaA
import Derived.Deep.DeepCutAuto
import Derived.Deep.LoopGhost
import Derived.Deep.RegionLaw
import Derived.Deep.RegionHeld3
namespace Go.Proofs.Ytnkknlhdbhfjlaa
open Go.RowKit

theorem old_alloc {w : World} {o : Obj} {a : Addr} {v : Value} (h : w.cell? a = some v) : (w.alloc o).cell? a = some v := by
  rw [World.cell?_alloc_some w a o (by rw [h]; rfl), h]
theorem hp_new {w : World} {o : Obj} {n : Nat} (h : n = w.heap.size) : (w.alloc o).heap[n]? = some o := by
  subst h
  show (w.heap.push o)[w.heap.size]? = some o
  simp
theorem infoStr : (Try.prog.info? 9).map (fun i => (i.zero, i.size, i.bytes)) = some (some (.string ⟨#[]⟩), 1, 16) := by kernel_rfl
theorem infoData : (Try.prog.info? 25).map (fun i => (i.zero, i.size, i.bytes)) = some (some (.agg #[.int .i64 0, .int .i64 0, .string ⟨#[]⟩, .slice none 0 0, .slice none 0 0]), 5, 80) := by kernel_rfl
def flat5 (ys : List X) : List Value := ys.flatMap fun y => y.cells.toList
theorem flat5_len (ys : List X) : (flat5 ys).length = ys.length * 5 := by
  unfold flat5
  induction ys with
  | nil => rfl
  | cons y r ih =>
    rw [List.flatMap_cons, List.length_append, ih, List.length_cons]
    show 5 + _ = _
    omega
theorem flat5_at : ∀ (ys : List X) (i r : Nat) (hi : i < ys.length), r < 5 → (flat5 ys)[i * 5 + r]? = ys[i].cells.toList[r]?
  | [], i, r, hi, _ => by simp at hi
  | y :: t, 0, r, _, hr => by
    unfold flat5
    rw [List.flatMap_cons, List.getElem?_append_left (by simp [X.cells]; omega)]
    simp
  | y :: t, i + 1, r, hi, hr => by
    have := flat5_at t i r (by simpa using hi) hr
    unfold flat5 at *
    rw [List.flatMap_cons, List.getElem?_append_right (by simp [X.cells]; omega)]
    simp only [List.getElem_cons_succ]
    rw [← this]
    congr 1
    simp [X.cells]
    omega
theorem at_cells {w : World} {g o : Nat} {y : X} : At w g o y ↔ ∀ r u, y.cells.toList[r]? = some u → w.cell? ⟨g, o + r, none⟩ = some u := by
  constructor
  · rintro ⟨c0, c1, c2, c3, c4⟩ r u h
    rcases r with _ | _ | _ | _ | _ | r
    · simp [X.cells] at h; subst h; exact c0
    · simp [X.cells] at h; subst h; exact c1
    · simp [X.cells] at h; subst h; exact c2
    · simp [X.cells] at h; subst h; exact c3
    · simp [X.cells] at h; subst h; exact c4
    · simp [X.cells] at h
  · intro h
    exact ⟨h 0 _ rfl, h 1 _ rfl, h 2 _ rfl, h 3 _ rfl, h 4 _ rfl⟩
theorem addr_add (g o j : Nat) : (⟨g, o, none⟩ : Addr).add j = ⟨g, o + j, none⟩ := by unfold Addr.add; split <;> simp_all
theorem flat5_row {w : World} {g o : Nat} {ys : List X} : (∀ i (h : i < ys.length), At w g (o + i * 5) ys[i]) ↔ ∀ j u, (flat5 ys)[j]? = some u → w.cell? ⟨g, o + j, none⟩ = some u := by
  constructor
  · intro h j u hu
    have hj : j < (flat5 ys).length := (List.getElem?_eq_some_iff.1 hu).1
    rw [flat5_len] at hj
    have hi : j / 5 < ys.length := by omega
    have := flat5_at ys (j / 5) (j % 5) hi (by omega)
    rw [show j / 5 * 5 + j % 5 = j by omega] at this
    rw [this] at hu
    have := at_cells.1 (h (j / 5) hi) _ _ hu
    rw [show o + j / 5 * 5 + j % 5 = o + j by omega] at this
    exact this
  · intro h i hi
    refine at_cells.2 fun r u hu => ?_
    have hr : r < 5 := by
      have := (List.getElem?_eq_some_iff.1 hu).1
      simpa [X.cells] using this
    have := h (i * 5 + r) u (by rw [flat5_at ys i r hi hr]; exact hu)
    rw [show o + (i * 5 + r) = o + i * 5 + r by omega] at this
    exact this
def KeysNew (w w' : World) (A : Option Addr) (ks : List ByteArray) : Prop :=
  (ks = [] ∧ A = none) ∨ ∃ n cur, A = some ⟨n, 0, none⟩ ∧ w.heap.size ≤ n ∧ n < w'.heap.size ∧ w'.heap[n]? = some (.cells cur 9 (0, 0)) ∧ ∀ j (h : j < ks.length), w'.cell? ⟨n, j, none⟩ = some (.string ks[j])
def ListNew (w w' : World) (A : Option Addr) (l : List V) (ys : List X) : Prop :=
  (l = [] ∧ A = none) ∨ l ≠ [] ∧ ∃ n cur, A = some ⟨n, 0, none⟩ ∧ w.heap.size ≤ n ∧ n < w'.heap.size ∧ w'.heap[n]? = some (.cells cur 25 (0, 0)) ∧ ∀ i (h : i < ys.length), At w' n (i * 5) ys[i]
theorem hp_row_set {w : World} {b i : Nat} {cs : Array Value} {t : TypeId} {fr : Nat × Nat} (h : w.heap[b]? = some (.cells cs t fr)) (u : Value) : (w.setCell ⟨b, i, none⟩ u).heap[b]? = some (.cells (cs.setIfInBounds i u) t fr) := by
  simp only [World.setCell, Array.getElem?_modify, if_true, h, Option.map_some]
  rfl
theorem Fresh.keys {w w' : World} {A : Option Addr} {c : Nat} {ks : List ByteArray} (h : Fresh w w' 9 A ks.length c (ks.map Value.string)) : KeysNew w w' A ks := by
  rcases h with ⟨h1, h2, _⟩ | ⟨_, n, cur, h1, h2, h3, _, h5, h6⟩
  · exact .inl ⟨List.eq_nil_of_length_eq_zero h1, h2⟩
  · exact .inr ⟨n, cur, h1, h2, h3, h5, fun j hj => h6 j _ (by rw [List.getElem?_map, List.getElem?_eq_getElem hj]; rfl)⟩
theorem KeysNew.to {w0 w w' : World} {A : Option Addr} {ks : List ByteArray} (h : KeysNew w0 w A ks) (hb : Below w.heap.size w w') : KeysNew w0 w' A ks := by
  rcases h with h | ⟨n, cur, h1, h2, h3, h5, h6⟩
  · exact .inl h
  · exact .inr ⟨n, cur, h1, h2, Nat.lt_of_lt_of_le h3 hb.size, (hb.block n h3).trans h5, fun j hj => (hb.cell (p := ⟨n, j, none⟩) h3).trans (h6 j hj)⟩
theorem KeysNew.of {w0 w1 w : World} {A : Option Addr} {ks : List ByteArray} (h : KeysNew w1 w A ks) (hs : w0.heap.size ≤ w1.heap.size) : KeysNew w0 w A ks := by
  rcases h with h | ⟨n, cur, h1, h2, h3⟩
  · exact .inl h
  · exact .inr ⟨n, cur, h1, Nat.le_trans hs h2, h3⟩
theorem ListNew.of {w0 w1 w : World} {A : Option Addr} {l : List V} {ys : List X} (h : ListNew w1 w A l ys) (hs : w0.heap.size ≤ w1.heap.size) : ListNew w0 w A l ys := by
  rcases h with h | ⟨h0, n, cur, h1, h2, h3⟩
  · exact .inl h
  · exact .inr ⟨h0, n, cur, h1, Nat.le_trans hs h2, h3⟩
/-- a write of what is there -/
theorem KeysNew.put {w0 w : World} {A : Option Addr} {ks : List ByteArray} {n j : Nat} (h : KeysNew w0 w A ks) (hA : A = some ⟨n, 0, none⟩) (hj : j < ks.length) : KeysNew w0 (w.setCell ⟨n, j, none⟩ (.string ks[j])) A ks := by
  rcases h with ⟨h, _⟩ | ⟨m, cur, h1, h2, h3, h5, h6⟩
  · subst h
    simp at hj
  · rw [hA] at h1
    have hm : m = n := by simpa using h1.symm
    subst hm
    refine .inr ⟨m, _, hA, h2, by simpa [World.setCell] using h3, hp_row_set h5 _, fun i hi => ?_⟩
    by_cases e : i = j
    · subst e
      exact World.cell?_setCell_same _ _ _ (h6 i hi)
    · rw [World.cell?_setCell_other (h := fun h => e (by injection h with _ h _; exact h.symm))]
      exact h6 i hi
theorem KeysNew.fr {w1 w w' : World} {A : Option Addr} {ks : List ByteArray} (h : KeysNew w1 w A ks) (hb : Fr (fun k => w1.heap.size ≤ k) w w') : KeysNew w1 w' A ks := by
  rcases h with h | ⟨n, cur, h1, h2, h3, h5, h6⟩
  · exact .inl h
  · exact .inr ⟨n, cur, h1, h2, Nat.lt_of_lt_of_le h3 hb.size, (hb.block n h2).trans h5, fun j hj => (hb.cell (p := ⟨n, j, none⟩) h2).trans (h6 j hj)⟩
theorem ListNew.fr {w1 w w' : World} {A : Option Addr} {l : List V} {ys : List X} (h : ListNew w1 w A l ys) (hb : Fr (fun k => w1.heap.size ≤ k) w w') : ListNew w1 w' A l ys := by
  rcases h with h | ⟨h0, n, cur, h1, h2, h3, h5, h6⟩
  · exact .inl h
  · exact .inr ⟨h0, n, cur, h1, h2, Nat.lt_of_lt_of_le h3 hb.size, (hb.block n h2).trans h5, fun i hi => (h6 i hi).fr h2 hb⟩
def StrsP (w : World) (P : Nat → Prop) (A : Option Addr) (ks : List ByteArray) : Prop :=
  ks = [] ∨ ∃ g o, A = some ⟨g, o, none⟩ ∧ P g ∧ ∀ j (h : j < ks.length), w.cell? ⟨g, o + j, none⟩ = some (.string ks[j])
mutual
def IsP (w : World) (P : Nat → Prop) : V → X → Prop
  | .mk k n s ks l, x => (x.k = k ∧ x.n = n ∧ x.s = s) ∧ (x.kn = ks.length ∧ x.kn ≤ x.kc ∧ StrsP w P x.ka ks) ∧ x.ln = l.length ∧ x.ln ≤ x.lc ∧ (l = [] ∨ ∃ g o, x.la = some ⟨g, o, none⟩ ∧ P g ∧ IsAllP w P g o l)
def IsAllP (w : World) (P : Nat → Prop) : Nat → Nat → List V → Prop
  | _, _, [] => True
  | g, o, v :: r => (∃ y, At w g o y ∧ IsP w P v y) ∧ IsAllP w P g (o + 5) r
end
theorem isAllP_iff (w : World) (P : Nat → Prop) (g : Nat) : ∀ (o : Nat) (l : List V), IsAllP w P g o l ↔ ∀ i (h : i < l.length), ∃ y, At w g (o + i * 5) y ∧ IsP w P l[i] y
  | o, [] => by simp [IsAllP]
  | o, v :: r => by
    rw [IsAllP, isAllP_iff w P g (o + 5) r]
    constructor
    · rintro ⟨h0, h⟩ i hi
      cases i with
      | zero => exact h0
      | succ i =>
        obtain ⟨y, h1, h2⟩ := h i (by simpa using hi)
        exact ⟨y, by rw [show o + (i + 1) * 5 = o + 5 + i * 5 by omega]; exact h1, h2⟩
    · intro h
      refine ⟨h 0 (by simp), fun i hi => ?_⟩
      obtain ⟨y, h1, h2⟩ := h (i + 1) (by simpa using hi)
      exact ⟨y, by rw [show o + 5 + i * 5 = o + (i + 1) * 5 by omega]; exact h1, h2⟩
theorem isP_iff (w : World) (P : Nat → Prop) (v : V) (x : X) : IsP w P v x ↔ (x.k = v.k ∧ x.n = v.n ∧ x.s = v.s) ∧ (x.kn = v.ks.length ∧ x.kn ≤ x.kc ∧ StrsP w P x.ka v.ks) ∧ x.ln = v.l.length ∧ x.ln ≤ x.lc ∧ (v.l = [] ∨ ∃ g o, x.la = some ⟨g, o, none⟩ ∧ P g ∧ IsAllP w P g o v.l) := by
  cases v
  rw [IsP]
  rfl
theorem StrsP.fr {w w' : World} {P P' : Nat → Prop} {A : Option Addr} {ks : List ByteArray} (h : StrsP w P A ks) (hb : Fr P w w') (hP : ∀ g, P g → P' g) : StrsP w' P' A ks := by
  rcases h with h | ⟨g, o, rfl, h2, h3⟩
  · exact .inl h
  · exact .inr ⟨g, o, rfl, hP g h2, fun j hj => (hb.cell (p := ⟨g, o + j, none⟩) h2).trans (h3 j hj)⟩
theorem IsP.fr {w w' : World} {P P' : Nat → Prop} (hb : Fr P w w') (hP : ∀ g, P g → P' g) : ∀ (v : V) (x : X), IsP w P v x → IsP w' P' v x := by
  refine V.ind fun k n s ks l ih => ?_
  intro x h
  rw [isP_iff] at h ⊢
  obtain ⟨h1, ⟨h2, h3, h4⟩, h5, h6, h7⟩ := h
  refine ⟨h1, ⟨h2, h3, h4.fr hb hP⟩, h5, h6, h7.imp id fun ⟨g, o, e1, e2, e3⟩ => ⟨g, o, e1, hP g e2, (isAllP_iff w' P' g o l).2 fun i hi => ?_⟩⟩
  obtain ⟨y, f1, f2⟩ := (isAllP_iff w P g o l).1 e3 i hi
  exact ⟨y, f1.fr e2 hb, ih _ (List.getElem_mem hi) y f2⟩
theorem IsP.is {w : World} {P : Nat → Prop} (hP : ∀ g, P g → g < w.heap.size) : ∀ (v : V) (x : X), IsP w P v x → Is w v x := by
  refine V.ind fun k n s ks l ih => ?_
  intro x h
  rw [isP_iff] at h
  rw [is_iff]
  obtain ⟨h1, ⟨h2, h3, h4⟩, h5, h6, h7⟩ := h
  refine ⟨h1, ⟨h2, h3, h4.imp id fun ⟨g, o, e1, e2, e3⟩ => ⟨g, o, e1, hP g e2, e3⟩⟩, h5, h6, h7.imp id fun ⟨g, o, e1, e2, e3⟩ => ⟨g, o, e1, hP g e2, (isAll_iff _ _ g o l).2 fun i hi => ?_⟩⟩
  obtain ⟨y, f1, f2⟩ := (isAllP_iff w P g o l).1 e3 i hi
  exact ⟨y, f1, ih _ (List.getElem_mem hi) y f2⟩
/-- append to nothing, wherever in a statement -/
theorem wp_fresh {P : Program} {w : World} {o : Oper} {a : Act} {K : Act → World → Prop} {Q : Exit → Act → World → Prop} (s x : Operand) (t : TypeId)
    (ho : o.op = .call { callee := .builtin .append, args := #[s, x], argTypes := #[t, t] })
    (e : TypeId) (i : TypeInfo) (z : Value) (size bytes : Nat) (ht : P.underlying t = some (.slice e)) (hi : P.info? e = some i) (hz : i.zero = some z)
    (hsize : i.size = size) (hby : i.bytes = bytes) (hzs : z.cells.size = size) (hsz : 0 < size) (hs : a.eval s = .slice none 0 0)
    (A : Option Addr) (m c : Nat) (hx : a.eval x = .slice A m c) (news : List Value) (hl : news.length = m * size) (hnews : m = 0 ∨ ∃ ad, A = some ad ∧ ∀ j u, news[j]? = some u → w.cell? (ad.add j) = some u) (h1 : ∀ u ∈ news, u.oneCell' = true)
    (hm : m ≤ 4194304) (hb : bytes ≤ 1048576)
    (h : ∀ A' c' w', Below w.heap.size w w' → Hid (Fresh w w' e A' m c' news) → K (a.put o.dst (.slice A' m c')) w') : o.wp P a w K Q := by
  rcases Nat.eq_zero_or_pos m with rfl | hm0
  · have hrun := run_nil_zero (P := P) (w := w) t o.type e i ht hi A c
    unfold Oper.wp
    simp [execOp, ho, resolve, invoke, builtin, hs, hx, hrun, Result.andThen]
    exact h none 0 w (Below.refl _ _) (.inl ⟨rfl, rfl, rfl⟩)
  · obtain ⟨ad, rfl, hn⟩ : ∃ ad, A = some ad ∧ ∀ j u, news[j]? = some u → w.cell? (ad.add j) = some u := hnews.resolve_left (by omega)
    have hle : (0 + m) * bytes ≤ 4194304 * 1048576 := Nat.mul_le_mul (by omega) hb
    refine wp_append_lies (P := P) w s x t ho 0 e i z size bytes ht hi hz hsize hby hzs hsz (.slice none 0 0) 0 [] hs ⟨by simp, .inl ⟨rfl, rfl⟩⟩ ad m c news hx hl hn h1 hm0 (by unfold maxLen; omega) (by omega) (Nat.zero_le _) _ rfl ?_
    intro g cap w' hown hg hat hlt
    rcases hown.2 with ⟨h0, _⟩ | ⟨n, cap', cur, hv, _, hgs, hnc, _, hcs, htk⟩
    · cases h0
    · injection hv with e1 _ e3
      injection e1 with e1
      injection e1 with e1
      subst e1 e3
      have hgw : g = w.heap.size := by
        rcases hat with h | h
        · simp [Value.ownBlock] at h
        · exact h
      have hbel : Below w.heap.size w w' := ⟨hg.os, hg.tape, hg.output, hg.size, fun k hk => hg.block k hk (by simp [Value.ownBlock])⟩
      rw [Nat.zero_add] at hnc ⊢
      refine h _ cap w' hbel (.inr ⟨hm0, g, cur, rfl, Nat.le_of_eq hgw.symm, hlt, hnc, hgs, fun j u hu => ?_⟩)
      rw [cell_of_row w' _ j cur e (0, 0) hgs]
      have hj : j < news.length := (List.getElem?_eq_some_iff.1 hu).1
      rw [List.nil_append, Nat.zero_add] at htk
      rw [← htk, List.getElem?_take, if_pos (by omega)] at hu
      rw [← hu, Array.getElem?_toList]
theorem step_fresh {P : Program} {w : World} {ops : Array Oper} {o : Oper} {a : Act} {K : Act → World → Prop} {Q : Exit → Act → World → Prop} {E : Prop} (hgd : o.guard = none) (s x : Operand) (t : TypeId)
    (ho : o.op = .call { callee := .builtin .append, args := #[s, x], argTypes := #[t, t] })
    (e : TypeId) (i : TypeInfo) (z : Value) (size bytes : Nat) (ht : P.underlying t = some (.slice e)) (hi : P.info? e = some i) (hz : i.zero = some z)
    (hsize : i.size = size) (hby : i.bytes = bytes) (hzs : z.cells.size = size) (hsz : 0 < size) (hs : a.eval s = .slice none 0 0)
    (A : Option Addr) (m c : Nat) (hx : a.eval x = .slice A m c) (news : List Value) (hl : news.length = m * size) (hnews : m = 0 ∨ ∃ ad, A = some ad ∧ ∀ j u, news[j]? = some u → w.cell? (ad.add j) = some u) (h1 : ∀ u ∈ news, u.oneCell' = true)
    (hm : m ≤ 4194304) (hb : bytes ≤ 1048576)
    (h : ∀ A' c' w', Below w.heap.size w w' → Hid (Fresh w w' e A' m c' news) → K (a.put o.dst (.slice A' m c')) w') :
    if Region.wanted o (yielded ops a.tmps) = true then Oper.wp P o a w K Q else E := by
  have hw : Region.wanted o (yielded ops a.tmps) = true := by simp [Region.wanted, hgd]
  rw [if_pos hw]
  exact wp_fresh s x t ho e i z size bytes ht hi hz hsize hby hzs hsz hs A m c hx news hl hnews h1 hm hb h
theorem flat5_snoc (ys : List X) (y : X) : flat5 (ys ++ [y]) = flat5 ys ++ y.cells.toList := by
  unfold flat5
  rw [List.flatMap_append]
  simp
/-- the reference's copy while its elements are made -/
structure Cp (w1 : World) (sg : Nat) (c0 c1 c2 c3 : Value) (l : List V) (j : Nat) (wr : World) (lA : Option Addr) (lC : Nat) (ys : List X) : Prop where
  lt : sg < w1.heap.size
  fr : Fr (fun k => k < w1.heap.size ∧ k ≠ sg) w1 wr
  row : wr.heap[sg]? = some (.cells #[c0, c1, c2, c3, .slice lA j lC] 25 (0, 0))
  own : wr.ownsRow w1.heap.size 25 5 (.slice lA j lC) j (flat5 ys)
  len : ys.length = j
  kid : ∀ i (_ : i < ys.length) (h2 : i < l.length), IsP wr (fun g => w1.heap.size ≤ g ∧ g < wr.heap.size ∧ some g ≠ (Value.slice lA j lC).ownBlock) l[i] ys[i]
theorem Cp.step {w1 wr wa w2 w3 : World} {sg : Nat} {c0 c1 c2 c3 : Value} {l : List V} {j : Nat} {lA : Option Addr} {lC : Nat} {ys : List X} (h : Cp w1 sg c0 c1 c2 c3 l j wr lA lC ys) (hj : j < l.length) {y : X}
    (ha : Below wr.heap.size wr wa) (h2 : Below wa.heap.size wa w2) (hy : IsP w2 (fun g => wa.heap.size ≤ g ∧ g < w2.heap.size) l[j] y)
    {g cap : Nat} (h3 : w3.ownsRow w1.heap.size 25 5 (.slice (some ⟨g, 0, none⟩) (j + 1) cap) (j + 1) (flat5 ys ++ y.cells.toList)) (hg : (w2.alloc (.cells y.cells 25)).grownBy w3 (Value.slice lA j lC).ownBlock)
    (hat : (Value.slice lA j lC).ownBlock = some g ∨ g = w2.heap.size + 1) : Cp w1 sg c0 c1 c2 c3 l (j + 1) (w3.setCell ⟨sg, 4, none⟩ (.slice (some ⟨g, 0, none⟩) (j + 1) cap)) (some ⟨g, 0, none⟩) cap (ys ++ [y]) := by
  obtain ⟨hlt, hfr, hrow, hown, hlen, hkid⟩ := h
  have hs1 := hfr.size
  have hs2 := ha.size
  have hs3 := h2.size
  have hs4 := hg.size
  have hs4' : w2.heap.size + 1 ≤ w3.heap.size := by simpa using hs4
  have hob : ∀ k, (Value.slice lA j lC).ownBlock = some k → w1.heap.size ≤ k ∧ k < wr.heap.size := hown.lt
  have hgs : w1.heap.size ≤ g := by
    rcases hat with e | e
    · exact (hob g e).1
    · omega
  -- what was there stays
  have hold : ∀ k, k < wr.heap.size → some k ≠ (Value.slice lA j lC).ownBlock → w3.heap[k]? = wr.heap[k]? := fun k hk hne => by
    rw [hg.block k (by simp; omega) hne, Below.heap_alloc _ _ _ (by omega), h2.block k (by omega), ha.block k hk]
  have hsgn : some sg ≠ (Value.slice lA j lC).ownBlock := fun e => by
    have := (hob sg e.symm).1
    omega
  have hrow3 : w3.heap[sg]? = some (.cells #[c0, c1, c2, c3, .slice lA j lC] 25 (0, 0)) := (hold sg (by omega) hsgn).trans hrow
  have hset : ∀ k, k ≠ sg → (w3.setCell ⟨sg, 4, none⟩ (.slice (some ⟨g, 0, none⟩) (j + 1) cap)).heap[k]? = w3.heap[k]? := fun k hk => Below.heap_setCell _ _ _ _ hk
  have hsz : (w3.setCell ⟨sg, 4, none⟩ (.slice (some ⟨g, 0, none⟩) (j + 1) cap)).heap.size = w3.heap.size := by simp [World.setCell]
  have hos : (w3.setCell ⟨sg, 4, none⟩ (.slice (some ⟨g, 0, none⟩) (j + 1) cap)).os = wr.os ∧ (w3.setCell ⟨sg, 4, none⟩ (.slice (some ⟨g, 0, none⟩) (j + 1) cap)).tape = wr.tape ∧ (w3.setCell ⟨sg, 4, none⟩ (.slice (some ⟨g, 0, none⟩) (j + 1) cap)).output = wr.output :=
    ⟨hg.os.trans (h2.os.trans ha.os), hg.tape.trans (h2.tape.trans ha.tape), hg.output.trans (h2.output.trans ha.output)⟩
  refine ⟨hlt, hfr.trans ⟨hos.1, hos.2.1, hos.2.2, by rw [hsz]; omega, fun k hk => ?_⟩, hp_row_set hrow3 _, ?_, by simp [hlen], fun i hi hl => ?_⟩
  · rw [hset k hk.2, hold k (by omega) (fun e => by have := (hob k e.symm).1; omega)]
  · rw [flat5_snoc]
    refine ⟨h3.1, ?_⟩
    rcases h3.2 with h | ⟨g', cap', cur, hv, hb', hg', r⟩
    · exact .inl h
    · refine .inr ⟨g', cap', cur, hv, hb', ?_, r⟩
      rw [hset g' (by omega)]
      exact hg'
  · rw [hsz]
    by_cases e : i < ys.length
    · rw [List.getElem_append_left e]
      refine IsP.fr ?_ ?_ _ _ (hkid i e hl)
      · refine ⟨hos.1, hos.2.1, hos.2.2, by rw [hsz]; omega, fun k hk => ?_⟩
        rw [hset k (by omega), hold k hk.2.1 hk.2.2]
      · rintro k ⟨k1, k2, k3⟩
        refine ⟨k1, by omega, fun e => ?_⟩
        have : k = g := by simpa [Value.ownBlock] using e
        subst this
        rcases hat with e | e
        · exact k3 e.symm
        · omega
    · have hi' : i = j := by
        simp at hi
        omega
      subst hi'
      rw [List.getElem_append_right (by omega)]
      have e0 : (ys ++ [y]).length = i + 1 := by simp [hlen]
      have : ∀ q (hq : q < [y].length), [y][q] = y := fun q hq => by
        simp at hq
        subst hq
        rfl
      rw [this]
      refine IsP.fr ?_ ?_ _ _ hy
      · refine ⟨hg.os, hg.tape, hg.output, by rw [hsz]; omega, fun k hk => ?_⟩
        rw [hset k (by omega), hg.block k (by simp; omega) (fun e => by have := (hob k e.symm).2; omega), Below.heap_alloc _ _ _ hk.2]
      · rintro k ⟨k1, k2⟩
        refine ⟨by omega, by omega, fun e => ?_⟩
        have : k = g := by simpa [Value.ownBlock] using e
        subst this
        rcases hat with e | e
        · have := (hob k e).2
          omega
        · omega
def put5 (w : World) (n o : Nat) (y : X) : World :=
  ((((w.setCell ⟨n, o, none⟩ (.int .i64 y.k)).setCell ⟨n, o + 1, none⟩ (.int .i64 y.n)).setCell ⟨n, o + 2, none⟩ (.string y.s)).setCell ⟨n, o + 3, none⟩ (.slice y.ka y.kn y.kc)).setCell ⟨n, o + 4, none⟩ (.slice y.la y.ln y.lc)
theorem put5_fr (w : World) (n o : Nat) (y : X) : Fr (fun k => k ≠ n) w (put5 w n o y) :=
  (((((Fr.refl (fun k => k ≠ n) w).setCell (p := ⟨n, o, none⟩) (by simp) _).setCell (p := ⟨n, o + 1, none⟩) (by simp) _).setCell (p := ⟨n, o + 2, none⟩) (by simp) _).setCell (p := ⟨n, o + 3, none⟩) (by simp) _).setCell (p := ⟨n, o + 4, none⟩) (by simp) _
theorem choose_list {l : List V} {P : (i : Nat) → V → X → Prop} (h : ∀ i (h : i < l.length), ∃ y, P i l[i] y) : ∃ ys : List X, ys.length = l.length ∧ ∀ i (_ : i < ys.length) (h2 : i < l.length), P i l[i] (ys[i]) := by
  refine ⟨List.ofFn fun i : _root_.Fin l.length => Classical.choose (h i.1 i.2), by simp, fun i h1 h2 => ?_⟩
  rw [List.getElem_ofFn]
  exact Classical.choose_spec (h i h2)
theorem at_inj {w : World} {g o : Nat} {x y : X} (h : At w g o x) (h' : At w g o y) : x = y := by
  obtain ⟨a0, a1, a2, a3, a4⟩ := h
  obtain ⟨b0, b1, b2, b3, b4⟩ := h'
  rw [a0] at b0
  rw [a1] at b1
  rw [a2] at b2
  rw [a3] at b3
  rw [a4] at b4
  cases x
  cases y
  simp at *
  obtain ⟨e1, e2, e3⟩ := b3
  obtain ⟨f1, f2, f3⟩ := b4
  subst b0 b1 b2 e1 e2 e3 f1 f2 f3
  simp
def zrow : Obj := .cells #[.int .i64 0, .int .i64 0, .string ⟨#[]⟩, .slice none 0 0, .slice none 0 0] 25 (0, 0)
theorem put5_row {w : World} {n : Nat} {e : TypeId} {a b c d f : Value} (h : w.heap[n]? = some (.cells #[a, b, c, d, f] e (0, 0))) (y : X) : (put5 w n 0 y).heap[n]? = some (.cells y.cells e (0, 0)) :=
  hp_row_set (hp_row_set (hp_row_set (hp_row_set (hp_row_set h _) _) _) _) _
theorem put5_lit (w : World) (g : Nat) (k n : Int) (s : ByteArray) (ka : Option Addr) (kn kc : Nat) (la : Option Addr) (ln lc : Nat) : put5 w g 0 ⟨k, n, s, ka, kn, kc, la, ln, lc⟩ =
    ((((w.setCell ⟨g, 0, none⟩ (.int .i64 k)).setCell ⟨g, 1, none⟩ (.int .i64 n)).setCell ⟨g, 2, none⟩ (.string s)).setCell ⟨g, 3, none⟩ (.slice ka kn kc)).setCell ⟨g, 4, none⟩ (.slice la ln lc) := rfl
theorem own_any {w w' : World} {B n size : Nat} {e : TypeId} {v : Value} {xs : List Value} (h : w.ownsRow B e size v n xs) (hb : ∀ k, v.ownBlock = some k → w'.heap[k]? = w.heap[k]?) : w'.ownsRow B e size v n xs := by
  refine ⟨h.1, ?_⟩
  rcases h.2 with h2 | ⟨g, cap, cur, rfl, hb', hg, r⟩
  · exact .inl h2
  · exact .inr ⟨g, cap, cur, rfl, hb', by rw [hb g rfl]; exact hg, r⟩
/-- a struct is appended, as one step of a statement that leaves its order open -/
theorem step_push5 {ops : Array Oper} {o : Oper} {a : Act} {w : World} {K : Act → World → Prop} {Q : Exit → Act → World → Prop} {E : Prop} (hgd : o.guard = none) (s x : Operand)
    (ho : o.op = .call { callee := .builtin .append, args := #[s, x], argTypes := #[23, 23] })
    (i : TypeInfo) (hi : Try.prog.info? 25 = some i) (hz : i.zero = some (.agg #[.int .i64 0, .int .i64 0, .string ⟨#[]⟩, .slice none 0 0, .slice none 0 0])) (hsize : i.size = 5) (hby : i.bytes = 80)
    (wr : World) (base : Nat) (lA : Option Addr) (n lC : Nat) (xs : List Value) (hs : a.eval s = .slice lA n lC) (hown : wr.ownsRow base 25 5 (.slice lA n lC) n xs) (hbase : base ≤ w.heap.size) (hbel : ∀ k, k < wr.heap.size → w.heap[k]? = wr.heap[k]?)
    (B : Nat) (y : X) (hx : a.eval x = .slice (some ⟨B, 0, none⟩) 1 1) (hblk : w.heap[B]? = some (.cells y.cells 25 (0, 0)))
    (hn : n ≤ 4194304) (H : Nat) (hH : w.heap.size = H)
    (S : World → Prop) (hS : ∀ w', (∀ k, k < wr.heap.size → some k ≠ (Value.slice lA n lC).ownBlock → w'.heap[k]? = wr.heap[k]?) → S w')
    (h : ∀ g cap w', S w' → w'.ownsRow base 25 5 (.slice (some ⟨g, 0, none⟩) (n + 1) cap) (n + 1) (xs ++ y.cells.toList) → w.grownBy w' (Value.slice lA n lC).ownBlock → ((Value.slice lA n lC).ownBlock = some g ∨ g = H) → g < w'.heap.size → K (a.put o.dst (.slice (some ⟨g, 0, none⟩) (n + 1) cap)) w')
    (hle : wr.heap.size ≤ w.heap.size) :
    if Region.wanted o (yielded ops a.tmps) = true then Oper.wp Try.prog o a w K Q else E :=
  step_append_lies w hgd s x 23 ho base 25 i _ 5 80 Try.underlying23 hi hz hsize hby rfl (by decide) _ n xs hs (own_any hown fun k hk => hbel k (hown.lt k hk).2) ⟨B, 0, none⟩ 1 1 y.cells.toList hx rfl
    (World.news_of_block hblk) (by intro u hu; simp [X.cells] at hu; rcases hu with rfl | rfl | rfl | rfl | rfl <;> rfl) (by decide) (by unfold maxLen; omega) (by omega) hbase H hH
    fun g cap w' h1 h2 h3 h4 => h g cap w' (hS w' fun k hk hne => (h2.block k (Nat.lt_of_lt_of_le hk hle) hne).trans (hbel k hk)) h1 h2 h3 h4
/-- behind the reference's first statement -/
structure Md (W0 wx : World) (sg : Nat) (k n : Int) (s : ByteArray) (ks : List ByteArray) (kA : Option Addr) (kC : Nat) : Prop where
  ge : W0.heap.size ≤ sg
  row : wx.heap[sg]? = some (.cells #[.int .i64 k, .int .i64 n, .string s, .slice kA ks.length kC, .slice none 0 0] 25 (0, 0))
  bel : Below W0.heap.size W0 wx
  keys : KeysNew W0 wx kA ks
  cap : ks.length ≤ kC
  ne : ∀ m, kA = some ⟨m, 0, none⟩ → m ≠ sg
theorem md_of {W0 wm w2 : World} {sg : Nat} {k n : Int} {s : ByteArray} {ks : List ByteArray} {kA : Option Addr} {kC : Nat} (h1 : W0.heap.size ≤ sg) (h2 : Below W0.heap.size W0 w2) (hm : W0.heap.size ≤ wm.heap.size) (hz : w2.heap[sg]? = some zrow)
    (hk : KeysNew wm w2 kA ks) (hc : ks.length ≤ kC) (hs : ∀ m, kA = some ⟨m, 0, none⟩ → m ≠ sg) : Md W0 (put5 w2 sg 0 ⟨k, n, s, kA, ks.length, kC, none, 0, 0⟩) sg k n s ks kA kC := by
  have hfr := put5_fr w2 sg 0 ⟨k, n, s, kA, ks.length, kC, none, 0, 0⟩
  refine ⟨h1, put5_row hz _, h2.trans (hfr.mono fun q (hq : q < W0.heap.size) => by show q ≠ sg; omega).below, ?_, hc, hs⟩
  rcases hk with h | ⟨m, cur, e1, e2, e3, e4, e5⟩
  · exact .inl h
  · have := hs m e1
    exact .inr ⟨m, cur, e1, by omega, Nat.lt_of_lt_of_le e3 hfr.size, (hfr.block m this).trans e4, fun j hj => (hfr.cell (p := ⟨m, j, none⟩) this).trans (e5 j hj)⟩
theorem md_new {W0 wm w2 : World} {k n : Int} {s : ByteArray} {ks : List ByteArray} {kA : Option Addr} {kC : Nat} (h2 : Below W0.heap.size W0 w2) (hm : W0.heap.size ≤ wm.heap.size)
    (hk : KeysNew wm w2 kA ks) (hc : ks.length ≤ kC) : Md W0 (w2.alloc (.cells #[.int .i64 k, .int .i64 n, .string s, .slice kA ks.length kC, .slice none 0 0] 25)) w2.heap.size k n s ks kA kC := by
  refine ⟨h2.size, hp_new rfl, h2.trans ((below_alloc _ _).mono h2.size), ?_, hc, fun m hm => ?_⟩
  · exact KeysNew.of (hk.to (below_alloc _ _)) hm
  · rcases hk with ⟨_, h⟩ | ⟨m', cur, e1, e2, e3, _⟩
    · rw [h] at hm
      cases hm
    · rw [e1] at hm
      have : m' = m := by simpa using hm
      omega
theorem KeysNew.lt {w w' : World} {A : Option Addr} {ks : List ByteArray} (h : KeysNew w w' A ks) : ∀ m, A = some ⟨m, 0, none⟩ → w.heap.size ≤ m ∧ m < w'.heap.size := by
  intro m hm
  rcases h with ⟨_, h⟩ | ⟨m', cur, e1, e2, e3, _⟩
  · rw [h] at hm
    cases hm
  · rw [e1] at hm
    have : m' = m := by simpa using hm
    subst this
    exact ⟨e2, e3⟩
/-- what the loop has made, put into the result -/
theorem Cp.done {w W0 w1 wr : World} {sg : Nat} {k n : Int} {s : ByteArray} {ks : List ByteArray} {kA lA : Option Addr} {kC lC : Nat} {l : List V} {ys : List X} (hw : w.heap.size + 2 ≤ W0.heap.size) (hm : Md W0 w1 sg k n s ks kA kC)
    (h : Cp w1 sg (.int .i64 k) (.int .i64 n) (.string s) (.slice kA ks.length kC) l l.length wr lA lC ys) :
    IsP wr (fun g => w.heap.size + 2 ≤ g ∧ g < wr.heap.size) (.mk k n s ks l) ⟨k, n, s, kA, ks.length, kC, lA, l.length, lC⟩ := by
  have hs1 := hm.bel.size
  have hs2 := h.fr.size
  rw [isP_iff]
  refine ⟨⟨rfl, rfl, rfl⟩, ⟨rfl, hm.cap, ?_⟩, rfl, ?_, ?_⟩
  · rcases id hm.keys with ⟨h0, _⟩ | ⟨m, cur, e1, e2, e3, _, e5⟩
    · exact .inl h0
    · have hF : m < w1.heap.size ∧ m ≠ sg := ⟨e3, hm.ne m e1⟩
      exact .inr ⟨m, 0, e1, ⟨by omega, by omega⟩, fun j hj => by rw [Nat.zero_add]; exact (h.fr.cell (p := ⟨m, j, none⟩) hF).trans (e5 j hj)⟩
  · show l.length ≤ lC
    rcases h.own.2 with ⟨hv, h0⟩ | ⟨g, cap, cur, hv, _, _, hn, _⟩
    · injection hv with _ hv _
      omega
    · injection hv with _ _ hv
      omega
  · by_cases h0 : l = []
    · exact .inl h0
    · have hpos : 0 < l.length := List.length_pos_iff.2 h0
      obtain ⟨g, cap, hv, hb, hg⟩ := h.own.form hpos
      injection hv with e1 _ e3
      subst e1 e3
      refine .inr ⟨g, 0, rfl, ⟨by omega, hg⟩, (isAllP_iff _ _ _ _ _).2 fun i hi => ?_⟩
      have hi' : i < ys.length := by rw [h.len]; exact hi
      refine ⟨ys[i], ?_, IsP.fr (Fr.refl _ _) (fun g hg => ⟨by omega, hg.2.1⟩) _ _ (h.kid i hi' hi)⟩
      refine flat5_row.2 (fun j u hu => ?_) i hi'
      have := h.own.cells (g := g) rfl j u hu
      rw [addr_add] at this
      exact this
theorem zrow_cells {w : World} {g : Nat} (h : w.heap[g]? = some zrow) : w.cell? ⟨g, 0, none⟩ = some (.int .i64 0) ∧ w.cell? ⟨g, 1, none⟩ = some (.int .i64 0) ∧ w.cell? ⟨g, 2, none⟩ = some (.string ⟨#[]⟩) ∧ w.cell? ⟨g, 3, none⟩ = some (.slice none 0 0) ∧ w.cell? ⟨g, 4, none⟩ = some (.slice none 0 0) ∧ ∀ o, w.frozen? ⟨g, o, none⟩ = false := by
  unfold zrow at h
  refine ⟨?_, ?_, ?_, ?_, ?_, fun o => by simp [World.frozen?, h]⟩
  · rw [cell_of_row w g 0 _ _ _ h]; rfl
  · rw [cell_of_row w g 1 _ _ _ h]; rfl
  · rw [cell_of_row w g 2 _ _ _ h]; rfl
  · rw [cell_of_row w g 3 _ _ _ h]; rfl
  · rw [cell_of_row w g 4 _ _ _ h]; rfl
theorem far_put5 {w : World} {g b o : Nat} {y : X} (h : b ≠ g) : (put5 w g 0 y).cell? ⟨b, o, none⟩ = w.cell? ⟨b, o, none⟩ := (put5_fr w g 0 y).cell (p := ⟨b, o, none⟩) h
theorem keep4 (w : World) (g b : Nat) (k n : Int) (s : ByteArray) (ka : Option Addr) (kn kc : Nat) {v0 v1 v2 v3 : Option Value} (h : b ≠ g) (h0 : w.cell? ⟨b, 0, none⟩ = v0) (h1 : w.cell? ⟨b, 0 + 1, none⟩ = v1) (h2 : w.cell? ⟨b, 0 + 2, none⟩ = v2) (h3 : w.cell? ⟨b, 0 + 3, none⟩ = v3) :
    (((((w.setCell ⟨g, 0, none⟩ (.int .i64 k)).setCell ⟨g, 1, none⟩ (.int .i64 n)).setCell ⟨g, 2, none⟩ (.string s)).setCell ⟨g, 3, none⟩ (.slice ka kn kc)).setCell ⟨g, 4, none⟩ (.slice none 0 0)).cell? ⟨b, 0, none⟩ = v0 ∧
    (((((w.setCell ⟨g, 0, none⟩ (.int .i64 k)).setCell ⟨g, 1, none⟩ (.int .i64 n)).setCell ⟨g, 2, none⟩ (.string s)).setCell ⟨g, 3, none⟩ (.slice ka kn kc)).setCell ⟨g, 4, none⟩ (.slice none 0 0)).cell? ⟨b, 0 + 1, none⟩ = v1 ∧
    (((((w.setCell ⟨g, 0, none⟩ (.int .i64 k)).setCell ⟨g, 1, none⟩ (.int .i64 n)).setCell ⟨g, 2, none⟩ (.string s)).setCell ⟨g, 3, none⟩ (.slice ka kn kc)).setCell ⟨g, 4, none⟩ (.slice none 0 0)).cell? ⟨b, 0 + 2, none⟩ = v2 ∧
    (((((w.setCell ⟨g, 0, none⟩ (.int .i64 k)).setCell ⟨g, 1, none⟩ (.int .i64 n)).setCell ⟨g, 2, none⟩ (.string s)).setCell ⟨g, 3, none⟩ (.slice ka kn kc)).setCell ⟨g, 4, none⟩ (.slice none 0 0)).cell? ⟨b, 0 + 3, none⟩ = v3 := by
  rw [← put5_lit, far_put5 h, far_put5 h, far_put5 h, far_put5 h]
  exact ⟨h0, h1, h2, h3⟩
set_option maxRecDepth 8000 in
set_option maxHeartbeats 2000000 in
theorem refCopy_any : ∀ (v : V) (x : X) (w : World), Is w v x → v.bulk ≤ 4194304 →
    Calls Try.prog 7 #[x.v] w fun e w' => ∃ y, e = .returned y.v ∧ IsP w' (fun g => w.heap.size ≤ g ∧ g < w'.heap.size) v y ∧ Below w.heap.size w w' := by
  obtain ⟨i1, hi1, hz1, hs1, hb1⟩ := info_parts infoStr
  obtain ⟨i5, hi5, hz5, hs5, hb5⟩ := info_parts infoData
  refine V.ind fun k n s ks l ih => ?_
  intro x w h hbk
  obtain ⟨ka, kc, la, lc, rfl, h1, h2, h3, h4⟩ := h.open
  simp only [V.k, V.n, V.s, V.ks, V.l] at *
  have hbl : V.bulks l ≤ 4194304 := by
    simp only [V.bulk] at hbk
    omega
  have hll : l.length ≤ 4194304 := Nat.le_trans (length_le_bulks l) hbl
  have hkn : ks.length ≤ 4194304 := by
    have := length_le_keysBulk ks
    simp only [V.bulk] at hbk
    omega
  clear hbk h
  obtain ⟨W0, hW0⟩ : ∃ W0, W0 = (w.alloc (.cells #[.int .i64 k, .int .i64 n, .string s, .slice ka ks.length kc, .slice la l.length lc] 25)).alloc (.cells #[.int .i64 0, .int .i64 0, .string ⟨#[]⟩, .slice none 0 0, .slice none 0 0] 25) := ⟨_, rfl⟩
  obtain ⟨β, hβ⟩ : ∃ β, β = w.heap.size := ⟨_, rfl⟩
  obtain ⟨ρ, hρ⟩ : ∃ ρ, ρ = w.heap.size + 1 := ⟨_, rfl⟩
  have HB0 : Hid (Below w.heap.size w W0) := by
    subst hW0
    exact (below_alloc w _).trans ((below_alloc _ _).mono (by simp))
  have hz0 : W0.heap.size = w.heap.size + 2 := by subst hW0; simp
  have HZ0 := Lib.hid hz0
  have HX0 : Hid (At W0 β 0 ⟨k, n, s, ka, ks.length, kc, la, l.length, lc⟩) := by
    subst hW0 hβ
    exact ⟨by simp, by simp, by simp, by simp, by simp⟩
  have HR0 : Hid (W0.heap[ρ]? = some zrow) := by
    subst hW0 hρ
    exact hp_new (by simp)
  have hβ1 : β < W0.heap.size := by omega
  have hρ1 : ρ < W0.heap.size := by omega
  have HS0 : Hid (∀ w', Below W0.heap.size W0 w' → At w' β 0 ⟨k, n, s, ka, ks.length, kc, la, l.length, lc⟩) := fun w' hb => HX0.out.below hβ1 hb
  have hstr : Hid (∀ w', Below W0.heap.size W0 w' → (ks.length = 0 ∨ ∃ ad, ka = some ad ∧ ∀ j u, (ks.map Value.string)[j]? = some u → w'.cell? (ad.add j) = some u)) := fun w' hb => by
    rcases h3 with h3 | ⟨g, o, rfl, hg, hk⟩
    · exact .inl (by rw [h3]; rfl)
    · refine .inr ⟨_, rfl, fun j u hu => ?_⟩
      rw [addr_add]
      rw [List.getElem?_map] at hu
      obtain ⟨key, hkey, rfl⟩ := Option.map_eq_some_iff.1 hu
      obtain ⟨hj, rfl⟩ := List.getElem?_eq_some_iff.1 hkey
      have hg' : g < w.heap.size := hg
      exact ((hb.cell (p := ⟨g, o + j, none⟩) (by show g < W0.heap.size; omega)).trans (HB0.out.cell (p := ⟨g, o + j, none⟩) hg)).trans (hk j hj)
  have HBR := Lib.hid hβ
  have HRR := Lib.hid hρ
  unfold X.v
  simp only
  obtain ⟨c0, c1, c2, c3, c4⟩ := HS0.out W0 (Below.refl _ _)
  have hne0 : β ≠ W0.heap.size := by omega
  clear hz0
  go_enter Try.func7, Try.ntmps7
  go_upto_region 1 with (fail)
  rw [← hρ, ← hβ, ← hW0]
  clear hW0 hβ hρ
  go_cut [3] (fun s3 wx => ∃ sg kA kC, s3 = .pointer (some ⟨sg, 0, none⟩) ∧ Hid (Md W0 wx sg k n s ks kA kC))
  case first =>
    go_region_held3 (fun w' => w'.cell? ⟨β, 0, none⟩ = some (.int .i64 k) ∧ w'.cell? ⟨β, 0 + 1, none⟩ = some (.int .i64 n) ∧ w'.cell? ⟨β, 0 + 2, none⟩ = some (.string s) ∧ w'.cell? ⟨β, 0 + 3, none⟩ = some (.slice ka ks.length kc))
      (first | (with_reducible exact keep4 w2 _ _ k n s kA ks.length kC hne0 d0 d1 d2 d3) | (with_reducible exact keep4 _ _ _ k n s kA ks.length kC hne2 (old_alloc d0) (old_alloc d1) (old_alloc d2) (old_alloc d3)) | go_keep)
      ((first
        | (refine step_fresh rfl _ _ 22 (by rfl) 9 i1 _ 1 16 Try.underlying22 hi1 hz1 hs1 hb1 rfl (by decide) (by rfl) ka ks.length kc (by rfl) (ks.map Value.string) (by simp) (hstr.out _ (by first | exact (Below.refl _ _).drew | exact (Below.refl _ _).drew.alloc (Nat.le_refl _) _)) (by simp [Value.oneCell']) hkn (by decide) ?_; intro kA kC w2 hb2 hfr; have hB2 : Below W0.heap.size W0 w2 := (by first | exact (Below.refl _ _).drew.trans hb2 | exact ((Below.refl _ _).drew.alloc (Nat.le_refl _) _).trans (hb2.mono (by simp))); obtain ⟨d0, d1, d2, d3, d4⟩ := HS0.out w2 hB2; have hne2 : β ≠ w2.heap.size := (by have := hB2.size; omega); (first | (have hz2 : w2.heap[W0.heap.size]? = some zrow := (hb2.block _ (by simp)).trans (hp_new (by simp)); obtain ⟨e0, e1, e2, e3, e4, e5⟩ := zrow_cells hz2; have f0 := e5 0; have f1 := e5 1; have f2 := e5 2; have f3 := e5 3; have f4 := e5 4; have hz2' := Lib.hid hz2; clear hz2 e5) | skip))))
    · go_wp2_with fail
      go_meet
      exact ⟨_, kA, kC, rfl, md_new hB2 (Nat.le_refl _) hfr.out.keys hfr.out.lt⟩
    · rw [← put5_lit]
      go_wp2_with fail
      go_meet
      refine ⟨_, kA, kC, rfl, md_of (Nat.le_refl _) hB2 (by simp) hz2'.out hfr.out.keys hfr.out.lt fun m hm => ?_⟩
      have := (hfr.out.keys.lt m hm).1
      simp at this
      omega
  case rest =>
    obtain ⟨sg, kA, kC, rfl, HMD⟩ := hcut
    clear c0 c1 c2 c3 c4 hstr hne0 hβ1
    have hbx : Below W0.heap.size W0 wc := HMD.out.bel
    obtain ⟨c0, c1, c2, c3, c4⟩ := HS0.out wc hbx
    have HBX := Lib.hid hbx
    have hsgl : sg < wc.heap.size := (Array.getElem?_eq_some_iff.1 HMD.out.row).1
    have HCP0 : Hid (Cp wc sg (.int .i64 k) (.int .i64 n) (.string s) (.slice kA ks.length kC) l 0 wc none 0 []) :=
      ⟨hsgl, Fr.refl _ _, HMD.out.row, ⟨rfl, .inl ⟨rfl, rfl⟩⟩, rfl, fun i hi => by simp at hi⟩
    clear hbx hsgl HS0 HX0
    go_wp2_with fail
    clear c0 c1 c2 c3 c4
    go_loopw [19] (fun i wr => ∃ j : Nat, j ≤ l.length ∧ i = .int .i64 j ∧ ∃ lA lC ys, Hid (Cp wc sg (.int .i64 k) (.int .i64 n) (.string s) (.slice kA ks.length kC) l j wr lA lC ys))
      (fun i _ => l.length - (intOf i).toNat)
    case atStart => exact ⟨0, Nat.zero_le _, rfl, none, 0, [], HCP0⟩
    case round =>
      obtain ⟨j, hj, rfl, lA, lC, ys, HCP⟩ := hrel
      have HWR : Hid (Below w.heap.size w wr) := by
        have h1 := HB0.out.trans (HBX.out.mono HB0.out.size)
        refine h1.trans (HCP.out.fr.mono fun q (hq : q < w.heap.size) => ⟨?_, ?_⟩).below
        · have := h1.size
          omega
        · have h2 := HMD.out.ge
          have h3 := HB0.out.size
          omega
      by_cases hlt : j < l.length
      · obtain ⟨g, o, rfl, hg, y, hy, hv⟩ := h4.at_ hlt
        have hy' := hy.below hg HWR.out
        obtain ⟨c0, c1, c2, c3, c4⟩ := hy'
        have HR := Lib.hid fun w' (hb : Below w.heap.size w w') => ih l[j] (List.getElem_mem hlt) _ w' (Is.below hb _ _ hv) (Nat.le_trans (bulk_le_of_mem (List.getElem_mem hlt)) hbl)
        have HVJ := Lib.hid (rfl : l[j] = l[j])
        have HST := Lib.hid fun wa w2 w3 (z : X) g cap h1 h2 h3 h4 h5 h6 => HCP.out.step hlt (wa := wa) (w2 := w2) (w3 := w3) (y := z) (g := g) (cap := cap) h1 h2 h3 h4 h5 h6
        have HOW := Lib.hid HCP.out.own
        have hsgr : sg < wr.heap.size := (Array.getElem?_eq_some_iff.1 HCP.out.row).1
        have hwc : wc.heap.size ≤ wr.heap.size := HCP.out.fr.size
        have hsn : some sg ≠ (Value.slice lA j lC).ownBlock := fun e => by
          have h1 := HCP.out.lt
          have h2 := (HCP.out.own.lt sg e.symm).1
          omega
        have HSS : Hid (∀ w' : World, (∀ k, k < wr.heap.size → some k ≠ (Value.slice lA j lC).ownBlock → w'.heap[k]? = wr.heap[k]?) → w'.cell? ⟨sg, 4, none⟩ = some (.slice lA j lC) ∧ w'.frozen? ⟨sg, 4, none⟩ = false) := fun w' hw => by
          have h1 := (hw sg hsgr hsn).trans HCP.out.row
          exact ⟨by rw [cell_of_row w' sg 4 _ _ _ h1]; rfl, by simp [World.frozen?, h1]⟩
        obtain ⟨yk, yn, ys0, yka, ykn, ykc, yla, yln, ylc⟩ := y
        simp only [X.v] at *
        obtain ⟨wb, hwb⟩ : ∃ wb, wb = wr.alloc (.cells #[.int .i64 yk, .int .i64 yn, .string ys0, .slice yka ykn ykc, .slice yla yln ylc] 25) := ⟨_, rfl⟩
        obtain ⟨δ, hδ⟩ : ∃ δ, δ = wr.heap.size := ⟨_, rfl⟩
        have HWB : Hid (Below wr.heap.size wr wb) := by subst hwb; exact below_alloc wr _
        have HWW : Hid (Below w.heap.size w wb) := HWR.out.trans (HWB.out.mono HWR.out.size)
        obtain ⟨d0, d1, d2, d3, d4⟩ : At wb δ 0 ⟨yk, yn, ys0, yka, ykn, ykc, yla, yln, ylc⟩ := by
          subst hwb hδ
          exact at_of_block (hp_new rfl)
        have s4 : wb.cell? ⟨sg, 4, none⟩ = some (.slice lA j lC) := (HSS.out wb fun k hk _ => HWB.out.block k hk).1
        have hjn : j ≤ 4194304 := by omega
        clear hsn hy hv HCP hsgr
        go_wp2_with fail
        rw [← hwb, ← hδ]
        clear hwb hδ c0 c1 c2 c3 c4
        go_region_law
          ((first
            | (go_simp; go_at_call 7; refine (HR.out _ HWW.out.drew).mono ?_; rintro e w2 ⟨⟨zk, zn, zs, zka, zkn, zkc, zla, zln, zlc⟩, rfl, hz, hb2⟩; have HK2 : Hid (Below wr.heap.size wr w2) := HWB.out.drew.trans (hb2.mono HWB.out.size); have s42 := (HSS.out w2 fun k hk _ => HK2.out.block k hk).1; have s43 : (w2.alloc (.cells #[.int .i64 zk, .int .i64 zn, .string zs, .slice zka zkn zkc, .slice zla zln zlc] 25)).cell? ⟨sg, 4, none⟩ = some (.slice lA j lC) := old_alloc s42; have HZZ := Lib.hid hz; have HB22 := Lib.hid hb2; clear hz hb2)
            | (refine step_push5 rfl _ _ (by rfl) i5 hi5 hz5 hs5 hb5 wr wc.heap.size lA j lC _ (by rfl) HOW.out ?b1 ?b2 w2.heap.size ⟨zk, zn, zs, zka, zkn, zkc, zla, zln, zlc⟩ (by rfl) ?b3 hjn (w2.heap.size + 1) ?b4 _ HSS.out ?_ ?b5; (case b1 => have := HK2.out.size; simp; omega); (case b2 => intro k hk; rw [Below.heap_alloc _ _ _ (Nat.lt_of_lt_of_le hk HK2.out.size)]; exact HK2.out.block k hk); (case b3 => exact hp_new rfl); (case b4 => simp); (case b5 => have := HK2.out.size; simp; omega); rintro g' cap' w3 ⟨e1, e2⟩ hown3 hgrow hat hlt3)))
        all_goals
          have HN := Lib.hid (HST.out _ _ _ _ _ _ HWB.out.drew HB22.out HZZ.out hown3 hgrow hat)
          clear hown3 hgrow hat hlt3 e1 e2 HST HSS HOW s42 s43 s4 d0 d1 d2 d3 d4 HB22 HZZ HK2
          generalize w3.setCell ⟨sg, 4, none⟩ (.slice (some ⟨g', 0, none⟩) (j + 1) cap') = w4 at *
          go_wp2_with fail
          go_roundw
          case rel => exact ⟨j + 1, by omega, by go_num, _, _, _, HN⟩
          case measure => simp [intOf]; omega
      · obtain rfl : j = l.length := by omega
        have hsg := HCP.out.row
        have s0 : wr.cell? ⟨sg, 0, none⟩ = some (.int .i64 k) := by rw [cell_of_row wr sg 0 _ _ _ hsg]; rfl
        have s1 : wr.cell? ⟨sg, 1, none⟩ = some (.int .i64 n) := by rw [cell_of_row wr sg 1 _ _ _ hsg]; rfl
        have s2 : wr.cell? ⟨sg, 2, none⟩ = some (.string s) := by rw [cell_of_row wr sg 2 _ _ _ hsg]; rfl
        have s3 : wr.cell? ⟨sg, 3, none⟩ = some (.slice kA ks.length kC) := by rw [cell_of_row wr sg 3 _ _ _ hsg]; rfl
        have s4 : wr.cell? ⟨sg, 4, none⟩ = some (.slice lA l.length lC) := by rw [cell_of_row wr sg 4 _ _ _ hsg]; rfl
        have hzr : wr.heap[ρ]? = some zrow := by
          have h1 := HMD.out.ge
          have h2 := HBX.out.size
          rw [HCP.out.fr.block ρ ⟨by omega, by omega⟩, HBX.out.block ρ hρ1]
          exact HR0.out
        obtain ⟨e0, e1, e2, e3, e4, e5⟩ := zrow_cells hzr
        have f0 := e5 0
        have f1 := e5 1
        have f2 := e5 2
        have f3 := e5 3
        have f4 := e5 4
        have HDN := Lib.hid (Cp.done (w := w) (by have := HZ0.out; omega) HMD.out HCP.out)
        have hnr : sg ≠ ρ := by
          have h1 := HMD.out.ge
          omega
        have hzr' := Lib.hid hzr
        clear hsg hzr e5
        go_wp2_with fail
        have hfr := put5_fr wr ρ 0 ⟨k, n, s, kA, ks.length, kC, lA, l.length, lC⟩
        have hrow : (put5 wr ρ 0 ⟨k, n, s, kA, ks.length, kC, lA, l.length, lC⟩).heap[ρ]? = some (.cells #[.int .i64 k, .int .i64 n, .string s, .slice kA ks.length kC, .slice lA l.length lC] 25 (0, 0)) := put5_row hzr'.out _
        rw [← put5_lit]
        refine bodyPost_ret (results_cell_row rfl _ _ ρ 25 _ (0, 0) _ rfl hrow Try.underlying25 rfl (by rw [hi5]; simp [hs5])) rfl ?_
        have hρ2 := HRR.out
        refine ⟨⟨k, n, s, kA, ks.length, kC, lA, l.length, lC⟩, rfl, IsP.fr (hfr.mono fun q hq => by show q ≠ ρ; omega) (fun q hq => ⟨by omega, Nat.lt_of_lt_of_le hq.2 hfr.size⟩) _ _ HDN.out, ?_⟩
        exact HWR.out.trans (hfr.mono fun q (hq : q < w.heap.size) => by show q ≠ ρ; omega).below
end Go.Proofs.Ytnkknlhdbhfjlaa
