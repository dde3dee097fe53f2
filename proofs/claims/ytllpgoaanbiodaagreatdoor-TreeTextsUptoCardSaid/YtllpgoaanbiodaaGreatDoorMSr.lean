/-

-/
import Derived.Test.YtllpgoaanbiodaaGreatDoorMSb
import Derived.Test.YtllpgoaanbiodaaGreatDoorMWn
import Derived.Maps.AppendAt
import Derived.Deep.RegionHeld3
import Derived.Deep.LoopGhost
set_option maxHeartbeats 1000000
set_option maxRecDepth 20000
namespace Go.Proofs.YtllpgoaanbiodaaGreatDoor.R
open Go.RowKit Go.Proofs.YtllpgoaanbiodaaGreatDoor Go.Proofs.YtllpgoaanbiodaaGreatDoor.T
mutual
def V.same : V → V → Bool
 | .mk k nm n s ks l, .mk k' nm' n' s' ks' l' => decide (k = k' ∧ nm = nm' ∧ n = n' ∧ s = s' ∧ ks = ks') && V.sames l l'
def V.sames : List V → List V → Bool
 | [], [] => true
 | a :: l, b :: m => V.same a b && V.sames l m
 | _, _ => false
end
theorem same_eq (a b : V) : V.same a b = (alk a b && V.sames a.l b.l) := by cases a; cases b; rfl
abbrev Pq := List V × List V
def pairs (l m : List V) : List Pq := (l.zip m).map fun p => (p.1.l, p.2.l)
def allS (st : List Pq) : Bool := st.all fun p => V.sames p.1 p.2
theorem allS_append (a b : List Pq) : allS (a ++ b) = (allS a && allS b) := by simp [allS]
theorem allS_one (p : Pq) : allS [p] = V.sames p.1 p.2 := by simp [allS]
theorem sames_no : ∀ l m : List V, alks l m = false → V.sames l m = false
 | [], [], h => by cases h
 | [], _ :: _, _ => rfl
 | _ :: _, [], _ => rfl
 | a :: l, b :: m, h => by
  rw [alks, Bool.and_eq_false_iff] at h
  rw [V.sames, same_eq]
  rcases h with h | h
  ·rw [h]; rfl
  ·rw [sames_no l m h, Bool.and_false]
theorem sames_yes : ∀ l m : List V, alks l m = true → V.sames l m = allS (pairs l m)
 | [], [], _ => rfl
 | [], _ :: _, h => by cases h
 | _ :: _, [], h => by cases h
 | a :: l, b :: m, h => by
  rw [alks, Bool.and_eq_true] at h
  rw [V.sames, same_eq, h.1, Bool.true_and, sames_yes l m h.2]
  rfl
theorem pairs_snoc (l m : List V) (j : Nat) (h1 : j < l.length) (h2 : j < m.length) : pairs (l.take (j + 1)) (m.take (j + 1)) = pairs (l.take j) (m.take j) ++ [(l[j].l, m[j].l)] := by
 unfold pairs
 rw [snoc_get l j h1, snoc_get m j h2, List.zip_append (by rw [List.length_take, List.length_take]; omega), List.map_append]
 rfl
theorem alks_eq {l m : List V} (h : alks l m = true) : l.length = m.length := by
 by_cases hl : l.length = m.length
 ·exact hl
 ·rw [alks_len l m hl] at h
  cases h
def mS (st : List Pq) : Nat := (st.map fun p => 1 + 2 * V.bulks p.1).sum
theorem mS_append (a b : List Pq) : mS (a ++ b) = mS a + mS b := by simp [mS]
theorem mS_one (p : Pq) : mS [p] = 1 + 2 * V.bulks p.1 := by simp [mS]
theorem len_mS (st : List Pq) : st.length ≤ mS st := by
 induction st with
 | nil => exact Nat.le_refl _
 | cons p r ih =>
  have : mS (p :: r) = 1 + 2 * V.bulks p.1 + mS r := by simp [mS]
  rw [List.length_cons, this]
  omega
theorem mS_pairs : ∀ l m : List V, mS (pairs l m) ≤ 2 * V.bulks l
 | [], _ => Nat.zero_le _
 | _ :: _, [] => Nat.zero_le _
 | a :: l, b :: m => by
  have ih := mS_pairs l m
  have h : mS (pairs (a :: l) (b :: m)) = 1 + 2 * V.bulks a.l + mS (pairs l m) := by simp [mS, pairs]
  have e : V.bulks (a :: l) = a.bulk + V.bulks l := rfl
  have e2 : a.bulk = 1 + a.nm.size + a.s.size + keysBulk a.ks + V.bulks a.l := by cases a; rfl
  rw [h, e]
  omega
structure Pp where
 A : Option Addr
 n : Nat
 c : Nat
 B : Option Addr
 m : Nat
 d : Nat
def Pp.vals (p : Pp) : List Value := [.slice p.A p.n p.c, .slice p.B p.m p.d]
structure PpIs (w : World) (n0 D C : Nat) (p : Pp) (q : Pq) : Prop where
 n : p.n = q.1.length
 m : p.m = q.2.length
 a : RowX w n0 D C p.A q.1
 b : RowX w n0 D C p.B q.2
def PpsIs (w : World) (n0 D C : Nat) : List Pp → List Pq → Prop
 | [], [] => True
 | p :: r, q :: s => PpIs w n0 D C p q ∧ PpsIs w n0 D C r s
 | _, _ => False
theorem rowX_low {w w' : World} {n0 B C : Nat} {A : Option Addr} {l : List V} (h : RowX w n0 B C A l) (hb : Below C w w') (hn : n0 ≤ C) : RowX w' n0 B C A l := by
 rcases h with h | ⟨g, o, rfl, hB, hg, h⟩
 ·exact .inl h
 ·refine .inr ⟨g, o, rfl, hB, hg, fun i hi => ?_⟩
  obtain ⟨y, ha, hy⟩ := h i hi
  exact ⟨y, ha.below hg hb, IsB.to (hb.mono hn) (Nat.le_refl _) _ _ hy⟩
theorem PpIs.low {w w' : World} {n0 D C : Nat} {p : Pp} {q : Pq} (h : PpIs w n0 D C p q) (hb : Below C w w') (hn : n0 ≤ C) : PpIs w' n0 D C p q := ⟨h.n, h.m, rowX_low h.a hb hn, rowX_low h.b hb hn⟩
theorem PpsIs.low {w w' : World} {n0 D C : Nat} (hb : Below C w w') (hn : n0 ≤ C) : ∀ {ps : List Pp} {qs : List Pq}, PpsIs w n0 D C ps qs → PpsIs w' n0 D C ps qs
 | [], [], _ => trivial
 | _ :: _, _ :: _, h => ⟨h.1.low hb hn, PpsIs.low hb hn h.2⟩
 | [], _ :: _, h => h.elim
 | _ :: _, [], h => h.elim
theorem PpsIs.len {w : World} {n0 D C : Nat} : ∀ {ps : List Pp} {qs : List Pq}, PpsIs w n0 D C ps qs → ps.length = qs.length
 | [], [], _ => rfl
 | _ :: _, _ :: _, h => by rw [List.length_cons, List.length_cons, PpsIs.len h.2]
 | [], _ :: _, h => h.elim
 | _ :: _, [], h => h.elim
theorem PpsIs.app {w : World} {n0 D C : Nat} {p : Pp} {q : Pq} : ∀ {ps : List Pp} {qs : List Pq}, PpsIs w n0 D C ps qs → PpIs w n0 D C p q → PpsIs w n0 D C (ps ++ [p]) (qs ++ [q])
 | [], [], _, h => ⟨h, trivial⟩
 | _ :: _, _ :: _, h, k => ⟨h.1, PpsIs.app h.2 k⟩
 | [], _ :: _, h, _ => h.elim
 | _ :: _, [], h, _ => h.elim
theorem PpsIs.last {w : World} {n0 D C : Nat} : ∀ {ps : List Pp} {qs : List Pq}, PpsIs w n0 D C ps qs → ¬ qs = [] → ∃ ps' p qs' q, ps = ps' ++ [p] ∧ qs = qs' ++ [q] ∧ PpsIs w n0 D C ps' qs' ∧ PpIs w n0 D C p q
 | [], [], _, h => absurd rfl h
 | [p], [q], h, _ => ⟨[], p, [], q, rfl, rfl, trivial, h.1⟩
 | p :: p2 :: r, q :: q2 :: s, h, _ => by
  obtain ⟨ps', p', qs', q', e1, e2, h1, h2⟩ := PpsIs.last h.2 (by simp)
  exact ⟨p :: ps', p', q :: qs', q', by rw [e1]; rfl, by rw [e2]; rfl, ⟨h.1, h1⟩, h2⟩
 | [_], _ :: _ :: _, h, _ => h.2.elim
 | _ :: _ :: _, [_], h, _ => h.2.elim
 | [], _ :: _, h, _ => h.elim
 | _ :: _, [], h, _ => h.elim
def StkP (w : World) (b : Nat) (v : Value) (ps : List Pp) : Prop := w.ownsRow b 42 2 v ps.length (ps.flatMap Pp.vals)
theorem StkP.keep {w w' : World} {b : Nat} {v : Value} {ps : List Pp} (h : StkP w b v ps) (hb : Below w.heap.size w w') : StkP w' b v ps := own_push h fun k hk => hb.block k (h.lt k hk).2
theorem flat_lenP (ps : List Pp) : (ps.flatMap Pp.vals).length = ps.length * 2 := by
 induction ps with
 | nil => rfl
 | cons p r ih => simp only [List.flatMap_cons, List.length_append, ih, Pp.vals, List.length_cons, List.length_nil]; omega
theorem flat_lastP (ps : List Pp) (p : Pp) : ((ps ++ [p]).flatMap Pp.vals)[ps.length * 2]? = some (.slice p.A p.n p.c) ∧ ((ps ++ [p]).flatMap Pp.vals)[ps.length * 2 + 1]? = some (.slice p.B p.m p.d) := by
 rw [List.flatMap_append]
 have h := flat_lenP ps
 constructor
 ·rw [List.getElem?_append_right (by omega), h]; simp [Pp.vals]
 ·rw [List.getElem?_append_right (by omega), h]; simp [Pp.vals]
theorem own_popP {w : World} {B : Nat} {e : TypeId} {ps : List Pp} {p : Pp} {g cap : Nat} (h : w.ownsRow B e 2 (.slice (some ⟨g, 0, none⟩) (ps.length + 1) cap) (ps.length + 1) ((ps ++ [p]).flatMap Pp.vals)) :
  w.ownsRow B e 2 (.slice (some ⟨g, 0, none⟩) ps.length cap) ps.length (ps.flatMap Pp.vals) := by
 have hl := flat_lenP ps
 refine ⟨hl, ?_⟩
 rcases h.2 with ⟨hv, _⟩ | ⟨g', cap', cur, hv, hb, hg, hn, hm, hs, ht⟩
 ·cases hv
 ·injection hv with h1 h2 h3
  injection h1 with h1
  injection h1 with h1
  subst h1 h3
  refine .inr ⟨g, cap, cur, rfl, hb, hg, by omega, hm, hs, ?_⟩
  rw [List.flatMap_append] at ht
  have := congrArg (List.take (ps.length * 2)) ht
  rw [List.take_take, Nat.min_eq_left (by omega), List.take_left' hl] at this
  exact this
theorem StkP.pop {w : World} {b : Nat} {v : Value} {ps : List Pp} {p : Pp} (h : StkP w b v (ps ++ [p])) : ∃ g cap, v = .slice (some ⟨g, 0, none⟩) (ps.length + 1) cap ∧ ps.length + 1 ≤ cap ∧ b ≤ g ∧ g < w.heap.size ∧
  w.cell? ⟨g, ps.length * 2, none⟩ = some (.slice p.A p.n p.c) ∧ w.cell? ⟨g, ps.length * 2 + 1, none⟩ = some (.slice p.B p.m p.d) ∧ StkP w b (.slice (some ⟨g, 0, none⟩) ps.length cap) ps := by
 have hown : w.ownsRow b 42 2 v (ps ++ [p]).length ((ps ++ [p]).flatMap Pp.vals) := h
 have hown' := hown
 rw [List.length_append, List.length_singleton] at hown hown'
 rcases hown.2 with ⟨_, hz⟩ | ⟨g, cap, cur, rfl, hb, hg, hn, hm, hs, ht⟩
 ·exact absurd hz (by omega)
 obtain ⟨f0, f1⟩ := flat_lastP ps p
 rw [← ht] at f0 f1
 have gc : ∀ (j : Nat) (u : Value), (cur.toList.take ((ps.length + 1) * 2))[j]? = some u → w.cell? ⟨g, j, none⟩ = some u := by
  intro j u hj
  have hj2 : j < (ps.length + 1) * 2 := by
   have := (List.getElem?_eq_some_iff.1 hj).1
   rw [List.length_take] at this
   omega
  rw [List.getElem?_take_of_lt hj2, Array.getElem?_toList] at hj
  simp [World.cell?, hg, hj]
 exact ⟨g, cap, rfl, hn, hb, (Array.getElem?_eq_some_iff.1 hg).1, gc _ _ f0, gc _ _ f1, own_popP hown'⟩
theorem StkP.open {w : World} {b : Nat} {v : Value} {ps : List Pp} (h : StkP w b v ps) : ∃ A c, v = .slice A ps.length c := by
 rcases h.2 with ⟨rfl, e⟩ | ⟨g, cap, cur, rfl, _⟩
 ·exact ⟨none, 0, by rw [e]⟩
 ·exact ⟨_, _, rfl⟩
theorem stkP_new {w : World} {b : Nat} (p : Pp) (hb : b ≤ w.heap.size) : StkP (w.alloc (.cells #[.slice p.A p.n p.c, .slice p.B p.m p.d] 42)) b (.slice (some ⟨w.heap.size, 0, none⟩) 1 1) [p] :=
 ⟨rfl, .inr ⟨w.heap.size, 1, _, rfl, hb, World.alloc_heap_new w _, Nat.le_refl _, by unfold maxLen; omega, rfl, rfl⟩⟩
theorem infoPp : (Tryz.prog.info? 42).map (fun i => (i.zero, i.size, i.bytes)) = some (some (.agg #[.slice none 0 0, .slice none 0 0]), 2, 48) := by kernel_rfl
theorem step_pp {ops : Array Oper} {o : Oper} {a : Act} {w : World} {K : Act → World → Prop} {Q : Exit → Act → World → Prop} {E : Prop} (hgd : o.guard = none) (s x : Operand)
  (ho : o.op = .call { callee := .builtin .append, args := #[s, x], argTypes := #[43, 43] })
  (w0 : World) (b : Nat) (v : Value) (ps : List Pp) (hs : a.eval s = v) (hown : StkP w0 b v ps) (hbel : Below w0.heap.size w0 w) (g : Nat) (p : Pp) (hx : a.eval x = .slice (some ⟨g, 0, none⟩) 1 1)
  (hc : ∀ (j : Nat) u, p.vals[j]? = some u → w.cell? ((⟨g, 0, none⟩ : Addr).add j) = some u) (hlen : ps.length ≤ 8388609) (hb : b ≤ w0.heap.size)
  (h : ∀ v' w', StkP w' b v' (ps ++ [p]) → w.grownBy w' v.ownBlock → (v'.ownBlock = v.ownBlock ∨ v'.ownBlock = some w.heap.size) → K (a.put o.dst v') w') :
  if Region.wanted o (yielded ops a.tmps) = true then Oper.wp Tryz.prog o a w K Q else E := by
 have hw : Region.wanted o (yielded ops a.tmps) = true := by simp [Region.wanted, hgd]
 rw [if_pos hw]
 obtain ⟨i0, hi0, hz0, hz1, hz2⟩ := info_parts infoPp
 obtain ⟨v', w', hr, h2, h3, h4, h5⟩ := run_append_own_at (P := Tryz.prog) w b 43 o.type 42 i0 _ 2 48 (by kernel_rfl) hi0 hz0 hz1 hz2 rfl (by decide) v ps.length (ps.flatMap Pp.vals) (hown.keep hbel) ⟨g, 0, none⟩ 1 1 p.vals rfl hc (fun u hu => by
  simp only [Pp.vals, List.mem_cons, List.not_mem_nil, or_false] at hu
  rcases hu with rfl | rfl <;> rfl) (by unfold maxLen; omega) (by omega) (Nat.le_trans hb hbel.size)
 unfold Oper.wp execOp
 simp only [ho, resolve, invoke, builtin, Sem.run_bind, Sem.run_pure, Result.andThen_ok, List.map_toArray, List.map_cons, List.map_nil, hs, hx, hr]
 refine h v' w' ?_ h3 h5
 show w'.ownsRow b _ 2 v' (ps ++ [p]).length ((ps ++ [p]).flatMap Pp.vals)
 rw [List.length_append, List.flatMap_append, List.length_singleton]
 simpa using h2
theorem same_begin (w : World) (x y : X) (a b : V) (hx : Is w a x) (hy : Is w b y) : ∃ W, ((((w.alloc (.cells x.cells 25)).alloc (.cells y.cells 25)).alloc (.cells x.cells 25)).alloc (.cells y.cells 25)).alloc (.cells #[.slice (some ⟨w.heap.size + 1 + 1, 0, none⟩) 1 1, .slice (some ⟨w.heap.size + 1 + 1 + 1, 0, none⟩) 1 1] 42) = W ∧
  W.heap.size = w.heap.size + 5 ∧ Below w.heap.size w W ∧ StkP W (w.heap.size + 1 + 1 + 1 + 1) (.slice (some ⟨w.heap.size + 1 + 1 + 1 + 1, 0, none⟩) 1 1) [⟨some ⟨w.heap.size + 1 + 1, 0, none⟩, 1, 1, some ⟨w.heap.size + 1 + 1 + 1, 0, none⟩, 1, 1⟩] ∧
  PpIs W w.heap.size w.heap.size (w.heap.size + 1 + 1 + 1 + 1) ⟨some ⟨w.heap.size + 1 + 1, 0, none⟩, 1, 1, some ⟨w.heap.size + 1 + 1 + 1, 0, none⟩, 1, 1⟩ ([a], [b]) := by
 obtain ⟨W4, hW4⟩ : ∃ W4, (((w.alloc (.cells x.cells 25)).alloc (.cells y.cells 25)).alloc (.cells x.cells 25)).alloc (.cells y.cells 25) = W4 := ⟨_, rfl⟩
 have hz4 : W4.heap.size = w.heap.size + 4 := by rw [← hW4]; simp
 have hb4 : Below w.heap.size w W4 := by rw [← hW4]; exact (((below_alloc w _).alloc (by simp) _).alloc (by simp; omega) _).alloc (by simp; omega) _
 have h2 : W4.heap[w.heap.size + 2]? = some (.cells x.cells 25) := by
  rw [← hW4]
  show ((((w.heap.push _).push _).push _).push _)[w.heap.size + 2]? = _
  rw [Array.getElem?_push, if_neg (by simp), Array.getElem?_push, if_pos (by simp)]
 have h3 : W4.heap[w.heap.size + 3]? = some (.cells y.cells 25) := by
  rw [← hW4]
  show ((((w.heap.push _).push _).push _).push _)[w.heap.size + 3]? = _
  rw [Array.getElem?_push, if_pos (by simp)]
 have ax : At W4 (w.heap.size + 2) 0 x := by constructor <;> simp [World.cell?, h2, X.cells]
 have ay : At W4 (w.heap.size + 3) 0 y := by constructor <;> simp [World.cell?, h3, X.cells]
 rw [hW4]
 obtain ⟨p, hp⟩ : ∃ p : Pp, p = ⟨some ⟨w.heap.size + 2, 0, none⟩, 1, 1, some ⟨w.heap.size + 3, 0, none⟩, 1, 1⟩ := ⟨_, rfl⟩
 have hs := stkP_new (w := W4) (b := w.heap.size + 4) p (by omega)
 have hba := below_alloc W4 (.cells #[.slice p.A p.n p.c, .slice p.B p.m p.d] 42)
 rw [hz4] at hs
 subst hp
 refine ⟨_, rfl, by simp [hz4], hb4.trans (hba.mono (by omega)), hs, rfl, rfl, .inr ⟨w.heap.size + 2, 0, rfl, by omega, by omega, fun i hi => ?_⟩, .inr ⟨w.heap.size + 3, 0, rfl, by omega, by omega, fun i hi => ?_⟩⟩
 ·have h0 : i = 0 := by simpa using hi
  subst h0
  exact ⟨x, ax.below (B := W4.heap.size) (by omega) hba, IsB.to (hb4.trans (hba.mono (by omega))) (Nat.le_refl _) _ _ hx⟩
 ·have h0 : i = 0 := by simpa using hi
  subst h0
  exact ⟨y, ay.below (B := W4.heap.size) (by omega) hba, IsB.to (hb4.trans (hba.mono (by omega))) (Nat.le_refl _) _ _ hy⟩
theorem same_any (a b : V) (x y : X) (w : World) (hx : Is w a x) (hy : Is w b y) (hb : a.bulk ≤ 4194304) :
  Calls Tryz.prog 17 #[x.v, y.v] w fun e w' => e = .returned (.bool (V.same a b)) ∧ Below w.heap.size w w' := by
 have HBG := Lib.hid (same_begin w x y a b hx hy)
 obtain ⟨r, hr⟩ : ∃ r, V.same a b = r := ⟨_, rfl⟩
 rw [hr]
 have HR0 : Hid (r = allS [([a], [b])]) := by
  show r = _
  rw [allS_one, V.sames, V.sames, Bool.and_true]
  exact hr.symm
 obtain ⟨xk, xnm, xn, xs, xka, xkn, xkc, xla, xln, xlc⟩ := x
 obtain ⟨yk, ynm, yn, ys, yka, ykn, ykc, yla, yln, ylc⟩ := y
 simp only [X.v, X.cells] at HBG ⊢
 clear hx hy hr
 go_enter Tryz.func17, Tryz.ntmps17
 go_wp2_with fail
 obtain ⟨W, hW, hz, hbw, hst, hpp⟩ := HBG.out
 rw [hW]
 have HBW := Lib.hid hbw
 have HZ := Lib.hid hz
 have HST := Lib.hid hst
 have HPP := Lib.hid hpp
 obtain ⟨C, hC⟩ : ∃ C, w.heap.size + 1 + 1 + 1 + 1 = C := ⟨_, rfl⟩
 have HCW : Hid (C < W.heap.size ∧ w.heap.size ≤ C ∧ w.heap.size + 4 = C) := by
  show _ ∧ _ ∧ _
  omega
 rw [hC] at HST HPP ⊢
 clear hW hz hbw hst hpp HBG hC
 go_loopg [5] 8388609 (fun q p wr => ∃ (st : List Pq) (ps : List Pp), StkP wr C p ps ∧ Hid (PpsIs wr w.heap.size w.heap.size C ps st) ∧ Hid (r = allS st) ∧ mS st ≤ q ∧ q ≤ 8388609 ∧ Hid (Below C W wr))
 case atStart =>
  refine ⟨[([a], [b])], _, HST.out, Lib.hid ⟨HPP.out, trivial⟩, HR0, ?_, Nat.le_refl _, Lib.hid (Below.refl _ _)⟩
  have e : V.bulks [a] = a.bulk := by simp [V.bulks]
  rw [mS_one, e]
  omega
 case round =>
  obtain ⟨st, ps, hstk, hps, hrs, hq, hq8, hbc⟩ := hrel
  by_cases h0 : st = []
  ·subst h0
   have hp0 : ps.length = 0 := hps.out.len
   obtain ⟨A, c, rfl⟩ := hstk.open
   have HRT : Hid (r = true) := hrs.out
   have HBF : Hid (Below w.heap.size w wr) := HBW.out.trans (hbc.out.mono (by have := HCW.out; omega))
   rw [hp0]
   clear hstk hps hrs hbc hq
   go_wp2_with fail
   go_ret
   exact ⟨by rw [HRT.out]; rfl, HBF.out⟩
  ·obtain ⟨ps', p, st', q1, rfl, rfl, hps', hpq⟩ := hps.out.last h0
   obtain ⟨g, cap, rfl, hcap, hg, hgw, d0, d1, hstk'⟩ := hstk.pop
   have hl1 : ps'.length ≤ 8388609 := by
    have h1 := len_mS (st' ++ [q1])
    have h2 := hps'.len
    rw [List.length_append, List.length_singleton] at h1
    omega
   have hll : (ps'.length : Int) + 1 ≤ 8388610 := by omega
   have hcl : (ps'.length : Int) + 1 ≤ (cap : Int) := by omega
   have hq2 := hq
   rw [mS_append, mS_one] at hq2
   have hn0w : w.heap.size ≤ wr.heap.size ∧ C ≤ wr.heap.size := by
    have h1 := HCW.out
    have h2 := hbc.out.size
    omega
   have hlen1 := length_le_bulks q1.1
   have HEQ := Lib.hid fun w' (hb2 : Below wr.heap.size wr w') => eqf_any q1.1 q1.2 p.A p.B p.c p.d w' (((rowX_low hpq.a (hb2.mono hn0w.2) HCW.out.2.1)).row (Nat.le_trans hn0w.1 hb2.size) (Nat.le_trans hn0w.2 hb2.size)) (((rowX_low hpq.b (hb2.mono hn0w.2) HCW.out.2.1)).row (Nat.le_trans hn0w.1 hb2.size) (Nat.le_trans hn0w.2 hb2.size)) (by omega) (fun u hu => by
    have h1 := bulk_le_of_mem hu
    have h2 := length_le_keysBulk u.ks
    have h3 : u.bulk = 1 + u.nm.size + u.s.size + keysBulk u.ks + V.bulks u.l := by cases u; rfl
    omega)
   have HRN : Hid (alks q1.1 q1.2 = false → r = false) := fun h => by
    rw [hrs.out, allS_append, allS_one, sames_no _ _ h, Bool.and_false]
   have HRY : Hid (alks q1.1 q1.2 = true → r = allS (st' ++ pairs q1.1 q1.2)) := fun h => by
    rw [hrs.out, allS_append, allS_append, allS_one, sames_yes _ _ h]
   have HLE : Hid (alks q1.1 q1.2 = true → q1.1.length = q1.2.length) := fun h => alks_eq h
   have hpn := hpq.n
   have hpm := hpq.m
   rw [← hpn, ← hpm] at HEQ
   have HPQ := Lib.hid hpq
   have HPS := Lib.hid hps'
   have HSK := Lib.hid hstk'
   have HGW := Lib.hid (And.intro hg hgw)
   have HBC := Lib.hid hbc.out
   have HQM := Lib.hid hq2
   have HQ8 := Lib.hid hq8
   have HL1 := Lib.hid hl1
   have HLEN := Lib.hid hlen1
   clear hstk hps hrs hq hq2 hq8 hbc hps' hpq hstk' h0 hg hgw hn0w hl1 hlen1 hpn hpm
   generalize alks q1.1 q1.2 = al at *
   go_wp2_with fail
   refine (HEQ.out _ (below_alloc wr _)).mono ?_
   rintro e w1 ⟨rfl, hb1⟩
   have hb2 : Below wr.heap.size wr w1 := (below_alloc wr (.cells #[.slice p.A p.n p.c, .slice p.B p.m p.d] 42)).trans (hb1.mono (by simp))
   have e0 : w1.cell? ⟨wr.heap.size, 0, none⟩ = some (.slice p.A p.n p.c) := (hb1.cell (p := ⟨wr.heap.size, 0, none⟩) (by simp)).trans (by simp)
   have e1 : w1.cell? ⟨wr.heap.size, 1, none⟩ = some (.slice p.B p.m p.d) := (hb1.cell (p := ⟨wr.heap.size, 1, none⟩) (by simp)).trans (by simp)
   have HB2 := Lib.hid hb2
   have hbx : wr.heap.size < w1.heap.size := by
    have := hb1.size
    rw [World.size_alloc] at this
    omega
   clear hb1 hb2 d0 d1 HEQ
   cases al
   ·have HRF := Lib.hid (HRN.out rfl)
    have HBF : Hid (Below w.heap.size w w1) := HBW.out.trans ((HBC.out.mono (by have := HCW.out; omega)).trans (HB2.out.mono (by have := HCW.out; have := HBC.out.size; omega)))
    clear HRN HRY HLE
    go_wp2_with fail
    go_ret
    exact ⟨by rw [HRF.out]; rfl, HBF.out⟩
   ·have HRR := Lib.hid (HRY.out rfl)
    have hle := HLE.out rfl
    have HCR : Hid (C ≤ wr.heap.size) := by
     have h1 := HCW.out
     have h2 := HBC.out.size
     show _ ≤ _
     omega
    have HSK1 := Lib.hid (HSK.out.keep HB2.out)
    have HPS1 := Lib.hid (HPS.out.low (HB2.out.mono HCR.out) HCW.out.2.1)
    have hpn := HPQ.out.n
    have hpm := HPQ.out.m
    have hnm : p.m = p.n := by omega
    have hpi : (p.n : Int) ≤ 4194304 := by have := HLEN.out; have := HQM.out; have := HQ8.out; omega
    have HPN := Lib.hid hpn
    have HPM := Lib.hid hpm
    have HNM : Hid (p.n = p.m) := hnm.symm
    have HGN : Hid (g ≠ wr.heap.size) := by have := HGW.out; show ¬ _ = _; omega
    rw [hnm] at e1
    clear hpn hpm HRN HRY HLE hle hnm HSK HPS
    generalize hbb : wr.heap.size = bx at *
    have HBB := Lib.hid hbb
    clear hbb
    go_wp2_with fail
    go_loopw [5, 37] (fun t i w2 => ∃ (j : Nat) (ps2 : List Pp), j ≤ p.n ∧ i = .int .i64 j ∧ StkP w2 C t ps2 ∧ Hid (PpsIs w2 w.heap.size w.heap.size C ps2 (st' ++ pairs (q1.1.take j) (q1.2.take j))) ∧ Hid (Below C wr w2) ∧ w2.cell? ⟨bx, 0, none⟩ = some (.slice p.A p.n p.c) ∧ w2.cell? ⟨bx, 1, none⟩ = some (.slice p.B p.n p.d) ∧ Hid (∀ k, t.ownBlock = some k → k ≠ bx) ∧ Hid (bx < w2.heap.size))
     (fun _ i _ => p.n - (intOf i).toNat)
    case atStart =>
     exact ⟨0, ps', Nat.zero_le _, rfl, HSK1.out, Lib.hid (by simpa [pairs] using HPS1.out), Lib.hid (by have := HBB.out; have := HCR.out; exact HB2.out.mono (by omega)), e0, e1, Lib.hid (fun k hk => by cases hk; exact HGN.out), Lib.hid hbx⟩
    case round =>
     obtain ⟨j, ps2, hj, rfl, hs2, hps2, hb2, f0, f1, hown, hbx2⟩ := hrel
     obtain ⟨ta, tc, rfl⟩ := hs2.open
     by_cases hlt : j < p.n
     ·have hrx := rowX_low HPQ.out.a hb2.out HCW.out.2.1
      have hry := rowX_low HPQ.out.b hb2.out HCW.out.2.1
      have hlt1 : j < q1.1.length := by have := HPN.out; omega
      have hlt2 : j < q1.2.length := by have := HPM.out; have := HNM.out; omega
      obtain ⟨g1, o1, hA, hg1, x1, ha1, hx1⟩ : ∃ g o, p.A = some ⟨g, o, none⟩ ∧ g < C ∧ ∃ y, At wr g (o + j * 6) y ∧ IsB wr w.heap.size q1.1[j] y := by
       rcases hrx with h | ⟨g, o, h1, _, h3, h4⟩
       ·rw [h] at hlt1; cases hlt1
       ·exact ⟨g, o, h1, h3, h4 j hlt1⟩
      obtain ⟨g2, o2, hB, hg2, x2, ha2, hx2⟩ : ∃ g o, p.B = some ⟨g, o, none⟩ ∧ g < C ∧ ∃ y, At wr g (o + j * 6) y ∧ IsB wr w.heap.size q1.2[j] y := by
       rcases hry with h | ⟨g, o, h1, _, h3, h4⟩
       ·rw [h] at hlt2; cases hlt2
       ·exact ⟨g, o, h1, h3, h4 j hlt2⟩
      have c5 := ha1.c5
      have d5 := ha2.c5
      obtain ⟨_, xc, xla, xlc, rfl, _, _, _, hr1⟩ := hx1.open
      obtain ⟨_, yc, yla, ylc, rfl, _, _, _, hr2⟩ := hx2.open
      dsimp only at c5 d5
      have HP1 := Lib.hid hr1
      have HP2 := Lib.hid hr2
      have HSN := Lib.hid (pairs_snoc q1.1 q1.2 j hlt1 hlt2)
      have hs2c := hs2.lt
      have hlp : ps2.length ≤ 8388609 := by
       have h1 := hps2.out.len
       have h2 := len_mS (st' ++ pairs (q1.1.take j) (q1.2.take j))
       have h3 := mS_pairs (q1.1.take j) (q1.2.take j)
       have h4 := bulks_take_le q1.1 j
       have h5 := HQM.out
       have h6 := HQ8.out
       rw [mS_append] at h2
       omega
      have hw2 : C ≤ wr.heap.size := by
       have h1 := HCR.out
       have h2 := hb2.out.size
       have h3 := HBB.out
       omega
      have HSS : Hid (∀ w3 w4 : World, Below wr.heap.size wr w3 → w3.grownBy w4 (Value.slice ta ps2.length tc).ownBlock → w4.cell? ⟨bx, 0, none⟩ = some (.slice p.A p.n p.c) ∧ w4.cell? ⟨bx, 1, none⟩ = some (.slice p.B p.n p.d) ∧ w4.cell? ⟨g1, o1 + j * 6 + 5, none⟩ = some (.slice xla q1.1[j].l.length xlc) ∧ w4.cell? ⟨g2, o2 + j * 6 + 5, none⟩ = some (.slice yla q1.2[j].l.length ylc)) := fun w3 w4 h3 h4 => by
       have hk : ∀ k, k < wr.heap.size → (∀ m, (Value.slice ta ps2.length tc).ownBlock = some m → k ≠ m) → w4.heap[k]? = wr.heap[k]? := fun k hk hne => (h4.block k (Nat.lt_of_lt_of_le hk h3.size) (fun e => hne k e.symm rfl)).trans (h3.block k hk)
       have kb := hk bx hbx2.out fun m hm => (hown.out m hm).symm
       have k1 := hk g1 (by omega) fun m hm => by have := (hs2c m hm).1; omega
       have k2 := hk g2 (by omega) fun m hm => by have := (hs2c m hm).1; omega
       exact ⟨(World.cell?_of_block (w := wr) kb).trans f0, (World.cell?_of_block (w := wr) kb).trans f1, (World.cell?_of_block (w := wr) k1).trans c5, (World.cell?_of_block (w := wr) k2).trans d5⟩
      have HS2 := Lib.hid hs2
      have HLP := Lib.hid hlp
      have HW2 := Lib.hid hw2
      have HG1 := Lib.hid (And.intro hg1 hg2)
      clear hrx hry ha1 ha2 hx1 hx2 hr1 hr2 hs2c hlp hw2 hs2 hg1 hg2
      rw [hA] at f0 HSS ⊢
      rw [hB] at f1 HSS ⊢
      generalize q1.1[j] = u1 at *
      generalize q1.2[j] = u2 at *
      have HCE : Hid (∀ (k : Nat) u, (Pp.vals ⟨xla, u1.l.length, xlc, yla, u2.l.length, ylc⟩)[k]? = some u → (wr.alloc (.cells #[.slice xla u1.l.length xlc, .slice yla u2.l.length ylc] 42)).cell? ((⟨wr.heap.size, 0, none⟩ : Addr).add k) = some u) := fun k u hk => by
       rw [add_lit]
       match k, hk with
       | 0, hk => simpa [Pp.vals] using hk
       | 1, hk => simpa [Pp.vals] using hk
       | k + 2, hk => simp [Pp.vals] at hk
      clear hA hB hlt1 hlt2
      have hji : (j : Int) < (p.n : Int) := by omega
      have hj0 : (0 : Int) ≤ (j : Int) := by omega
      go_wp2_with fail
      go_region_held3 (fun w' => w'.cell? ⟨bx, 0, none⟩ = some (.slice (some ⟨g1, o1, none⟩) p.n p.c) ∧ w'.cell? ⟨bx, 1, none⟩ = some (.slice (some ⟨g2, o2, none⟩) p.n p.d) ∧ w'.cell? ⟨g1, o1 + j * 6 + 5, none⟩ = some (.slice xla u1.l.length xlc) ∧ w'.cell? ⟨g2, o2 + j * 6 + 5, none⟩ = some (.slice yla u2.l.length ylc)) (first | go_keep)
       ((first | (refine step_pp (p := ⟨xla, u1.l.length, xlc, yla, u2.l.length, ylc⟩) (g := wr.heap.size) (v := .slice ta ps2.length tc) (w0 := wr) (b := C) (ps := ps2) (s := .tmp 40) (x := .tmp 54) ?hg ?ho ?hs ?hown ?hb ?hx ?hc ?hl ?hbb ?_; (case hg => rfl); (case ho => rfl); (case hs => rfl); (case hx => rfl); (case hown => exact HS2.out); (case hl => exact HLP.out); (case hbb => exact HW2.out); (case hb => exact (below_alloc wr _).drew); (case hc => exact HCE.out); intro v1 w1 hs3 hgr hat; have s2 := HSS.out _ _ ((below_alloc wr _).drew) hgr; have HS3 := Lib.hid hs3; have HGR := Lib.hid hgr; have HAT := Lib.hid hat; clear hs3 hgr hat)))
      have HF2 := Lib.hid s2
      have hz1 : ((wr.alloc (.cells #[.slice xla u1.l.length xlc, .slice yla u2.l.length ylc] 42)).drew).heap.size = wr.heap.size + 1 := World.size_alloc wr _
      have hb3 : Below C wr w1 := ((below_alloc wr (.cells #[.slice xla u1.l.length xlc, .slice yla u2.l.length ylc] 42)).drew.mono HW2.out).grown HGR.out (by have := HW2.out; omega) (fun k hk => (HS2.out.lt k hk).1)
      have HB3 := Lib.hid hb3
      have HOW : Hid (∀ k, v1.ownBlock = some k → k ≠ bx) := fun k hk => by
       rcases HAT.out with h | h
       ·rw [h] at hk
        exact hown.out k hk
       ·rw [h, hz1] at hk
        cases hk
        have := hbx2.out
        omega
      have HBX : Hid (bx < w1.heap.size) := Nat.lt_of_lt_of_le hbx2.out hb3.size
      clear s2 hb3 hz1 HGR HAT c5 d5 f0 f1
      go_wp2_with fail
      go_roundw
      case rel =>
       refine ⟨j + 1, ps2 ++ [⟨xla, u1.l.length, xlc, yla, u2.l.length, ylc⟩], hlt, by go_num, HS3.out, Lib.hid ?_, Lib.hid (hb2.out.trans HB3.out), HF2.out.1, HF2.out.2.1, HOW, HBX⟩
       rw [HSN.out, ← List.append_assoc]
       have hcw := HCW.out
       exact PpsIs.app (hps2.out.low HB3.out hcw.2.1) ⟨rfl, rfl, RowB.x (HP1.out.to (HB3.out.mono hcw.2.1) (Nat.le_refl _)) (Nat.le_refl _) hcw.2.1, RowB.x (HP2.out.to (HB3.out.mono hcw.2.1) (Nat.le_refl _)) (Nat.le_refl _) hcw.2.1⟩
      case measure => simp [intOf]; omega
     ·obtain rfl : j = p.n := by omega
      have t1 : q1.1.take p.n = q1.1 := by rw [HPN.out]; exact List.take_length
      have t2 : q1.2.take p.n = q1.2 := by rw [HNM.out, HPM.out]; exact List.take_length
      rw [t1, t2] at hps2
      have hmm : mS (st' ++ pairs q1.1 q1.2) < gk := by
       have h1 := mS_pairs q1.1 q1.2
       have h2 := HQM.out
       rw [mS_append]
       omega
      have hm8 : mS (st' ++ pairs q1.1 q1.2) ≤ 8388609 := by
       have := HQ8.out
       omega
      have HMM := Lib.hid hmm
      have HM8 := Lib.hid hm8
      have HBC2 := Lib.hid (HBC.out.trans hb2.out)
      clear f0 f1 hb2 hown hbx2 t1 t2 hmm hm8
      go_wp2_with fail
      go_roundg (mS (st' ++ pairs q1.1 q1.2))
      case measure => exact HMM.out
      case rel => exact ⟨st' ++ pairs q1.1 q1.2, ps2, hs2, hps2, HRR, Nat.le_refl _, HM8.out, HBC2⟩
end Go.Proofs.YtllpgoaanbiodaaGreatDoor.R
