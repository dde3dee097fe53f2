/-
  A node is laid upon the stack and upon what is around, in whatever order.
-/
import Derived.Test.YtgehgccgologpaaZf
import Derived.Deep.RegionHeld
import Derived.Deep.RegionLaw
import Derived.Lib.MinMax
namespace Go.Proofs.Ytgehgccgologpaa.Z
open Go.RowKit Go.Proofs.Ytgehgccgologpaa Go.Proofs.Ytgehgccgologpaa.R Go.Proofs.Ytgehgccgologpaa.T

/-- between: the blocks F are as they were; the slices lv and av; what has been built for them -/
structure Mid (C n0 : Nat) (F : Nat → Prop) (w0 w : World) (lv : Value) (ps : List Pc) (av : Value) (la : List V) (bl bn : Option Nat) (pl : Pc) (y : X) : Prop where
  fr : Fr F w0 w
  b0 : Below n0 w0 w
  own : OwnS w C lv ps
  arn : OwnN w C n0 av la
  ne : ∀ k, lv.ownBlock = some k → av.ownBlock ≠ some k
  nl : ∀ k, lv.ownBlock = some k → ¬ F k
  na : ∀ k, av.ownBlock = some k → ¬ F k
  fl : ∀ g, bl = some g → w.cell? ⟨g, 0, none⟩ = some pl.v ∧ g < w.heap.size ∧ lv.ownBlock ≠ some g ∧ av.ownBlock ≠ some g
  fn : ∀ g, bn = some g → At w g 0 y ∧ g < w.heap.size ∧ lv.ownBlock ≠ some g ∧ av.ownBlock ≠ some g
  lt : ∀ k, F k → k < w0.heap.size
  cs : C ≤ w.heap.size
  nc : n0 ≤ C
theorem Mid.low {C n0 : Nat} {F : Nat → Prop} {w0 w w' : World} {lv : Value} {ps : List Pc} {av : Value} {la : List V} {bl bn : Option Nat} {pl : Pc} {y : X} (h : Mid C n0 F w0 w lv ps av la bl bn pl y) (hb : Below w.heap.size w w') : Mid C n0 F w0 w' lv ps av la bl bn pl y :=
  ⟨h.fr.trans (Fr_of hb fun k hk => Nat.lt_of_lt_of_le (h.lt k hk) h.fr.size), h.b0.trans (hb.mono (Nat.le_trans h.nc h.cs)), own_sameB h.own fun k hk => hb.block k (h.own.lt hk).2, h.arn.push (hb.mono (Nat.le_trans h.nc h.cs)) fun k hk => hb.block k (h.arn.lt k hk).2,
    h.ne, h.nl, h.na, fun g hg => ⟨(hb.cell (p := ⟨g, 0, none⟩) (h.fl g hg).2.1).trans (h.fl g hg).1, Nat.lt_of_lt_of_le (h.fl g hg).2.1 hb.size, (h.fl g hg).2.2⟩,
    fun g hg => ⟨(h.fn g hg).1.below (h.fn g hg).2.1 hb, Nat.lt_of_lt_of_le (h.fn g hg).2.1 hb.size, (h.fn g hg).2.2⟩, h.lt, Nat.le_trans h.cs hb.size, h.nc⟩
theorem Mid.buildL {C n0 : Nat} {F : Nat → Prop} {w0 w : World} {lv : Value} {ps : List Pc} {av : Value} {la : List V} {bn : Option Nat} {pl : Pc} {y : X} (h : Mid C n0 F w0 w lv ps av la none bn pl y) : Mid C n0 F w0 (w.alloc (.cells #[pl.v] 23)) lv ps av la (some w.heap.size) bn pl y := by
  have h2 := h.low (below_alloc w (.cells #[pl.v] 23))
  refine ⟨h2.fr, h2.b0, h2.own, h2.arn, h2.ne, h2.nl, h2.na, ?_, h2.fn, h2.lt, h2.cs, h2.nc⟩
  intro g hg
  cases hg
  exact ⟨by simp, by simp, fun e => Nat.lt_irrefl _ (h.own.lt e).2, fun e => Nat.lt_irrefl _ (h.arn.lt _ e).2⟩
theorem at_new (w : World) (y : X) : At (w.alloc (.cells y.cells 25)) w.heap.size 0 y := by
  obtain ⟨k, nm, n, s, ka, kn, kc, la, ln, lc⟩ := y
  refine ⟨?_, ?_, ?_, ?_, ?_, ?_⟩ <;> simp [X.cells]
theorem Mid.buildN {C n0 : Nat} {F : Nat → Prop} {w0 w : World} {lv : Value} {ps : List Pc} {av : Value} {la : List V} {bl : Option Nat} {pl : Pc} {y : X} (h : Mid C n0 F w0 w lv ps av la bl none pl y) : Mid C n0 F w0 (w.alloc (.cells y.cells 25)) lv ps av la bl (some w.heap.size) pl y := by
  have h2 := h.low (below_alloc w (.cells y.cells 25))
  refine ⟨h2.fr, h2.b0, h2.own, h2.arn, h2.ne, h2.nl, h2.na, h2.fl, ?_, h2.lt, h2.cs, h2.nc⟩
  intro g hg
  cases hg
  exact ⟨at_new w y, by simp, fun e => Nat.lt_irrefl _ (h.own.lt e).2, fun e => Nat.lt_irrefl _ (h.arn.lt _ e).2⟩
theorem grownN {w w' : World} {row : Option Nat} (hg : w.grownBy w' row) {n : Nat} (hn : n ≤ w.heap.size) (hr : ∀ k, row = some k → n ≤ k) : Below n w w' := (Below.refl n w).grown hg hn hr
theorem Mid.appL {C n0 : Nat} {F : Nat → Prop} {w0 w w' : World} {lv lv' : Value} {ps : List Pc} {av : Value} {la : List V} {g : Nat} {bn : Option Nat} {pl : Pc} {y : X} (h : Mid C n0 F w0 w lv ps av la (some g) bn pl y)
    (h1 : OwnS w' C lv' (ps ++ [pl])) (hg : w.grownBy w' lv.ownBlock) (ho : lv'.ownBlock = lv.ownBlock ∨ lv'.ownBlock = some w.heap.size) : Mid C n0 F w0 w' lv' (ps ++ [pl]) av la none bn pl y := by
  have hF : ∀ k, F k → k < w.heap.size := fun k hk => Nat.lt_of_lt_of_le (h.lt k hk) h.fr.size
  have hn0 := Nat.le_trans h.nc h.cs
  have hbn : Below n0 w w' := grownN hg hn0 fun k hk => Nat.le_trans h.nc (h.own.lt hk).1
  have hbk : ∀ k, k < w.heap.size → lv.ownBlock ≠ some k → w'.heap[k]? = w.heap[k]? := fun k h5 h6 => hg.block k h5 fun e => h6 e.symm
  have hav : ∀ k, av.ownBlock = some k → lv.ownBlock ≠ some k := fun k hk e => h.ne k e hk
  refine ⟨h.fr.trans (own_grownF hg fun k hk => ⟨hF k hk, fun e => h.nl k e hk⟩), h.b0.trans hbn, h1, h.arn.push hbn fun k hk => hbk k (h.arn.lt k hk).2 (hav k hk), ?_, ?_, h.na, (fun g hg => by cases hg), ?_, h.lt, Nat.le_trans h.cs hg.size, h.nc⟩
  · intro k hk e
    rcases ho with ho | ho
    · exact h.ne k (ho ▸ hk) e
    · rw [ho] at hk
      cases hk
      exact Nat.lt_irrefl _ (h.arn.lt _ e).2
  · intro k hk e
    rcases ho with ho | ho
    · exact h.nl k (ho ▸ hk) e
    · rw [ho] at hk
      cases hk
      exact Nat.lt_irrefl _ (hF _ e)
  · intro m hm
    obtain ⟨⟨a0, a1, a2, a3, a4, a5⟩, b, c, d⟩ := h.fn m hm
    have hb := hbk m b c
    have hc : ∀ j, w'.cell? ⟨m, j, none⟩ = w.cell? ⟨m, j, none⟩ := fun j => World.cell?_of_block hb
    refine ⟨⟨(hc _).trans a0, (hc _).trans a1, (hc _).trans a2, (hc _).trans a3, (hc _).trans a4, (hc _).trans a5⟩, Nat.lt_of_lt_of_le b hg.size, ?_, d⟩
    rcases ho with ho | ho
    · rw [ho]; exact c
    · rw [ho]; intro e; cases e; exact Nat.lt_irrefl _ b
theorem Mid.appN {C n0 : Nat} {F : Nat → Prop} {w0 w w' : World} {lv : Value} {ps : List Pc} {av av' : Value} {la la' : List V} {bl : Option Nat} {g : Nat} {pl : Pc} {y : X} (h : Mid C n0 F w0 w lv ps av la bl (some g) pl y)
    (h1 : OwnN w' C n0 av' la') (hg : w.grownBy w' av.ownBlock) (ho : av'.ownBlock = av.ownBlock ∨ av'.ownBlock = some w.heap.size) : Mid C n0 F w0 w' lv ps av' la' bl none pl y := by
  have hF : ∀ k, F k → k < w.heap.size := fun k hk => Nat.lt_of_lt_of_le (h.lt k hk) h.fr.size
  have hn0 := Nat.le_trans h.nc h.cs
  have hbn : Below n0 w w' := grownN hg hn0 fun k hk => Nat.le_trans h.nc (h.arn.lt k hk).1
  have hbk : ∀ k, k < w.heap.size → av.ownBlock ≠ some k → w'.heap[k]? = w.heap[k]? := fun k h5 h6 => hg.block k h5 fun e => h6 e.symm
  refine ⟨h.fr.trans (own_grownF hg fun k hk => ⟨hF k hk, fun e => h.na k e hk⟩), h.b0.trans hbn, own_sameB h.own fun k hk => hbk k (h.own.lt hk).2 (h.ne k hk), h1, ?_, h.nl, ?_, ?_, (fun g hg => by cases hg), h.lt, Nat.le_trans h.cs hg.size, h.nc⟩
  · intro k hk e
    rcases ho with ho | ho
    · exact h.ne k hk (ho ▸ e)
    · rw [ho] at e
      cases e
      exact Nat.lt_irrefl _ (h.own.lt hk).2
  · intro k hk e
    rcases ho with ho | ho
    · exact h.na k (ho ▸ hk) e
    · rw [ho] at hk
      cases hk
      exact Nat.lt_irrefl _ (hF _ e)
  · intro m hm
    obtain ⟨a, b, c, d⟩ := h.fl m hm
    refine ⟨(World.cell?_of_block (hbk m b d)).trans a, Nat.lt_of_lt_of_le b hg.size, c, ?_⟩
    rcases ho with ho | ho
    · rw [ho]; exact d
    · rw [ho]; intro e; cases e; exact Nat.lt_irrefl _ b
/-- the beginning -/
theorem St.mid {C n0 B M T : Nat} {L : List (List V)} {A : List V} {lv av : Value} {w : World} (h : St C n0 B M T L A lv av w) (hn : n0 ≤ C) (pl : Pc) (y : X) {ps : List Pc} (h1 : OwnS w C lv ps) :
    Mid C n0 (fun k => k < w.heap.size ∧ lv.ownBlock ≠ some k ∧ av.ownBlock ≠ some k) w w lv ps av A.reverse none none pl y :=
  ⟨Fr.refl _ _, Below.refl _ _, h1, h.arn, h.ne, fun _ hk e => e.2.1 hk, fun _ hk e => e.2.2 hk, (fun g hg => by cases hg), (fun g hg => by cases hg), fun _ hk => hk.1, h.cs, hn⟩
theorem Mid.drew {C n0 : Nat} {F : Nat → Prop} {w0 w : World} {lv : Value} {ps : List Pc} {av : Value} {la : List V} {bl bn : Option Nat} {pl : Pc} {y : X} (h : Mid C n0 F w0 w lv ps av la bl bn pl y) : Mid C n0 F w0 w.drew lv ps av la bl bn pl y := h.low (Below.refl _ _).drew
/-- the end -/
theorem Mid.st {C n0 B M T : Nat} {L : List (List V)} {A : List V} {lv av lv' av' : Value} {w w' : World} {v : V} {ps : List Pc} {pl : Pc} {y : X} (h : St C n0 B M T L A lv av w) (hps : PcsIs w n0 ps L.reverse) (hp : PcIs w n0 pl v.l)
    (hm : Mid C n0 (fun k => k < w.heap.size ∧ lv.ownBlock ≠ some k ∧ av.ownBlock ≠ some k) w w' lv' (ps ++ [pl]) av' (A.reverse ++ [v]) none none pl y) (hL : L ≠ []) (hv : v.bulk ≤ M) (hT : L.length + 1 + (V.sizes v.l + szL L) ≤ T) :
    St C n0 B M T (v.l :: L) (v :: A) lv' av' w' := by
  have hB : B < w.heap.size := h.dc B (.inl rfl)
  have hFB : ∀ k, Dd B w k → k < w.heap.size ∧ lv.ownBlock ≠ some k ∧ av.ownBlock ≠ some k := fun k hk => ⟨h.dc k hk, fun e => h.nl k e hk, fun e => h.na k e hk⟩
  have hDd : ∀ k, Dd B w' k → Dd B w k := fun k e => Dd.of (hm.fr.block B (hFB B (.inl rfl))) e
  refine ⟨⟨ps ++ [pl], hm.own, ?_⟩, ?_, fun k hk e => hm.nl k hk (hFB k (hDd k e)), fun k hk e => hm.na k hk (hFB k (hDd k e)), hm.ne, ?_, ?_, ?_, ?_, hm.cs, fun k e => Nat.lt_of_lt_of_le (h.dc k (hDd k e)) hm.fr.size⟩
  · rw [List.reverse_cons]
    exact (hps.to hm.b0).app (hp.to hm.b0)
  · rw [List.reverse_cons]
    exact hm.arn
  · rcases h.len with e | ⟨e, _⟩
    · exact .inl (by rw [List.length_cons, List.length_cons, e])
    · exact absurd e hL
  · rw [szL_cons, List.length_cons]
    omega
  · intro m hmm
    rcases List.mem_cons.1 hmm with rfl | hmm
    · have := bulk_ge v
      omega
    · exact h.bl m hmm
  · intro u hu
    rcases List.mem_cons.1 hu with rfl | hu
    · exact hv
    · exact h.ba u hu

/-! steps of a statement that draws its order -/
theorem step_appL {ops : Array Oper} {o : Oper} {a : Act} {w : World} {K : Act → World → Prop} {Q : Exit → Act → World → Prop} {E : Prop} (hgd : o.guard = none) (s x : Operand)
    (ho : o.op = .call { callee := .builtin .append, args := #[s, x], argTypes := #[60, 60] })
    (C : Nat) (lv : Value) (ps : List Pc) (hs : a.eval s = lv) (hown : OwnS w C lv ps) (g : Nat) (pl : Pc) (hx : a.eval x = .slice (some ⟨g, 0, none⟩) 1 1) (hc : w.cell? ⟨g, 0, none⟩ = some pl.v) (hl : ps.length ≤ 4194304) (hb : C ≤ w.heap.size)
    (h : ∀ lv' w', OwnS w' C lv' (ps ++ [pl]) → w.grownBy w' lv.ownBlock → (lv'.ownBlock = lv.ownBlock ∨ lv'.ownBlock = some w.heap.size) → K (a.put o.dst lv') w') :
    if Region.wanted o (yielded ops a.tmps) = true then Oper.wp Try.prog o a w K Q else E := by
  have hw : Region.wanted o (yielded ops a.tmps) = true := by simp [Region.wanted, hgd]
  rw [if_pos hw]
  obtain ⟨i0, hi0, hz0, hz1, hz2⟩ := info_parts infoNs
  obtain ⟨lv', w', hr, q2, q3, -, q5⟩ := run_append_own_at (P := Try.prog) w C 60 o.type 23 i0 _ 1 24 (by kernel_rfl) hi0 hz0 hz1 hz2 rfl (by decide) lv ps.length (vls ps) hown ⟨g, 0, none⟩ 1 1 [pl.v] rfl
    (fun j u hj => by
      match j with
      | 0 => rw [add_lit]; simp at hj; subst hj; exact hc
      | j + 1 => simp at hj) (fun u hu => by simp at hu; subst hu; rfl) (by unfold maxLen; omega) (by omega) hb
  unfold Oper.wp execOp
  simp only [ho, resolve, invoke, builtin, Sem.run_bind, Sem.run_pure, Result.andThen_ok, List.map_toArray, List.map_cons, List.map_nil, hs, hx, hr]
  refine h lv' w' ?_ q3 q5
  show World.ownsRow _ _ _ _ _ _ _
  rw [List.length_append, vls, List.map_append]
  exact q2
theorem step_appN {ops : Array Oper} {o : Oper} {a : Act} {w : World} {K : Act → World → Prop} {Q : Exit → Act → World → Prop} {E : Prop} (hgd : o.guard = none) (s x : Operand)
    (ho : o.op = .call { callee := .builtin .append, args := #[s, x], argTypes := #[23, 23] })
    (C n0 : Nat) (av : Value) (la : List V) (hs : a.eval s = av) (hown : OwnN w C n0 av la) (g : Nat) (y : X) (v : V) (hx : a.eval x = .slice (some ⟨g, 0, none⟩) 1 1) (hc : At w g 0 y) (hy : IsB w n0 v y) (hl : la.length ≤ 4194304) (hn : n0 ≤ C) (hb : C ≤ w.heap.size)
    (h : ∀ av' w', OwnN w' C n0 av' (la ++ [v]) → w.grownBy w' av.ownBlock → (av'.ownBlock = av.ownBlock ∨ av'.ownBlock = some w.heap.size) → K (a.put o.dst av') w') :
    if Region.wanted o (yielded ops a.tmps) = true then Oper.wp Try.prog o a w K Q else E := by
  have hw : Region.wanted o (yielded ops a.tmps) = true := by simp [Region.wanted, hgd]
  rw [if_pos hw]
  obtain ⟨i0, hi0, hz0, hz1, hz2⟩ := info_parts infoNd
  obtain ⟨xs, h1, h2⟩ := hown
  have hlt := h2.lt
  obtain ⟨av', w', hr, q2, q3, -, q5⟩ := run_append_own_at (P := Try.prog) w C 23 o.type 25 i0 _ 6 96 (by kernel_rfl) hi0 hz0 hz1 hz2 rfl (by decide) av la.length (flatX xs) h2 ⟨g, 0, none⟩ 1 1 (flatX [y]) rfl
    (fun j u hj => by
      rw [add_lit]
      obtain ⟨a0, a1, a2, a3, a4, a5⟩ := hc
      match j, hj with
      | 0, hj => rw [← hj]; exact a0
      | 1, hj => rw [← hj]; exact a1
      | 2, hj => rw [← hj]; exact a2
      | 3, hj => rw [← hj]; exact a3
      | 4, hj => rw [← hj]; exact a4
      | 5, hj => rw [← hj]; exact a5
      | j + 6, hj => simp [X.cells] at hj) (flatX_one [y]) (by unfold maxLen; omega) (by omega) hb
  unfold Oper.wp execOp
  simp only [ho, resolve, invoke, builtin, Sem.run_bind, Sem.run_pure, Result.andThen_ok, List.map_toArray, List.map_cons, List.map_nil, hs, hx, hr]
  have hbel : Below n0 w w' := grownN q3 (Nat.le_trans hn hb) (fun k hk => Nat.le_trans hn (hlt k hk).1)
  refine h av' w' ⟨xs ++ [y], (h1.app ⟨rfl, fun i hi => ?_⟩).low hbel, ?_⟩ q3 q5
  · have hi0 : i = 0 := by simpa using hi
    subst hi0
    exact ⟨y, rfl, hy⟩
  · rw [List.length_append, show flatX (xs ++ [y]) = flatX xs ++ flatX [y] from List.flatMap_append]
    exact q2
end Go.Proofs.Ytgehgccgologpaa.Z
