/-
 A statement that draws its order, within a round; a row that a loop gathers; Keys, by contract.
 Keys, by contract.
-/
import Derived.Test.YtcahijpbkjplmaaGreatDoorMQd
import Derived.Test.YtcahijpbkjplmaaGreatDoorMZ0
set_option linter.unusedSimpArgs false
namespace Go.Proofs.YtcahijpbkjplmaaGreatDoor.G
open Go.RowKit Go.Shelf Go.Maps Go.Proofs.YtcahijpbkjplmaaGreatDoor
attribute [local go_sem] Oper.semAt_some
section
variable {P : Program} {l n : Nat} {Q : Exit → Act → World → Prop}
theorem rows_round {row : String} {args : Array Value} {w : World} {R : Value → World → Prop} (h : Rows P row args w R) : RowsIn (Fence.wide.inRound l) n P row args w R :=
 fun c cs _ => let ⟨v, w', r, s⟩ := h c cs; ⟨v, w', r, stepsIn_wide.2 s⟩
theorem oper_round {o : Oper} {a : Act} {w : World} {K : Act → World → Prop} (hd : ∀ c, o.op ≠ .defer c) (h : o.wp P a w K Q) : o.wpIn (Fence.wide.inRound l) n P a w K Q := by
 refine ⟨fun _ _ => trivial, ?_⟩
 unfold Oper.wp at h
 rw [Oper.semAt_plain (Fence.wide.inRound l) _ _ hd]
 generalize (execOp a.eval o).run P w = r at h ⊢
 rcases r with ⟨x, w'⟩ | ⟨x, w'⟩
 ·cases x with
  | value v => exact h
  | skip => exact h
  | «defer» d => exact h
  | enter f args => exact ⟨(fun e => by cases e), CallsIn.inRound l (callsIn_wide.2 h)⟩
  | row row args => exact ⟨(fun e => by cases e), rows_round h⟩
  | _ => exact h.elim
 ·cases x with
  | panic v => exact h
  | _ => exact h.elim
theorem any_round {md : Region.Mode} {ops : Array Oper} (hd : ∀ (i : Nat) (o : Oper) c, ops[i]? = some o → o.op ≠ .defer c) (hq : ¬ LetsOut Q) :
  ∀ (fuel : Nat) (listed : Array Bool) (a : Act) (w : World), wpAny P md ops Q fuel listed a w → wpAnyIn (Fence.wide.inRound l) n P md ops Q fuel listed a w
 | 0, _, _, _, h => h
 | fuel + 1, listed, a, w, h => by
  refine ⟨h.1, fun i hi => ?_⟩
  have hs := h.2 i hi
  have ih := any_round (md := md) hd hq fuel (listed.setIfInBounds i true)
  unfold wpOp at hs
  unfold wpOpIn
  cases ho : ops[i]? with
  | none =>
   rw [ho] at hs
   exact ih _ _ hs
  | some o =>
   rw [ho] at hs
   dsimp only at hs ⊢
   split
   ·rename_i hw
    rw [if_pos hw] at hs
    rcases hs with hs | hs
    ·exact Oper.wpIn_mono (fun a' w' h' => ih a' w' h') (oper_round (fun c => hd i o c ho) hs)
    ·exact absurd hs.2 hq
   ·rename_i hw
    rw [if_neg hw] at hs
    exact ⟨fun _ _ => trivial, ih _ _ hs⟩
theorem region_round {S : World → Prop} {id : Nat} {ops : Array Oper} {a : Act} {w : World} (hm : P.follows .mixedOrders = true) (hd : (ops.toList.all fun o => match o.op with | .defer _ => false | _ => true) = true) (hq : ¬ LetsOut Q) (hS : S w.drew)
  (h : S w.drew → wpAnyH P .any ops Q S ops.size (Array.replicate ops.size false) a w.drew) : (Code.region id ops true).wpIn (Fence.wide.inRound l) n P Q a w := by
 refine wpIn_region_any hm (any_round (fun i o c ho e => ?_) hq _ _ _ _ (wpAny_of_held _ _ _ _ (h hS)))
 rw [List.all_eq_true] at hd
 have := hd o (by rw [← Array.getElem?_toList] at ho; exact List.mem_of_getElem? ho)
 rw [e] at this
 cases this
end
theorem infoSt : (Tryz.prog.info? 9).map (fun i => (i.zero, i.size, i.bytes)) = some (some (.string ⟨#[]⟩), 1, 16) := by kernel_rfl
theorem step_app1 {ops : Array Oper} {o : Oper} {a : Act} {w : World} {K : Act → World → Prop} {Q : Exit → Act → World → Prop} {E : Prop} (hgd : o.guard = none) (s x : Operand) (t e : TypeId) (z : Value) (bytes : Nat) (ht : Tryz.prog.underlying t = some (.slice e))
  (hin : (Tryz.prog.info? e).map (fun i => (i.zero, i.size, i.bytes)) = some (some z, 1, bytes)) (hz : z.cells.size = 1) (hbt : bytes ≤ 128)
  (ho : o.op = .call { callee := .builtin .append, args := #[s, x], argTypes := #[t, t] })
  (C : Nat) (nv : Value) (n : Nat) (xs : List Value) (hs : a.eval s = nv) (hown : w.ownsRow C e 1 nv n xs) (g : Nat) (y : Value) (hx : a.eval x = .slice (some ⟨g, 0, none⟩) 1 1) (hc : w.cell? ⟨g, 0, none⟩ = some y) (h1 : y.oneCell' = true) (hl : n ≤ 4194304) (hb : C ≤ w.heap.size)
  (h : ∀ nv' w', w'.ownsRow C e 1 nv' (n + 1) (xs ++ [y]) → w.grownBy w' nv.ownBlock → (nv'.ownBlock = nv.ownBlock ∨ nv'.ownBlock = some w.heap.size) → K (a.put o.dst nv') w') :
  if Region.wanted o (yielded ops a.tmps) = true then Oper.wp Tryz.prog o a w K Q else E := by
 have hw : Region.wanted o (yielded ops a.tmps) = true := by simp [Region.wanted, hgd]
 rw [if_pos hw]
 obtain ⟨i0, hi0, hz0, hz1, hz2⟩ := info_parts hin
 obtain ⟨nv', w', hr, q2, q3, -, q5⟩ := run_append_own_at (P := Tryz.prog) w C t o.type e i0 z 1 bytes ht hi0 hz0 hz1 hz2 hz (by decide) nv n xs hown ⟨g, 0, none⟩ 1 1 [y] rfl
  (fun j u hj => by
   match j with
   | 0 => rw [add_lit]; simp at hj; subst hj; exact hc
   | j + 1 => simp at hj) (fun u hu => by simp at hu; subst hu; exact h1) (by unfold maxLen; omega)
  (Nat.le_trans (Nat.mul_le_mul (show n + 1 ≤ 4194305 by omega) hbt) (by decide)) hb
 unfold Oper.wp execOp
 simp only [ho, resolve, invoke, builtin, Sem.run_bind, Sem.run_pure, Result.andThen_ok, List.map_toArray, List.map_cons, List.map_nil, hs, hx, hr]
 exact h nv' w' q2 q3 q5
structure Gt (W0 : World) (X : Nat → Prop) (B : Nat) (ks : List ByteArray) (W : World) : Prop where
 c : ∃ v, W.cell? ⟨B, 0, none⟩ = some v ∧ W.ownsRow W0.heap.size 9 1 v ks.length (ks.map Value.string)
 z : W.frozen? ⟨B, 0, none⟩ = false
 fr : Fr (fun k => k < W0.heap.size ∧ ¬ X k) W0 W
section
variable {W0 W W' : World} {X : Nat → Prop} {B : Nat} {ks : List ByteArray}
theorem Gt.start (h : Blk W0 B 41 [.slice none 0 0]) : Gt W0 X B [] W0 := ⟨⟨_, h.cell (k := 0) rfl, row_nil _ _ _ _⟩, h.fz 0, Fr.refl _ _⟩
theorem Gt.lt (h : Gt W0 X B ks W) : B < W.heap.size := by
 obtain ⟨v, hc, -⟩ := h.c
 obtain ⟨u, hu, -⟩ := cells_of_cell hc
 exact (Array.getElem?_eq_some_iff.1 hu).1
theorem Gt.low (h : Gt W0 X B ks W) (hb : Below W.heap.size W W') : Gt W0 X B ks W' := by
 have hB := h.lt
 obtain ⟨⟨v, hc, ho⟩, hz, hf⟩ := h
 exact ⟨⟨v, (hb.cell (p := ⟨B, 0, none⟩) hB).trans hc, row_same ho fun k e => hb.block k (ho.lt k e).2⟩, (hb.frozen (p := ⟨B, 0, none⟩) hB).trans hz, hf.trans ⟨hb.os, hb.tape, hb.output, hb.size, fun k hk => hb.block k (Nat.lt_of_lt_of_le hk.1 hf.size)⟩⟩
theorem Gt.own (h : Gt W0 X B ks W) {row : Option Nat} (hg : W.grownBy W' row) (hr : ∀ r, row = some r → W0.heap.size ≤ r ∧ ∃ o : Obj, W.heap[r]? = some o ∧ o.isCells = false) : Gt W0 X B ks W' := by
 have hB := h.lt
 obtain ⟨⟨v, hc, ho⟩, hz, hf⟩ := h
 have hcl : ∀ (k : Nat) (o : Obj), W.heap[k]? = some o → o.isCells = true → W'.heap[k]? = W.heap[k]? := fun k o hk hco => hg.block k (Array.getElem?_eq_some_iff.1 hk).1 fun e => by
  obtain ⟨-, u, hu, huc⟩ := hr k e.symm
  rw [hk] at hu
  cases hu
  rw [hco] at huc
  cases huc
 obtain ⟨u, hu, huc⟩ := cells_of_cell hc
 have hb0 := hcl B u hu huc
 refine ⟨⟨v, (World.cell?_of_block (a := ⟨B, 0, none⟩) hb0).trans hc, row_same ho fun k e => ?_⟩, (World.frozen?_of_block (a := ⟨B, 0, none⟩) hb0).trans hz, hf.trans ⟨hg.os, hg.tape, hg.output, hg.size, fun k hk => hg.block k (Nat.lt_of_lt_of_le hk.1 hf.size) fun e => by have := (hr k e.symm).1; omega⟩⟩
 rcases ho.2 with ⟨rfl, _⟩ | ⟨g, cap, cur, rfl, _, hgc, _⟩
 ·cases e
 ·cases e
  exact hcl _ _ hgc rfl
theorem keeps_of {C : Nat} {v : Value} {n : Nat} {xs : List Value} {W W2 : World} {B b0 : Nat} (hB : ∃ u : Obj, W.heap[B]? = some u ∧ u.isCells = true) (ho : W.ownsRow b0 9 1 v n xs) (h : Fr (fun k => k < W.heap.size ∧ k ≠ B ∧ v.ownBlock ≠ some k) W W2) : KeepsFrom C W W2 := by
 refine ⟨h.size, fun k o _ hk hc => (h.block k ⟨(Array.getElem?_eq_some_iff.1 hk).1, ?_, ?_⟩).trans hk⟩
 ·rintro rfl
  obtain ⟨u, hu, huc⟩ := hB
  rw [hk] at hu
  cases hu
  rw [hc] at huc
  cases huc
 ·intro e
  rcases ho.2 with ⟨rfl, _⟩ | ⟨g, cap, cur, rfl, _, hgc, _⟩
  ·cases e
  ·cases e
   rw [hk] at hgc
   cases hgc
   cases hc
theorem Gt.push (h : Gt W0 X B ks W) (hX : X B) (hB0 : B < W0.heap.size) {v v' : Value} (hc : W.cell? ⟨B, 0, none⟩ = some v) (ho : W.ownsRow W0.heap.size 9 1 v ks.length (ks.map Value.string)) {s : ByteArray}
  (hg : W.grownBy W' v.ownBlock) (h' : W'.ownsRow W0.heap.size 9 1 v' (ks.length + 1) (ks.map Value.string ++ [.string s])) (_ : v'.ownBlock = v.ownBlock ∨ v'.ownBlock = some W.heap.size) :
  Gt W0 X B (ks ++ [s]) (W'.setCell ⟨B, 0, none⟩ v') ∧ Fr (fun k => k < W.heap.size ∧ k ≠ B ∧ v.ownBlock ≠ some k) W (W'.setCell ⟨B, 0, none⟩ v') := by
 have hBW := h.lt
 have hvb : v.ownBlock ≠ some B := fun e => by have := (ho.lt B e).1; omega
 have hbB : W'.heap[B]? = W.heap[B]? := hg.block B hBW fun e => hvb e.symm
 have hv'b : ∀ k, v'.ownBlock = some k → k ≠ B := fun k e => by have := (h'.lt k e).1; omega
 refine ⟨⟨⟨v', World.cell?_setCell_same _ _ _ ((World.cell?_of_block (a := ⟨B, 0, none⟩) hbB).trans hc), ?_⟩, ?_, ?_⟩, ?_⟩
 ·rw [List.length_append, List.length_singleton, List.map_append]
  exact row_same h' fun k e => Below.heap_setCell _ _ _ _ (hv'b k e)
 ·simp only [World.frozen?_setCell]
  exact (World.frozen?_of_block (a := ⟨B, 0, none⟩) hbB).trans h.z
 ·refine (h.fr.grown (fun k hk => hk.1) hg fun k e hk => ?_).setCell (p := ⟨B, 0, none⟩) (fun hk => hk.2 hX) _
  have := (ho.lt k e).1
  omega
 ·refine Fr.setCell (p := ⟨B, 0, none⟩) ⟨hg.os, hg.tape, hg.output, hg.size, fun k hk => hg.block k hk.1 fun e => hk.2.2 e.symm⟩ (fun hk => hk.2.1 rfl) _
end
attribute [local go_sem] Oper.semAt_some
def keysR : Option Ob → List ByteArray
 | some o => o.ps.map (·.key)
 | none => []
def Txs (w : World) (b : Nat) (v : Value) (ks : List ByteArray) : Prop := w.ownsRow b 9 1 v ks.length (ks.map Value.string)
set_option maxRecDepth 8000 in
theorem keys_any {w : World} {ow : Nat → Option Nat} {A : Nat} {H : Hs} {L : List OL} (h : PH w A H ow L) (g : Gd H) (v : Vl) :
  Calls Tryz.prog 20 #[pv A, v.v] w fun e w' => ∃ r, e = .returned r ∧ Txs w' w.heap.size r (keysR (H.obj v)) ∧ Below w.heap.size w w' := by
 have h0 := h.low (below_new w (.cells (Vl.cs v).toArray 29))
 have HF := Lib.hid (find_any h0 v g.os100)
 have HB := Lib.hid (below_new w (.cells (Vl.cs v).toArray 29))
 rcases h0.obj (v := v) with ⟨e1, e2⟩ | ⟨i, x, o, e1, e2, e3, -, e4, h5⟩
 ·rw [e2]
  rw [e1] at HF
  clear e1 e2 h0 h g
  obtain ⟨vk, vn, vs⟩ := v
  simp only [Vl.v, Vl.cs, ppv] at HF HB ⊢
  go_enter Tryz.func20, Tryz.ntmps20
  go_wp2_with fail
  refine HF.out.mono ?_
  rintro e w1 ⟨rfl, hb⟩
  go_wp2_with fail
  go_ret
  exact ⟨_, rfl, row_nil _ _ _ _, HB.out.trans (hb.mono HB.out.size)⟩
 ·rw [e2]
  rw [e1, e4] at HF
  have H5 := Lib.hid h5
  have HLT := Lib.hid h0.lt
  have HSM := Lib.hid (g.og i o e3)
  have HN := Lib.hid g.n100
  have HA := Lib.hid (all_any x.b)
  clear e1 e2 e3 e4 h0 h g h5
  obtain ⟨vk, vn, vs⟩ := v
  simp only [Vl.v, Vl.cs] at HF HB H5 HLT ⊢
  refine (callsIn_wide (n := 9)).1 ?_
  refine callsIn_of_wp_marks Tryz.func20 rfl trivial ?_ rfl
  simp only [Tryz.ntmps20, List.size_toArray, List.length_cons, List.length_nil, Nat.reduceAdd, Nat.reduceSub, Array.replicate_succ, Array.replicate_zero, List.push_toArray, List.append_toArray, List.nil_append, List.cons_append]
  gi_wp2_with fail
  refine ⟨trivial, (callsIn_wide.2 HF.out).mono ?_⟩
  rintro e w1 ⟨rfl, hb⟩
  have H6 := Lib.hid (H5.out.low HLT.out hb)
  have HB1 := Lib.hid (HB.out.trans (hb.mono HB.out.size))
  have HLT1 : Hid (∀ k, ow k ≠ none → k < w1.heap.size) := fun k hk => Nat.lt_of_lt_of_le (HLT.out k hk) hb.size
  clear hb HF HB H5 HLT
  gi_wp2_with fail
  refine ⟨trivial, (callsIn_wide.2 (HA.out _)).mono ?_⟩
  rintro e w2 ⟨rfl, rfl⟩
  gi_wp2_with fail
  obtain ⟨W0, hW0, hz, hb0, b1, b2⟩ : ∃ W0, (w1.alloc (.cells #[.slice none 0 0] 41)).alloc (.cells #[pv x.b] 76) = W0 ∧ W0.heap.size = w1.heap.size + 2 ∧ Below w1.heap.size w1 W0 ∧ Blk W0 w1.heap.size 41 [.slice none 0 0] ∧ Blk W0 (w1.heap.size + 1) 76 [pv x.b] := by
   obtain ⟨W0, e, h1, h2, h3⟩ := two_new w1 41 76 [.slice none 0 0] [pv x.b]
   exact ⟨W0, e, by rw [← e]; simp, h3, h1, h2⟩
  rw [hW0]
  clear hW0 HA
  have hx := H6.out.low HLT1.out hb0
  have hlt : ∀ k, ow k ≠ none → k < w1.heap.size := HLT1.out
  have hB1 := b1.lt
  have hB2 := b2.lt
  obtain ⟨ky, hky⟩ : ∃ ky : _root_.Fin x.pb.length → ByteArray, ky = fun j => (o.ps[j.1]'(by rw [← H6.out.pl]; exact j.2)).key := ⟨_, rfl⟩
  refine wpIn_rangeFunc_ownG rfl (by omega) (gf := 82) (lb := #[pv (w1.heap.size + 1)]) rfl trivial (enters_of Tryz.func82 (by kernel_rfl) rfl)
   (all_seq Fence.wide 8 trivial rfl (by omega) (w1.heap.size + 1) W0 (b2.cell rfl) hx (fun k hk => Nat.lt_of_lt_of_le (hlt k hk) hb0.size))
   (fun h k => h.trans k) (fun W l o o' hl h hc hw => ((Fr.refl (Kb ow (w1.heap.size + 1)) W).grown (fun k hk => by
    have := (Array.getElem?_eq_some_iff.1 h).1
    rcases hk with rfl | hk
    ·omega
    ·have := hlt k hk
     omega) (grownBy_putObj' W l o') (fun k e hk => by
    cases e
    rcases hk with rfl | hk
    ·omega
    ·have := hlt _ hk
     omega))) (Below.refl _ _) (fun _ => rfl)
   (fun pre W => Gt W0 (· = w1.heap.size) w1.heap.size (pre.map ky) W ∧ pre.length ≤ x.pb.length) (fun _ _ _ => False)
   (fun s X Y row hs hg hr => ⟨hs.1.own hg hr, hs.2⟩) (fun _ _ _ _ _ h _ _ => h) ⟨Gt.start b1, Nat.zero_le _⟩
   (fun j => { tmps := #[pv A, .agg #[.int .i64 vk, .int .i64 vn, .string vs], undef, .pointer (some ⟨w.heap.size, 0, none⟩), .slice none 0 0, pv x.b, .pointer (some ⟨w1.heap.size, 0, none⟩), pv x.pb[j.1], pv A, .agg #[.int .i64 vk, .int .i64 vn, .string vs], pv x.b, pv x.b, .bool false, pv x.b, .func (.func 82) #[] #[pv (w1.heap.size + 1)], pv x.pb[j.1], undef, undef, undef, undef, undef, undef, undef, undef, undef, undef], defers := [] }) ?assign ?body ?done ?stop
  case assign =>
   intro l x W C hC
   gi_wp2
   exact hC
  case stop =>
   rintro D c pre W _ _ h _
   exact h.elim
  case done =>
   rintro D xs W hD rfl ⟨hG, -⟩ hK
   obtain ⟨⟨r, hc, ho⟩, -, hf⟩ := hG
   have hks : (List.finRange x.pb.length).map ky = o.ps.map (·.key) := by
    rw [hky]
    apply List.ext_getElem
    ·simp [H6.out.pl]
    ·intro i h1 h2
     simp
   rw [hks] at ho
   have HO := Lib.hid ho
   have HBB : Hid (Below w.heap.size w W) := (HB1.out.trans (hb0.mono HB1.out.size)).trans ((hf.mono fun k (hk : k < w.heap.size) => by have := HB1.out.size; constructor <;> omega).below)
   have hwD : w.heap.size ≤ D := by have := HB1.out.size; omega
   have HWW : Hid (w.heap.size ≤ W0.heap.size) := by have := HB1.out.size; show _ ≤ _; omega
   clear ho hf hks hx b1 b2 H6 hky
   gi_wp2
   refine ⟨by simp, .inl ⟨_, _, rfl, run_takeDeferred hK, ?_⟩⟩
   refine ⟨r, by simp [results, Tryz.f20, go_sem], r, rfl, ?_, HBB.out.trans (below_put _ _ _ _ hwD hK)⟩
   refine row_same (row_lower HO.out HWW.out) fun k e => World.putObj_heap_other fun ek => ?_
   subst ek
   rcases HO.out.2 with ⟨rfl, _⟩ | ⟨g, cap, cur, rfl, _, hgc, _⟩
   ·cases e
   ·cases e
    rw [hK] at hgc
    cases hgc
  case body =>
   rintro l pre j W ⟨hG, -⟩ hlen
   have hjp : j.1 < o.ps.length := by rw [← H6.out.pl]; exact j.2
   have hW : ObjAt W ow i H.n (ppv L o.proto) x o := hx.fr (fun k e => ⟨e, hG.fr.block k ⟨by have := hlt k (by rw [e]; simp); omega, fun ek => by have := hlt k (by rw [e]; simp); omega⟩⟩) (Nat.le_refl _)
   have hpl : pre.length ≤ 100000 := by
    have h1 := HSM.out.l
    have h2 := HN.out
    have h3 := H6.out.pl
    omega
   have hsm := (HSM.out.s _ (List.getElem_mem hjp)).1
   have HCL := Lib.hid (fun w => clone_any o.ps[j.1].key w (by omega))
   have HLW : Hid (∀ V, Below W.heap.size W V → ObjAt V ow i H.n (ppv L o.proto) x o) := fun V hb => hW.low (fun k hk => by have := hlt k hk; have := hG.fr.size; omega) hb
   have HKY : Hid (∀ V, ObjAt V ow i H.n (ppv L o.proto) x o → V.cell? ⟨x.pb[j.1], 0, none⟩ = some (.string o.ps[j.1].key)) := fun V hV => (hV.pr j.1 j.2 hjp).cell (k := 0) rfl
   have HIX : Hid ((pre ++ [j]).map ky = pre.map ky ++ [o.ps[j.1].key]) := by
    show List.map _ _ = _
    rw [List.map_append, hky]
    rfl
   have HPL : Hid ((pre ++ [j]).length ≤ x.pb.length) := by show _ ≤ _; rw [List.length_append, List.length_singleton]; omega
   have hml : (pre.map ky).length ≤ 100000 := by rw [List.length_map]; exact hpl
   generalize pre.map ky = ks at *
   generalize o.ps[j.1].key = key at *
   generalize x.pb[j.1] = pb at *
   have HG := Lib.hid hG
   have HX0 := Lib.hid hx
   have HML := Lib.hid hml
   have HZW : Hid (W0.heap.size ≤ W.heap.size) := hG.fr.size
   have HB1L := Lib.hid hB1
   have HZ0 := Lib.hid hz
   have HLT0 := Lib.hid hlt
   have hs0 := HLW.out _ (below_draw W)
   clear hW hpl hsm hml hG hx hjp hlen b1 b2 hlt hB1 hB2 hz hky
   gi_wp2_with fail
   refine region_round (S := fun w' => ObjAt w' ow i H.n (ppv L o.proto) x o) (by kernel_rfl) (by decide) (by rintro ⟨a, w, h⟩; exact h) (by exact hs0) (fun hHeld0 => ?_)
   refine tk 1 ?_ ‹_› ?_ ?_; rotate_left; focus (intro w0 hSw; have hkk := HKY.out _ hSw; go_simp; try with_reducible rfl)
   refine tk 2 ?_ ‹_› ?_ ?_; rotate_left; focus (intro w0 hSw; have hkk := HKY.out _ hSw; go_simp; try with_reducible rfl)
   refine tk 3 ?_ ‹_› ?_ ?_; rotate_left; focus (intro w0 hSw; have hkk := HKY.out _ hSw; go_simp; try with_reducible rfl)
   refine tk 4 ?_ ‹_› ?_ ?_; rotate_left; focus (intro w0 hSw; have hkk := HKY.out _ hSw; go_simp; try with_reducible rfl)
   refine tk 5 ?_ ‹_› ?_ ?_; rotate_left; focus (intro w0 hSw; have hkk := HKY.out _ hSw; go_simp; try with_reducible rfl)
   try simp only [PT]
   have HBD : Hid (Below W.heap.size W W.drew) := below_draw W
   have hgd := HG.out.low HBD.out
   clear hs0
   generalize W.drew = v0 at *
   refine wpAnyH_ready (rs := [0, 6]) (by decide +kernel) (by simp) (AllReadyH.cons rfl (fun K hK => ?_) (AllReadyH.cons rfl (fun K hK => ?_) AllReadyH.nil))
   ·
    obtain ⟨r, hrc, hro⟩ := hgd.c
    obtain ⟨A0, n0, c0, rfl⟩ : ∃ A n c, r = .slice A n c := by
     rcases hro.2 with ⟨rfl, _⟩ | ⟨g, cap, cur, rfl, _⟩
     ·exact ⟨_, _, _, rfl⟩
     ·exact ⟨_, _, _, rfl⟩
    go_simp
    refine hK.out _ _ (HLW.out _ HBD.out) (fun hHeld1 => ?_)
    clear hK K hHeld0 
    try simp only [PT]
    refine wpAnyH_ready (rs := [6]) (by decide +kernel) (by simp) (AllReadyH.cons rfl (fun K hK => ?_) AllReadyH.nil)
    have hgd0 := hgd
    go_simp
    refine (HCL.out _).mono ?_
    rintro ee v1 ⟨rfl, hbb⟩
    have HBN := Lib.hid (HBD.out.trans (hbb.mono HBD.out.size))
    replace hgd := hgd.low hbb
    replace hrc := (hbb.cell (p := ⟨w1.heap.size, 0, none⟩) hgd0.lt).trans hrc
    replace hro := row_same hro fun k e => hbb.block k (hro.lt k e).2
    clear hbb HBD
    have HBD := HBN
    clear HBN
    refine hK.out _ _ (HLW.out _ HBD.out) (fun hHeld2 => ?_)
    clear hK K hHeld1 
    try simp only [PT]
    refine wpAnyH_ready (rs := [7]) (by decide +kernel) (by simp) (AllReadyH.cons rfl (fun K hK => ?_) AllReadyH.nil)
    have hgd0 := hgd
    go_simp
    have hbb := below_new v1 (.cells #[.string key] 9)
    have hcc : Blk (v1.alloc (.cells #[.string key] 9)) v1.heap.size 9 [.string key] := Blk.new _ _ _
    have HBN := Lib.hid (HBD.out.trans (hbb.mono HBD.out.size))
    replace hgd := hgd.low hbb
    replace hrc := (hbb.cell (p := ⟨w1.heap.size, 0, none⟩) hgd0.lt).trans hrc
    replace hro := row_same hro fun k e => hbb.block k (hro.lt k e).2
    clear hbb HBD
    have HBD := HBN
    clear HBN
    refine hK.out _ _ (HLW.out _ HBD.out) (fun hHeld3 => ?_)
    clear hK K hHeld2 
    try simp only [PT]
    generalize v1.alloc (.cells #[.string key] 9) = v8 at *
    refine wpAnyH_ready (rs := [8]) (by decide +kernel) (by simp) (AllReadyH.cons rfl (fun K hK => ?_) AllReadyH.nil)
    refine step_app1 rfl (.tmp 16) (.tmp 23) 41 9 _ 16 Tryz.underlying41 infoSt rfl (by decide) (by rfl) W0.heap.size _ _ _ (by rfl) hro _ (.string key) (by rfl) (hcc.cell rfl) rfl (by have := HML.out; omega) (by have := HZW.out; have := HBD.out.size; omega) ?_
    intro nv v9 h1 h2 h3
    obtain ⟨hp1, hp2⟩ := hgd.push rfl HB1L.out hrc hro h2 h1 h3
    have hkeep : KeepsFrom W0.heap.size W (v9.setCell ⟨w1.heap.size, 0, none⟩ nv) := (keepsFrom_below HBD.out).trans (keeps_of (cells_of_cell hrc) hro hp2)
    have hvB : v9.cell? ⟨w1.heap.size, 0, none⟩ = some (.slice A0 n0 c0) := (World.cell?_of_block (a := ⟨w1.heap.size, 0, none⟩) (h2.block _ hgd.lt fun e => by have h5 : W0.heap.size ≤ w1.heap.size := (hro.lt _ e.symm).1; have h6 := HZ0.out; omega)).trans hrc
    have hvz : v9.frozen? ⟨w1.heap.size, 0, none⟩ = false := (World.frozen?_of_block (a := ⟨w1.heap.size, 0, none⟩) (h2.block _ hgd.lt fun e => by have h5 : W0.heap.size ≤ w1.heap.size := (hro.lt _ e.symm).1; have h6 := HZ0.out; omega)).trans hgd.z
    have hkp : Fr (Kb ow (w1.heap.size + 1)) W (v9.setCell ⟨w1.heap.size, 0, none⟩ nv) := by
     refine (Fr.of HBD.out fun k hk => ?_).trans (hp2.mono fun k hk => ?_)
     ·rcases hk with rfl | hk
      ·have := HZW.out; have := HZ0.out; omega
      ·have := HLT0.out k hk; have := HZW.out; have := HZ0.out; omega
     ·have hk1 : k < W0.heap.size ∧ k ≠ w1.heap.size := by
       rcases hk with rfl | hk
       ·have := HZ0.out; exact ⟨by omega, by omega⟩
       ·have := HLT0.out k hk; have := HZ0.out; exact ⟨by omega, by omega⟩
      exact ⟨by have := HZW.out; have := HBD.out.size; omega, hk1.2, fun e => by have h5 := (hro.lt _ e).1; omega⟩
    have hs9 : ObjAt v9 ow i H.n (ppv L o.proto) x o := (HLW.out _ HBD.out).fr (fun k e => ⟨e, h2.block k (by have h4 := HLT0.out k (by rw [e]; simp); have := HZW.out; have := HBD.out.size; have := HZ0.out; omega) fun ek => by have h5 := (hro.lt _ ek.symm).1; have h4 := HLT0.out k (by rw [e]; simp); have := HZ0.out; omega⟩) (Nat.le_refl _)
    have hsA : ObjAt (v9.setCell ⟨w1.heap.size, 0, none⟩ nv) ow i H.n (ppv L o.proto) x o := hs9.fr (fun k e => ⟨e, Below.heap_setCell _ _ _ _ (by have h4 := HLT0.out k (by rw [e]; simp); show k ≠ w1.heap.size; omega)⟩) (Nat.le_refl _)
    obtain ⟨A9, n9, c9, rfl⟩ : ∃ A n c, nv = .slice A n c := by
     rcases h1.2 with ⟨rfl, _⟩ | ⟨g, cap, cur, rfl, _⟩
     ·exact ⟨_, _, _, rfl⟩
     ·exact ⟨_, _, _, rfl⟩
    refine hK.out _ _ hs9 (fun hHeld8 => ?_)
    clear hK K h1 h2 h3 hro hrc hcc
    try simp only [PT]
    refine wpAnyH_ready (rs := [9]) (by decide +kernel) (by simp) (AllReadyH.cons rfl (fun K hK => ?_) AllReadyH.nil)
    go_simp
    refine hK.out _ _ hsA (fun hHeld9 => ?_)
    clear hK K
    try simp only [PT]
    refine wpAnyH_done (by kernel_rfl) ?_ _
    refine ⟨hkeep, hkp, ?_, HPL.out⟩
    rw [HIX.out]
    exact hp1
   ·
    go_simp
    refine (HCL.out _).mono ?_
    rintro ee v1 ⟨rfl, hbb⟩
    have HBN := Lib.hid (HBD.out.trans (hbb.mono HBD.out.size))
    replace hgd := hgd.low hbb
    clear hbb HBD
    have HBD := HBN
    clear HBN
    refine hK.out _ _ (HLW.out _ HBD.out) (fun hHeld1 => ?_)
    clear hK K hHeld0 
    try simp only [PT]
    refine wpAnyH_ready (rs := [0, 7]) (by decide +kernel) (by simp) (AllReadyH.cons rfl (fun K hK => ?_) (AllReadyH.cons rfl (fun K hK => ?_) AllReadyH.nil))
    ·
     obtain ⟨r, hrc, hro⟩ := hgd.c
     obtain ⟨A0, n0, c0, rfl⟩ : ∃ A n c, r = .slice A n c := by
      rcases hro.2 with ⟨rfl, _⟩ | ⟨g, cap, cur, rfl, _⟩
      ·exact ⟨_, _, _, rfl⟩
      ·exact ⟨_, _, _, rfl⟩
     go_simp
     refine hK.out _ _ (HLW.out _ HBD.out) (fun hHeld2 => ?_)
     clear hK K hHeld1 
     try simp only [PT]
     refine wpAnyH_ready (rs := [7]) (by decide +kernel) (by simp) (AllReadyH.cons rfl (fun K hK => ?_) AllReadyH.nil)
     have hgd0 := hgd
     go_simp
     have hbb := below_new v1 (.cells #[.string key] 9)
     have hcc : Blk (v1.alloc (.cells #[.string key] 9)) v1.heap.size 9 [.string key] := Blk.new _ _ _
     have HBN := Lib.hid (HBD.out.trans (hbb.mono HBD.out.size))
     replace hgd := hgd.low hbb
     replace hrc := (hbb.cell (p := ⟨w1.heap.size, 0, none⟩) hgd0.lt).trans hrc
     replace hro := row_same hro fun k e => hbb.block k (hro.lt k e).2
     clear hbb HBD
     have HBD := HBN
     clear HBN
     refine hK.out _ _ (HLW.out _ HBD.out) (fun hHeld3 => ?_)
     clear hK K hHeld2 
     try simp only [PT]
     generalize v1.alloc (.cells #[.string key] 9) = v8 at *
     refine wpAnyH_ready (rs := [8]) (by decide +kernel) (by simp) (AllReadyH.cons rfl (fun K hK => ?_) AllReadyH.nil)
     refine step_app1 rfl (.tmp 16) (.tmp 23) 41 9 _ 16 Tryz.underlying41 infoSt rfl (by decide) (by rfl) W0.heap.size _ _ _ (by rfl) hro _ (.string key) (by rfl) (hcc.cell rfl) rfl (by have := HML.out; omega) (by have := HZW.out; have := HBD.out.size; omega) ?_
     intro nv v9 h1 h2 h3
     obtain ⟨hp1, hp2⟩ := hgd.push rfl HB1L.out hrc hro h2 h1 h3
     have hkeep : KeepsFrom W0.heap.size W (v9.setCell ⟨w1.heap.size, 0, none⟩ nv) := (keepsFrom_below HBD.out).trans (keeps_of (cells_of_cell hrc) hro hp2)
     have hvB : v9.cell? ⟨w1.heap.size, 0, none⟩ = some (.slice A0 n0 c0) := (World.cell?_of_block (a := ⟨w1.heap.size, 0, none⟩) (h2.block _ hgd.lt fun e => by have h5 : W0.heap.size ≤ w1.heap.size := (hro.lt _ e.symm).1; have h6 := HZ0.out; omega)).trans hrc
     have hvz : v9.frozen? ⟨w1.heap.size, 0, none⟩ = false := (World.frozen?_of_block (a := ⟨w1.heap.size, 0, none⟩) (h2.block _ hgd.lt fun e => by have h5 : W0.heap.size ≤ w1.heap.size := (hro.lt _ e.symm).1; have h6 := HZ0.out; omega)).trans hgd.z
     have hkp : Fr (Kb ow (w1.heap.size + 1)) W (v9.setCell ⟨w1.heap.size, 0, none⟩ nv) := by
      refine (Fr.of HBD.out fun k hk => ?_).trans (hp2.mono fun k hk => ?_)
      ·rcases hk with rfl | hk
       ·have := HZW.out; have := HZ0.out; omega
       ·have := HLT0.out k hk; have := HZW.out; have := HZ0.out; omega
      ·have hk1 : k < W0.heap.size ∧ k ≠ w1.heap.size := by
        rcases hk with rfl | hk
        ·have := HZ0.out; exact ⟨by omega, by omega⟩
        ·have := HLT0.out k hk; have := HZ0.out; exact ⟨by omega, by omega⟩
       exact ⟨by have := HZW.out; have := HBD.out.size; omega, hk1.2, fun e => by have h5 := (hro.lt _ e).1; omega⟩
     have hs9 : ObjAt v9 ow i H.n (ppv L o.proto) x o := (HLW.out _ HBD.out).fr (fun k e => ⟨e, h2.block k (by have h4 := HLT0.out k (by rw [e]; simp); have := HZW.out; have := HBD.out.size; have := HZ0.out; omega) fun ek => by have h5 := (hro.lt _ ek.symm).1; have h4 := HLT0.out k (by rw [e]; simp); have := HZ0.out; omega⟩) (Nat.le_refl _)
     have hsA : ObjAt (v9.setCell ⟨w1.heap.size, 0, none⟩ nv) ow i H.n (ppv L o.proto) x o := hs9.fr (fun k e => ⟨e, Below.heap_setCell _ _ _ _ (by have h4 := HLT0.out k (by rw [e]; simp); show k ≠ w1.heap.size; omega)⟩) (Nat.le_refl _)
     obtain ⟨A9, n9, c9, rfl⟩ : ∃ A n c, nv = .slice A n c := by
      rcases h1.2 with ⟨rfl, _⟩ | ⟨g, cap, cur, rfl, _⟩
      ·exact ⟨_, _, _, rfl⟩
      ·exact ⟨_, _, _, rfl⟩
     refine hK.out _ _ hs9 (fun hHeld8 => ?_)
     clear hK K h1 h2 h3 hro hrc hcc
     try simp only [PT]
     refine wpAnyH_ready (rs := [9]) (by decide +kernel) (by simp) (AllReadyH.cons rfl (fun K hK => ?_) AllReadyH.nil)
     go_simp
     refine hK.out _ _ hsA (fun hHeld9 => ?_)
     clear hK K
     try simp only [PT]
     refine wpAnyH_done (by kernel_rfl) ?_ _
     refine ⟨hkeep, hkp, ?_, HPL.out⟩
     rw [HIX.out]
     exact hp1
    ·
     go_simp
     have hbb := below_new v1 (.cells #[.string key] 9)
     have hcc : Blk (v1.alloc (.cells #[.string key] 9)) v1.heap.size 9 [.string key] := Blk.new _ _ _
     have HBN := Lib.hid (HBD.out.trans (hbb.mono HBD.out.size))
     replace hgd := hgd.low hbb
     clear hbb HBD
     have HBD := HBN
     clear HBN
     refine hK.out _ _ (HLW.out _ HBD.out) (fun hHeld2 => ?_)
     clear hK K hHeld1 
     try simp only [PT]
     generalize v1.alloc (.cells #[.string key] 9) = v8 at *
     refine wpAnyH_ready (rs := [0]) (by decide +kernel) (by simp) (AllReadyH.cons rfl (fun K hK => ?_) AllReadyH.nil)
     obtain ⟨r, hrc, hro⟩ := hgd.c
     obtain ⟨A0, n0, c0, rfl⟩ : ∃ A n c, r = .slice A n c := by
      rcases hro.2 with ⟨rfl, _⟩ | ⟨g, cap, cur, rfl, _⟩
      ·exact ⟨_, _, _, rfl⟩
      ·exact ⟨_, _, _, rfl⟩
     go_simp
     refine hK.out _ _ (HLW.out _ HBD.out) (fun hHeld3 => ?_)
     clear hK K hHeld2 
     try simp only [PT]
     refine wpAnyH_ready (rs := [8]) (by decide +kernel) (by simp) (AllReadyH.cons rfl (fun K hK => ?_) AllReadyH.nil)
     refine step_app1 rfl (.tmp 16) (.tmp 23) 41 9 _ 16 Tryz.underlying41 infoSt rfl (by decide) (by rfl) W0.heap.size _ _ _ (by rfl) hro _ (.string key) (by rfl) (hcc.cell rfl) rfl (by have := HML.out; omega) (by have := HZW.out; have := HBD.out.size; omega) ?_
     intro nv v9 h1 h2 h3
     obtain ⟨hp1, hp2⟩ := hgd.push rfl HB1L.out hrc hro h2 h1 h3
     have hkeep : KeepsFrom W0.heap.size W (v9.setCell ⟨w1.heap.size, 0, none⟩ nv) := (keepsFrom_below HBD.out).trans (keeps_of (cells_of_cell hrc) hro hp2)
     have hvB : v9.cell? ⟨w1.heap.size, 0, none⟩ = some (.slice A0 n0 c0) := (World.cell?_of_block (a := ⟨w1.heap.size, 0, none⟩) (h2.block _ hgd.lt fun e => by have h5 : W0.heap.size ≤ w1.heap.size := (hro.lt _ e.symm).1; have h6 := HZ0.out; omega)).trans hrc
     have hvz : v9.frozen? ⟨w1.heap.size, 0, none⟩ = false := (World.frozen?_of_block (a := ⟨w1.heap.size, 0, none⟩) (h2.block _ hgd.lt fun e => by have h5 : W0.heap.size ≤ w1.heap.size := (hro.lt _ e.symm).1; have h6 := HZ0.out; omega)).trans hgd.z
     have hkp : Fr (Kb ow (w1.heap.size + 1)) W (v9.setCell ⟨w1.heap.size, 0, none⟩ nv) := by
      refine (Fr.of HBD.out fun k hk => ?_).trans (hp2.mono fun k hk => ?_)
      ·rcases hk with rfl | hk
       ·have := HZW.out; have := HZ0.out; omega
       ·have := HLT0.out k hk; have := HZW.out; have := HZ0.out; omega
      ·have hk1 : k < W0.heap.size ∧ k ≠ w1.heap.size := by
        rcases hk with rfl | hk
        ·have := HZ0.out; exact ⟨by omega, by omega⟩
        ·have := HLT0.out k hk; have := HZ0.out; exact ⟨by omega, by omega⟩
       exact ⟨by have := HZW.out; have := HBD.out.size; omega, hk1.2, fun e => by have h5 := (hro.lt _ e).1; omega⟩
     have hs9 : ObjAt v9 ow i H.n (ppv L o.proto) x o := (HLW.out _ HBD.out).fr (fun k e => ⟨e, h2.block k (by have h4 := HLT0.out k (by rw [e]; simp); have := HZW.out; have := HBD.out.size; have := HZ0.out; omega) fun ek => by have h5 := (hro.lt _ ek.symm).1; have h4 := HLT0.out k (by rw [e]; simp); have := HZ0.out; omega⟩) (Nat.le_refl _)
     have hsA : ObjAt (v9.setCell ⟨w1.heap.size, 0, none⟩ nv) ow i H.n (ppv L o.proto) x o := hs9.fr (fun k e => ⟨e, Below.heap_setCell _ _ _ _ (by have h4 := HLT0.out k (by rw [e]; simp); show k ≠ w1.heap.size; omega)⟩) (Nat.le_refl _)
     obtain ⟨A9, n9, c9, rfl⟩ : ∃ A n c, nv = .slice A n c := by
      rcases h1.2 with ⟨rfl, _⟩ | ⟨g, cap, cur, rfl, _⟩
      ·exact ⟨_, _, _, rfl⟩
      ·exact ⟨_, _, _, rfl⟩
     refine hK.out _ _ hs9 (fun hHeld8 => ?_)
     clear hK K h1 h2 h3 hro hrc hcc
     try simp only [PT]
     refine wpAnyH_ready (rs := [9]) (by decide +kernel) (by simp) (AllReadyH.cons rfl (fun K hK => ?_) AllReadyH.nil)
     go_simp
     refine hK.out _ _ hsA (fun hHeld9 => ?_)
     clear hK K
     try simp only [PT]
     refine wpAnyH_done (by kernel_rfl) ?_ _
     refine ⟨hkeep, hkp, ?_, HPL.out⟩
     rw [HIX.out]
     exact hp1
end Go.Proofs.YtcahijpbkjplmaaGreatDoor.G
