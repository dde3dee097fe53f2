/-
 A set of texts in memory; what is enumerated, told round by round.
 Enum, by contract.
-/
import Derived.Test.YtcahijpbkjplmaaGreatDoorMRr
import Derived.Test.YtcahijpbkjplmaaGreatDoorMQf
import Derived.Test.YtcahijpbkjplmaaGreatDoorMZ0
import Derived.Maps.OwnSet
import Derived.RangeFuncNested
set_option linter.unusedSimpArgs false
namespace Go.Proofs.YtcahijpbkjplmaaGreatDoor.G
open Go.RowKit Go.Shelf Go.Maps Go.Lib Go.Proofs.YtcahijpbkjplmaaGreatDoor
theorem beq_bytes (a b : ByteArray) : (a == b) = decide (a = b) := by
 rw [beq_toListBytes]
 by_cases h : a = b
 ·subst h
  rw [decide_eq_true rfl]
  exact beq_self_eq_true _
 ·rw [decide_eq_false h, beq_eq_false_iff_ne]
  exact fun e => h (toList_inj e)
def MapU (w : World) (b n : Nat) (met : List ByteArray) : Prop := ∃ D : DataW Value, w.ownsMap Tryz.prog 9 unitElem b n D ∧ ∀ s, Go.Maps.has D (keyL s) = met.contains s
theorem MapU.fr {w w' : World} {b n : Nat} {met : List ByteArray} (h : MapU w b n met) (he : w'.heap[b]? = w.heap[b]?) : MapU w' b n met := by
 obtain ⟨D, ⟨es, c, hb, r⟩, h2⟩ := h
 exact ⟨D, ⟨es, c, he.trans hb, r⟩, h2⟩
theorem MapU.isMap {w : World} {b n : Nat} {met : List ByteArray} (h : MapU w b n met) : ∃ es c, w.heap[b]? = some (.map es c) := by
 obtain ⟨D, ⟨es, c, hb, r⟩, h2⟩ := h
 exact ⟨es, c, hb⟩
theorem MapU.lt {w : World} {b n : Nat} {met : List ByteArray} (h : MapU w b n met) : b < w.heap.size := by
 obtain ⟨es, c, hb⟩ := h.isMap
 exact (Array.getElem?_eq_some_iff.1 hb).1
theorem MapU.new (w : World) : MapU (w.alloc (.map #[] 0)) w.heap.size 0 [] := ⟨.map [], World.ownsMap_made w _ _ _, fun _ => rfl⟩
theorem MapU.look {w : World} {b n : Nat} {met : List ByteArray} (h : MapU w b n met) {t e : TypeId} (ht : Tryz.prog.underlying t = some (.map 9 e)) (hz : (zeroValue e).run Tryz.prog w = .ok (.agg #[]) w) {s : ByteArray} (hs : s.size ≤ maxLen) :
  (Instr.lookup t (.map (some b)) (.string s) true).run Tryz.prog w = .ok (.tuple #[.agg #[], .bool (met.contains s)]) w := by
 obtain ⟨D, h1, h2⟩ := h
 obtain ⟨v, ps, h3, h4⟩ := h1.look_ok kStr ht hz (zd := .agg []) unitElem_mk (keyS hs)
 rw [h2 s] at h3
 obtain ⟨rfl, -⟩ := unitElem_inv h4
 exact h3
theorem MapU.store {w : World} {b n : Nat} {met : List ByteArray} (h : MapU w b n met) {t e : TypeId} (ht : Tryz.prog.underlying t = some (.map 9 e)) (hn : n < maxLen) {s : ByteArray} (hs : s.size ≤ maxLen) :
  ∃ w', (Instr.mapUpdate t (.map (some b)) (.string s) (.agg #[])).run Tryz.prog w = .ok () w' ∧ MapU w' b (n + 1) (met ++ [s]) ∧ w.mapTurned w' b := by
 obtain ⟨D, h1, h2⟩ := h
 obtain ⟨w', h3, h4, h5⟩ := h1.store kStr ht hn (keyS hs) (val := .agg #[]) (d := .agg []) (ps := []) unitElem_mk
 refine ⟨w', h3, ⟨_, h4, fun t => ?_⟩, h5⟩
 have hc : (met ++ [s]).contains t = (met.contains t || decide (t = s)) := by
  rw [List.contains_append, List.contains_cons, List.contains_nil, Bool.or_false, beq_bytes]
 rw [hc]
 by_cases e : t = s
 ·subst e
  rw [has_put_same h1.isMap (keyL_lit t), decide_eq_true rfl, Bool.or_true]
 ·rw [has_put_other (fun e' => e (keyL_inj e')), h2 t, decide_eq_false e, Bool.or_false]
def stp (st : List ByteArray × List ByteArray) (p : Pr) : List ByteArray × List ByteArray := (if p.e && !st.2.contains p.key then st.1 ++ [p.key] else st.1, st.2 ++ [p.key])
def sto (st : List ByteArray × List ByteArray) (o : Ob) : List ByteArray × List ByteArray := if o.cls = AR then ((o.ps.foldl stp st).1, (o.ps.foldl stp st).2 ++ [LK]) else o.ps.foldl stp st
theorem fold_enumP : ∀ (ps : List Pr) (st : List ByteArray × List ByteArray), ps.foldl stp st = (st.1 ++ (enumP ps st.2).1, (enumP ps st.2).2)
 | [], st => by
  show st = (st.1 ++ [], st.2)
  rw [List.append_nil]
 | p :: r, st => by
  rw [List.foldl_cons, fold_enumP r]
  unfold stp
  rw [enumP]
  dsimp only
  split
  ·rw [List.append_assoc]
   rfl
  ·rfl
theorem sto_is (st : List ByteArray × List ByteArray) (o : Ob) : sto st o = (st.1 ++ (enumO LK AR o st.2).1, (enumO LK AR o st.2).2) := by
 unfold sto enumO
 rw [fold_enumP]
 dsimp only
 split <;> rfl
def stc (os : List Ob) (st : List ByteArray × List ByteArray) (i : Nat) : List ByteArray × List ByteArray := match os[i]? with
 | none => st
 | some o => sto st o
theorem fold_enumC (os : List Ob) : ∀ (l : List Nat) (st : List ByteArray × List ByteArray), (∀ i ∈ l, i < os.length) → (l.foldl (stc os) st).1 = st.1 ++ enumC LK AR os l st.2
 | [], st, _ => by
  rw [enumC, List.append_nil]
  rfl
 | i :: r, st, h => by
  have hi := h i (List.mem_cons_self ..)
  rw [List.foldl_cons, fold_enumC os r _ fun j hj => h j (List.mem_cons_of_mem _ hj), enumC]
  unfold stc
  rw [List.getElem?_eq_getElem hi]
  dsimp only
  rw [sto_is]
  dsimp only
  rw [List.append_assoc]
theorem stp_len : ∀ (ps : List Pr) (st : List ByteArray × List ByteArray), (ps.foldl stp st).2.length = st.2.length + ps.length ∧ (ps.foldl stp st).1.length ≤ st.1.length + ps.length
 | [], st => ⟨rfl, Nat.le_refl _⟩
 | p :: r, st => by
  rw [List.foldl_cons]
  obtain ⟨h1, h2⟩ := stp_len r (stp st p)
  unfold stp at h1 h2
  dsimp only at h1 h2
  rw [List.length_append, List.length_singleton] at h1
  refine ⟨by rw [List.length_cons]; unfold stp; omega, ?_⟩
  rw [List.length_cons]
  unfold stp
  split at h2
  ·rename_i hc
   rw [List.length_append, List.length_singleton] at h2
   rw [if_pos hc]
   omega
  ·rename_i hc
   rw [if_neg hc]
   omega
end Go.Proofs.YtcahijpbkjplmaaGreatDoor.G
namespace Go.Proofs.YtcahijpbkjplmaaGreatDoor.G
open Go.RowKit Go.Shelf Go.Maps Go.Proofs.YtcahijpbkjplmaaGreatDoor
attribute [local go_sem] Oper.semAt_some
theorem up_len (os : List Ob) : ∀ (f : Nat) (q : Option Nat), (up os f q).length ≤ f
 | 0, _ => Nat.le_refl _
 | f + 1, none => Nat.zero_le _
 | f + 1, some i => by
  rw [up]
  cases os[i]? with
  | none => exact Nat.zero_le _
  | some o =>
   dsimp only
   rw [List.length_cons]
   exact Nat.succ_le_succ (up_len os f o.proto)
structure En (W0 : World) (B M : Nat) (st : List ByteArray × List ByteArray) (W : World) : Prop where
 g : Gt W0 (fun k => k = B ∨ k = M) B st.1 W
 m : MapU W M st.2.length st.2
theorem En.low {W0 W W' : World} {B M : Nat} {st : List ByteArray × List ByteArray} (h : En W0 B M st W) (hb : Below W.heap.size W W') : En W0 B M st W' := ⟨h.g.low hb, h.m.fr (hb.block _ h.m.lt)⟩
theorem En.own {W0 W W' : World} {B M : Nat} {st : List ByteArray × List ByteArray} (h : En W0 B M st W) (hM : M < W0.heap.size) {row : Option Nat} (hg : W.grownBy W' row) (hr : ∀ r, row = some r → W0.heap.size ≤ r ∧ ∃ o : Obj, W.heap[r]? = some o ∧ o.isCells = false) : En W0 B M st W' :=
 ⟨h.g.own hg hr, h.m.fr (hg.block _ h.m.lt fun e => by have := (hr M e.symm).1; omega)⟩
theorem En.put {W0 V V' : World} {B M : Nat} {ks met : List ByteArray} {s : ByteArray} (h : En W0 B M (ks, met) V) (hBM : B ≠ M) (hm : MapU V' M (met.length + 1) (met ++ [s])) (ht : V.mapTurned V' M) (_ : M < W0.heap.size) : En W0 B M (ks, met ++ [s]) V' := by
 obtain ⟨es, c, hes⟩ := h.m.isMap
 obtain ⟨⟨v, hc, ho⟩, hz, hf⟩ := h.g
 have hb := ht.grown.block B h.g.lt fun e => hBM (Option.some.inj e)
 refine ⟨⟨⟨v, (World.cell?_of_block (a := ⟨B, 0, none⟩) hb).trans hc, row_same ho fun k e => ht.grown.block k (ho.lt k e).2 fun e2 => row_ne_map ho hes (by rw [← Option.some.inj e2]; exact e)⟩, (World.frozen?_of_block (a := ⟨B, 0, none⟩) hb).trans hz, hf.turned (fun hk => hk.2 (.inr rfl)) ht fun k hk => hk.1⟩, ?_⟩
 show MapU V' M (met ++ [s]).length (met ++ [s])
 rw [List.length_append, List.length_singleton]
 exact hm
theorem keeps_turned {B M : Nat} {W V V' : World} (h : KeepsFrom B W V) (ht : V.mapTurned V' M) (hM : M < B) : KeepsFrom B W V' :=
 ⟨Nat.le_trans h.size ht.grown.size, fun k o hk h0 ho => by
  have h1 := h.same k o hk h0 ho
  exact (ht.grown.block k (Array.getElem?_eq_some_iff.1 h1).1 fun e => by have := Option.some.inj e; omega).trans h1⟩
theorem step_app2 {ops : Array Oper} {o : Oper} {a : Act} {w : World} {K : Act → World → Prop} {Q : Exit → Act → World → Prop} {E : Prop} (hgd : o.guard = none) (s x : Operand) (t e : TypeId) (z : Value) (bytes : Nat) (ht : Tryz.prog.underlying t = some (.slice e))
  (hin : (Tryz.prog.info? e).map (fun i => (i.zero, i.size, i.bytes)) = some (some z, 1, bytes)) (hz : z.cells.size = 1) (hbt : bytes ≤ 128)
  (ho : o.op = .call { callee := .builtin .append, args := #[s, x], argTypes := #[t, t] })
  (C : Nat) (nv : Value) (n : Nat) (xs : List Value) (hs : a.eval s = nv) (hown : w.ownsRow C e 1 nv n xs) (g : Nat) (y : Value) (hx : a.eval x = .slice (some ⟨g, 0, none⟩) 1 1) (hc : w.cell? ⟨g, 0, none⟩ = some y) (h1 : y.oneCell' = true) (hl : n ≤ 100000000000) (hb : C ≤ w.heap.size)
  (h : ∀ nv' w', w'.ownsRow C e 1 nv' (n + 1) (xs ++ [y]) → w.grownBy w' nv.ownBlock → (nv'.ownBlock = nv.ownBlock ∨ nv'.ownBlock = some w.heap.size) → K (a.put o.dst nv') w') :
  if Region.wanted o (yielded ops a.tmps) = true then Oper.wp Tryz.prog o a w K Q else E := by
 have hw : Region.wanted o (yielded ops a.tmps) = true := by simp [Region.wanted, hgd]
 rw [if_pos hw]
 obtain ⟨i0, hi0, hz0, hz1, hz2⟩ := info_parts hin
 obtain ⟨nv', w', hr, q2, q3, -, q5⟩ := run_append_own_at (P := Tryz.prog) w C t o.type e i0 z 1 bytes ht hi0 hz0 hz1 hz2 hz (by decide) nv n xs hown ⟨g, 0, none⟩ 1 1 [y] rfl
  (fun j u hj => by
   match j with
   | 0 => rw [add_lit]; simp at hj; subst hj; exact hc
   | j + 1 => simp at hj) (fun u hu => by simp at hu; subst hu; exact h1) (by unfold maxLen; omega)
  (Nat.le_trans (Nat.mul_le_mul (show n + 1 ≤ 100000000001 by omega) hbt) (by decide)) hb
 unfold Oper.wp execOp
 simp only [ho, resolve, invoke, builtin, Sem.run_bind, Sem.run_pure, Result.andThen_ok, List.map_toArray, List.map_cons, List.map_nil, hs, hx, hr]
 exact h nv' w' q2 q3 q5
theorem lk_small : LK.size ≤ maxLen := by decide
theorem zeroU (w : World) : (zeroValue 109).run Tryz.prog w = .ok (.agg #[]) w := by kernel_rfl
set_option maxRecDepth 8000 in
set_option maxHeartbeats 1000000 in
theorem enum_any {w : World} {ow : Nat → Option Nat} {A : Nat} {H : Hs} {L : List OL} (h : PH w A H ow L) (g : Gd H) (v : Vl) :
  Calls Tryz.prog 40 #[pv A, v.v] w fun e w' => ∃ r, e = .returned r ∧ Txs w' w.heap.size r (H.enum LK AR (H.at v)) ∧ Below w.heap.size w w' := by
 obtain ⟨vk, vn, vs⟩ := v
 simp only [Vl.v]
 have HC := Lib.hid (chain_any A ⟨vk, vn, vs⟩)
 simp only [Vl.v, Vl.cs] at HC
 obtain ⟨c, hc⟩ : ∃ c, c = H.chain (H.at ⟨vk, vn, vs⟩) := ⟨_, rfl⟩
 have HCH := Lib.hid hc
 have HH := Lib.hid h
 have HG := Lib.hid g
 have HEN : Hid (H.enum LK AR (H.at ⟨vk, vn, vs⟩) = (c.foldl (stc H.os) ([], [])).1) := by
  have h1 := fold_enumC H.os c ([], []) fun i hi => chain_mem (q := H.at ⟨vk, vn, vs⟩) (by rw [← hc]; exact hi)
  rw [List.nil_append] at h1
  show enumC LK AR H.os (H.chain _) [] = _
  rw [← hc]
  exact h1.symm
 clear hc h g
 refine (callsIn_wide (n := 9)).1 ?_
 refine callsIn_of_wp_marks Tryz.func40 rfl trivial ?_ rfl
 simp only [Tryz.ntmps40, List.size_toArray, List.length_cons, List.length_nil, Nat.reduceAdd, Nat.reduceSub, Array.replicate_succ, Array.replicate_zero, List.push_toArray, List.append_toArray, List.nil_append, List.cons_append]
 have hmm := fun w : World => makeMap_new 105 w
 gi_wp2_with fail
 refine ⟨trivial, (callsIn_wide.2 (HC.out _)).mono ?_⟩
 rintro e w1 ⟨rfl, rfl⟩
 gi_wp2_with fail
 clear HC hmm
 obtain ⟨W0, hW0, hz, hb0, b1, bM, b3, b4, b5⟩ : ∃ W0, (((((w.alloc (.cells #[.int .i64 vk, .int .i64 vn, .string vs] 29)).alloc (.cells #[.slice none 0 0] 41)).alloc (.map #[] 0)).alloc (.cells #[.map (some (w.heap.size + 1 + 1))] 105)).alloc (.cells #[pv A] 24)).alloc (.cells #[.int .i64 vk, .int .i64 vn, .string vs] 29) = W0 ∧
   W0.heap.size = w.heap.size + 6 ∧ Below w.heap.size w W0 ∧ Blk W0 (w.heap.size + 1) 41 [.slice none 0 0] ∧ MapU W0 (w.heap.size + 1 + 1) 0 [] ∧ Blk W0 (w.heap.size + 1 + 1 + 1) 105 [.map (some (w.heap.size + 1 + 1))] ∧ Blk W0 (w.heap.size + 1 + 1 + 1 + 1) 24 [pv A] ∧ Blk W0 (w.heap.size + 1 + 1 + 1 + 1 + 1) 29 [.int .i64 vk, .int .i64 vn, .string vs] := by
  refine ⟨_, rfl, ?_⟩
  obtain ⟨l, hl⟩ : ∃ l, l = [Obj.cells #[.int .i64 vk, .int .i64 vn, .string vs] 29, .cells #[.slice none 0 0] 41, .map #[] 0, .cells #[.map (some (w.heap.size + 1 + 1))] 105, .cells #[pv A] 24, .cells #[.int .i64 vk, .int .i64 vn, .string vs] 29] := ⟨_, rfl⟩
  have e : (((((w.alloc (.cells #[.int .i64 vk, .int .i64 vn, .string vs] 29)).alloc (.cells #[.slice none 0 0] 41)).alloc (.map #[] 0)).alloc (.cells #[.map (some (w.heap.size + 1 + 1))] 105)).alloc (.cells #[pv A] 24)).alloc (.cells #[.int .i64 vk, .int .i64 vn, .string vs] 29) = news w l := by rw [hl]; rfl
  rw [e]
  refine ⟨by rw [news_size, hl]; rfl, news_below _ _, news_blk (j := 1) (by rw [hl]; rfl), ?_, news_blk (j := 3) (by rw [hl]; rfl), news_blk (j := 4) (by rw [hl]; rfl), news_blk (j := 5) (by rw [hl]; rfl)⟩
  have hm := news_get l w 2 (.map #[] 0) (by rw [hl]; rfl)
  obtain ⟨D, ⟨es, cl, h1, h2⟩, h3⟩ := MapU.new ((w.alloc (.cells #[.int .i64 vk, .int .i64 vn, .string vs] 29)).alloc (.cells #[.slice none 0 0] 41))
  have h4 : (((w.alloc (.cells #[.int .i64 vk, .int .i64 vn, .string vs] 29)).alloc (.cells #[.slice none 0 0] 41)).alloc (.map #[] 0)).heap[((w.alloc (.cells #[.int .i64 vk, .int .i64 vn, .string vs] 29)).alloc (.cells #[.slice none 0 0] 41)).heap.size]? = some (.map #[] 0) := World.alloc_heap_new _ _
  rw [h4] at h1
  cases h1
  exact ⟨D, ⟨_, _, hm, h2⟩, h3⟩
 rw [hW0]
 clear hW0
 have hx := HH.out.low hb0
 have hlt : ∀ k, ow k ≠ none → k < w.heap.size := HH.out.lt
 have hcal : ∀ (x : _root_.Fin c.length), c[x.1] < L.length ∧ c[x.1] < H.os.length := fun x => by
  have h1 : c[x.1] < H.os.length := chain_mem (q := H.at ⟨vk, vn, vs⟩) (by rw [← HCH.out]; exact List.getElem_mem x.2)
  exact ⟨by rw [HH.out.len]; exact h1, h1⟩
 have hM : w.heap.size + 1 + 1 < W0.heap.size := bM.lt
 refine wpIn_rangeFunc_ownH rfl (by omega) (gf := 94) (lb := #[pv (w.heap.size + 1 + 1 + 1 + 1), pv (w.heap.size + 1 + 1 + 1 + 1 + 1)]) rfl trivial (enters_of Tryz.func94 (by kernel_rfl) rfl)
  (chain_seq 8 (by omega) (w.heap.size + 1 + 1 + 1 + 1) (w.heap.size + 1 + 1 + 1 + 1 + 1) ⟨vk, vn, vs⟩ W0 (H.at ⟨vk, vn, vs⟩) rfl c HCH.out.symm (b4.cell rfl) ⟨b5.cell rfl, b5.cell rfl, b5.cell rfl⟩ hx HG.out)
  (fun h k => h.trans k) (fun W l o o' hl h hc hw => ((Fr.refl (Ft ow) W).grown (fun k hk => by have := hlt k hk; have := (Array.getElem?_eq_some_iff.1 h).1; omega) (grownBy_putObj' W l o') (fun k e hk => by cases e; have := hlt _ hk; omega))) (Below.refl _ _) (fun _ => rfl)
  (fun pre W => En W0 (w.heap.size + 1) (w.heap.size + 1 + 1) ((pre.map fun j => c[j.1]).foldl (stc H.os) ([], [])) W ∧ pre.length ≤ c.length ∧ ((pre.map fun j => c[j.1]).foldl (stc H.os) ([], [])).1.length ≤ pre.length * 100001 ∧ ((pre.map fun j => c[j.1]).foldl (stc H.os) ([], [])).2.length ≤ pre.length * 100001) (fun _ _ _ => False)
  (fun s X Y row hs hg hr => ⟨hs.1.own hM hg hr, hs.2⟩) (fun _ _ _ _ _ h _ _ => h) ⟨⟨Gt.start b1, bM⟩, Nat.zero_le _, Nat.zero_le _, Nat.zero_le _⟩
  (fun x a' _ => a' = { tmps := #[pv A, .agg #[.int .i64 vk, .int .i64 vn, .string vs], undef, .pointer (some ⟨w.heap.size, 0, none⟩), .slice none 0 0, .pointer (some ⟨w.heap.size + 1, 0, none⟩), .pointer (some ⟨w.heap.size + 1 + 1 + 1, 0, none⟩), ppv L (some c[x.1]), undef, undef, undef, .map (some (w.heap.size + 1 + 1)), pv A, .agg #[.int .i64 vk, .int .i64 vn, .string vs], .func (.func 94) #[] #[pv (w.heap.size + 1 + 1 + 1 + 1), pv (w.heap.size + 1 + 1 + 1 + 1 + 1)], ppv L (some c[x.1]), undef, undef, undef, undef, undef, undef, undef, undef, undef, undef, undef, undef, undef, undef, undef, undef, undef, undef, undef, undef, undef, undef, undef, undef, undef, undef, undef, undef, undef, undef, undef, undef, undef, undef, undef, undef, undef, undef, undef, undef, undef, undef, undef], defers := [] }) (fun _ _ _ _ _ _ hs _ _ => hs) ?assign ?body ?done ?stop
 case assign =>
  intro l pre x W K hi hK
  gi_wp2
  exact hK _ _ (KeepsFrom.refl _ _) (Fr.refl _ _) hi rfl
 case stop =>
  rintro D c pre W _ _ h _
  exact h.elim
 case done =>
  rintro D xs W hD rfl ⟨⟨hG, -⟩, -⟩ hK
  obtain ⟨⟨r, hc, ho⟩, -, hf⟩ := hG
  have hks : (List.finRange c.length).map (fun j => c[j.1]) = c := by
   apply List.ext_getElem
   ·simp
   ·intro i h1 h2
    simp
  rw [hks, ← HEN.out] at ho
  have HO := Lib.hid ho
  have HBB : Hid (Below w.heap.size w W) := hb0.trans ((hf.mono fun k (hk : k < w.heap.size) => by constructor <;> omega).below)
  have hwD : w.heap.size ≤ D := by omega
  have HWW : Hid (w.heap.size ≤ W0.heap.size) := by show _ ≤ _; omega
  clear ho hf hks hx b1 bM b3 b4 b5 hcal
  gi_wp2
  refine ⟨by simp, .inl ⟨_, _, rfl, run_takeDeferred hK, ?_⟩⟩
  refine ⟨r, by simp [results, Tryz.f40, go_sem], r, rfl, ?_, HBB.out.trans (below_put _ _ _ _ hwD hK)⟩
  refine row_same (row_lower HO.out HWW.out) fun k e => World.putObj_heap_other fun ek => ?_
  subst ek
  rcases HO.out.2 with ⟨rfl, _⟩ | ⟨g, cap, cur, rfl, _, hgc, _⟩
  ·cases e
  ·cases e
   rw [hK] at hgc
   cases hgc
 case body =>
  rintro l pre x a' W hl ⟨r0, hr⟩ ⟨hE, hpl, hb1, hb2⟩ rfl hlen
  obtain ⟨hxL, hxH⟩ := hcal x
  have hPW : PH W A H ow L := hx.keep hE.g.fr fun k hk => by have := hlt k hk; constructor <;> omega
  have hob := hPW.ob _ hxL hxH
  have hpi : ppv L (some c[x.1]) = pv L[c[x.1]].b := by simp only [ppv, List.getElem?_eq_getElem hxL]
  rw [hpi]
  have hst : ((pre ++ [x]).map fun j => c[j.1]).foldl (stc H.os) ([], []) = sto ((pre.map fun j => c[j.1]).foldl (stc H.os) ([], [])) H.os[c[x.1]] := by
   rw [List.map_append, List.foldl_append, List.map_cons, List.map_nil, List.foldl_cons, List.foldl_nil]
   show stc H.os _ c[x.1] = _
   unfold stc
   rw [List.getElem?_eq_getElem hxH]
  have HST := Lib.hid hst
  have HOG := Lib.hid (HG.out.og _ _ (List.getElem?_eq_getElem hxH))
  have HPX : Hid ((pre ++ [x]).length ≤ c.length) := by show _ ≤ _; rw [List.length_append, List.length_singleton]; omega
  have HAL := Lib.hid (all_any L[c[x.1]].b)
  generalize (pre.map fun j => c[j.1]).foldl (stc H.os) ([], []) = st0 at *
  have HOB := Lib.hid hob
  have HE := Lib.hid hE
  have HPW := Lib.hid hPW
  have HLW : Hid (W0.heap.size ≤ W.heap.size) := hE.g.fr.size
  have HR := Lib.hid hr
  clear hst hob hE hPW hpi
  generalize H.os[c[x.1]] = o at *
  generalize L[c[x.1]] = xo at *
  gi_wp2_with fail
  refine ⟨trivial, (CallsIn.inRound l (callsIn_wide.2 (HAL.out _))).mono ?_⟩
  rintro e w2 ⟨rfl, rfl⟩
  gi_wp2_with fail
  have hbw := below_new W (.cells #[pv xo.b] 76)
  have hbx := Blk.new W 76 [pv xo.b]
  have hobb := HOB.out.low HPW.out.lt hbw
  have hltb : ∀ k, ow k ≠ none → k < (W.alloc (.cells #[pv xo.b] 76)).heap.size := fun k hk => Nat.lt_of_lt_of_le (HPW.out.lt k hk) hbw.size
  have hen := HE.out.low hbw
  have hzz : W0.heap.size ≤ W.heap.size := HLW.out
  have hwb : W.heap.size < (W.alloc (.cells #[pv xo.b] 76)).heap.size := hbx.lt
  have hlr : (W.alloc (.cells #[pv xo.b] 76)).heap[l]? = some (.loop r0) := (hbw.block l (Array.getElem?_eq_some_iff.1 HR.out).1).trans HR.out
  generalize W.alloc (.cells #[pv xo.b] 76) = Wb at *
  obtain ⟨ky, hky⟩ : ∃ ky : _root_.Fin xo.pb.length → Pr, ky = fun j => o.ps[j.1]'(by rw [← hobb.pl]; exact j.2) := ⟨_, rfl⟩
  refine wpIn_rangeFunc_ownN rfl hlr (by omega) (gf := 82) (lb := #[pv W.heap.size]) rfl trivial (enters_of Tryz.func82 (by kernel_rfl) rfl)
   ((all_seq Fence.wide (9 - 1 - 1 - 1) trivial rfl (by omega) W.heap.size Wb (hbx.cell rfl) hobb hltb).inRound l)
   (fun h k => h.trans k) (fun V l' o1 o2 hl' h hc hw => ((Fr.refl (Kb ow W.heap.size) V).grown (fun k hk => by
    have := (Array.getElem?_eq_some_iff.1 h).1
    rcases hk with rfl | hk
    ·omega
    ·have := hltb k hk
     omega) (grownBy_putObj' V l' o2) (fun k e hk => by
    cases e
    rcases hk with rfl | hk
    ·omega
    ·have := hltb _ hk
     omega))) (Below.refl _ _) (fun _ => rfl)
   (fun pr V => En W0 (w.heap.size + 1) (w.heap.size + 1 + 1) ((pr.map ky).foldl stp st0) V ∧ pr.length ≤ xo.pb.length ∧ KeepsFrom W0.heap.size W V ∧ Fr (Ft ow) W V ∧ Blk V W.heap.size 76 [pv xo.b]) (fun _ _ _ => False)
   (fun s X Y row hs hg hr' => ⟨hs.1.own hM hg (fun r e => ⟨by have := (hr' r e).1; omega, (hr' r e).2⟩), hs.2.1, ownFrom_keepsFrom (β := Unit) (by omega) () X Y row hs.2.2.1 hg hr', hs.2.2.2.1.grown (fun k hk => HPW.out.lt k hk) hg (fun k e hk => by have := (hr' k e).1; have := HPW.out.lt k hk; omega), hs.2.2.2.2.fr (hg.block _ hs.2.2.2.2.lt fun e => by have := (hr' _ e.symm).1; omega)⟩) (fun _ _ _ _ _ h _ _ => h)
   ⟨hen, Nat.zero_le _, keepsFrom_below hbw, Fr.of hbw fun k hk => HPW.out.lt k hk, hbx⟩
   (fun j a' _ => a' = { tmps := #[pv A, .agg #[.int .i64 vk, .int .i64 vn, .string vs], undef, .pointer (some ⟨w.heap.size, 0, none⟩), .slice none 0 0, .pointer (some ⟨w.heap.size + 1, 0, none⟩), .pointer (some ⟨w.heap.size + 1 + 1 + 1, 0, none⟩), pv xo.b, pv xo.pb[j.1], undef, undef, .map (some (w.heap.size + 1 + 1)), pv A, .agg #[.int .i64 vk, .int .i64 vn, .string vs], .func (.func 94) #[] #[pv (w.heap.size + 1 + 1 + 1 + 1), pv (w.heap.size + 1 + 1 + 1 + 1 + 1)], pv xo.b, pv xo.b, .func (.func 82) #[] #[pv W.heap.size], pv xo.pb[j.1], undef, undef, undef, undef, undef, undef, undef, undef, undef, undef, undef, undef, undef, undef, undef, undef, undef, undef, undef, undef, undef, undef, undef, undef, undef, undef, undef, undef, undef, undef, undef, undef, undef, undef, undef, undef, undef, undef, undef, undef], defers := [] }) (fun _ _ _ _ _ _ hs _ _ => hs) ?iassign ?ibody ?idone ?istop
  case iassign =>
   intro l' pr j V K hi hK
   gi_wp2
   exact hK _ _ (KeepsFrom.refl _ _) (Fr.refl _ _) hi rfl
  case istop =>
   rintro c' pr V _ h
   exact h.elim
  case idone =>
   rintro xs V rfl ⟨hEn, -, hkf, hfr, -⟩
   have hks : (List.finRange xo.pb.length).map ky = o.ps := by
    rw [hky]
    apply List.ext_getElem
    ·simp [hobb.pl]
    ·intro i h1 h2
     simp
   rw [hks] at hEn
   have hobV : ObjAt V ow c[x.1] H.n (ppv L o.proto) xo o := HOB.out.fr (fun k e => ⟨e, hfr.block k (by show ow k ≠ none; rw [e]; simp)⟩) (Nat.le_refl _)
   have HI := Lib.hid (isArray_any hobV)
   have hpsl : o.ps.length ≤ 100000 := Nat.le_trans HOG.out.l HG.out.n100
   have hcl : c.length ≤ 100000 := by rw [HCH.out]; exact Nat.le_trans (up_len _ _ _) HG.out.os100
   obtain ⟨hl2, hl1⟩ := stp_len o.ps st0
   have hb1' : (o.ps.foldl stp st0).1.length ≤ pre.length * 100001 + 100000 := by omega
   have hb2' : (o.ps.foldl stp st0).2.length ≤ pre.length * 100001 + 100000 := by omega
   have hpc : pre.length * 100001 ≤ 100000 * 100001 := Nat.mul_le_mul_right _ (by omega)
   have c6 : V.cell? ⟨w.heap.size + 1 + 1 + 1, 0, none⟩ = some (.map (some (w.heap.size + 1 + 1))) := (b3.fr (hEn.g.fr.block _ ⟨b3.lt, by omega⟩)).cell (k := 0) rfl
   have hpx := HPX.out
   have hple : (pre ++ [x]).length = pre.length + 1 := by rw [List.length_append, List.length_singleton]
   have hSTO := HST.out
   unfold sto at hSTO
   generalize o.ps.foldl stp st0 = st1 at *
   obtain ⟨ks1, met1⟩ := st1
   dsimp only at hb1' hb2' hSTO
   have HEV := Lib.hid hEn
   have HKF := Lib.hid hkf
   have HFR := Lib.hid hfr
   clear hEn hkf hfr hobV hks hky hobb hen hx b1 bM b3 b4 b5 hcal hbx hbw
   by_cases hc : o.cls = AR
   ·rw [hc, decide_eq_true rfl] at HI
    rw [if_pos hc] at hSTO
    obtain ⟨V3, hr3, hm3, ht3⟩ := HEV.out.m.store Tryz.underlying105 (by show met1.length < maxLen; unfold maxLen; omega) lk_small
    have HSO := Lib.hid hSTO
    have HEV3 := Lib.hid (HEV.out.put (by omega) hm3 ht3 hM)
    have HKF3 := Lib.hid (keeps_turned HKF.out ht3 hM)
    have HFR3 : Hid (Fr (Ft ow) W V3) := HFR.out.turned (fun hk => by have := hlt _ hk; omega) ht3 fun k hk => HPW.out.lt k hk
    clear hm3 ht3 hSTO
    have hlkd : LK = ⟨#[0, 108, 0, 101, 0, 110, 0, 103, 0, 116, 0, 104]⟩ := rfl
    rw [hlkd] at hr3
    gi_wp2_with fail
    refine ⟨trivial, (CallsIn.inRound l (callsIn_wide.2 HI.out)).mono ?_⟩
    rintro e V2 ⟨rfl, rfl⟩
    gi_wp2_with fail
    refine ⟨HKF3.out, HFR3.out, ?_, hpx, ?_, ?_⟩
    ·rw [HSO.out]
     exact HEV3.out
    ·rw [HSO.out, hple]
     show ks1.length ≤ _
     omega
    ·rw [HSO.out, hple]
     show (met1 ++ [LK]).length ≤ _
     rw [List.length_append, List.length_singleton]
     omega
   ·rw [decide_eq_false hc] at HI
    rw [if_neg hc] at hSTO
    gi_wp2_with fail
    refine ⟨trivial, (CallsIn.inRound l (callsIn_wide.2 HI.out)).mono ?_⟩
    rintro e V2 ⟨rfl, rfl⟩
    gi_wp2_with fail
    refine ⟨HKF.out, HFR.out, ?_, hpx, ?_, ?_⟩
    ·rw [hSTO]
     exact HEV.out
    ·rw [hSTO, hple]
     show ks1.length ≤ _
     omega
    ·rw [hSTO, hple]
     show met1.length ≤ _
     omega
  case ibody =>
   rintro l' pr j a' V hl' - ⟨hEn, hpr, hkf, hfr, hbV⟩ rfl hlen'
   have HBX := Lib.hid hbV
   have hobV : ObjAt V ow c[x.1] H.n (ppv L o.proto) xo o := HOB.out.fr (fun k e => ⟨e, hfr.block k (by show ow k ≠ none; rw [e]; simp)⟩) (Nat.le_refl _)
   have hjp : j.1 < o.ps.length := by rw [← hobb.pl]; exact j.2
   have hky' : ((pr ++ [j]).map ky).foldl stp st0 = stp ((pr.map ky).foldl stp st0) o.ps[j.1] := by
    rw [List.map_append, List.foldl_append, List.map_cons, List.map_nil, List.foldl_cons, List.foldl_nil, hky]
   have HKY := Lib.hid hky'
   have hsm := (HOG.out.s _ (List.getElem_mem hjp)).1
   have HKS : Hid (o.ps[j.1].key.size ≤ maxLen) := by show _ ≤ maxLen; unfold maxLen; omega
   have HCL := Lib.hid (fun w => clone_any o.ps[j.1].key w (by omega))
   have hblk := hobV.pr j.1 j.2 hjp
   have HPR : Hid ((pr ++ [j]).length ≤ xo.pb.length) := by show _ ≤ _; rw [List.length_append, List.length_singleton]; omega
   obtain ⟨hl2, hl1⟩ := stp_len (pr.map ky) st0
   rw [List.length_map] at hl1 hl2
   have hpsl : o.ps.length ≤ 100000 := Nat.le_trans HOG.out.l HG.out.n100
   have hcl : c.length ≤ 100000 := by rw [HCH.out]; exact Nat.le_trans (up_len _ _ _) HG.out.os100
   have hpc : pre.length * 100001 ≤ 100000 * 100001 := Nat.mul_le_mul_right _ (by omega)
   have hplx : xo.pb.length ≤ 100000 := by rw [hobb.pl]; exact hpsl
   have HB1 : Hid (((pr.map ky).foldl stp st0).1.length ≤ 20000000000) := by show _ ≤ _; omega
   have HB2 : Hid (((pr.map ky).foldl stp st0).2.length ≤ 20000000000) := by show _ ≤ _; omega
   generalize (pr.map ky).foldl stp st0 = st at *
   obtain ⟨ks, met⟩ := st
   obtain ⟨⟨pk, px, pw, pe, pf⟩, hpd⟩ : ∃ p, o.ps[j.1] = p := ⟨_, rfl⟩
   rw [hpd] at HKY HKS HCL hblk
   dsimp only at HKS HCL HB1 HB2
   have HEV := Lib.hid hEn
   have HKF := Lib.hid hkf
   have HFR := Lib.hid hfr
   have h6 : Blk V (w.heap.size + 1 + 1 + 1) 105 [.map (some (w.heap.size + 1 + 1))] := b3.fr (hEn.g.fr.block _ ⟨b3.lt, by omega⟩)
   have HBK := Lib.hid (hblk.fr (w' := V.drew) rfl)
   have H6 := Lib.hid (h6.fr (w' := V.drew) rfl)
   have HED := Lib.hid (HEV.out.low (below_draw V))
   have hs7 : (fun w' : World => w'.cell? ⟨w.heap.size + 1 + 1 + 1, 0, none⟩ = some (.map (some (w.heap.size + 1 + 1))) ∧ w'.cell? ⟨xo.pb[j.1], 0, none⟩ = some (.string pk) ∧ MapU w' (w.heap.size + 1 + 1) met.length met) V.drew := ⟨H6.out.cell (k := 0) rfl, HBK.out.cell (k := 0) rfl, HED.out.m⟩
   clear hEn hkf hfr hobV hky' hsm hblk h6 hl1 hl2 hpd hobb hen hx b1 bM b3 b4 b5 hcal hbx hbw hky
   generalize xo.pb[j.1] = pb at *
   gi_wp2_with fail
   refine region_round (S := (fun w' : World => w'.cell? ⟨w.heap.size + 1 + 1 + 1, 0, none⟩ = some (.map (some (w.heap.size + 1 + 1))) ∧ w'.cell? ⟨pb, 0, none⟩ = some (.string pk) ∧ MapU w' (w.heap.size + 1 + 1) met.length met)) (by kernel_rfl) (by decide) (by rintro ⟨a, w, h⟩; exact h) (by exact hs7) (fun hHeld0 => ?_)
   have HBV : Hid (Below V.heap.size V V.drew) := below_draw V
   generalize V.drew = v1 at *
   refine tk 0 ?_ ‹_› ?_ ?_; rotate_left; focus (intro w0 hSw; obtain ⟨e6, e0, hm⟩ := hSw; have hlk := hm.look Tryz.underlying105 (zeroU _) HKS.out; go_simp; try with_reducible rfl)
   refine tk 1 ?_ ‹_› ?_ ?_; rotate_left; focus (intro w0 hSw; obtain ⟨e6, e0, hm⟩ := hSw; have hlk := hm.look Tryz.underlying105 (zeroU _) HKS.out; go_simp; try with_reducible rfl)
   refine tk 2 ?_ ‹_› ?_ ?_; rotate_left; focus (intro w0 hSw; obtain ⟨e6, e0, hm⟩ := hSw; have hlk := hm.look Tryz.underlying105 (zeroU _) HKS.out; go_simp; try with_reducible rfl)
   refine tk 3 ?_ ‹_› ?_ ?_; rotate_left; focus (intro w0 hSw; obtain ⟨e6, e0, hm⟩ := hSw; have hlk := hm.look Tryz.underlying105 (zeroU _) HKS.out; go_simp; try with_reducible rfl)
   refine tk 4 ?_ ‹_› ?_ ?_; rotate_left; focus (intro w0 hSw; obtain ⟨e6, e0, hm⟩ := hSw; have hlk := hm.look Tryz.underlying105 (zeroU _) HKS.out; go_simp; try with_reducible rfl)
   refine tk 5 ?_ ‹_› ?_ ?_; rotate_left; focus (intro w0 hSw; obtain ⟨e6, e0, hm⟩ := hSw; have hlk := hm.look Tryz.underlying105 (zeroU _) HKS.out; go_simp; try with_reducible rfl)
   refine tk 6 ?_ ‹_› ?_ ?_; rotate_left; focus (intro w0 hSw; obtain ⟨e6, e0, hm⟩ := hSw; have hlk := hm.look Tryz.underlying105 (zeroU _) HKS.out; go_simp; try with_reducible rfl)
   refine tk 7 ?_ ‹_› ?_ ?_; rotate_left; focus (intro w0 hSw; obtain ⟨e6, e0, hm⟩ := hSw; have hlk := hm.look Tryz.underlying105 (zeroU _) HKS.out; go_simp; try with_reducible rfl)
   refine tk 8 ?_ ‹_› ?_ ?_; rotate_left; focus (intro w0 hSw; obtain ⟨e6, e0, hm⟩ := hSw; have hlk := hm.look Tryz.underlying105 (zeroU _) HKS.out; go_simp; try with_reducible rfl)
   refine tk 9 ?_ ‹_› ?_ ?_; rotate_left; focus (intro w0 hSw; obtain ⟨e6, e0, hm⟩ := hSw; have hlk := hm.look Tryz.underlying105 (zeroU _) HKS.out; go_simp; try with_reducible rfl)
   try simp only [PT]
   refine wpAnyH_ready (rs := [10]) (by decide +kernel) (by simp) (AllReadyH.cons rfl (fun K hK => ?_) AllReadyH.nil)
   have hb2 := below_new v1 (.cells #[] 109)
   have HBK2 := Lib.hid (HBK.out.low hb2)
   have H62 := Lib.hid (H6.out.low hb2)
   have HED2 := Lib.hid (HED.out.low hb2)
   have HBL2 : Hid (Below V.heap.size V (v1.alloc (.cells #[] 109))) := HBV.out.trans (hb2.mono HBV.out.size)
   have hs8 : (fun w' : World => w'.cell? ⟨w.heap.size + 1 + 1 + 1, 0, none⟩ = some (.map (some (w.heap.size + 1 + 1))) ∧ w'.cell? ⟨pb, 0, none⟩ = some (.string pk) ∧ MapU w' (w.heap.size + 1 + 1) met.length met) (v1.alloc (.cells #[] 109)) := ⟨H62.out.cell (k := 0) rfl, HBK2.out.cell (k := 0) rfl, HED2.out.m⟩
   clear hb2 HBK H6 HED HBV
   go_simp
   refine hK.out _ _ hs8 (fun hHeld1 => ?_)
   clear hK K hHeld0 
   try simp only [PT]
   generalize v1.alloc (.cells #[] 109) = v2 at *
   refine wpAnyH_ready (rs := [11]) (by decide +kernel) (by simp) (AllReadyH.cons rfl (fun K hK => ?_) AllReadyH.nil)
   go_simp
   refine hK.out _ _ hs8 (fun hHeld2 => ?_)
   clear hK K hHeld1 
   try simp only [PT]
   refine tk 12 ?_ ‹_› ?_ ?_; rotate_left; focus (intro w0 hSw; go_simp; try with_reducible rfl)
   try simp only [PT]
   refine wpAnyH_done (by kernel_rfl) ?_ _
   clear hHeld2 hs7 hs8
   cases pe with
   | false =>
    have c5 : v2.cell? ⟨pb, 5, none⟩ = some (.bool false) := HBK2.out.cell (k := 5) rfl
    have HKV := Lib.hid (keepsFrom_below (B := W0.heap.size) HBL2.out)
    have HFB : Hid (Fr (Kb ow W.heap.size) V v2) := Fr.of HBL2.out fun k hk => by
     rcases hk with rfl | hk
     ·exact HBX.out.lt
     ·have := hlt k hk
      have := HEV.out.g.fr.size
      omega
    have HFT : Hid (Fr (Ft ow) W v2) := HFR.out.trans (Fr.of HBL2.out fun k hk => by
     have := hlt k hk
     have := HEV.out.g.fr.size
     omega)
    have HBX2 := Lib.hid (HBX.out.low HBL2.out)
    gi_wp2_with fail
    have HED3 := Lib.hid (HED2.out.low (below_draw v2))
    have HBK3 := Lib.hid (HBK2.out.fr (w' := v2.drew) rfl)
    have H63 := Lib.hid (H62.out.fr (w' := v2.drew) rfl)
    have HKV3 : Hid (KeepsFrom W0.heap.size V v2.drew) := HKV.out.trans (keepsFrom_below (below_draw v2))
    have HFB3 : Hid (Fr (Kb ow W.heap.size) V v2.drew) := HFB.out.drew
    have HFT3 : Hid (Fr (Ft ow) W v2.drew) := HFT.out.drew
    have HBX3 := Lib.hid (HBX2.out.fr (w' := v2.drew) rfl)
    have hs9 : (fun w' : World => w'.cell? ⟨w.heap.size + 1 + 1 + 1, 0, none⟩ = some (.map (some (w.heap.size + 1 + 1))) ∧ w'.cell? ⟨pb, 0, none⟩ = some (.string pk)) v2.drew := ⟨H63.out.cell (k := 0) rfl, HBK3.out.cell (k := 0) rfl⟩
    clear HED2 HBK2 H62 HKV HFB HFT HBX2
    refine region_round (S := (fun w' : World => w'.cell? ⟨w.heap.size + 1 + 1 + 1, 0, none⟩ = some (.map (some (w.heap.size + 1 + 1))) ∧ w'.cell? ⟨pb, 0, none⟩ = some (.string pk))) (by kernel_rfl) (by decide) (by rintro ⟨a, w, h⟩; exact h) (by exact hs9) (fun hHeld0 => ?_)
    generalize v2.drew = v5 at *
    refine tk 0 ?_ ‹_› ?_ ?_; rotate_left; focus (intro w0 hSw; obtain ⟨e6, e0⟩ := hSw; go_simp; try with_reducible rfl)
    refine tk 1 ?_ ‹_› ?_ ?_; rotate_left; focus (intro w0 hSw; obtain ⟨e6, e0⟩ := hSw; go_simp; try with_reducible rfl)
    refine tk 2 ?_ ‹_› ?_ ?_; rotate_left; focus (intro w0 hSw; obtain ⟨e6, e0⟩ := hSw; go_simp; try with_reducible rfl)
    refine tk 3 ?_ ‹_› ?_ ?_; rotate_left; focus (intro w0 hSw; obtain ⟨e6, e0⟩ := hSw; go_simp; try with_reducible rfl)
    refine tk 4 ?_ ‹_› ?_ ?_; rotate_left; focus (intro w0 hSw; obtain ⟨e6, e0⟩ := hSw; go_simp; try with_reducible rfl)
    refine tk 5 ?_ ‹_› ?_ ?_; rotate_left; focus (intro w0 hSw; obtain ⟨e6, e0⟩ := hSw; go_simp; try with_reducible rfl)
    refine tk 6 ?_ ‹_› ?_ ?_; rotate_left; focus (intro w0 hSw; obtain ⟨e6, e0⟩ := hSw; go_simp; try with_reducible rfl)
    try simp only [PT]
    refine wpAnyH_ready (rs := [7]) (by decide +kernel) (by simp) (AllReadyH.cons rfl (fun K hK => ?_) AllReadyH.nil)
    obtain ⟨v6, hr6, hm6, ht6⟩ := HED3.out.m.store Tryz.underlying105 (by have := HB2.out; show met.length < maxLen; unfold maxLen; omega) HKS.out
    have HED6 := Lib.hid (HED3.out.put (by omega) hm6 ht6 hM)
    have HKV6 := Lib.hid (keeps_turned HKV3.out ht6 hM)
    have HFB6 : Hid (Fr (Kb ow W.heap.size) V v6) := HFB3.out.turned (fun hk => by
     rcases hk with hk | hk
     ·have := HLW.out; omega
     ·have := hlt _ hk; omega) ht6 fun k hk => by
     rcases hk with rfl | hk
     ·exact HBX.out.lt
     ·have := hlt k hk
      have := HEV.out.g.fr.size
      omega
    have HFT6 : Hid (Fr (Ft ow) W v6) := HFT3.out.turned (fun hk => by have := hlt _ hk; omega) ht6 fun k hk => HPW.out.lt k hk
    have HBX6 := Lib.hid (HBX3.out.fr (ht6.grown.block _ HBX3.out.lt fun e => by have := Option.some.inj e; have := HLW.out; omega))
    have hcm := HED3.out.m.isMap
    obtain ⟨es, cc, hes⟩ := hcm
    have hs10 : (fun w' : World => w'.cell? ⟨w.heap.size + 1 + 1 + 1, 0, none⟩ = some (.map (some (w.heap.size + 1 + 1))) ∧ w'.cell? ⟨pb, 0, none⟩ = some (.string pk)) v6 := ⟨(H63.out.fr (ht6.grown.block _ H63.out.lt fun e => H63.out.ne_map hes (Option.some.inj e))).cell (k := 0) rfl, (HBK3.out.fr (ht6.grown.block _ HBK3.out.lt fun e => HBK3.out.ne_map hes (Option.some.inj e))).cell (k := 0) rfl⟩
    refine step_mapU rfl (.tmp 47) (.tmp 52) (.tmp 53) _ rfl v6 hr6 ?_
    clear hr6 hm6 ht6 hes
    refine hK.out _ _ hs10 (fun hHeld1 => ?_)
    clear hK K hHeld0 
    try simp only [PT]
    refine wpAnyH_done (by kernel_rfl) ?_ _
    refine ⟨⟨HKV6.out.size, fun k o hk h0 ho => HKV6.out.same k o (by omega) h0 ho⟩, HFB6.out, ?_, HPR.out, HKF.out.trans HKV6.out, HFT6.out, HBX6.out⟩
    rw [HKY.out]
    have e : stp (ks, met) ⟨pk, px, pw, false, pf⟩ = (ks, met ++ [pk]) := by
     unfold stp
     dsimp only
     rw [if_neg (by simp)]
    rw [e]
    exact HED6.out
   | true =>
    have c5 : v2.cell? ⟨pb, 5, none⟩ = some (.bool true) := HBK2.out.cell (k := 5) rfl
    cases hmt : met.contains pk with
    | true =>
     have HKV := Lib.hid (keepsFrom_below (B := W0.heap.size) HBL2.out)
     have HFB : Hid (Fr (Kb ow W.heap.size) V v2) := Fr.of HBL2.out fun k hk => by
      rcases hk with rfl | hk
      ·exact HBX.out.lt
      ·have := hlt k hk
       have := HEV.out.g.fr.size
       omega
     have HFT : Hid (Fr (Ft ow) W v2) := HFR.out.trans (Fr.of HBL2.out fun k hk => by
      have := hlt k hk
      have := HEV.out.g.fr.size
      omega)
     have HBX2 := Lib.hid (HBX.out.low HBL2.out)
     gi_wp2_with fail
     have HED3 := Lib.hid (HED2.out.low (below_draw v2))
     have HBK3 := Lib.hid (HBK2.out.fr (w' := v2.drew) rfl)
     have H63 := Lib.hid (H62.out.fr (w' := v2.drew) rfl)
     have HKV3 : Hid (KeepsFrom W0.heap.size V v2.drew) := HKV.out.trans (keepsFrom_below (below_draw v2))
     have HFB3 : Hid (Fr (Kb ow W.heap.size) V v2.drew) := HFB.out.drew
     have HFT3 : Hid (Fr (Ft ow) W v2.drew) := HFT.out.drew
     have HBX3 := Lib.hid (HBX2.out.fr (w' := v2.drew) rfl)
     have hs9 : (fun w' : World => w'.cell? ⟨w.heap.size + 1 + 1 + 1, 0, none⟩ = some (.map (some (w.heap.size + 1 + 1))) ∧ w'.cell? ⟨pb, 0, none⟩ = some (.string pk)) v2.drew := ⟨H63.out.cell (k := 0) rfl, HBK3.out.cell (k := 0) rfl⟩
     clear HED2 HBK2 H62 HKV HFB HFT HBX2
     refine region_round (S := (fun w' : World => w'.cell? ⟨w.heap.size + 1 + 1 + 1, 0, none⟩ = some (.map (some (w.heap.size + 1 + 1))) ∧ w'.cell? ⟨pb, 0, none⟩ = some (.string pk))) (by kernel_rfl) (by decide) (by rintro ⟨a, w, h⟩; exact h) (by exact hs9) (fun hHeld0 => ?_)
     generalize v2.drew = v5 at *
     refine tk 0 ?_ ‹_› ?_ ?_; rotate_left; focus (intro w0 hSw; obtain ⟨e6, e0⟩ := hSw; go_simp; try with_reducible rfl)
     refine tk 1 ?_ ‹_› ?_ ?_; rotate_left; focus (intro w0 hSw; obtain ⟨e6, e0⟩ := hSw; go_simp; try with_reducible rfl)
     refine tk 2 ?_ ‹_› ?_ ?_; rotate_left; focus (intro w0 hSw; obtain ⟨e6, e0⟩ := hSw; go_simp; try with_reducible rfl)
     refine tk 3 ?_ ‹_› ?_ ?_; rotate_left; focus (intro w0 hSw; obtain ⟨e6, e0⟩ := hSw; go_simp; try with_reducible rfl)
     refine tk 4 ?_ ‹_› ?_ ?_; rotate_left; focus (intro w0 hSw; obtain ⟨e6, e0⟩ := hSw; go_simp; try with_reducible rfl)
     refine tk 5 ?_ ‹_› ?_ ?_; rotate_left; focus (intro w0 hSw; obtain ⟨e6, e0⟩ := hSw; go_simp; try with_reducible rfl)
     refine tk 6 ?_ ‹_› ?_ ?_; rotate_left; focus (intro w0 hSw; obtain ⟨e6, e0⟩ := hSw; go_simp; try with_reducible rfl)
     try simp only [PT]
     refine wpAnyH_ready (rs := [7]) (by decide +kernel) (by simp) (AllReadyH.cons rfl (fun K hK => ?_) AllReadyH.nil)
     obtain ⟨v6, hr6, hm6, ht6⟩ := HED3.out.m.store Tryz.underlying105 (by have := HB2.out; show met.length < maxLen; unfold maxLen; omega) HKS.out
     have HED6 := Lib.hid (HED3.out.put (by omega) hm6 ht6 hM)
     have HKV6 := Lib.hid (keeps_turned HKV3.out ht6 hM)
     have HFB6 : Hid (Fr (Kb ow W.heap.size) V v6) := HFB3.out.turned (fun hk => by
      rcases hk with hk | hk
      ·have := HLW.out; omega
      ·have := hlt _ hk; omega) ht6 fun k hk => by
      rcases hk with rfl | hk
      ·exact HBX.out.lt
      ·have := hlt k hk
       have := HEV.out.g.fr.size
       omega
     have HFT6 : Hid (Fr (Ft ow) W v6) := HFT3.out.turned (fun hk => by have := hlt _ hk; omega) ht6 fun k hk => HPW.out.lt k hk
     have HBX6 := Lib.hid (HBX3.out.fr (ht6.grown.block _ HBX3.out.lt fun e => by have := Option.some.inj e; have := HLW.out; omega))
     have hcm := HED3.out.m.isMap
     obtain ⟨es, cc, hes⟩ := hcm
     have hs10 : (fun w' : World => w'.cell? ⟨w.heap.size + 1 + 1 + 1, 0, none⟩ = some (.map (some (w.heap.size + 1 + 1))) ∧ w'.cell? ⟨pb, 0, none⟩ = some (.string pk)) v6 := ⟨(H63.out.fr (ht6.grown.block _ H63.out.lt fun e => H63.out.ne_map hes (Option.some.inj e))).cell (k := 0) rfl, (HBK3.out.fr (ht6.grown.block _ HBK3.out.lt fun e => HBK3.out.ne_map hes (Option.some.inj e))).cell (k := 0) rfl⟩
     refine step_mapU rfl (.tmp 47) (.tmp 52) (.tmp 53) _ rfl v6 hr6 ?_
     clear hr6 hm6 ht6 hes
     refine hK.out _ _ hs10 (fun hHeld1 => ?_)
     clear hK K hHeld0 
     try simp only [PT]
     refine wpAnyH_done (by kernel_rfl) ?_ _
     refine ⟨⟨HKV6.out.size, fun k o hk h0 ho => HKV6.out.same k o (by omega) h0 ho⟩, HFB6.out, ?_, HPR.out, HKF.out.trans HKV6.out, HFT6.out, HBX6.out⟩
     rw [HKY.out]
     have e : stp (ks, met) ⟨pk, px, pw, true, pf⟩ = (ks, met ++ [pk]) := by
      unfold stp
      dsimp only
      rw [hmt, if_neg (by simp)]
     rw [e]
     exact HED6.out
    | false =>
     have HKV := Lib.hid (keepsFrom_below (B := W0.heap.size) HBL2.out)
     have HFB : Hid (Fr (Kb ow W.heap.size) V v2) := Fr.of HBL2.out fun k hk => by
      rcases hk with rfl | hk
      ·exact HBX.out.lt
      ·have := hlt k hk
       have := HEV.out.g.fr.size
       omega
     have HFT : Hid (Fr (Ft ow) W v2) := HFR.out.trans (Fr.of HBL2.out fun k hk => by
      have := hlt k hk
      have := HEV.out.g.fr.size
      omega)
     have HBX2 := Lib.hid (HBX.out.low HBL2.out)
     obtain ⟨r, hrc, hro⟩ := HED2.out.g.c
     obtain ⟨A0, c0, rfl⟩ := row_len hro
     have HRC := Lib.hid hrc
     have HRO := Lib.hid hro
     have HBLT := Lib.hid HED2.out.g.lt
     have hs9 : (fun w' : World => w'.cell? ⟨pb, 0, none⟩ = some (.string pk)) v2.drew := HBK2.out.cell (k := 0) rfl
     clear hrc hro
     gi_wp2_with fail
     refine region_round (S := (fun w' : World => w'.cell? ⟨pb, 0, none⟩ = some (.string pk))) (by kernel_rfl) (by decide) (by rintro ⟨a, w, h⟩; exact h) (by exact hs9) (fun hHeld0 => ?_)
     have HBD : Hid (Below v2.heap.size v2 v2.drew) := below_draw v2
     clear hs9
     generalize v2.drew = u0 at *
     refine tk 1 ?_ ‹_› ?_ ?_; rotate_left; focus (intro w0 hSw; have e0 := hSw; go_simp; try with_reducible rfl)
     refine tk 2 ?_ ‹_› ?_ ?_; rotate_left; focus (intro w0 hSw; have e0 := hSw; go_simp; try with_reducible rfl)
     refine tk 3 ?_ ‹_› ?_ ?_; rotate_left; focus (intro w0 hSw; have e0 := hSw; go_simp; try with_reducible rfl)
     refine tk 4 ?_ ‹_› ?_ ?_; rotate_left; focus (intro w0 hSw; have e0 := hSw; go_simp; try with_reducible rfl)
     refine tk 5 ?_ ‹_› ?_ ?_; rotate_left; focus (intro w0 hSw; have e0 := hSw; go_simp; try with_reducible rfl)
     try simp only [PT]
     refine wpAnyH_ready (rs := [0, 6]) (by decide +kernel) (by simp) (AllReadyH.cons rfl (fun K hK => ?_) (AllReadyH.cons rfl (fun K hK => ?_) AllReadyH.nil))
     ·have hcu := (HBD.out.cell (p := ⟨w.heap.size + 1, 0, none⟩) HBLT.out).trans HRC.out
      go_simp
      clear hcu
      refine hK.out _ _ ((HBK2.out.low HBD.out).cell (k := 0) rfl) (fun hHeld1 => ?_)
      clear hK K hHeld0 
      try simp only [PT]
      refine wpAnyH_ready (rs := [6]) (by decide +kernel) (by simp) (AllReadyH.cons rfl (fun K hK => ?_) AllReadyH.nil)
      go_simp
      refine (HCL.out _).mono ?_
      rintro ee u1 ⟨rfl, hbb⟩
      have HBN := Lib.hid (HBD.out.trans (hbb.mono HBD.out.size))
      clear hbb HBD
      have HBD := HBN
      clear HBN
      refine hK.out _ _ ((HBK2.out.low HBD.out).cell (k := 0) rfl) (fun hHeld2 => ?_)
      clear hK K hHeld1 
      try simp only [PT]
      refine wpAnyH_ready (rs := [7]) (by decide +kernel) (by simp) (AllReadyH.cons rfl (fun K hK => ?_) AllReadyH.nil)
      go_simp
      have hbb := below_new u1 (.cells #[.string pk] 9)
      have HCC := Lib.hid (Blk.new u1 9 [.string pk])
      have HBN := Lib.hid (HBD.out.trans (hbb.mono HBD.out.size))
      clear hbb HBD
      have HBD := HBN
      clear HBN
      refine hK.out _ _ ((HBK2.out.low HBD.out).cell (k := 0) rfl) (fun hHeld3 => ?_)
      clear hK K hHeld2 
      try simp only [PT]
      generalize u1.alloc (.cells #[.string pk] 9) = u8 at *
      refine wpAnyH_ready (rs := [8]) (by decide +kernel) (by simp) (AllReadyH.cons rfl (fun K hK => ?_) AllReadyH.nil)
      have hro8 := row_same HRO.out fun k e => HBD.out.block k (HRO.out.lt k e).2
      have hrc8 := (HBD.out.cell (p := ⟨w.heap.size + 1, 0, none⟩) HBLT.out).trans HRC.out
      have hrz8 := (HED2.out.low HBD.out).g.z
      have hm8 := (HED2.out.low HBD.out).m
      obtain ⟨es8, cc8, hes8⟩ := hm8.isMap
      have hbk8 := HBK2.out.low HBD.out
      have h68 := H62.out.low HBD.out
      have hbx8 := HBX2.out.low HBD.out
      refine step_app2 rfl (.tmp 38) (.tmp 45) 41 9 _ 16 Tryz.underlying41 infoSt rfl (by decide) (by rfl) W0.heap.size _ _ _ (by rfl) hro8 _ (.string pk) (by rfl) (HCC.out.cell rfl) rfl (by have := HB1.out; show ks.length ≤ _; omega) (by have := HEV.out.g.fr.size; have := HBL2.out.size; have := HBD.out.size; omega) ?_
      intro nv u9 h1 h2 h3
      obtain ⟨A9, c9, rfl⟩ := row_len h1
      obtain ⟨hp1, hp2⟩ := (HED2.out.low HBD.out).g.push (.inl rfl) (by omega) hrc8 hro8 h2 h1 h3
      have hq : ∀ k, k < u8.heap.size ∧ k ≠ w.heap.size + 1 ∧ (Value.slice A0 ks.length c0).ownBlock ≠ some k → (u9.setCell ⟨w.heap.size + 1, 0, none⟩ (.slice A9 (ks.length + 1) c9)).heap[k]? = u8.heap[k]? := fun k hk => hp2.block k hk
      have hrlt : ∀ k, (Value.slice A0 ks.length c0).ownBlock = some k → W0.heap.size ≤ k := fun k e => (hro8.lt k e).1
      have npb : pb ≠ w.heap.size + 1 := by
       have hB9 := hrc8
       rintro rfl
       have := hbk8.cell (k := 0) (v := .string pk) rfl
       rw [hrc8] at this
       cases this
      have KB : pb < u8.heap.size ∧ pb ≠ w.heap.size + 1 ∧ (Value.slice A0 ks.length c0).ownBlock ≠ some pb := ⟨hbk8.lt, npb, fun e => hbk8.ne_row hro8 (by decide) _ e rfl⟩
      have KX : W.heap.size < u8.heap.size ∧ W.heap.size ≠ w.heap.size + 1 ∧ (Value.slice A0 ks.length c0).ownBlock ≠ some W.heap.size := ⟨hbx8.lt, by have := HLW.out; omega, fun e => hbx8.ne_row hro8 (by decide) _ e rfl⟩
      have hVu : V.heap.size ≤ u8.heap.size := Nat.le_trans HBL2.out.size HBD.out.size
      have hV0 := HEV.out.g.fr.size
      have KO : ∀ k, ow k ≠ none → k < u8.heap.size ∧ k ≠ w.heap.size + 1 ∧ (Value.slice A0 ks.length c0).ownBlock ≠ some k := fun k hk => ⟨by have := hlt k hk; omega, by have := hlt k hk; omega, fun e => by have := hrlt k e; have := hlt k hk; omega⟩
      have NED : Hid (En W0 (w.heap.size + 1) (w.heap.size + 1 + 1) (ks ++ [pk], met) (u9.setCell ⟨w.heap.size + 1, 0, none⟩ (.slice A9 (ks.length + 1) c9))) := ⟨hp1, hm8.fr (hq _ ⟨hm8.lt, by omega, row_ne_map hro8 hes8⟩)⟩
      have NBK := Lib.hid (hbk8.fr (hq _ KB))
      have N6 := Lib.hid (h68.fr (hq _ ⟨h68.lt, by omega, fun e => h68.ne_row hro8 (by decide) _ e rfl⟩))
      have NBX := Lib.hid (hbx8.fr (hq _ KX))
      have NKV : Hid (KeepsFrom W0.heap.size V (u9.setCell ⟨w.heap.size + 1, 0, none⟩ (.slice A9 (ks.length + 1) c9))) := (HKV.out.trans (keepsFrom_below HBD.out)).trans (keeps_of (cells_of_cell hrc8) hro8 hp2)
      have NFB : Hid (Fr (Kb ow W.heap.size) V (u9.setCell ⟨w.heap.size + 1, 0, none⟩ (.slice A9 (ks.length + 1) c9))) := (HFB.out.trans (Fr.of HBD.out fun k hk => by
       rcases hk with rfl | hk
       ·exact HBX2.out.lt
       ·have := hlt k hk
        have := HBL2.out.size
        omega)).trans (hp2.mono fun k hk => by
       rcases hk with rfl | hk
       ·exact KX
       ·exact KO k hk)
      have NFT : Hid (Fr (Ft ow) W (u9.setCell ⟨w.heap.size + 1, 0, none⟩ (.slice A9 (ks.length + 1) c9))) := (HFT.out.trans (Fr.of HBD.out fun k hk => by
       have := hlt k hk
       have := HBL2.out.size
       omega)).trans (hp2.mono fun k hk => KO k hk)
      have hBlt8 : w.heap.size + 1 < u8.heap.size := Nat.lt_of_lt_of_le HBLT.out HBD.out.size
      have hBr : (Value.slice A0 ks.length c0).ownBlock ≠ some (w.heap.size + 1) := fun e => by have := hrlt _ e; omega
      have hcB9 : u9.cell? ⟨w.heap.size + 1, 0, none⟩ = some (.slice A0 ks.length c0) := (World.cell?_of_block (a := ⟨w.heap.size + 1, 0, none⟩) (h2.block (w.heap.size + 1) hBlt8 fun e => hBr e.symm)).trans hrc8
      have hzB9 : u9.frozen? ⟨w.heap.size + 1, 0, none⟩ = false := (World.frozen?_of_block (a := ⟨w.heap.size + 1, 0, none⟩) (h2.block (w.heap.size + 1) hBlt8 fun e => hBr e.symm)).trans hrz8
      have hs9a : (fun w' : World => w'.cell? ⟨pb, 0, none⟩ = some (.string pk)) u9 := (World.cell?_of_block (a := ⟨pb, 0, none⟩) (h2.block _ KB.1 fun e => KB.2.2 e.symm)).trans (hbk8.cell (k := 0) rfl)
      clear hBlt8 hBr h1 h2 h3 hp1 hp2 hq hrlt KB KX KO hro8 hrc8 hrz8 hm8 hes8 hbk8 h68 hbx8 npb
      refine hK.out _ _ hs9a (fun hHeld4 => ?_)
      clear hK K hHeld3 
      try simp only [PT]
      refine wpAnyH_ready (rs := [9]) (by decide +kernel) (by simp) (AllReadyH.cons rfl (fun K hK => ?_) AllReadyH.nil)
      go_simp
      refine hK.out _ _ (NBK.out.cell (k := 0) rfl) (fun hHeld5 => ?_)
      clear hK K hHeld4 
      try simp only [PT]
      refine wpAnyH_done (by kernel_rfl) ?_ _
      clear hHeld5 hs9a hcB9 hzB9 HED2 HBK2 H62 HKV HFB HFT HBX2 HBL2 HRC HRO HCC HBD HBLT
      have HED2 := NED
      have HBK2 := NBK
      have H62 := N6
      have HKV := NKV
      have HFB := NFB
      have HFT := NFT
      have HBX2 := NBX
      clear NED NBK N6 NKV NFB NFT NBX
      generalize u9.setCell ⟨w.heap.size + 1, 0, none⟩ (.slice A9 (ks.length + 1) c9) = v3 at *
      gi_wp2_with fail
      have HED3 := Lib.hid (HED2.out.low (below_draw v3))
      have HBK3 := Lib.hid (HBK2.out.fr (w' := v3.drew) rfl)
      have H63 := Lib.hid (H62.out.fr (w' := v3.drew) rfl)
      have HKV3 : Hid (KeepsFrom W0.heap.size V v3.drew) := HKV.out.trans (keepsFrom_below (below_draw v3))
      have HFB3 : Hid (Fr (Kb ow W.heap.size) V v3.drew) := HFB.out.drew
      have HFT3 : Hid (Fr (Ft ow) W v3.drew) := HFT.out.drew
      have HBX3 := Lib.hid (HBX2.out.fr (w' := v3.drew) rfl)
      have hs9 : (fun w' : World => w'.cell? ⟨w.heap.size + 1 + 1 + 1, 0, none⟩ = some (.map (some (w.heap.size + 1 + 1))) ∧ w'.cell? ⟨pb, 0, none⟩ = some (.string pk)) v3.drew := ⟨H63.out.cell (k := 0) rfl, HBK3.out.cell (k := 0) rfl⟩
      clear HED2 HBK2 H62 HKV HFB HFT HBX2
      refine region_round (S := (fun w' : World => w'.cell? ⟨w.heap.size + 1 + 1 + 1, 0, none⟩ = some (.map (some (w.heap.size + 1 + 1))) ∧ w'.cell? ⟨pb, 0, none⟩ = some (.string pk))) (by kernel_rfl) (by decide) (by rintro ⟨a, w, h⟩; exact h) (by exact hs9) (fun hHeld0 => ?_)
      generalize v3.drew = v5 at *
      refine tk 0 ?_ ‹_› ?_ ?_; rotate_left; focus (intro w0 hSw; obtain ⟨e6, e0⟩ := hSw; go_simp; try with_reducible rfl)
      refine tk 1 ?_ ‹_› ?_ ?_; rotate_left; focus (intro w0 hSw; obtain ⟨e6, e0⟩ := hSw; go_simp; try with_reducible rfl)
      refine tk 2 ?_ ‹_› ?_ ?_; rotate_left; focus (intro w0 hSw; obtain ⟨e6, e0⟩ := hSw; go_simp; try with_reducible rfl)
      refine tk 3 ?_ ‹_› ?_ ?_; rotate_left; focus (intro w0 hSw; obtain ⟨e6, e0⟩ := hSw; go_simp; try with_reducible rfl)
      refine tk 4 ?_ ‹_› ?_ ?_; rotate_left; focus (intro w0 hSw; obtain ⟨e6, e0⟩ := hSw; go_simp; try with_reducible rfl)
      refine tk 5 ?_ ‹_› ?_ ?_; rotate_left; focus (intro w0 hSw; obtain ⟨e6, e0⟩ := hSw; go_simp; try with_reducible rfl)
      refine tk 6 ?_ ‹_› ?_ ?_; rotate_left; focus (intro w0 hSw; obtain ⟨e6, e0⟩ := hSw; go_simp; try with_reducible rfl)
      try simp only [PT]
      refine wpAnyH_ready (rs := [7]) (by decide +kernel) (by simp) (AllReadyH.cons rfl (fun K hK => ?_) AllReadyH.nil)
      obtain ⟨v6, hr6, hm6, ht6⟩ := HED3.out.m.store Tryz.underlying105 (by have := HB2.out; show met.length < maxLen; unfold maxLen; omega) HKS.out
      have HED6 := Lib.hid (HED3.out.put (by omega) hm6 ht6 hM)
      have HKV6 := Lib.hid (keeps_turned HKV3.out ht6 hM)
      have HFB6 : Hid (Fr (Kb ow W.heap.size) V v6) := HFB3.out.turned (fun hk => by
       rcases hk with hk | hk
       ·have := HLW.out; omega
       ·have := hlt _ hk; omega) ht6 fun k hk => by
       rcases hk with rfl | hk
       ·exact HBX.out.lt
       ·have := hlt k hk
        have := HEV.out.g.fr.size
        omega
      have HFT6 : Hid (Fr (Ft ow) W v6) := HFT3.out.turned (fun hk => by have := hlt _ hk; omega) ht6 fun k hk => HPW.out.lt k hk
      have HBX6 := Lib.hid (HBX3.out.fr (ht6.grown.block _ HBX3.out.lt fun e => by have := Option.some.inj e; have := HLW.out; omega))
      have hcm := HED3.out.m.isMap
      obtain ⟨es, cc, hes⟩ := hcm
      have hs10 : (fun w' : World => w'.cell? ⟨w.heap.size + 1 + 1 + 1, 0, none⟩ = some (.map (some (w.heap.size + 1 + 1))) ∧ w'.cell? ⟨pb, 0, none⟩ = some (.string pk)) v6 := ⟨(H63.out.fr (ht6.grown.block _ H63.out.lt fun e => H63.out.ne_map hes (Option.some.inj e))).cell (k := 0) rfl, (HBK3.out.fr (ht6.grown.block _ HBK3.out.lt fun e => HBK3.out.ne_map hes (Option.some.inj e))).cell (k := 0) rfl⟩
      refine step_mapU rfl (.tmp 47) (.tmp 52) (.tmp 53) _ rfl v6 hr6 ?_
      clear hr6 hm6 ht6 hes
      refine hK.out _ _ hs10 (fun hHeld1 => ?_)
      clear hK K hHeld0 
      try simp only [PT]
      refine wpAnyH_done (by kernel_rfl) ?_ _
      refine ⟨⟨HKV6.out.size, fun k o hk h0 ho => HKV6.out.same k o (by omega) h0 ho⟩, HFB6.out, ?_, HPR.out, HKF.out.trans HKV6.out, HFT6.out, HBX6.out⟩
      rw [HKY.out]
      have e : stp (ks, met) ⟨pk, px, pw, true, pf⟩ = ((ks ++ [pk]), met ++ [pk]) := by
       unfold stp
       dsimp only
       rw [hmt, if_pos (by simp)]
      rw [e]
      exact HED6.out
     ·go_simp
      refine (HCL.out _).mono ?_
      rintro ee u1 ⟨rfl, hbb⟩
      have HBN := Lib.hid (HBD.out.trans (hbb.mono HBD.out.size))
      clear hbb HBD
      have HBD := HBN
      clear HBN
      refine hK.out _ _ ((HBK2.out.low HBD.out).cell (k := 0) rfl) (fun hHeld1 => ?_)
      clear hK K hHeld0 
      try simp only [PT]
      refine wpAnyH_ready (rs := [0, 7]) (by decide +kernel) (by simp) (AllReadyH.cons rfl (fun K hK => ?_) (AllReadyH.cons rfl (fun K hK => ?_) AllReadyH.nil))
      ·have hcu := (HBD.out.cell (p := ⟨w.heap.size + 1, 0, none⟩) HBLT.out).trans HRC.out
       go_simp
       clear hcu
       refine hK.out _ _ ((HBK2.out.low HBD.out).cell (k := 0) rfl) (fun hHeld2 => ?_)
       clear hK K hHeld1 
       try simp only [PT]
       refine wpAnyH_ready (rs := [7]) (by decide +kernel) (by simp) (AllReadyH.cons rfl (fun K hK => ?_) AllReadyH.nil)
       go_simp
       have hbb := below_new u1 (.cells #[.string pk] 9)
       have HCC := Lib.hid (Blk.new u1 9 [.string pk])
       have HBN := Lib.hid (HBD.out.trans (hbb.mono HBD.out.size))
       clear hbb HBD
       have HBD := HBN
       clear HBN
       refine hK.out _ _ ((HBK2.out.low HBD.out).cell (k := 0) rfl) (fun hHeld3 => ?_)
       clear hK K hHeld2 
       try simp only [PT]
       generalize u1.alloc (.cells #[.string pk] 9) = u8 at *
       refine wpAnyH_ready (rs := [8]) (by decide +kernel) (by simp) (AllReadyH.cons rfl (fun K hK => ?_) AllReadyH.nil)
       have hro8 := row_same HRO.out fun k e => HBD.out.block k (HRO.out.lt k e).2
       have hrc8 := (HBD.out.cell (p := ⟨w.heap.size + 1, 0, none⟩) HBLT.out).trans HRC.out
       have hrz8 := (HED2.out.low HBD.out).g.z
       have hm8 := (HED2.out.low HBD.out).m
       obtain ⟨es8, cc8, hes8⟩ := hm8.isMap
       have hbk8 := HBK2.out.low HBD.out
       have h68 := H62.out.low HBD.out
       have hbx8 := HBX2.out.low HBD.out
       refine step_app2 rfl (.tmp 38) (.tmp 45) 41 9 _ 16 Tryz.underlying41 infoSt rfl (by decide) (by rfl) W0.heap.size _ _ _ (by rfl) hro8 _ (.string pk) (by rfl) (HCC.out.cell rfl) rfl (by have := HB1.out; show ks.length ≤ _; omega) (by have := HEV.out.g.fr.size; have := HBL2.out.size; have := HBD.out.size; omega) ?_
       intro nv u9 h1 h2 h3
       obtain ⟨A9, c9, rfl⟩ := row_len h1
       obtain ⟨hp1, hp2⟩ := (HED2.out.low HBD.out).g.push (.inl rfl) (by omega) hrc8 hro8 h2 h1 h3
       have hq : ∀ k, k < u8.heap.size ∧ k ≠ w.heap.size + 1 ∧ (Value.slice A0 ks.length c0).ownBlock ≠ some k → (u9.setCell ⟨w.heap.size + 1, 0, none⟩ (.slice A9 (ks.length + 1) c9)).heap[k]? = u8.heap[k]? := fun k hk => hp2.block k hk
       have hrlt : ∀ k, (Value.slice A0 ks.length c0).ownBlock = some k → W0.heap.size ≤ k := fun k e => (hro8.lt k e).1
       have npb : pb ≠ w.heap.size + 1 := by
        have hB9 := hrc8
        rintro rfl
        have := hbk8.cell (k := 0) (v := .string pk) rfl
        rw [hrc8] at this
        cases this
       have KB : pb < u8.heap.size ∧ pb ≠ w.heap.size + 1 ∧ (Value.slice A0 ks.length c0).ownBlock ≠ some pb := ⟨hbk8.lt, npb, fun e => hbk8.ne_row hro8 (by decide) _ e rfl⟩
       have KX : W.heap.size < u8.heap.size ∧ W.heap.size ≠ w.heap.size + 1 ∧ (Value.slice A0 ks.length c0).ownBlock ≠ some W.heap.size := ⟨hbx8.lt, by have := HLW.out; omega, fun e => hbx8.ne_row hro8 (by decide) _ e rfl⟩
       have hVu : V.heap.size ≤ u8.heap.size := Nat.le_trans HBL2.out.size HBD.out.size
       have hV0 := HEV.out.g.fr.size
       have KO : ∀ k, ow k ≠ none → k < u8.heap.size ∧ k ≠ w.heap.size + 1 ∧ (Value.slice A0 ks.length c0).ownBlock ≠ some k := fun k hk => ⟨by have := hlt k hk; omega, by have := hlt k hk; omega, fun e => by have := hrlt k e; have := hlt k hk; omega⟩
       have NED : Hid (En W0 (w.heap.size + 1) (w.heap.size + 1 + 1) (ks ++ [pk], met) (u9.setCell ⟨w.heap.size + 1, 0, none⟩ (.slice A9 (ks.length + 1) c9))) := ⟨hp1, hm8.fr (hq _ ⟨hm8.lt, by omega, row_ne_map hro8 hes8⟩)⟩
       have NBK := Lib.hid (hbk8.fr (hq _ KB))
       have N6 := Lib.hid (h68.fr (hq _ ⟨h68.lt, by omega, fun e => h68.ne_row hro8 (by decide) _ e rfl⟩))
       have NBX := Lib.hid (hbx8.fr (hq _ KX))
       have NKV : Hid (KeepsFrom W0.heap.size V (u9.setCell ⟨w.heap.size + 1, 0, none⟩ (.slice A9 (ks.length + 1) c9))) := (HKV.out.trans (keepsFrom_below HBD.out)).trans (keeps_of (cells_of_cell hrc8) hro8 hp2)
       have NFB : Hid (Fr (Kb ow W.heap.size) V (u9.setCell ⟨w.heap.size + 1, 0, none⟩ (.slice A9 (ks.length + 1) c9))) := (HFB.out.trans (Fr.of HBD.out fun k hk => by
        rcases hk with rfl | hk
        ·exact HBX2.out.lt
        ·have := hlt k hk
         have := HBL2.out.size
         omega)).trans (hp2.mono fun k hk => by
        rcases hk with rfl | hk
        ·exact KX
        ·exact KO k hk)
       have NFT : Hid (Fr (Ft ow) W (u9.setCell ⟨w.heap.size + 1, 0, none⟩ (.slice A9 (ks.length + 1) c9))) := (HFT.out.trans (Fr.of HBD.out fun k hk => by
        have := hlt k hk
        have := HBL2.out.size
        omega)).trans (hp2.mono fun k hk => KO k hk)
       have hBlt8 : w.heap.size + 1 < u8.heap.size := Nat.lt_of_lt_of_le HBLT.out HBD.out.size
       have hBr : (Value.slice A0 ks.length c0).ownBlock ≠ some (w.heap.size + 1) := fun e => by have := hrlt _ e; omega
       have hcB9 : u9.cell? ⟨w.heap.size + 1, 0, none⟩ = some (.slice A0 ks.length c0) := (World.cell?_of_block (a := ⟨w.heap.size + 1, 0, none⟩) (h2.block (w.heap.size + 1) hBlt8 fun e => hBr e.symm)).trans hrc8
       have hzB9 : u9.frozen? ⟨w.heap.size + 1, 0, none⟩ = false := (World.frozen?_of_block (a := ⟨w.heap.size + 1, 0, none⟩) (h2.block (w.heap.size + 1) hBlt8 fun e => hBr e.symm)).trans hrz8
       have hs9a : (fun w' : World => w'.cell? ⟨pb, 0, none⟩ = some (.string pk)) u9 := (World.cell?_of_block (a := ⟨pb, 0, none⟩) (h2.block _ KB.1 fun e => KB.2.2 e.symm)).trans (hbk8.cell (k := 0) rfl)
       clear hBlt8 hBr h1 h2 h3 hp1 hp2 hq hrlt KB KX KO hro8 hrc8 hrz8 hm8 hes8 hbk8 h68 hbx8 npb
       refine hK.out _ _ hs9a (fun hHeld4 => ?_)
       clear hK K hHeld3 
       try simp only [PT]
       refine wpAnyH_ready (rs := [9]) (by decide +kernel) (by simp) (AllReadyH.cons rfl (fun K hK => ?_) AllReadyH.nil)
       go_simp
       refine hK.out _ _ (NBK.out.cell (k := 0) rfl) (fun hHeld5 => ?_)
       clear hK K hHeld4 
       try simp only [PT]
       refine wpAnyH_done (by kernel_rfl) ?_ _
       clear hHeld5 hs9a hcB9 hzB9 HED2 HBK2 H62 HKV HFB HFT HBX2 HBL2 HRC HRO HCC HBD HBLT
       have HED2 := NED
       have HBK2 := NBK
       have H62 := N6
       have HKV := NKV
       have HFB := NFB
       have HFT := NFT
       have HBX2 := NBX
       clear NED NBK N6 NKV NFB NFT NBX
       generalize u9.setCell ⟨w.heap.size + 1, 0, none⟩ (.slice A9 (ks.length + 1) c9) = v3 at *
       gi_wp2_with fail
       have HED3 := Lib.hid (HED2.out.low (below_draw v3))
       have HBK3 := Lib.hid (HBK2.out.fr (w' := v3.drew) rfl)
       have H63 := Lib.hid (H62.out.fr (w' := v3.drew) rfl)
       have HKV3 : Hid (KeepsFrom W0.heap.size V v3.drew) := HKV.out.trans (keepsFrom_below (below_draw v3))
       have HFB3 : Hid (Fr (Kb ow W.heap.size) V v3.drew) := HFB.out.drew
       have HFT3 : Hid (Fr (Ft ow) W v3.drew) := HFT.out.drew
       have HBX3 := Lib.hid (HBX2.out.fr (w' := v3.drew) rfl)
       have hs9 : (fun w' : World => w'.cell? ⟨w.heap.size + 1 + 1 + 1, 0, none⟩ = some (.map (some (w.heap.size + 1 + 1))) ∧ w'.cell? ⟨pb, 0, none⟩ = some (.string pk)) v3.drew := ⟨H63.out.cell (k := 0) rfl, HBK3.out.cell (k := 0) rfl⟩
       clear HED2 HBK2 H62 HKV HFB HFT HBX2
       refine region_round (S := (fun w' : World => w'.cell? ⟨w.heap.size + 1 + 1 + 1, 0, none⟩ = some (.map (some (w.heap.size + 1 + 1))) ∧ w'.cell? ⟨pb, 0, none⟩ = some (.string pk))) (by kernel_rfl) (by decide) (by rintro ⟨a, w, h⟩; exact h) (by exact hs9) (fun hHeld0 => ?_)
       generalize v3.drew = v5 at *
       refine tk 0 ?_ ‹_› ?_ ?_; rotate_left; focus (intro w0 hSw; obtain ⟨e6, e0⟩ := hSw; go_simp; try with_reducible rfl)
       refine tk 1 ?_ ‹_› ?_ ?_; rotate_left; focus (intro w0 hSw; obtain ⟨e6, e0⟩ := hSw; go_simp; try with_reducible rfl)
       refine tk 2 ?_ ‹_› ?_ ?_; rotate_left; focus (intro w0 hSw; obtain ⟨e6, e0⟩ := hSw; go_simp; try with_reducible rfl)
       refine tk 3 ?_ ‹_› ?_ ?_; rotate_left; focus (intro w0 hSw; obtain ⟨e6, e0⟩ := hSw; go_simp; try with_reducible rfl)
       refine tk 4 ?_ ‹_› ?_ ?_; rotate_left; focus (intro w0 hSw; obtain ⟨e6, e0⟩ := hSw; go_simp; try with_reducible rfl)
       refine tk 5 ?_ ‹_› ?_ ?_; rotate_left; focus (intro w0 hSw; obtain ⟨e6, e0⟩ := hSw; go_simp; try with_reducible rfl)
       refine tk 6 ?_ ‹_› ?_ ?_; rotate_left; focus (intro w0 hSw; obtain ⟨e6, e0⟩ := hSw; go_simp; try with_reducible rfl)
       try simp only [PT]
       refine wpAnyH_ready (rs := [7]) (by decide +kernel) (by simp) (AllReadyH.cons rfl (fun K hK => ?_) AllReadyH.nil)
       obtain ⟨v6, hr6, hm6, ht6⟩ := HED3.out.m.store Tryz.underlying105 (by have := HB2.out; show met.length < maxLen; unfold maxLen; omega) HKS.out
       have HED6 := Lib.hid (HED3.out.put (by omega) hm6 ht6 hM)
       have HKV6 := Lib.hid (keeps_turned HKV3.out ht6 hM)
       have HFB6 : Hid (Fr (Kb ow W.heap.size) V v6) := HFB3.out.turned (fun hk => by
        rcases hk with hk | hk
        ·have := HLW.out; omega
        ·have := hlt _ hk; omega) ht6 fun k hk => by
        rcases hk with rfl | hk
        ·exact HBX.out.lt
        ·have := hlt k hk
         have := HEV.out.g.fr.size
         omega
       have HFT6 : Hid (Fr (Ft ow) W v6) := HFT3.out.turned (fun hk => by have := hlt _ hk; omega) ht6 fun k hk => HPW.out.lt k hk
       have HBX6 := Lib.hid (HBX3.out.fr (ht6.grown.block _ HBX3.out.lt fun e => by have := Option.some.inj e; have := HLW.out; omega))
       have hcm := HED3.out.m.isMap
       obtain ⟨es, cc, hes⟩ := hcm
       have hs10 : (fun w' : World => w'.cell? ⟨w.heap.size + 1 + 1 + 1, 0, none⟩ = some (.map (some (w.heap.size + 1 + 1))) ∧ w'.cell? ⟨pb, 0, none⟩ = some (.string pk)) v6 := ⟨(H63.out.fr (ht6.grown.block _ H63.out.lt fun e => H63.out.ne_map hes (Option.some.inj e))).cell (k := 0) rfl, (HBK3.out.fr (ht6.grown.block _ HBK3.out.lt fun e => HBK3.out.ne_map hes (Option.some.inj e))).cell (k := 0) rfl⟩
       refine step_mapU rfl (.tmp 47) (.tmp 52) (.tmp 53) _ rfl v6 hr6 ?_
       clear hr6 hm6 ht6 hes
       refine hK.out _ _ hs10 (fun hHeld1 => ?_)
       clear hK K hHeld0 
       try simp only [PT]
       refine wpAnyH_done (by kernel_rfl) ?_ _
       refine ⟨⟨HKV6.out.size, fun k o hk h0 ho => HKV6.out.same k o (by omega) h0 ho⟩, HFB6.out, ?_, HPR.out, HKF.out.trans HKV6.out, HFT6.out, HBX6.out⟩
       rw [HKY.out]
       have e : stp (ks, met) ⟨pk, px, pw, true, pf⟩ = ((ks ++ [pk]), met ++ [pk]) := by
        unfold stp
        dsimp only
        rw [hmt, if_pos (by simp)]
       rw [e]
       exact HED6.out
      ·go_simp
       have hbb := below_new u1 (.cells #[.string pk] 9)
       have HCC := Lib.hid (Blk.new u1 9 [.string pk])
       have HBN := Lib.hid (HBD.out.trans (hbb.mono HBD.out.size))
       clear hbb HBD
       have HBD := HBN
       clear HBN
       refine hK.out _ _ ((HBK2.out.low HBD.out).cell (k := 0) rfl) (fun hHeld2 => ?_)
       clear hK K hHeld1 
       try simp only [PT]
       generalize u1.alloc (.cells #[.string pk] 9) = u8 at *
       refine wpAnyH_ready (rs := [0]) (by decide +kernel) (by simp) (AllReadyH.cons rfl (fun K hK => ?_) AllReadyH.nil)
       have hcu := (HBD.out.cell (p := ⟨w.heap.size + 1, 0, none⟩) HBLT.out).trans HRC.out
       go_simp
       clear hcu
       refine hK.out _ _ ((HBK2.out.low HBD.out).cell (k := 0) rfl) (fun hHeld3 => ?_)
       clear hK K hHeld2 
       try simp only [PT]
       refine wpAnyH_ready (rs := [8]) (by decide +kernel) (by simp) (AllReadyH.cons rfl (fun K hK => ?_) AllReadyH.nil)
       have hro8 := row_same HRO.out fun k e => HBD.out.block k (HRO.out.lt k e).2
       have hrc8 := (HBD.out.cell (p := ⟨w.heap.size + 1, 0, none⟩) HBLT.out).trans HRC.out
       have hrz8 := (HED2.out.low HBD.out).g.z
       have hm8 := (HED2.out.low HBD.out).m
       obtain ⟨es8, cc8, hes8⟩ := hm8.isMap
       have hbk8 := HBK2.out.low HBD.out
       have h68 := H62.out.low HBD.out
       have hbx8 := HBX2.out.low HBD.out
       refine step_app2 rfl (.tmp 38) (.tmp 45) 41 9 _ 16 Tryz.underlying41 infoSt rfl (by decide) (by rfl) W0.heap.size _ _ _ (by rfl) hro8 _ (.string pk) (by rfl) (HCC.out.cell rfl) rfl (by have := HB1.out; show ks.length ≤ _; omega) (by have := HEV.out.g.fr.size; have := HBL2.out.size; have := HBD.out.size; omega) ?_
       intro nv u9 h1 h2 h3
       obtain ⟨A9, c9, rfl⟩ := row_len h1
       obtain ⟨hp1, hp2⟩ := (HED2.out.low HBD.out).g.push (.inl rfl) (by omega) hrc8 hro8 h2 h1 h3
       have hq : ∀ k, k < u8.heap.size ∧ k ≠ w.heap.size + 1 ∧ (Value.slice A0 ks.length c0).ownBlock ≠ some k → (u9.setCell ⟨w.heap.size + 1, 0, none⟩ (.slice A9 (ks.length + 1) c9)).heap[k]? = u8.heap[k]? := fun k hk => hp2.block k hk
       have hrlt : ∀ k, (Value.slice A0 ks.length c0).ownBlock = some k → W0.heap.size ≤ k := fun k e => (hro8.lt k e).1
       have npb : pb ≠ w.heap.size + 1 := by
        have hB9 := hrc8
        rintro rfl
        have := hbk8.cell (k := 0) (v := .string pk) rfl
        rw [hrc8] at this
        cases this
       have KB : pb < u8.heap.size ∧ pb ≠ w.heap.size + 1 ∧ (Value.slice A0 ks.length c0).ownBlock ≠ some pb := ⟨hbk8.lt, npb, fun e => hbk8.ne_row hro8 (by decide) _ e rfl⟩
       have KX : W.heap.size < u8.heap.size ∧ W.heap.size ≠ w.heap.size + 1 ∧ (Value.slice A0 ks.length c0).ownBlock ≠ some W.heap.size := ⟨hbx8.lt, by have := HLW.out; omega, fun e => hbx8.ne_row hro8 (by decide) _ e rfl⟩
       have hVu : V.heap.size ≤ u8.heap.size := Nat.le_trans HBL2.out.size HBD.out.size
       have hV0 := HEV.out.g.fr.size
       have KO : ∀ k, ow k ≠ none → k < u8.heap.size ∧ k ≠ w.heap.size + 1 ∧ (Value.slice A0 ks.length c0).ownBlock ≠ some k := fun k hk => ⟨by have := hlt k hk; omega, by have := hlt k hk; omega, fun e => by have := hrlt k e; have := hlt k hk; omega⟩
       have NED : Hid (En W0 (w.heap.size + 1) (w.heap.size + 1 + 1) (ks ++ [pk], met) (u9.setCell ⟨w.heap.size + 1, 0, none⟩ (.slice A9 (ks.length + 1) c9))) := ⟨hp1, hm8.fr (hq _ ⟨hm8.lt, by omega, row_ne_map hro8 hes8⟩)⟩
       have NBK := Lib.hid (hbk8.fr (hq _ KB))
       have N6 := Lib.hid (h68.fr (hq _ ⟨h68.lt, by omega, fun e => h68.ne_row hro8 (by decide) _ e rfl⟩))
       have NBX := Lib.hid (hbx8.fr (hq _ KX))
       have NKV : Hid (KeepsFrom W0.heap.size V (u9.setCell ⟨w.heap.size + 1, 0, none⟩ (.slice A9 (ks.length + 1) c9))) := (HKV.out.trans (keepsFrom_below HBD.out)).trans (keeps_of (cells_of_cell hrc8) hro8 hp2)
       have NFB : Hid (Fr (Kb ow W.heap.size) V (u9.setCell ⟨w.heap.size + 1, 0, none⟩ (.slice A9 (ks.length + 1) c9))) := (HFB.out.trans (Fr.of HBD.out fun k hk => by
        rcases hk with rfl | hk
        ·exact HBX2.out.lt
        ·have := hlt k hk
         have := HBL2.out.size
         omega)).trans (hp2.mono fun k hk => by
        rcases hk with rfl | hk
        ·exact KX
        ·exact KO k hk)
       have NFT : Hid (Fr (Ft ow) W (u9.setCell ⟨w.heap.size + 1, 0, none⟩ (.slice A9 (ks.length + 1) c9))) := (HFT.out.trans (Fr.of HBD.out fun k hk => by
        have := hlt k hk
        have := HBL2.out.size
        omega)).trans (hp2.mono fun k hk => KO k hk)
       have hBlt8 : w.heap.size + 1 < u8.heap.size := Nat.lt_of_lt_of_le HBLT.out HBD.out.size
       have hBr : (Value.slice A0 ks.length c0).ownBlock ≠ some (w.heap.size + 1) := fun e => by have := hrlt _ e; omega
       have hcB9 : u9.cell? ⟨w.heap.size + 1, 0, none⟩ = some (.slice A0 ks.length c0) := (World.cell?_of_block (a := ⟨w.heap.size + 1, 0, none⟩) (h2.block (w.heap.size + 1) hBlt8 fun e => hBr e.symm)).trans hrc8
       have hzB9 : u9.frozen? ⟨w.heap.size + 1, 0, none⟩ = false := (World.frozen?_of_block (a := ⟨w.heap.size + 1, 0, none⟩) (h2.block (w.heap.size + 1) hBlt8 fun e => hBr e.symm)).trans hrz8
       have hs9a : (fun w' : World => w'.cell? ⟨pb, 0, none⟩ = some (.string pk)) u9 := (World.cell?_of_block (a := ⟨pb, 0, none⟩) (h2.block _ KB.1 fun e => KB.2.2 e.symm)).trans (hbk8.cell (k := 0) rfl)
       clear hBlt8 hBr h1 h2 h3 hp1 hp2 hq hrlt KB KX KO hro8 hrc8 hrz8 hm8 hes8 hbk8 h68 hbx8 npb
       refine hK.out _ _ hs9a (fun hHeld4 => ?_)
       clear hK K hHeld3 
       try simp only [PT]
       refine wpAnyH_ready (rs := [9]) (by decide +kernel) (by simp) (AllReadyH.cons rfl (fun K hK => ?_) AllReadyH.nil)
       go_simp
       refine hK.out _ _ (NBK.out.cell (k := 0) rfl) (fun hHeld5 => ?_)
       clear hK K hHeld4 
       try simp only [PT]
       refine wpAnyH_done (by kernel_rfl) ?_ _
       clear hHeld5 hs9a hcB9 hzB9 HED2 HBK2 H62 HKV HFB HFT HBX2 HBL2 HRC HRO HCC HBD HBLT
       have HED2 := NED
       have HBK2 := NBK
       have H62 := N6
       have HKV := NKV
       have HFB := NFB
       have HFT := NFT
       have HBX2 := NBX
       clear NED NBK N6 NKV NFB NFT NBX
       generalize u9.setCell ⟨w.heap.size + 1, 0, none⟩ (.slice A9 (ks.length + 1) c9) = v3 at *
       gi_wp2_with fail
       have HED3 := Lib.hid (HED2.out.low (below_draw v3))
       have HBK3 := Lib.hid (HBK2.out.fr (w' := v3.drew) rfl)
       have H63 := Lib.hid (H62.out.fr (w' := v3.drew) rfl)
       have HKV3 : Hid (KeepsFrom W0.heap.size V v3.drew) := HKV.out.trans (keepsFrom_below (below_draw v3))
       have HFB3 : Hid (Fr (Kb ow W.heap.size) V v3.drew) := HFB.out.drew
       have HFT3 : Hid (Fr (Ft ow) W v3.drew) := HFT.out.drew
       have HBX3 := Lib.hid (HBX2.out.fr (w' := v3.drew) rfl)
       have hs9 : (fun w' : World => w'.cell? ⟨w.heap.size + 1 + 1 + 1, 0, none⟩ = some (.map (some (w.heap.size + 1 + 1))) ∧ w'.cell? ⟨pb, 0, none⟩ = some (.string pk)) v3.drew := ⟨H63.out.cell (k := 0) rfl, HBK3.out.cell (k := 0) rfl⟩
       clear HED2 HBK2 H62 HKV HFB HFT HBX2
       refine region_round (S := (fun w' : World => w'.cell? ⟨w.heap.size + 1 + 1 + 1, 0, none⟩ = some (.map (some (w.heap.size + 1 + 1))) ∧ w'.cell? ⟨pb, 0, none⟩ = some (.string pk))) (by kernel_rfl) (by decide) (by rintro ⟨a, w, h⟩; exact h) (by exact hs9) (fun hHeld0 => ?_)
       generalize v3.drew = v5 at *
       refine tk 0 ?_ ‹_› ?_ ?_; rotate_left; focus (intro w0 hSw; obtain ⟨e6, e0⟩ := hSw; go_simp; try with_reducible rfl)
       refine tk 1 ?_ ‹_› ?_ ?_; rotate_left; focus (intro w0 hSw; obtain ⟨e6, e0⟩ := hSw; go_simp; try with_reducible rfl)
       refine tk 2 ?_ ‹_› ?_ ?_; rotate_left; focus (intro w0 hSw; obtain ⟨e6, e0⟩ := hSw; go_simp; try with_reducible rfl)
       refine tk 3 ?_ ‹_› ?_ ?_; rotate_left; focus (intro w0 hSw; obtain ⟨e6, e0⟩ := hSw; go_simp; try with_reducible rfl)
       refine tk 4 ?_ ‹_› ?_ ?_; rotate_left; focus (intro w0 hSw; obtain ⟨e6, e0⟩ := hSw; go_simp; try with_reducible rfl)
       refine tk 5 ?_ ‹_› ?_ ?_; rotate_left; focus (intro w0 hSw; obtain ⟨e6, e0⟩ := hSw; go_simp; try with_reducible rfl)
       refine tk 6 ?_ ‹_› ?_ ?_; rotate_left; focus (intro w0 hSw; obtain ⟨e6, e0⟩ := hSw; go_simp; try with_reducible rfl)
       try simp only [PT]
       refine wpAnyH_ready (rs := [7]) (by decide +kernel) (by simp) (AllReadyH.cons rfl (fun K hK => ?_) AllReadyH.nil)
       obtain ⟨v6, hr6, hm6, ht6⟩ := HED3.out.m.store Tryz.underlying105 (by have := HB2.out; show met.length < maxLen; unfold maxLen; omega) HKS.out
       have HED6 := Lib.hid (HED3.out.put (by omega) hm6 ht6 hM)
       have HKV6 := Lib.hid (keeps_turned HKV3.out ht6 hM)
       have HFB6 : Hid (Fr (Kb ow W.heap.size) V v6) := HFB3.out.turned (fun hk => by
        rcases hk with hk | hk
        ·have := HLW.out; omega
        ·have := hlt _ hk; omega) ht6 fun k hk => by
        rcases hk with rfl | hk
        ·exact HBX.out.lt
        ·have := hlt k hk
         have := HEV.out.g.fr.size
         omega
       have HFT6 : Hid (Fr (Ft ow) W v6) := HFT3.out.turned (fun hk => by have := hlt _ hk; omega) ht6 fun k hk => HPW.out.lt k hk
       have HBX6 := Lib.hid (HBX3.out.fr (ht6.grown.block _ HBX3.out.lt fun e => by have := Option.some.inj e; have := HLW.out; omega))
       have hcm := HED3.out.m.isMap
       obtain ⟨es, cc, hes⟩ := hcm
       have hs10 : (fun w' : World => w'.cell? ⟨w.heap.size + 1 + 1 + 1, 0, none⟩ = some (.map (some (w.heap.size + 1 + 1))) ∧ w'.cell? ⟨pb, 0, none⟩ = some (.string pk)) v6 := ⟨(H63.out.fr (ht6.grown.block _ H63.out.lt fun e => H63.out.ne_map hes (Option.some.inj e))).cell (k := 0) rfl, (HBK3.out.fr (ht6.grown.block _ HBK3.out.lt fun e => HBK3.out.ne_map hes (Option.some.inj e))).cell (k := 0) rfl⟩
       refine step_mapU rfl (.tmp 47) (.tmp 52) (.tmp 53) _ rfl v6 hr6 ?_
       clear hr6 hm6 ht6 hes
       refine hK.out _ _ hs10 (fun hHeld1 => ?_)
       clear hK K hHeld0 
       try simp only [PT]
       refine wpAnyH_done (by kernel_rfl) ?_ _
       refine ⟨⟨HKV6.out.size, fun k o hk h0 ho => HKV6.out.same k o (by omega) h0 ho⟩, HFB6.out, ?_, HPR.out, HKF.out.trans HKV6.out, HFT6.out, HBX6.out⟩
       rw [HKY.out]
       have e : stp (ks, met) ⟨pk, px, pw, true, pf⟩ = ((ks ++ [pk]), met ++ [pk]) := by
        unfold stp
        dsimp only
        rw [hmt, if_pos (by simp)]
       rw [e]
       exact HED6.out
end Go.Proofs.YtcahijpbkjplmaaGreatDoor.G
