/-
 newObject, Make, by contract.
 Make, by contract.
 Array, by contract.
-/
import Derived.Test.YtcahijpbkjplmaaGreatDoorMRo
import Derived.Test.YtcahijpbkjplmaaGreatDoorMZ0
set_option linter.unusedSimpArgs false
namespace Go.Proofs.YtcahijpbkjplmaaGreatDoor.G
open Go.RowKit Go.Shelf Go.Maps Go.Lib Go.Proofs.YtcahijpbkjplmaaGreatDoor
theorem makeMap_new (t : TypeId) (w : World) : (Instr.makeMap t none).run Tryz.prog w = .ok (.map (some w.heap.size)) (w.alloc (.map #[] 0)) := by
 simp [Instr.makeMap, Result.andThen]
structure Bare (w : World) (num : Int) (cls : ByteArray) (pp : Value) (b pm im : Nat) (w' : World) : Prop where
 ob : Blk w' b 84 [.int .i64 num, .string cls, pp, .bool false, .map (some pm), .string ⟨#[]⟩, .int .i64 0, .int .i64 0, .string ⟨#[]⟩, .bool false, .bool false, .bool false, av ⟨b, 5, none⟩, av ⟨b, 5, none⟩, .int .i64 0, .bool false, .map (some im)]
 mp : MapS w' pm 0 (.pointer none) fun _ => .pointer none
 mi : MapI w' im 0 (.slice none 0 0) fun _ => .slice none 0 0
 ne : pm ≠ im
 lo : w.heap.size ≤ b ∧ w.heap.size ≤ pm ∧ w.heap.size ≤ im
 low : Below w.heap.size w w'
set_option maxRecDepth 8000 in
theorem newObject_any (num : Int) (cls : ByteArray) (q : Option Addr) (w : World) (hs : cls.size ≤ 281474976710656) :
  Calls Tryz.prog 69 #[.int .i64 num, .string cls, .pointer q] w fun e w' => ∃ b pm im, e = .returned (pv b) ∧ Bare w num cls (.pointer q) b pm im w' := by
 have HC := Lib.hid (clone_any cls w (by omega))
 clear hs
 go_enter Tryz.func69, Tryz.ntmps69
 go_wp2_with fail
 refine HC.out.mono ?_
 rintro e w1 ⟨rfl, hb⟩
 have HB := Lib.hid hb
 have h1 := below_new w1 (.map #[] 0)
 have h2 := below_new (w1.alloc (.map #[] 0)) (.map #[] 0)
 have h3 := below_new ((w1.alloc (.map #[] 0)).alloc (.map #[] 0)) (.cells #[.int .i64 num, .string cls, .pointer q, .bool false, .map (some w1.heap.size), .string ⟨#[]⟩, .int .i64 0, .int .i64 0, .string ⟨#[]⟩, .bool false, .bool false, .bool false, .pointer none, .pointer none, .int .i64 0, .bool false, .map (some (w1.heap.size + 1))] 84)
 have hz : (w1.alloc (.map #[] 0)).heap.size = w1.heap.size + 1 := by simp
 have hz2 : ((w1.alloc (.map #[] 0)).alloc (.map #[] 0)).heap.size = w1.heap.size + 2 := by simp
 have HM1 : Hid (MapS (((w1.alloc (.map #[] 0)).alloc (.map #[] 0)).alloc (.cells #[.int .i64 num, .string cls, .pointer q, .bool false, .map (some w1.heap.size), .string ⟨#[]⟩, .int .i64 0, .int .i64 0, .string ⟨#[]⟩, .bool false, .bool false, .bool false, .pointer none, .pointer none, .int .i64 0, .bool false, .map (some (w1.heap.size + 1))] 84)) w1.heap.size 0 (.pointer none) fun _ => .pointer none) := ((MapS.new w1 _).fr (h2.block _ (by omega))).fr (h3.block _ (by omega))
 have HM2 : Hid (MapI (((w1.alloc (.map #[] 0)).alloc (.map #[] 0)).alloc (.cells #[.int .i64 num, .string cls, .pointer q, .bool false, .map (some w1.heap.size), .string ⟨#[]⟩, .int .i64 0, .int .i64 0, .string ⟨#[]⟩, .bool false, .bool false, .bool false, .pointer none, .pointer none, .int .i64 0, .bool false, .map (some (w1.heap.size + 1))] 84)) (w1.heap.size + 1) 0 (.slice none 0 0) fun _ => .slice none 0 0) := by
  have := MapI.new (w1.alloc (.map #[] 0)) (.slice none 0 0)
  rw [hz] at this
  exact this.fr (h3.block _ (by omega))
 have HO : Hid (Blk (((w1.alloc (.map #[] 0)).alloc (.map #[] 0)).alloc (.cells #[.int .i64 num, .string cls, .pointer q, .bool false, .map (some w1.heap.size), .string ⟨#[]⟩, .int .i64 0, .int .i64 0, .string ⟨#[]⟩, .bool false, .bool false, .bool false, .pointer none, .pointer none, .int .i64 0, .bool false, .map (some (w1.heap.size + 1))] 84)) (w1.heap.size + 1 + 1) 84 [.int .i64 num, .string cls, .pointer q, .bool false, .map (some w1.heap.size), .string ⟨#[]⟩, .int .i64 0, .int .i64 0, .string ⟨#[]⟩, .bool false, .bool false, .bool false, .pointer none, .pointer none, .int .i64 0, .bool false, .map (some (w1.heap.size + 1))]) := by
  have := Blk.new ((w1.alloc (.map #[] 0)).alloc (.map #[] 0)) 84 [.int .i64 num, .string cls, .pointer q, .bool false, .map (some w1.heap.size), .string ⟨#[]⟩, .int .i64 0, .int .i64 0, .string ⟨#[]⟩, .bool false, .bool false, .bool false, .pointer none, .pointer none, .int .i64 0, .bool false, .map (some (w1.heap.size + 1))]
  rw [hz2] at this
  exact this
 have HBB : Hid (Below w1.heap.size w1 (((w1.alloc (.map #[] 0)).alloc (.map #[] 0)).alloc (.cells #[.int .i64 num, .string cls, .pointer q, .bool false, .map (some w1.heap.size), .string ⟨#[]⟩, .int .i64 0, .int .i64 0, .string ⟨#[]⟩, .bool false, .bool false, .bool false, .pointer none, .pointer none, .int .i64 0, .bool false, .map (some (w1.heap.size + 1))] 84))) := (h1.trans (h2.mono (by omega))).trans (h3.mono (by omega))
 clear hb HC h1 h2 h3 hz hz2
 have hmm1 := fun w : World => makeMap_new 78 w
 have hmm2 := fun w : World => makeMap_new 82 w
 go_wp2_with fail
 clear hmm1 hmm2
 have HX : Hid (Blk (((w1.alloc (.map #[] 0)).alloc (.map #[] 0)).alloc (.cells #[.int .i64 num, .string cls, .pointer q, .bool false, .map (some w1.heap.size), .string ⟨#[]⟩, .int .i64 0, .int .i64 0, .string ⟨#[]⟩, .bool false, .bool false, .bool false, .pointer none, .pointer none, .int .i64 0, .bool false, .map (some (w1.heap.size + 1))] 84)).drew (w1.heap.size + 1 + 1) 84 [.int .i64 num, .string cls, .pointer q, .bool false, .map (some w1.heap.size), .string ⟨#[]⟩, .int .i64 0, .int .i64 0, .string ⟨#[]⟩, .bool false, .bool false, .bool false, .pointer none, .pointer none, .int .i64 0, .bool false, .map (some (w1.heap.size + 1))] ∧ MapS (((w1.alloc (.map #[] 0)).alloc (.map #[] 0)).alloc (.cells #[.int .i64 num, .string cls, .pointer q, .bool false, .map (some w1.heap.size), .string ⟨#[]⟩, .int .i64 0, .int .i64 0, .string ⟨#[]⟩, .bool false, .bool false, .bool false, .pointer none, .pointer none, .int .i64 0, .bool false, .map (some (w1.heap.size + 1))] 84)).drew w1.heap.size 0 (.pointer none) (fun _ => .pointer none) ∧ MapI (((w1.alloc (.map #[] 0)).alloc (.map #[] 0)).alloc (.cells #[.int .i64 num, .string cls, .pointer q, .bool false, .map (some w1.heap.size), .string ⟨#[]⟩, .int .i64 0, .int .i64 0, .string ⟨#[]⟩, .bool false, .bool false, .bool false, .pointer none, .pointer none, .int .i64 0, .bool false, .map (some (w1.heap.size + 1))] 84)).drew (w1.heap.size + 1) 0 (.slice none 0 0) (fun _ => .slice none 0 0) ∧ Below w1.heap.size w1 (((w1.alloc (.map #[] 0)).alloc (.map #[] 0)).alloc (.cells #[.int .i64 num, .string cls, .pointer q, .bool false, .map (some w1.heap.size), .string ⟨#[]⟩, .int .i64 0, .int .i64 0, .string ⟨#[]⟩, .bool false, .bool false, .bool false, .pointer none, .pointer none, .int .i64 0, .bool false, .map (some (w1.heap.size + 1))] 84)).drew) := ⟨HO.out.fr rfl, HM1.out.fr rfl, HM2.out.fr rfl, HBB.out.drew⟩
 clear HO HM1 HM2 HBB
 have hs0 : (fun _ : World => True) (((w1.alloc (.map #[] 0)).alloc (.map #[] 0)).alloc (.cells #[.int .i64 num, .string cls, .pointer q, .bool false, .map (some w1.heap.size), .string ⟨#[]⟩, .int .i64 0, .int .i64 0, .string ⟨#[]⟩, .bool false, .bool false, .bool false, .pointer none, .pointer none, .int .i64 0, .bool false, .map (some (w1.heap.size + 1))] 84)).drew := trivial
 refine wp_region_held_drew (S := fun _ => True) (by kernel_rfl) (hs0) (fun hHeld0 => ?_)
 generalize (((w1.alloc (.map #[] 0)).alloc (.map #[] 0)).alloc (.cells #[.int .i64 num, .string cls, .pointer q, .bool false, .map (some w1.heap.size), .string ⟨#[]⟩, .int .i64 0, .int .i64 0, .string ⟨#[]⟩, .bool false, .bool false, .bool false, .pointer none, .pointer none, .int .i64 0, .bool false, .map (some (w1.heap.size + 1))] 84)).drew = v1 at *
 obtain ⟨b, hB⟩ : ∃ b, w1.heap.size + 1 + 1 = b := ⟨_, rfl⟩
 rw [hB] at HX ⊢
 have HBE := Lib.hid hB
 clear hB
 refine tk 0 ?_ ‹_› ?_ ?_; rotate_left; focus (intro w0 hSw; go_simp; try with_reducible rfl)
 refine tk 1 ?_ ‹_› ?_ ?_; rotate_left; focus (intro w0 hSw; go_simp; try with_reducible rfl)
 refine tk 2 ?_ ‹_› ?_ ?_; rotate_left; focus (intro w0 hSw; go_simp; try with_reducible rfl)
 refine tk 3 ?_ ‹_› ?_ ?_; rotate_left; focus (intro w0 hSw; go_simp; try with_reducible rfl)
 refine tk 4 ?_ ‹_› ?_ ?_; rotate_left; focus (intro w0 hSw; go_simp; try with_reducible rfl)
 refine tk 5 ?_ ‹_› ?_ ?_; rotate_left; focus (intro w0 hSw; go_simp; try with_reducible rfl)
 refine tk 6 ?_ ‹_› ?_ ?_; rotate_left; focus (intro w0 hSw; go_simp; try with_reducible rfl)
 refine tk 7 ?_ ‹_› ?_ ?_; rotate_left; focus (intro w0 hSw; go_simp; try with_reducible rfl)
 refine tk 8 ?_ ‹_› ?_ ?_; rotate_left; focus (intro w0 hSw; go_simp; try with_reducible rfl)
 refine tk 9 ?_ ‹_› ?_ ?_; rotate_left; focus (intro w0 hSw; go_simp; try with_reducible rfl)
 refine tk 10 ?_ ‹_› ?_ ?_; rotate_left; focus (intro w0 hSw; go_simp; try with_reducible rfl)
 try simp only [PT]
 refine wpAnyH_ready (rs := [11]) (by decide +kernel) (by simp) (AllReadyH.cons rfl (fun K hK => ?_) AllReadyH.nil)
 have c12 : v1.cell? ⟨b, 12, none⟩ = some (.pointer none) := HX.out.1.cell (k := 12) rfl
 have z12 : v1.frozen? ⟨b, 12, none⟩ = false := HX.out.1.fz 12
 go_simp
 clear c12 z12
 have H1 := Lib.hid (HX.out.1.set 12 (av ⟨b, 5, none⟩))
 refine hK.out _ _ trivial (fun hHeld1 => ?_)
 clear hK K hHeld0 
 try simp only [PT]
 refine tk 12 ?_ ‹_› ?_ ?_; rotate_left; focus (intro w0 hSw; go_simp; try with_reducible rfl)
 refine tk 13 ?_ ‹_› ?_ ?_; rotate_left; focus (intro w0 hSw; go_simp; try with_reducible rfl)
 refine tk 14 ?_ ‹_› ?_ ?_; rotate_left; focus (intro w0 hSw; go_simp; try with_reducible rfl)
 try simp only [PT]
 refine wpAnyH_ready (rs := [15]) (by decide +kernel) (by simp) (AllReadyH.cons rfl (fun K hK => ?_) AllReadyH.nil)
 have c13 : (v1.setCell ⟨b, 12, none⟩ (av ⟨b, 5, none⟩)).cell? ⟨b, 13, none⟩ = some (.pointer none) := H1.out.cell (k := 13) rfl
 have z13 : (v1.setCell ⟨b, 12, none⟩ (av ⟨b, 5, none⟩)).frozen? ⟨b, 13, none⟩ = false := H1.out.fz 13
 go_simp
 clear c13 z13
 have H2 := Lib.hid (H1.out.set 13 (av ⟨b, 5, none⟩))
 refine hK.out _ _ trivial (fun hHeld2 => ?_)
 clear hK K hHeld1 
 try simp only [PT]
 refine wpAnyH_done (by kernel_rfl) ?_ _
 clear hHeld2
 go_wp2_with fail
 refine bodyPost_ret (results_tmp rfl _ _ _) rfl ⟨b, w1.heap.size, w1.heap.size + 1, rfl, ?_⟩
 obtain ⟨hx1, hx2, hx3, hx4⟩ := HX.out
 obtain ⟨es, c, hes⟩ := hx2.isMap
 obtain ⟨es2, c2, hes2⟩ := hx3.isMap
 have n1 := hx1.ne_map hes
 have n2 := hx1.ne_map hes2
 refine ⟨H2.out, (hx2.fr ?_), (hx3.fr ?_), by omega, ⟨by have := HBE.out; have := HB.out.size; omega, HB.out.size, by have := HB.out.size; omega⟩, ?_⟩
 ·rw [Below.heap_setCell _ _ _ _ (Ne.symm n1), Below.heap_setCell _ _ _ _ (Ne.symm n1)]
 ·rw [Below.heap_setCell _ _ _ _ (Ne.symm n2), Below.heap_setCell _ _ _ _ (Ne.symm n2)]
 ·have h5 := hx4.mono HB.out.size
  exact ((HB.out.trans h5).setCell (p := ⟨b, 12, none⟩) (by have := HBE.out; have := HB.out.size; show w.heap.size ≤ b; omega) _).setCell (p := ⟨b, 13, none⟩) (by have := HBE.out; have := HB.out.size; show w.heap.size ≤ b; omega) _
theorem infoOp : (Tryz.prog.info? 76).map (fun i => (i.zero, i.size, i.bytes)) = some (some (.pointer none), 1, 8) := by kernel_rfl
theorem list_app1 {ops : Array Oper} {rest : List Oper} {o : Oper} {a : Act} {w : World} {Q : Exit → Act → World → Prop} (hgd : o.guard = none) (s x : Operand) (t e : TypeId) (z : Value) (bytes : Nat) (ht : Tryz.prog.underlying t = some (.slice e))
  (hin : (Tryz.prog.info? e).map (fun i => (i.zero, i.size, i.bytes)) = some (some z, 1, bytes)) (hz : z.cells.size = 1) (hbt : bytes ≤ 128)
  (ho : o.op = .call { callee := .builtin .append, args := #[s, x], argTypes := #[t, t] })
  (C : Nat) (nv : Value) (n : Nat) (xs : List Value) (hs : a.eval s = nv) (hown : w.ownsRow C e 1 nv n xs) (g : Nat) (y : Value) (hx : a.eval x = .slice (some ⟨g, 0, none⟩) 1 1) (hc : w.cell? ⟨g, 0, none⟩ = some y) (h1 : y.oneCell' = true) (hl : n ≤ 4194304) (hb : C ≤ w.heap.size)
  (h : ∀ nv' w', w'.ownsRow C e 1 nv' (n + 1) (xs ++ [y]) → w.grownBy w' nv.ownBlock → (nv'.ownBlock = nv.ownBlock ∨ nv'.ownBlock = some w.heap.size) → wpList Tryz.prog ops Q rest (a.put o.dst nv') w') :
  wpList Tryz.prog ops Q (o :: rest) a w := wpList_plain hgd fun K hK => by
 have h2 := step_app1 (ops := ops) (E := True) (K := K) (Q := Q) hgd s x t e z bytes ht hin hz hbt ho C nv n xs hs hown g y hx hc h1 hl hb (fun nv' w' a b c => hK _ _ (h nv' w' a b c))
 rw [if_pos (by simp [Region.wanted, hgd])] at h2
 exact h2
section
variable {w w1 w2 : World} {ow ow1 ow2 : Nat → Option Nat} {i A : Nat} {H H1 H2 : Hs} {L L1 L2 : List OL} {o o1 : Ob} {x : OL} {p : Pr}
theorem ppv_app {L : List OL} {x : OL} {q : Option Nat} (h : ∀ p, q = some p → p < L.length) : ppv (L ++ [x]) q = ppv L q := by
 cases q with
 | none => rfl
 | some p => simp only [ppv, List.getElem?_append_left (h p rfl)]
theorem PH.snoc (h : PH w A H ow L) (g : Gd H) {q : Option Nat} (hq : ∀ p, q = some p → p < L.length) {nv : Value} {cls : ByteArray} {b pm im m : Nat}
  (hA : Blk w1 A 67 [.int .i64 (H.most : Int), .int .i64 (m : Int), nv]) (hm : H.n ≤ m)
  (hrow : w1.ownsRow 0 76 1 nv (L.length + 1) (L.map (fun x => pv x.b) ++ [pv b]))
  (hnv : ∀ k, nv.ownBlock = some k → ow k = some 0 ∨ w.heap.size ≤ k)
  (hlo : w.heap.size ≤ b ∧ w.heap.size ≤ pm ∧ w.heap.size ≤ im)
  (hob : ∀ ow' : Nat → Option Nat, ow' b = some (L.length + 1) → ow' pm = some (L.length + 1) → ow' im = some (L.length + 1) → ObjAt w1 ow' L.length m (ppv L q) ⟨b, pm, im, [], fun _ => .slice none 0 0⟩ ⟨cls, q, [], false, 0, true⟩)
  (hk : ∀ k r, ow k = some r → r ≠ 0 → w1.heap[k]? = w.heap[k]?) (hfr : Fr (Aw w ow) w w1) :
  ∃ ow' L', Hch w A ow L { os := H.os ++ [⟨cls, q, [], false, 0, true⟩], most := H.most, n := m } w1 ow' L' := by
 obtain ⟨⟨ov, h1, h2, h3⟩, h4, h5, h6, h7⟩ := h
 have hb0 := hob (fun _ => some (L.length + 1)) rfl rfl rfl
 obtain ⟨es, c, hes⟩ := hb0.mp.isMap
 obtain ⟨ni, -, hn2⟩ := hb0.mi
 obtain ⟨es2, c2, hes2⟩ := hn2.isMap
 have d1 : nv.ownBlock ≠ some b := fun e => hb0.ob.ne_row hrow (by decide) b e rfl
 have d2 : nv.ownBlock ≠ some pm := row_ne_map hrow hes
 have d3 : nv.ownBlock ≠ some im := row_ne_map hrow hes2
 have old : ∀ k r, ow k = some r → (if k = b ∨ k = pm ∨ k = im then some (L.length + 1) else if nv.ownBlock = some k then some 0 else ow k) = some r := fun k r e => by
  have hkl := h7 k (by rw [e]; simp)
  rw [if_neg (by omega)]
  by_cases hn : nv.ownBlock = some k
  ·rw [if_pos hn]
   rcases hnv k hn with e2 | e2
   ·rw [← e2, e]
   ·omega
  ·rw [if_neg hn, e]
 refine ⟨fun k => if k = b ∨ k = pm ∨ k = im then some (L.length + 1) else if nv.ownBlock = some k then some 0 else ow k, L ++ [⟨b, pm, im, [], fun _ => .slice none 0 0⟩], ⟨⟨nv, hA, by simpa using hrow, fun k hk' => ?_⟩, old _ _ h4, by simp [h5], fun j a e => ?_, fun k hk' => ?_⟩, fun k hk' => ?_, hfr, [b], by simp⟩
 ·rw [if_neg, if_pos hk']
  rintro (rfl | rfl | rfl)
  ·exact d1 hk'
  ·exact d2 hk'
  ·exact d3 hk'
 ·have ej : j < L.length + 1 := by simpa using a
  by_cases hj : j < L.length
  ·have hjo : j < H.os.length := by omega
   have e1 : (L ++ [(⟨b, pm, im, [], fun _ => .slice none 0 0⟩ : OL)])[j] = L[j] := List.getElem_append_left hj
   have e2 : (H.os ++ [(⟨cls, q, [], false, 0, true⟩ : Ob)])[j]'e = H.os[j] := List.getElem_append_left hjo
   show ObjAt w1 _ j m (ppv _ ((H.os ++ [(⟨cls, q, [], false, 0, true⟩ : Ob)])[j]'e).proto) _ ((H.os ++ [(⟨cls, q, [], false, 0, true⟩ : Ob)])[j]'e)
   rw [e1, e2, ppv_app (fun p hp => Nat.lt_trans (g.ok.pw j H.os[j] (List.getElem?_eq_getElem hjo) p hp) hj)]
   exact (h6 j hj hjo).fr (fun k hk' => ⟨old k _ hk', hk k _ hk' (by omega)⟩) hm
  ·have ejl : j = L.length := by omega
   subst ejl
   have e1 : (L ++ [(⟨b, pm, im, [], fun _ => .slice none 0 0⟩ : OL)])[L.length] = ⟨b, pm, im, [], fun _ => .slice none 0 0⟩ := by simp
   have e2 : (H.os ++ [(⟨cls, q, [], false, 0, true⟩ : Ob)])[L.length]'e = ⟨cls, q, [], false, 0, true⟩ := by simp [h5]
   show ObjAt w1 _ L.length m (ppv _ ((H.os ++ [(⟨cls, q, [], false, 0, true⟩ : Ob)])[L.length]'e).proto) _ ((H.os ++ [(⟨cls, q, [], false, 0, true⟩ : Ob)])[L.length]'e)
   rw [e1, e2, ppv_app hq]
   exact hob _ (if_pos (.inl rfl)) (if_pos (.inr (.inl rfl))) (if_pos (.inr (.inr rfl)))
 ·by_cases e1 : k = b ∨ k = pm ∨ k = im
  ·rcases e1 with rfl | rfl | rfl
   ·exact hb0.ob.lt
   ·exact hb0.mp.lt
   ·exact hn2.lt
  ·rw [if_neg e1] at hk'
   by_cases e2 : nv.ownBlock = some k
   ·exact (hrow.lt k e2).2
   ·rw [if_neg e2] at hk'
    exact Nat.lt_of_lt_of_le (h7 k hk') hfr.size
 ·by_cases e1 : k = b ∨ k = pm ∨ k = im
  ·right
   omega
  ·rw [if_neg e1] at hk'
   by_cases e2 : nv.ownBlock = some k
   ·rcases hnv k e2 with e3 | e3
    ·left
     rw [e3]
     simp
    ·exact .inr e3
   ·rw [if_neg e2] at hk'
    exact .inl hk'
theorem bare_at {w' : World} {i b pm im : Nat} {cls : ByteArray} {pp : Value} (ob : Blk w' b 84 [.int .i64 ((i : Int) + 1), .string cls, pp, .bool false, .map (some pm), .string ⟨#[]⟩, .int .i64 0, .int .i64 0, .string ⟨#[]⟩, .bool false, .bool false, .bool false, av ⟨b, 5, none⟩, av ⟨b, 5, none⟩, .int .i64 0, .bool false, .map (some im)])
  (mp : MapS w' pm 0 (.pointer none) fun _ => .pointer none) (mi : MapI w' im 0 (.slice none 0 0) fun _ => .slice none 0 0) (ne : pm ≠ im) (ow : Nat → Option Nat) (hb : ow b = some (i + 1)) (hp : ow pm = some (i + 1)) (hi : ow im = some (i + 1)) (n : Nat) (q : Option Nat) :
  ObjAt w' ow i n pp ⟨b, pm, im, [], fun _ => .slice none 0 0⟩ ⟨cls, q, [], false, 0, true⟩ :=
 ⟨ob, rfl, fun j hj => absurd hj (Nat.not_lt_zero j), List.nodup_nil, mp.mono (Nat.zero_le _), ⟨0, Nat.zero_le _, mi⟩, fun y => row_nil _ _ _ _, fun y g e => (by cases e), hb, hp, hi, fun c hc => (by cases hc), ne⟩
def makeR : Option Nat → Value
 | none => .tuple #[vundef.v, .bool false]
 | some i => .tuple #[(ref i).v, .bool true]
set_option maxRecDepth 8000 in
set_option maxHeartbeats 1000000 in
theorem make_any (h : PH w A H ow L) (g : Gd H) (cls : ByteArray) (hc : cls.size ≤ 16777216) (v : Vl) :
  Calls Tryz.prog 31 #[pv A, .string cls, v.v] w (HpR w A ow L (makeR (H.make cls v).2) (H.make cls v).1) := by
 have hb0 := two_low (w := w) 29 29 (Vl.cs v) (Vl.cs vundef)
 have HP := Lib.hid (h.low hb0)
 have HG := Lib.hid g
 have HPW := Lib.hid h
 have HB := Lib.hid hb0
 have HCS := Lib.hid hc
 have HR0 : Hid (Blk ((w.alloc (.cells (Vl.cs v).toArray 29)).alloc (.cells (Vl.cs vundef).toArray 29)) w.heap.size 29 v.cs ∧ Blk ((w.alloc (.cells (Vl.cs v).toArray 29)).alloc (.cells (Vl.cs vundef).toArray 29)) (w.heap.size + 1) 29 vundef.cs) := by
  obtain ⟨W0, e, h1, h2, -⟩ := two_new w 29 29 v.cs vundef.cs
  rw [← e] at h1 h2
  exact ⟨h1, h2⟩
 obtain ⟨r, HR⟩ : ∃ r, Hid (H.make cls v = r) := ⟨_, rfl⟩
 rw [HR.out]
 by_cases hm : H.most ≤ H.n
 ·have HV : Hid (H.make cls v = (H, none)) := by show Hs.make H cls v = _; unfold Hs.make; exact if_pos hm
  have HT := Lib.hid (take_none HP.out g hm)
  clear h g hc hb0 hm
  obtain ⟨vk, vn, vs⟩ := v
  simp only [Vl.v, Vl.cs, vundef, nil] at HP HB HR0 HT ⊢
  go_enter Tryz.func31, Tryz.ntmps31
  go_wp2_with fail
  refine HT.out.mono ?_
  rintro e w1 ⟨rfl, hb⟩
  have HP1 := Lib.hid (HP.out.low hb)
  have HB1 := Lib.hid (HB.out.trans (hb.mono HB.out.size))
  have HW1 := Lib.hid (HR0.out.2.low hb)
  clear hb HT HP HB HR0
  obtain ⟨d0, d1, d2⟩ := Blk.three (v := ⟨0, 0, ⟨#[]⟩⟩) HW1.out
  have z := HW1.out.fz
  dsimp only at d0 d1 d2
  go_wp2_with fail
  refine bodyPost_ret (res_vt rfl _ _ (w.heap.size + 1) vundef _ (by rfl) (by rfl) ?_) rfl ?_
  ·exact ((HW1.out.set 0 _).set 1 _).set 2 _
  ·rw [← HR.out, HV.out]
   exact ⟨rfl, ow, L, (Hch.below HPW.out ((((HB1.out).setCell (p := ⟨w.heap.size + 1, 0, none⟩) (Nat.le_succ _) _).setCell (p := ⟨w.heap.size + 1, 1, none⟩) (Nat.le_succ _) _).setCell (p := ⟨w.heap.size + 1, 2, none⟩) (Nat.le_succ _) _))⟩
 ·have HV : Hid (H.make cls v = ({ os := H.os ++ [⟨cls, H.at v, [], false, 0, true⟩], most := H.most, n := H.n + 1 }, some H.os.length)) := by show Hs.make H cls v = _; unfold Hs.make; exact if_neg hm
  have HT := Lib.hid (take_two HP.out g (by omega))
  have hA : A < w.heap.size := h.lt A (by rw [h.wA]; simp)
  have HA := Lib.hid hA
  have HFI := Lib.hid (fun (w' : World) (h' : PH w' A { H with n := H.n + 1 } ow L) => find_any h' v g.os100)
  clear h g hc hb0 hm hA
  obtain ⟨vk, vn, vs⟩ := v
  simp only [Vl.v, Vl.cs, vundef, nil] at HP HB HR0 HT HFI ⊢
  go_enter Tryz.func31, Tryz.ntmps31
  go_wp2_with fail
  refine HT.out.mono ?_
  rintro e w1 ⟨rfl, hp1, hf1⟩
  have HP1 : Hid (PH w1.drew A { H with n := H.n + 1 } ow L) := hp1.low (below_draw _)
  have HW0 : Hid (Blk w1.drew w.heap.size 29 [.int .i64 vk, .int .i64 vn, .string vs]) := (HR0.out.1.fr (hf1.block _ ⟨HR0.out.1.lt, by have := HA.out; omega⟩)).fr rfl
  have HW1 : Hid (Blk w1.drew (w.heap.size + 1) 29 [.int .i64 0, .int .i64 0, .string ⟨#[]⟩]) := (HR0.out.2.fr (hf1.block _ ⟨HR0.out.2.lt, by have := HA.out; omega⟩)).fr rfl
  have HF1 : Hid (Fr (fun k => k < w.heap.size ∧ k ≠ A) w w1.drew) := (((Fr.of HB.out fun k hk => hk.1).trans (hf1.mono fun k hk => ⟨Nat.lt_of_lt_of_le hk.1 HB.out.size, hk.2⟩))).drew
  have HSZ : Hid (w.heap.size + 2 ≤ w1.drew.heap.size) := by have := HW1.out.lt; show w.heap.size + 2 ≤ _; omega
  obtain ⟨ov, hov, hrow, hown⟩ := HP1.out.hb
  obtain ⟨A0, cap0, eov⟩ := row_len hrow
  have HOV := Lib.hid hov
  have HRW := Lib.hid hrow
  have HOW := Lib.hid hown
  have HEOV := Lib.hid eov
  have hs1 : (fun w' : World => w'.cell? ⟨A, 2, none⟩ = some (.slice A0 L.length cap0) ∧ w'.cell? ⟨w.heap.size, 0, none⟩ = some (.int .i64 vk) ∧ w'.cell? ⟨w.heap.size, 1, none⟩ = some (.int .i64 vn) ∧ w'.cell? ⟨w.heap.size, 2, none⟩ = some (.string vs)) w1.drew := ⟨by rw [← eov]; exact hov.cell (k := 2) rfl, HW0.out.cell (k := 0) rfl, HW0.out.cell (k := 1) rfl, HW0.out.cell (k := 2) rfl⟩
  clear hp1 hf1 hov hrow hown eov HT HP HB HR0
  go_wp2_with fail
  refine wp_region_held_drew (S := (fun w' : World => w'.cell? ⟨A, 2, none⟩ = some (.slice A0 L.length cap0) ∧ w'.cell? ⟨w.heap.size, 0, none⟩ = some (.int .i64 vk) ∧ w'.cell? ⟨w.heap.size, 1, none⟩ = some (.int .i64 vn) ∧ w'.cell? ⟨w.heap.size, 2, none⟩ = some (.string vs))) (by kernel_rfl) (hs1) (fun hHeld0 => ?_)
  generalize w1.drew = w2 at *
  refine tk 0 ?_ ‹_› ?_ ?_; rotate_left; focus (intro w0 hSw; obtain ⟨e0, e1, e2, e3⟩ := hSw; go_simp; try with_reducible rfl)
  refine tk 1 ?_ ‹_› ?_ ?_; rotate_left; focus (intro w0 hSw; obtain ⟨e0, e1, e2, e3⟩ := hSw; go_simp; try with_reducible rfl)
  refine tk 2 ?_ ‹_› ?_ ?_; rotate_left; focus (intro w0 hSw; obtain ⟨e0, e1, e2, e3⟩ := hSw; go_simp; try with_reducible rfl)
  refine tk 3 ?_ ‹_› ?_ ?_; rotate_left; focus (intro w0 hSw; obtain ⟨e0, e1, e2, e3⟩ := hSw; go_simp; try with_reducible rfl)
  refine tk 4 ?_ ‹_› ?_ ?_; rotate_left; focus (intro w0 hSw; obtain ⟨e0, e1, e2, e3⟩ := hSw; go_simp; try with_reducible rfl)
  refine tk 5 ?_ ‹_› ?_ ?_; rotate_left; focus (intro w0 hSw; obtain ⟨e0, e1, e2, e3⟩ := hSw; go_simp; try with_reducible rfl)
  refine tk 6 ?_ ‹_› ?_ ?_; rotate_left; focus (intro w0 hSw; obtain ⟨e0, e1, e2, e3⟩ := hSw; go_simp; try with_reducible rfl)
  refine tk 7 ?_ ‹_› ?_ ?_; rotate_left; focus (intro w0 hSw; obtain ⟨e0, e1, e2, e3⟩ := hSw; go_simp; try with_reducible rfl)
  refine tk 8 ?_ ‹_› ?_ ?_; rotate_left; focus (intro w0 hSw; obtain ⟨e0, e1, e2, e3⟩ := hSw; go_simp; try with_reducible rfl)
  try simp only [PT]
  refine wpAnyH_ready (rs := [9]) (by decide +kernel) (by simp) (AllReadyH.cons rfl (fun K hK => ?_) AllReadyH.nil)
  obtain ⟨qa, hqa⟩ : ∃ qa, ppv L (H.at ⟨vk, vn, vs⟩) = .pointer qa := by
   cases H.at ⟨vk, vn, vs⟩ with
   | none => exact ⟨none, rfl⟩
   | some j =>
    simp only [ppv]
    cases L[j]? with
    | none => exact ⟨none, rfl⟩
    | some y => exact ⟨_, rfl⟩
  have HFZ := HFI.out _ HP1.out
  have HQA := Lib.hid hqa
  rw [show ppv L (Hs.at { H with n := H.n + 1 } ⟨vk, vn, vs⟩) = .pointer qa from hqa] at HFZ
  clear hqa
  go_simp
  refine HFZ.mono ?_
  rintro e w3 ⟨rfl, hb3⟩
  have HP3 := Lib.hid (HP1.out.low hb3)
  have HB3 := Lib.hid hb3
  have HOV3 := Lib.hid (HOV.out.low hb3)
  have HW03 := Lib.hid (HW0.out.low hb3)
  have HW13 := Lib.hid (HW1.out.low hb3)
  have HRW3 : Hid (w3.ownsRow 0 76 1 ov L.length (L.map fun x => pv x.b)) := row_same HRW.out fun k e => hb3.block k (HRW.out.lt k e).2
  have hs3 : (fun w' : World => w'.cell? ⟨A, 2, none⟩ = some (.slice A0 L.length cap0) ∧ w'.cell? ⟨w.heap.size, 0, none⟩ = some (.int .i64 vk) ∧ w'.cell? ⟨w.heap.size, 1, none⟩ = some (.int .i64 vn) ∧ w'.cell? ⟨w.heap.size, 2, none⟩ = some (.string vs)) w3 := ⟨by rw [← HEOV.out]; exact HOV3.out.cell (k := 2) rfl, HW03.out.cell (k := 0) rfl, HW03.out.cell (k := 1) rfl, HW03.out.cell (k := 2) rfl⟩
  clear hb3 HFZ
  refine hK.out _ _ hs3 (fun hHeld1 => ?_)
  clear hK K hHeld0 
  try simp only [PT]
  refine wpAnyH_ready (rs := [10]) (by decide +kernel) (by simp) (AllReadyH.cons rfl (fun K hK => ?_) AllReadyH.nil)
  have hLL : L.length ≤ 100000 := by rw [HP3.out.len]; exact HG.out.os100
  have hwr : IntKind.i64.wrap ((L.length : Int) + 1) = (L.length : Int) + 1 := IntWalk.i64_in _ (by omega)
  have HN := newObject_any ((L.length : Int) + 1) cls qa w3 (by have := HCS.out; omega)
  go_simp
  refine HN.mono ?_
  rintro e w4 ⟨b, pm, im, rfl, hbare⟩
  have HBR := Lib.hid hbare
  have HP4 := Lib.hid (HP3.out.low hbare.low)
  have HOV4 := Lib.hid (HOV3.out.low hbare.low)
  have HW04 := Lib.hid (HW03.out.low hbare.low)
  have HW14 := Lib.hid (HW13.out.low hbare.low)
  have HRW4 : Hid (w4.ownsRow 0 76 1 ov L.length (L.map fun x => pv x.b)) := row_same HRW3.out fun k e => hbare.low.block k (HRW3.out.lt k e).2
  have hs4 : (fun w' : World => w'.cell? ⟨A, 2, none⟩ = some (.slice A0 L.length cap0) ∧ w'.cell? ⟨w.heap.size, 0, none⟩ = some (.int .i64 vk) ∧ w'.cell? ⟨w.heap.size, 1, none⟩ = some (.int .i64 vn) ∧ w'.cell? ⟨w.heap.size, 2, none⟩ = some (.string vs)) w4 := ⟨by rw [← HEOV.out]; exact HOV4.out.cell (k := 2) rfl, HW04.out.cell (k := 0) rfl, HW04.out.cell (k := 1) rfl, HW04.out.cell (k := 2) rfl⟩
  clear hbare hwr HN
  refine hK.out _ _ hs4 (fun hHeld2 => ?_)
  clear hK K hHeld1 
  try simp only [PT]
  refine tk 11 ?_ ‹_› ?_ ?_; rotate_left; focus (intro w0 hSw; go_simp; try with_reducible rfl)
  try simp only [PT]
  refine wpAnyH_done (by kernel_rfl) ?_ _
  clear hHeld2 hs1 hs3 hs4
  have c2 : w4.cell? ⟨A, 2, none⟩ = some (.slice A0 L.length cap0) := by rw [← HEOV.out]; exact HOV4.out.cell (k := 2) rfl
  have hbl := below_new w4 (.cells #[pv b] 76)
  have HBL := Lib.hid hbl
  have HRW5 : Hid ((w4.alloc (.cells #[pv b] 76)).ownsRow 0 76 1 (.slice A0 L.length cap0) L.length (L.map fun x => pv x.b)) := by rw [← HEOV.out]; exact row_same HRW4.out fun k e => hbl.block k (HRW4.out.lt k e).2
  have HOV5 := Lib.hid (HOV4.out.low hbl)
  have HNB := Lib.hid (Blk.new w4 76 [pv b])
  have hLL : L.length ≤ 100000 := by rw [HP4.out.len]; exact HG.out.os100
  clear hbl
  go_wp2_with (at_builtin; refine list_app1 rfl (.tmp 28) (.tmp 30) 65 76 _ 8 Tryz.underlying65 infoOp rfl (by decide) rfl 0 (.slice A0 L.length cap0) L.length _ (by rfl) HRW5.out w4.heap.size (pv b) (by rfl) (HNB.out.cell rfl) rfl (by omega) (Nat.zero_le _) ?_; intro nv w6 h1 h2 h3; obtain ⟨g6, cap6, rfl, -⟩ := row_form h1 (Nat.succ_pos _); have HR6 := Lib.hid h1; have HG6 := Lib.hid h2; have HV6 := Lib.hid h3; clear h1 h2 h3; have hOV6 := HOV5.out.fr (HG6.out.block A HOV5.out.lt (fun e => HOV5.out.ne_row HRW5.out (by decide) A e.symm rfl)); have c2' := hOV6.cell (k := 2) rfl; have z2' := hOV6.fz 2; have HOV6 := Lib.hid hOV6; clear hOV6)
  have hbl := HBR.out.ob
  obtain ⟨es1, cc1, hes1⟩ := HBR.out.mp.isMap
  obtain ⟨es2, cc2, hes2⟩ := HBR.out.mi.isMap
  have hAw : A < w.heap.size := HA.out
  have hsz := HSZ.out
  have hs23 := HB3.out.size
  have hs34 := HBR.out.low.size
  have hAx : ∀ k, w3.heap.size ≤ k → k ≠ A := fun k hk => by omega
  have HF47 : Hid (Fr (fun k => k < w4.heap.size ∧ k ≠ A ∧ ov.ownBlock ≠ some k) w4 (w6.setCell ⟨A, 2, none⟩ (.slice (some ⟨g6, 0, none⟩) (L.length + 1) cap6))) := (((Fr.of HBL.out fun k hk => hk.1).grown (fun k hk => hk.1) HG6.out fun k e hk => hk.2.2 (by rw [HEOV.out]; exact e)).setCell (p := ⟨A, 2, none⟩) (fun hk => hk.2.1 rfl) _)
  have kb : b < w4.heap.size ∧ b ≠ A ∧ ov.ownBlock ≠ some b := ⟨hbl.lt, hAx b HBR.out.lo.1, fun e => hbl.ne_row HRW4.out (by decide) b e rfl⟩
  have kp : pm < w4.heap.size ∧ pm ≠ A ∧ ov.ownBlock ≠ some pm := ⟨HBR.out.mp.lt, hAx pm HBR.out.lo.2.1, row_ne_map HRW4.out hes1⟩
  have ki : im < w4.heap.size ∧ im ≠ A ∧ ov.ownBlock ≠ some im := ⟨HBR.out.mi.lt, hAx im HBR.out.lo.2.2, row_ne_map HRW4.out hes2⟩
  have k1 : w.heap.size + 1 < w4.heap.size ∧ w.heap.size + 1 ≠ A ∧ ov.ownBlock ≠ some (w.heap.size + 1) := ⟨HW14.out.lt, by omega, fun e => HW14.out.ne_row HRW4.out (by decide) _ e rfl⟩
  have HB7 := Lib.hid (hbl.fr (HF47.out.block b kb))
  have HM7 := Lib.hid (HBR.out.mp.fr (HF47.out.block pm kp))
  have HI7 := Lib.hid (HBR.out.mi.fr (HF47.out.block im ki))
  have HP17 := Lib.hid (HW14.out.fr (HF47.out.block _ k1))
  have HOV7 := Lib.hid (HOV6.out.set 2 (.slice (some ⟨g6, 0, none⟩) (L.length + 1) cap6))
  have HR7 : Hid ((w6.setCell ⟨A, 2, none⟩ (.slice (some ⟨g6, 0, none⟩) (L.length + 1) cap6)).ownsRow 0 76 1 (.slice (some ⟨g6, 0, none⟩) (L.length + 1) cap6) (L.length + 1) (L.map (fun x => pv x.b) ++ [pv b])) := row_same HR6.out fun k e => Below.heap_setCell _ _ _ _ (fun e2 => HOV6.out.ne_row HR6.out (by decide) k e e2.symm)
  have hV := value_any (bare_at (i := L.length) HB7.out HM7.out HI7.out HBR.out.ne (fun _ => some (L.length + 1)) rfl rfl rfl (H.n + 1) (H.at ⟨vk, vn, vs⟩))
  simp only [ref, Vl.v, nil] at hV
  have HVV := Lib.hid hV
  have KK := Lib.hid (show b ≠ w.heap.size + 1 ∧ pm ≠ w.heap.size + 1 ∧ im ≠ w.heap.size + 1 from ⟨by have := HBR.out.lo.1; omega, by have := HBR.out.lo.2.1; omega, by have := HBR.out.lo.2.2; omega⟩)
  have HF07 : Hid (Fr (fun k => k < w.heap.size ∧ k ≠ A ∧ ov.ownBlock ≠ some k) w (w6.setCell ⟨A, 2, none⟩ (.slice (some ⟨g6, 0, none⟩) (L.length + 1) cap6))) := (((HF1.out.mono fun k hk => ⟨hk.1, hk.2.1⟩).trans (Fr.of HB3.out fun k hk => by have := hk.1; omega)).trans (Fr.of HBR.out.low fun k hk => by have := hk.1; omega)).trans (HF47.out.mono fun k hk => ⟨by have := hk.1; omega, hk.2⟩)
  have HLO : Hid (w.heap.size ≤ b ∧ w.heap.size ≤ pm ∧ w.heap.size ≤ im) := ⟨by have := HBR.out.lo.1; omega, by have := HBR.out.lo.2.1; omega, by have := HBR.out.lo.2.2; omega⟩
  have HNX : Hid (∀ k, ((.slice (some ⟨g6, 0, none⟩) (L.length + 1) cap6) : Value).ownBlock = some k → ow k = some 0 ∨ w.heap.size ≤ k) := fun k e => by
   rcases HV6.out with e2 | e2
   ·rw [e2] at e
    exact .inl (HOW.out k (by rw [HEOV.out]; exact e))
   ·rw [e2] at e
    cases e
    right
    have := HBL.out.size
    omega
  have hne := HBR.out.ne
  clear kb kp ki k1 hbl hV HF47 HG6 HV6 HR6 HOV6 HBR HBL HNB HRW5 HOV5 HRW4 HOV4 HW04 HW14 HP4 hes1 hes2 c2 c2' z2'
  generalize (w6.setCell ⟨A, 2, none⟩ (.slice (some ⟨g6, 0, none⟩) (L.length + 1) cap6)) = w7 at *
  refine HVV.out.mono ?_
  rintro e w8 ⟨rfl, hb8⟩
  have HP18 := Lib.hid (HP17.out.low hb8)
  have HB8 := Lib.hid hb8
  obtain ⟨d0, d1, d2⟩ := Blk.three (v := ⟨0, 0, ⟨#[]⟩⟩) HP18.out
  have z8 := HP18.out.fz
  dsimp only at d0 d1 d2
  clear hb8
  go_wp2_with fail
  refine bodyPost_ret (res_vt rfl _ _ (w.heap.size + 1) (ref L.length) _ (by rfl) (by rfl) ?_) rfl ?_
  ·exact ((HP18.out.set 0 _).set 1 _).set 2 _
  ·rw [← HR.out, HV.out]
   refine ⟨by show _ = Ending.returned (.tuple #[(ref H.os.length).v, .bool true]); rw [← HPW.out.len]; rfl, ?_⟩
   have hf89 := (((Fr.refl (fun k => k ≠ w.heap.size + 1) w8).setCell (p := ⟨w.heap.size + 1, 0, none⟩) (fun hk => hk rfl) (.int .i64 7)).setCell (p := ⟨w.heap.size + 1, 1, none⟩) (fun hk => hk rfl) (.int .i64 ((L.length : Int) + 1))).setCell (p := ⟨w.heap.size + 1, 2, none⟩) (fun hk => hk rfl) (.string ⟨#[]⟩)
   have hf79 := (Fr.of (F := fun k => k < w7.heap.size ∧ k ≠ w.heap.size + 1) HB8.out fun k hk => hk.1).trans (hf89.mono fun k hk => hk.2)
   have hf09 := HF07.out.trans (hf79.mono fun k hk => ⟨Nat.lt_of_lt_of_le hk.1 HF07.out.size, by have := hk.1; omega⟩)
   have kk := KK.out
   have hAw := HA.out
   have n1 : A ≠ w.heap.size + 1 := by omega
   exact HPW.out.snoc HG.out (q := H.at ⟨vk, vn, vs⟩) (fun p hp => by rw [HPW.out.len]; exact at_lt hp) (HOV7.out.fr (hf79.block A ⟨HOV7.out.lt, n1⟩)) (Nat.le_succ _) (row_same HR7.out fun k e => hf79.block k ⟨(HR7.out.lt k e).2, fun e2 => HP17.out.ne_row HR7.out (by decide) k e e2.symm⟩) HNX.out HLO.out (fun ow' h1 h2 h3 => bare_at (by rw [HQA.out]; exact HB7.out.fr (hf79.block b ⟨HB7.out.lt, kk.1⟩)) (HM7.out.fr (hf79.block pm ⟨HM7.out.lt, kk.2.1⟩)) (HI7.out.fr (hf79.block im ⟨HI7.out.lt, kk.2.2⟩)) hne ow' h1 h2 h3 (H.n + 1) _) (fun k r e hr => hf09.block k ⟨HPW.out.lt k (by rw [e]; simp), (fun e2 => by rw [e2, HPW.out.wA] at e; exact hr (Option.some.inj e).symm), fun e2 => by rw [HOW.out k e2] at e; exact hr (Option.some.inj e).symm⟩) (hf09.mono fun k hk => ⟨hk.1, (fun e => by have h2 := hk.2; rw [e, HPW.out.wA] at h2; cases h2), (fun e => by have h2 := hk.2; rw [HOW.out k e] at h2; cases h2)⟩)
end
def Vls (w : World) (sl : Value) (l : List Vl) (bk : Nat) : Prop := ∃ A c, sl = .slice A l.length c ∧ ∀ j v, l[j]? = some v → ∃ q, A = some ⟨bk, q, none⟩ ∧ w.cell? ⟨bk, q + j * 3, none⟩ = some (.int .i64 v.k) ∧ w.cell? ⟨bk, q + j * 3 + 1, none⟩ = some (.int .i64 v.n) ∧ w.cell? ⟨bk, q + j * 3 + 2, none⟩ = some (.string v.s)
theorem Vls.fr {w w' : World} {sl : Value} {l : List Vl} {bk : Nat} (h : Vls w sl l bk) (hb : w'.heap[bk]? = w.heap[bk]?) : Vls w' sl l bk := by
 obtain ⟨A, c, e, h⟩ := h
 refine ⟨A, c, e, fun j v hj => ?_⟩
 obtain ⟨q, e1, e2, e3, e4⟩ := h j v hj
 exact ⟨q, e1, (World.cell?_of_block (a := ⟨bk, _, none⟩) hb).trans e2, (World.cell?_of_block (a := ⟨bk, _, none⟩) hb).trans e3, (World.cell?_of_block (a := ⟨bk, _, none⟩) hb).trans e4⟩
def pre (l : List Vl) (j : Nat) : List Pr := (l.take j).mapIdx fun i x => (⟨dx i, x, true, true, true⟩ : Pr)
def arrO (H : Hs) (v : Vl) (l : List Vl) (j : Nat) : Ob := ⟨AR, H.at v, pre l j, false, j, true⟩
def arrH (H : Hs) (v : Vl) (l : List Vl) (j : Nat) : Hs := { os := H.os ++ [arrO H v l j], most := H.most, n := H.n + (j + 1) }
theorem pre_len (l : List Vl) {j : Nat} (hj : j ≤ l.length) : (pre l j).length = j := by
 unfold pre
 rw [List.length_mapIdx, List.length_take]
 omega
theorem pre_next (l : List Vl) {j : Nat} (hj : j < l.length) : pre l (j + 1) = pre l j ++ [⟨dx j, l[j], true, true, true⟩] := by
 unfold pre
 rw [List.take_succ_eq_append_getElem hj, List.mapIdx_append, List.mapIdx_cons, List.mapIdx_nil, List.length_take, Nat.min_eq_left (Nat.le_of_lt hj), Nat.zero_add]
theorem pre_no (l : List Vl) (j : Nat) : (pre l j).findIdx? (has (dx j)) = none := by
 rw [List.findIdx?_eq_none_iff]
 intro p hp
 unfold pre at hp
 rw [List.mem_mapIdx] at hp
 obtain ⟨i, hi, rfl⟩ := hp
 have hij : i < j := by
  rw [List.length_take] at hi
  omega
 exact decide_eq_false fun e => by
  have := dx_inj e
  omega
theorem arr_gd {H : Hs} (g : Gd H) (v : Vl) {l : List Vl} (hl : ∀ x ∈ l, Sv x) {j : Nat} (hj : j ≤ l.length) (h1 : l.length ≤ 1000) (h2 : H.n + (l.length + 1) ≤ H.most) : Gd (arrH H v l j) := by
 have hlen : (l.take j).length = j := by rw [List.length_take]; omega
 have := gd_array g v (l := l.take j) (fun x hx => hl x (List.mem_of_mem_take hx))
 unfold Hs.array at this
 rw [hlen, if_neg (by omega)] at this
 exact this
theorem arr_add {H : Hs} (v : Vl) {l : List Vl} {j : Nat} (hj : j < l.length) (h1 : l.length ≤ 1000) (h2 : H.n + (l.length + 1) ≤ H.most) :
  (arrH H v l j).add ix AR H.os.length (arrO H v l j) ⟨dx j, l[j], true, true, true⟩ = (arrH H v l (j + 1), 0) := by
 have hix : ix (dx j) = some j := ix_dx j (by omega)
 have hia : (arrO H v l j).ixA ix AR (dx j) = some j := by
  unfold Ob.ixA
  exact (if_pos rfl).trans hix
 have hbar : (arrO H v l j).bar ix AR (dx j) = 0 := by
  unfold Ob.bar
  rw [hia]
  show (if false = true then (110 : Int) else if 1000 ≤ j then 100 else if j ≤ j ∧ true = false then 110 else 0) = 0
  rw [if_neg (by simp), if_neg (by omega), if_neg (by simp)]
 unfold Hs.add
 rw [show Pr.key ⟨dx j, l[j], true, true, true⟩ = dx j from rfl, hbar, if_neg (by decide), if_neg (by show ¬ H.most ≤ H.n + (j + 1); omega)]
 have hmore : (arrO H v l j).more ix AR ⟨dx j, l[j], true, true, true⟩ = arrO H v l (j + 1) := by
  unfold Ob.more
  rw [show Pr.key ⟨dx j, l[j], true, true, true⟩ = dx j from rfl, hia]
  unfold arrO
  simp only [pre_next l hj, Ob.mk.injEq, true_and, and_true]
  omega
 rw [hmore]
 simp only [arrH, Hs.set, Prod.mk.injEq, and_true, Hs.mk.injEq, true_and]
 refine ⟨?_, by omega⟩
 rw [List.set_append_right _ _ (Nat.le_refl _), Nat.sub_self]
 rfl
theorem array_yes {H : Hs} (v : Vl) {l : List Vl} (h1 : l.length ≤ 1000) (h2 : H.n + (l.length + 1) ≤ H.most) : H.array dx AR v l = (arrH H v l l.length, some H.os.length) := by
 unfold Hs.array
 rw [if_neg (by omega)]
 unfold arrH arrO pre
 rw [List.take_length]
theorem array_no {H : Hs} (v : Vl) {l : List Vl} (h : 1000 < l.length ∨ H.most < H.n + (l.length + 1)) : H.array dx AR v l = (H, none) := by
 unfold Hs.array
 rw [if_pos h]
theorem AR_is : AR = ⟨#[65, 114, 114, 97, 121]⟩ := rfl
section
variable {w w1 w2 : World} {ow ow1 ow2 : Nat → Option Nat} {i A : Nat} {H H1 H2 : Hs} {L L1 L2 : List OL} {o o1 : Ob} {x : OL} {p : Pr}
theorem Hch.aside (h : Hch w A ow L H1 w1 ow1 L1) {P : Nat} (hP : ow1 P = none) (hw : w.heap.size ≤ P) (f : Fr (fun k => k ≠ P) w1 w2) : Hch w A ow L H1 w2 ow1 L1 :=
 ⟨h.ph.keep f fun k hk e => hk (by rw [e]; exact hP), h.new, h.fr.trans (f.mono fun k hk => by have := hk.1; omega), h.lb⟩
theorem Hch.out (h : Hch w A ow L H1 w1 ow1 L1) {k : Nat} (h1 : k < w.heap.size) (h2 : ow k = none) : ow1 k = none := by
 cases e : ow1 k with
 | none => rfl
 | some r =>
  rcases h.new k (by rw [e]; simp) with e2 | e2
  ·exact absurd h2 e2
  ·omega
theorem Hch.kept (h : Hch w A ow L H1 w1 ow1 L1) {k : Nat} (h1 : k < w.heap.size) (h2 : ow k = none) : w1.heap[k]? = w.heap[k]? := h.fr.block k ⟨h1, h2⟩
theorem Hch.nth (h : Hch w A ow L H1 w1 ow1 L1) {x : OL} (hx : L[i]? = some x) : ∃ x', L1[i]? = some x' ∧ x'.b = x.b := by
 obtain ⟨l, hl⟩ := h.lb
 have h1 : (L1.map (·.b))[i]? = some x.b := by
  rw [hl, List.getElem?_append_left (by rw [List.length_map]; exact (List.getElem?_eq_some_iff.1 hx).1), List.getElem?_map, hx]
  rfl
 rw [List.getElem?_map] at h1
 exact Option.map_eq_some_iff.1 h1
theorem at_ref {H : Hs} {i : Nat} (hi : i < H.os.length) : H.at (ref i) = some i := by
 unfold Hs.at
 rw [if_pos ⟨rfl, rfl, by show (1 : Int) ≤ (i : Int) + 1; omega, by show (i : Int) + 1 ≤ _; omega⟩]
 show some (((i : Int) + 1 - 1).toNat) = _
 congr 1
 omega
set_option maxRecDepth 8000 in
set_option maxHeartbeats 2000000 in
theorem array_any (h : PH w A H ow L) (g : Gd H) (v : Vl) (l : List Vl) (hl : ∀ x ∈ l, Sv x) {sl : Value} {bk : Nat} (hv : Vls w sl l bk) (hbk : bk < w.heap.size ∧ ow bk = none) (hT : Tab w) (hTo : ow 0 = none) (hll : l.length ≤ 4194304) :
  Calls Tryz.prog 26 #[pv A, v.v, sl] w (HpR w A ow L (makeR (H.array dx AR v l).2) (H.array dx AR v l).1) := by
 have hb0 := two_low (w := w) 29 29 (Vl.cs v) (Vl.cs vundef)
 have HP := Lib.hid (h.low hb0)
 have HG := Lib.hid g
 have HPW := Lib.hid h
 have HB := Lib.hid hb0
 have HSL := Lib.hid hl
 have HBK := Lib.hid hbk
 have HTO := Lib.hid hTo
 have HT0 := Lib.hid (hT.below hb0)
 have HVS := Lib.hid (hv.fr (hb0.block bk hbk.1))
 have HLL := Lib.hid hll
 have HR0 : Hid (Blk ((w.alloc (.cells (Vl.cs v).toArray 29)).alloc (.cells (Vl.cs vundef).toArray 29)) w.heap.size 29 v.cs ∧ Blk ((w.alloc (.cells (Vl.cs v).toArray 29)).alloc (.cells (Vl.cs vundef).toArray 29)) (w.heap.size + 1) 29 vundef.cs) := by
  obtain ⟨W0, e, h1, h2, -⟩ := two_new w 29 29 v.cs vundef.cs
  rw [← e] at h1 h2
  exact ⟨h1, h2⟩
 have HLF := Lib.hid (left_any HP.out g.ok.le g.mx)
 have hmx := g.mx
 have hle := g.ok.le
 obtain ⟨A0, c0, hsl, -⟩ := id hv
 obtain ⟨r, HR⟩ : ∃ r, Hid (H.array dx AR v l = r) := ⟨_, rfl⟩
 rw [HR.out, hsl]
 have HSE := Lib.hid hsl
 clear h g hb0 hl hv hbk hT hTo hsl
 obtain ⟨vk, vn, vs⟩ := v
 simp only [Vl.v, Vl.cs, vundef, nil] at HP HB HR0 HLF HT0 HVS ⊢
 obtain ⟨d0, d1, d2⟩ := Blk.three (v := ⟨0, 0, ⟨#[]⟩⟩) HR0.out.2
 have z := HR0.out.2.fz
 dsimp only at d0 d1 d2
 by_cases hbig : 1000 < l.length
 ·have HV := Lib.hid (array_no (H := H) ⟨vk, vn, vs⟩ (l := l) (.inl hbig))
  have hbi : (1000 : Int) < (l.length : Int) := by omega
  clear HLF
  go_enter Tryz.func26, Tryz.ntmps26
  go_wp2_with fail
  refine bodyPost_ret (res_vt rfl _ _ (w.heap.size + 1) vundef _ (by rfl) (by rfl) ?_) rfl ?_
  ·exact HR0.out.2
  ·rw [← HR.out, HV.out]
   exact ⟨rfl, ow, L, Hch.below HPW.out HB.out⟩
 ·have hbi : ¬ (1000 : Int) < (l.length : Int) := by omega
  by_cases hmo : H.most < H.n + (l.length + 1)
  ·have HV := Lib.hid (array_no (H := H) ⟨vk, vn, vs⟩ (l := l) (.inr hmo))
   have hmi : (H.most : Int) - (H.n : Int) ≤ (l.length : Int) := by omega
   clear d0 d1 d2 z
   go_enter Tryz.func26, Tryz.ntmps26
   go_wp2_with fail
   refine HLF.out.mono ?_
   rintro e w1 ⟨rfl, hb⟩
   have HB1 := Lib.hid (HB.out.trans (hb.mono HB.out.size))
   have HW1 := Lib.hid (HR0.out.2.low hb)
   obtain ⟨d0, d1, d2⟩ := Blk.three (v := ⟨0, 0, ⟨#[]⟩⟩) HW1.out
   have z := HW1.out.fz
   dsimp only at d0 d1 d2
   clear hb
   go_wp2_with fail
   refine bodyPost_ret (res_vt rfl _ _ (w.heap.size + 1) vundef _ (by rfl) (by rfl) ?_) rfl ?_
   ·exact ((HW1.out.set 0 _).set 1 _).set 2 _
   ·rw [← HR.out, HV.out]
    exact ⟨rfl, ow, L, (Hch.below HPW.out ((((HB1.out).setCell (p := ⟨w.heap.size + 1, 0, none⟩) (Nat.le_succ _) _).setCell (p := ⟨w.heap.size + 1, 1, none⟩) (Nat.le_succ _) _).setCell (p := ⟨w.heap.size + 1, 2, none⟩) (Nat.le_succ _) _))⟩
  ·have HV := Lib.hid (array_yes (H := H) ⟨vk, vn, vs⟩ (l := l) (by omega) (by omega))
   have hmi : ¬ (H.most : Int) - (H.n : Int) ≤ (l.length : Int) := by omega
   clear d0 d1 d2 z
   go_enter Tryz.func26, Tryz.ntmps26
   go_wp2_with fail
   refine HLF.out.mono ?_
   rintro e w1 ⟨rfl, hb⟩
   have HP1 := Lib.hid (HP.out.low hb)
   have HB1 := Lib.hid (HB.out.trans (hb.mono HB.out.size))
   have HW01 := Lib.hid (HR0.out.1.low hb)
   have HW11 := Lib.hid (HR0.out.2.low hb)
   have HT1 := Lib.hid (HT0.out.below hb)
   have HVS1 := Lib.hid (HVS.out.fr (hb.block bk (Nat.lt_of_lt_of_le HBK.out.1 HB.out.size)))
   have HMK := Lib.hid (make_any HP1.out HG.out AR (by decide) ⟨vk, vn, vs⟩)
   rw [show (H.make AR ⟨vk, vn, vs⟩) = (arrH H ⟨vk, vn, vs⟩ l 0, some H.os.length) from if_neg (by omega)] at HMK
   simp only [makeR, ref, Vl.v, nil, AR_is] at HMK
   obtain ⟨d0, d1, d2⟩ := Blk.three (v := ⟨vk, vn, vs⟩) HW01.out
   dsimp only at d0 d1 d2
   clear hb HLF HP HB HR0 HT0 HVS
   go_wp2_with fail
   refine HMK.out.mono ?_
   rintro e w2 ⟨rfl, ow2, L2, hc⟩
   have HC := Lib.hid hc
   clear hc
   have hlen2 : L2.length = H.os.length + 1 := by rw [HC.out.ph.len]; show (H.os ++ [_]).length = _; rw [List.length_append]; rfl
   obtain ⟨x0, hx0⟩ : ∃ x0, L2[H.os.length]? = some x0 := ⟨L2[H.os.length]'(by omega), List.getElem?_eq_getElem _⟩
   have hbm := below_new w2 (.cells #[.int .i64 7, .int .i64 ((H.os.length : Int) + 1), .string ⟨#[]⟩] 29)
   have HFD := Lib.hid (find_any (HC.out.ph.low hbm) (ref H.os.length) (arr_gd HG.out ⟨vk, vn, vs⟩ HSL.out (j := 0) (Nat.zero_le _) (by omega) (by omega)).os100)
   rw [at_ref (H := arrH H ⟨vk, vn, vs⟩ l 0) (by show _ < (H.os ++ [_]).length; rw [List.length_append]; exact Nat.lt_succ_self _), show ppv L2 (some H.os.length) = pv x0.b by simp only [ppv, hx0]] at HFD
   simp only [ref, Vl.v, nil] at HFD
   have HX0 := Lib.hid hx0
   have HP8 := Lib.hid (Blk.new w2 29 [.int .i64 7, .int .i64 ((H.os.length : Int) + 1), .string ⟨#[]⟩])
   have HBM := Lib.hid hbm
   clear hx0 hbm hlen2 d0 d1 d2
   go_wp2_with fail
   refine HFD.out.mono ?_
   rintro e w4 ⟨rfl, hb4⟩
   have hbm2 := HBM.out.trans (hb4.mono HBM.out.size)
   have HPH4 := Lib.hid (HC.out.ph.low hbm2)
   have HP84 := Lib.hid (HP8.out.low hb4)
   have ho1 : ∀ k, w.heap.size ≤ k → ow k = none := fun k hk => by
    cases e : ow k with
    | none => rfl
    | some r => exact absurd (HPW.out.lt k (by rw [e]; simp)) (by omega)
   have hn2 : ∀ k, k < w1.heap.size → ow k = none → ow2 k = none := fun k h1 h2 => HC.out.out h1 h2
   have hk2 : ∀ k, k < w1.heap.size → ow k = none → w4.heap[k]? = w1.heap[k]? := fun k h1 h2 => (hbm2.block k (Nat.lt_of_lt_of_le h1 HC.out.fr.size)).trans (HC.out.kept h1 h2)
   have hwl : w.heap.size ≤ w1.heap.size := HB1.out.size
   have HP14 : Hid (Blk w4 (w.heap.size + 1) 29 [.int .i64 0, .int .i64 0, .string ⟨#[]⟩] ∧ ow2 (w.heap.size + 1) = none) := ⟨HW11.out.fr (hk2 _ HW11.out.lt (ho1 _ (by omega))), hn2 _ HW11.out.lt (ho1 _ (by omega))⟩
   have HVS4 : Hid (Vls w4 sl l bk ∧ ow2 bk = none ∧ bk < w4.heap.size) := ⟨HVS1.out.fr (hk2 bk (by have := HBK.out.1; omega) HBK.out.2), hn2 bk (by have := HBK.out.1; omega) HBK.out.2, by have := HBK.out.1; have := HC.out.fr.size; have := hbm2.size; omega⟩
   have HT4 : Hid (Tab w4 ∧ ow2 0 = none ∧ 0 < w4.heap.size) := ⟨HT1.out.same (hk2 _ HT1.out.lt HTO.out), hn2 _ HT1.out.lt HTO.out, by have := HT1.out.lt; have := HC.out.fr.size; have := hbm2.size; omega⟩
   have HO8 : Hid (ow2 w2.heap.size = none) := by
    show ow2 w2.heap.size = none
    cases e : ow2 w2.heap.size with
    | none => rfl
    | some r => exact absurd (HC.out.ph.lt _ (by rw [e]; simp)) (by omega)
   have HC4 : Hid (∀ ow' L' wr, Hch w4 A ow2 L2 (arrH H ⟨vk, vn, vs⟩ l l.length) wr ow' L' → Hch w A ow L (arrH H ⟨vk, vn, vs⟩ l l.length) wr ow' L') := fun ow' L' wr hh => ((HC.out.trans ⟨HPH4.out, fun _ e => .inl e, Fr.of hbm2 fun k hk => hk.1, [], by simp⟩).trans hh).low HB1.out
   clear hb4 hbm2 ho1 hn2 hk2 hwl HFD HMK HC HBM HP8 HP1 HW01 HW11 HT1 HVS1
   go_wp2_with fail
   go_loopw [35] (fun v wr => ∃ (j : Nat) (ow' : Nat → Option Nat) (L' : List OL), v = .int .i64 (j : Int) ∧ j ≤ l.length ∧ Hid (Hch w4 A ow2 L2 (arrH H ⟨vk, vn, vs⟩ l j) wr ow' L')) (fun v _ => l.length - (intOf v).toNat)
   case atStart => exact ⟨0, ow2, L2, rfl, Nat.zero_le _, Lib.hid (Hch.self HPH4.out)⟩
   case round =>
    obtain ⟨j, ow', L', rfl, hj, HCR⟩ := hrel
    by_cases hlt : j < l.length
    ·have hjl : (j : Int) < (l.length : Int) := by omega
     obtain ⟨x', hx', hxb⟩ := HCR.out.nth HX0.out
     obtain ⟨A1, c1, esl, hcl⟩ := HVS4.out.1.fr (HCR.out.kept HVS4.out.2.2 HVS4.out.2.1)
     obtain ⟨q, hq, e1, e2, e3⟩ := hcl j l[j] (List.getElem?_eq_getElem hlt)
     have hA0 : A0 = some ⟨bk, q, none⟩ := by
      have := HSE.out.symm.trans esl
      injection this with h1 _ _
      rw [h1, hq]
     subst hA0
     have hxs : Sv l[j] := HSL.out _ (List.getElem_mem hlt)
     have HGJ := Lib.hid (arr_gd HG.out ⟨vk, vn, vs⟩ HSL.out (j := j) hj (by omega) (by omega))
     have HAJ := Lib.hid (arr_add (H := H) ⟨vk, vn, vs⟩ hlt (by omega) (by omega))
     have HNO := Lib.hid (pre_no l j)
     obtain ⟨y, HY⟩ : ∃ y, Hid (l[j] = y) := ⟨l[j], Lib.hid rfl⟩
     rw [HY.out] at e1 e2 e3 HAJ hxs
     have HXS := Lib.hid hxs
     have HXB := Lib.hid hxb
     have HX' := Lib.hid hx'
     obtain ⟨yk, yn, ys⟩ := y
     dsimp only at e1 e2 e3
     have hba := below_new wr (.cells #[.int .i64 yk, .int .i64 yn, .string ys] 29)
     have HY0 := Lib.hid (Blk.new wr 29 [.int .i64 yk, .int .i64 yn, .string ys])
     have hsJ : (fun w' : World => w'.cell? ⟨wr.heap.size, 0, none⟩ = some (.int .i64 yk) ∧ w'.cell? ⟨wr.heap.size, 1, none⟩ = some (.int .i64 yn) ∧ w'.cell? ⟨wr.heap.size, 2, none⟩ = some (.string ys)) (wr.alloc (.cells #[.int .i64 yk, .int .i64 yn, .string ys] 29)).drew := ⟨(HY0.out.fr (w' := (wr.alloc (.cells #[.int .i64 yk, .int .i64 yn, .string ys] 29)).drew) rfl).cell (k := 0) rfl, (HY0.out.fr (w' := (wr.alloc (.cells #[.int .i64 yk, .int .i64 yn, .string ys] 29)).drew) rfl).cell (k := 1) rfl, (HY0.out.fr (w' := (wr.alloc (.cells #[.int .i64 yk, .int .i64 yn, .string ys] 29)).drew) rfl).cell (k := 2) rfl⟩
     have HPJ : Hid (PH (wr.alloc (.cells #[.int .i64 yk, .int .i64 yn, .string ys] 29)).drew A (arrH H ⟨vk, vn, vs⟩ l j) ow' L') := (HCR.out.ph.low hba).low (below_draw _)
     have HTJ : Hid (Tab (wr.alloc (.cells #[.int .i64 yk, .int .i64 yn, .string ys] 29)).drew) := ((HT4.out.1.same (HCR.out.kept HT4.out.2.2 HT4.out.2.1)).below hba).below (below_draw _)
     have HBJ : Hid (Below wr.heap.size wr (wr.alloc (.cells #[.int .i64 yk, .int .i64 yn, .string ys] 29)).drew) := hba.drew
     have HYJ := Lib.hid (HY0.out.fr (w' := (wr.alloc (.cells #[.int .i64 yk, .int .i64 yn, .string ys] 29)).drew) rfl)
     have HOJ : Hid (ow' wr.heap.size = none) := by
      show ow' wr.heap.size = none
      cases e : ow' wr.heap.size with
      | none => rfl
      | some r => exact absurd (HCR.out.ph.lt _ (by rw [e]; simp)) (by omega)
     clear hcl hxs hxb hx' hba HY0
     go_wp2_with fail
     refine wp_region_held_drew (S := (fun w' : World => w'.cell? ⟨wr.heap.size, 0, none⟩ = some (.int .i64 yk) ∧ w'.cell? ⟨wr.heap.size, 1, none⟩ = some (.int .i64 yn) ∧ w'.cell? ⟨wr.heap.size, 2, none⟩ = some (.string ys))) (by kernel_rfl) (hsJ) (fun hHeld0 => ?_)
     generalize (wr.alloc (.cells #[.int .i64 yk, .int .i64 yn, .string ys] 29)).drew = v1 at *
     refine tk 0 ?_ ‹_› ?_ ?_; rotate_left; focus (intro w0 hSw; obtain ⟨e0, e1, e2⟩ := hSw; go_simp; try with_reducible rfl)
     refine tk 1 ?_ ‹_› ?_ ?_; rotate_left; focus (intro w0 hSw; obtain ⟨e0, e1, e2⟩ := hSw; go_simp; try with_reducible rfl)
     refine tk 2 ?_ ‹_› ?_ ?_; rotate_left; focus (intro w0 hSw; obtain ⟨e0, e1, e2⟩ := hSw; go_simp; try with_reducible rfl)
     refine tk 4 ?_ ‹_› ?_ ?_; rotate_left; focus (intro w0 hSw; obtain ⟨e0, e1, e2⟩ := hSw; go_simp; try with_reducible rfl)
     try simp only [PT]
     refine wpAnyH_ready (rs := [3]) (by decide +kernel) (by simp) (AllReadyH.cons rfl (fun K hK => ?_) AllReadyH.nil)
     have hKX := indexKey_any j (by omega) v1 HTJ.out
     go_simp
     refine hKX.mono ?_
     rintro e v2 ⟨rfl, hb⟩
     have HPJ2 := Lib.hid (HPJ.out.low hb)
     have HBJ2 := Lib.hid (HBJ.out.trans (hb.mono HBJ.out.size))
     have HYJ2 := Lib.hid (HYJ.out.low hb)
     have hs2 : (fun w' : World => w'.cell? ⟨wr.heap.size, 0, none⟩ = some (.int .i64 yk) ∧ w'.cell? ⟨wr.heap.size, 1, none⟩ = some (.int .i64 yn) ∧ w'.cell? ⟨wr.heap.size, 2, none⟩ = some (.string ys)) v2 := ⟨HYJ2.out.cell (k := 0) rfl, HYJ2.out.cell (k := 1) rfl, HYJ2.out.cell (k := 2) rfl⟩
     clear hb hKX HPJ HYJ HTJ
     refine hK.out _ _ hs2 (fun hHeld1 => ?_)
     clear hK K hHeld0 
     try simp only [PT]
     refine wpAnyH_ready (rs := [5]) (by decide +kernel) (by simp) (AllReadyH.cons rfl (fun K hK => ?_) AllReadyH.nil)
     have hPl := plain_any (dx j) ⟨yk, yn, ys⟩ v2
     simp only [Vl.v] at hPl
     go_simp
     refine hPl.mono ?_
     rintro e v3 ⟨rfl, hb⟩
     have HPJ3 := Lib.hid (HPJ2.out.low hb)
     have HBJ3 := Lib.hid (HBJ2.out.trans (hb.mono HBJ2.out.size))
     have HYJ3 := Lib.hid (HYJ2.out.low hb)
     have hs3 : (fun w' : World => w'.cell? ⟨wr.heap.size, 0, none⟩ = some (.int .i64 yk) ∧ w'.cell? ⟨wr.heap.size, 1, none⟩ = some (.int .i64 yn) ∧ w'.cell? ⟨wr.heap.size, 2, none⟩ = some (.string ys)) v3 := ⟨HYJ3.out.cell (k := 0) rfl, HYJ3.out.cell (k := 1) rfl, HYJ3.out.cell (k := 2) rfl⟩
     clear hb hPl HPJ2 HYJ2
     refine hK.out _ _ hs3 (fun hHeld2 => ?_)
     clear hK K hHeld1 
     try simp only [PT]
     refine wpAnyH_ready (rs := [6]) (by decide +kernel) (by simp) (AllReadyH.cons rfl (fun K hK => ?_) AllReadyH.nil)
     have hA := add_any (i := H.os.length) (o := arrO H ⟨vk, vn, vs⟩ l j) HPJ3.out HGJ.out HX'.out (by show (H.os ++ [_])[H.os.length]? = _; rw [List.getElem?_append_right (Nat.le_refl _), Nat.sub_self]; rfl) ⟨dx j, ⟨yk, yn, ys⟩, true, true, true⟩ ⟨dx_size (by omega), HXS.out⟩ HNO.out
     rw [HAJ.out, HXB.out] at hA
     simp only [Pr.v'] at hA ⊢
     go_simp
     refine hA.mono ?_
     rintro e v4 ⟨rfl, ow'', L'', hc⟩
     have HCN : Hid (Hch w4 A ow2 L2 (arrH H ⟨vk, vn, vs⟩ l (j + 1)) v4 ow'' L'') := HCR.out.trans (hc.low HBJ3.out)
     have HYJ4 := HYJ3.out.fr (hc.kept HYJ3.out.lt HOJ.out)
     have hs4 : (fun w' : World => w'.cell? ⟨wr.heap.size, 0, none⟩ = some (.int .i64 yk) ∧ w'.cell? ⟨wr.heap.size, 1, none⟩ = some (.int .i64 yn) ∧ w'.cell? ⟨wr.heap.size, 2, none⟩ = some (.string ys)) v4 := ⟨HYJ4.cell (k := 0) rfl, HYJ4.cell (k := 1) rfl, HYJ4.cell (k := 2) rfl⟩
     clear hc hA HYJ4
     refine hK.out _ _ hs4 (fun hHeld3 => ?_)
     clear hK K hHeld2 
     try simp only [PT]
     refine wpAnyH_done (by kernel_rfl) ?_ _
     clear hHeld3 hsJ hs2 hs3 hs4
     go_wp2_with fail
     go_roundw
     case rel => exact ⟨j + 1, ow'', L'', by go_num, by omega, HCN⟩
     case measure => (simp [intOf] <;> omega)
    ·have hjl : ¬ (j : Int) < (l.length : Int) := by omega
     have hje : j = l.length := by omega
     subst hje
     have HP8R := Lib.hid (HP84.out.fr (HCR.out.kept HP84.out.lt HO8.out))
     have HP1R := Lib.hid (HP14.out.1.fr (HCR.out.kept HP14.out.1.lt HP14.out.2))
     have HO1R := Lib.hid (HCR.out.out HP14.out.1.lt HP14.out.2)
     obtain ⟨d0, d1, d2⟩ := Blk.three (v := ⟨7, (H.os.length : Int) + 1, ⟨#[]⟩⟩) HP8R.out
     obtain ⟨f0, f1, f2⟩ := Blk.three (v := ⟨0, 0, ⟨#[]⟩⟩) HP1R.out
     have z := HP1R.out.fz
     dsimp only at d0 d1 d2 f0 f1 f2
     go_wp2_with fail
     refine bodyPost_ret (res_vt rfl _ _ (w.heap.size + 1) (ref H.os.length) _ (by rfl) (by rfl) ?_) rfl ?_
     ·exact ((HP1R.out.set 0 _).set 1 _).set 2 _
     ·rw [← HR.out, HV.out]
      refine ⟨rfl, ow', L', (HC4.out _ _ _ HCR.out).aside HO1R.out (Nat.le_succ _) ?_⟩
      exact (((Fr.refl (fun k => k ≠ w.heap.size + 1) wr).setCell (p := ⟨w.heap.size + 1, 0, none⟩) (fun hk => hk rfl) _).setCell (p := ⟨w.heap.size + 1, 1, none⟩) (fun hk => hk rfl) _).setCell (p := ⟨w.heap.size + 1, 2, none⟩) (fun hk => hk rfl) _
end
end Go.Proofs.YtcahijpbkjplmaaGreatDoor.G
