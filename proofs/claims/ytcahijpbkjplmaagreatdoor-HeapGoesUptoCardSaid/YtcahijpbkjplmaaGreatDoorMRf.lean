/-
 append, by contract.
 slices.DeleteFunc of properties, by the library's contract: the closure tells one property.
 remove, by contract.
-/
import Derived.Test.YtcahijpbkjplmaaGreatDoorMRc
import Derived.Test.YtcahijpbkjplmaaGreatDoorMQf
import Derived.Test.YtcahijpbkjplmaaGreatDoorMZ0
import Derived.Test.YtcahijpbkjplmaaGreatDoorMQd
import Derived.Great.Walk
import Derived.Shelf.SlicesE.DeleteFunc
set_option linter.unusedSimpArgs false
namespace Go.Proofs.YtcahijpbkjplmaaGreatDoor.G
open Go.RowKit Go.Shelf Go.Maps Go.Proofs.YtcahijpbkjplmaaGreatDoor
theorem infoPp : (Tryz.prog.info? 79).map (fun i => (i.zero, i.size, i.bytes)) = some (some (.pointer none), 1, 8) := by kernel_rfl
theorem cell_far (w : World) {g b : Nat} (h : g ≠ b) (o j : Nat) (u : Value) : (w.setCell ⟨g, o, none⟩ u).cell? ⟨b, j, none⟩ = w.cell? ⟨b, j, none⟩ := World.cell?_setCell_other _ _ _ _ (by intro e; injection e with e _; exact h e)
theorem sel_len (o : Ob) (pb : List Nat) (y : Nat) : (sel o pb y).length ≤ pb.length := by
 rw [sel_eq]
 unfold selG
 rw [List.length_map]
 exact Nat.le_trans (List.length_filter_le _ _) (by rw [List.length_zip]; exact Nat.min_le_left _ _)
def AppR (w : World) (ow : Nat → Option Nat) (i n : Nat) (pp : Value) (b : Nat) (o' : Ob) (e : Ending) (w' : World) : Prop := e = .returned (.tuple #[]) ∧ ∃ ow' x', Chg w ow i n pp b o' w' ow' x'
theorem step_mapU {ops : Array Oper} {o : Oper} {a : Act} {w : World} {K : Act → World → Prop} {Q : Exit → Act → World → Prop} {E : Prop} (hgd : o.guard = none) (m x v : Operand) (t : TypeId) (ho : o.op = .mapUpdate t m x v) (w' : World)
  (hr : (Instr.mapUpdate t (a.eval m) (a.eval x) (a.eval v)).run Tryz.prog w = .ok () w') (h : K (a.put o.dst undef) w') : if Region.wanted o (yielded ops a.tmps) = true then Oper.wp Tryz.prog o a w K Q else E := by
 have hw : Region.wanted o (yielded ops a.tmps) = true := by simp [Region.wanted, hgd]
 rw [if_pos hw]
 unfold Oper.wp execOp
 simp [ho, hr, Result.andThen]
 exact h
section
variable {w : World} {ow : Nat → Option Nat} {i n : Nat} {pp : Value} {x : OL} {o : Ob}
set_option maxRecDepth 20000 in
set_option maxHeartbeats 1000000 in
theorem append_any (h : ObjAt w ow i n pp x o) (hl : ∀ k, ow k ≠ none → k < w.heap.size) (p : Pr) (hs : Sp p) (hk : o.ps.findIdx? (has p.key) = none) (hn : n ≤ 100000) (hps : o.ps.length ≤ 100000) (hix : ∀ y, o.ixA ix AR p.key = some y → y < 1000) :
  Calls Tryz.prog 86 #[pv x.b, p.v'] w (AppR w ow i (n + 1) pp x.b (o.more ix AR p)) := by
 have HC := Lib.hid (fun w => copyProp_any p w (by have := hs.1; omega) (by have := hs.2; unfold Sv at this; omega))
 have h0 := h.low hl (below_new w (.cells (Pr.cs p).toArray 31))
 have hB0 := Blk.new w 31 (Pr.cs p)
 have hb0 := below_new w (.cells (Pr.cs p).toArray 31)
 have HH := Lib.hid h
 have HL := Lib.hid hl
 have HKO := Lib.hid (key_out hk)
 have HN := Lib.hid hn
 have HPS := Lib.hid hps
 have HIX := Lib.hid hix
 have HKS : Hid (p.key.size ≤ maxLen) := by have := hs.1; show p.key.size ≤ maxLen; unfold maxLen; omega
 have H0 := Lib.hid h0
 have HB0 := Lib.hid hB0
 have HBL := Lib.hid hb0
 obtain ⟨pk, ⟨pvk, pvn, pvs⟩, pw, pe, pf⟩ := p
 simp only [Pr.v', Pr.cs] at HC H0 HB0 HBL ⊢
 dsimp only at HKS HKO
 clear h hl hs hk hn hps hix h0 hB0 hb0
 go_enter Tryz.func86, Tryz.ntmps86
 go_wp2_with fail
 generalize w.alloc (.cells #[.string pk, .int .i64 pvk, .int .i64 pvn, .string pvs, .bool pw, .bool pe, .bool pf] 31) = W0 at *
 have hx : ObjAt W0.drew ow i n pp x o ∧ Blk W0.drew w.heap.size 31 (Pr.cs ⟨pk, ⟨pvk, pvn, pvs⟩, pw, pe, pf⟩) ∧ Below w.heap.size w W0.drew := ⟨H0.out.low (fun k hk => Nat.lt_of_lt_of_le (HL.out k hk) HBL.out.size) (below_draw _), HB0.out.fr rfl, HBL.out.drew⟩
 refine wp_region_held_drew (S := fun w' => ObjAt w' ow i n pp x o ∧ Blk w' w.heap.size 31 (Pr.cs ⟨pk, ⟨pvk, pvn, pvs⟩, pw, pe, pf⟩)) (by kernel_rfl) (⟨hx.1, hx.2.1⟩) (fun hHeld0 => ?_)
 generalize W0.drew = v0 at *
 clear H0 HB0 HBL
 refine tk 0 ?_ ‹_› ?_ ?_; rotate_left; focus (intro w0 hSw; obtain ⟨c0, c1, c2, c3, c4, c5, c6⟩ := Blk.seven hSw.2; dsimp only at c0 c1 c2 c3 c4 c5 c6; go_simp; try with_reducible rfl)
 refine tk 2 ?_ ‹_› ?_ ?_; rotate_left; focus (intro w0 hSw; go_simp; try with_reducible rfl)
 refine tk 3 ?_ ‹_› ?_ ?_; rotate_left; focus (intro w0 hSw; go_simp; try with_reducible rfl)
 refine tk 4 ?_ ‹_› ?_ ?_; rotate_left; focus (intro w0 hSw; go_simp; try with_reducible rfl)
 refine tk 5 ?_ ‹_› ?_ ?_; rotate_left; focus (intro w0 hSw; go_simp; try with_reducible rfl)
 refine tk 6 ?_ ‹_› ?_ ?_; rotate_left; focus (intro w0 hSw; have c12 := hSw.1.ob.cell (k := 12) rfl; go_simp; try with_reducible rfl)
 refine tk 7 ?_ ‹_› ?_ ?_; rotate_left; focus (intro w0 hSw; go_simp; try with_reducible rfl)
 refine tk 8 ?_ ‹_› ?_ ?_; rotate_left; focus (intro w0 hSw; go_simp; try with_reducible rfl)
 refine tk 9 ?_ ‹_› ?_ ?_; rotate_left; focus (intro w0 hSw; go_simp; try with_reducible rfl)
 try simp only [PT]
 refine wpAnyH_ready (rs := [1]) (by decide +kernel) (by simp) (AllReadyH.cons rfl (fun K hK => ?_) AllReadyH.nil)
 go_simp
 refine (HC.out _).mono ?_
 rintro e v1 ⟨rfl, hb⟩
 have hl0 : ∀ k, ow k ≠ none → k < v0.heap.size := fun k hk => Nat.lt_of_lt_of_le (HL.out k hk) hx.2.2.size
 have hy : ObjAt v1 ow i n pp x o ∧ Blk v1 w.heap.size 31 (Pr.cs ⟨pk, ⟨pvk, pvn, pvs⟩, pw, pe, pf⟩) ∧ Below w.heap.size w v1 := ⟨hx.1.low hl0 hb, hx.2.1.low hb, hx.2.2.trans (hb.mono hx.2.2.size)⟩
 clear hb hx hl0 HC
 refine hK.out _ _ ⟨hy.1, hy.2.1⟩ (fun hHeld1 => ?_)
 clear hK K hHeld0 
 try simp only [PT]
 refine tk 10 ?_ ‹_› ?_ ?_; rotate_left; focus (intro w0 hSw; go_simp; try with_reducible rfl)
 try simp only [PT]
 refine wpAnyH_ready (rs := [11]) (by decide +kernel) (by simp) (AllReadyH.cons rfl (fun K hK => ?_) AllReadyH.nil)
 go_simp
 have hb := below_new v1 (.cells #[.string pk, .int .i64 pvk, .int .i64 pvn, .string pvs, .bool pw, .bool pe, .bool pf, av (nd x.b x.pb x.pb.length), av ⟨x.b, 5, none⟩] 81)
 have hbn : Blk (v1.alloc (.cells #[.string pk, .int .i64 pvk, .int .i64 pvn, .string pvs, .bool pw, .bool pe, .bool pf, av (nd x.b x.pb x.pb.length), av ⟨x.b, 5, none⟩] 81)) v1.heap.size 81 (propC ⟨pk, ⟨pvk, pvn, pvs⟩, pw, pe, pf⟩ (av (nd x.b x.pb x.pb.length)) (av ⟨x.b, 5, none⟩)) := Blk.new _ _ _
 have hl0 : ∀ k, ow k ≠ none → k < v1.heap.size := fun k hk => Nat.lt_of_lt_of_le (HL.out k hk) hy.2.2.size
 have hz : ObjAt (v1.alloc (.cells #[.string pk, .int .i64 pvk, .int .i64 pvn, .string pvs, .bool pw, .bool pe, .bool pf, av (nd x.b x.pb x.pb.length), av ⟨x.b, 5, none⟩] 81)) ow i n pp x o ∧ Blk (v1.alloc (.cells #[.string pk, .int .i64 pvk, .int .i64 pvn, .string pvs, .bool pw, .bool pe, .bool pf, av (nd x.b x.pb x.pb.length), av ⟨x.b, 5, none⟩] 81)) w.heap.size 31 (Pr.cs ⟨pk, ⟨pvk, pvn, pvs⟩, pw, pe, pf⟩) ∧ Below w.heap.size w (v1.alloc (.cells #[.string pk, .int .i64 pvk, .int .i64 pvn, .string pvs, .bool pw, .bool pe, .bool pf, av (nd x.b x.pb x.pb.length), av ⟨x.b, 5, none⟩] 81)) := ⟨hy.1.low hl0 hb, hy.2.1.low hb, hy.2.2.trans (hb.mono hy.2.2.size)⟩
 have hlo : w.heap.size ≤ v1.heap.size := hy.2.2.size
 clear hb hy
 refine hK.out _ _ ⟨hz.1, hz.2.1⟩ (fun hHeld2 => ?_)
 clear hK K hHeld1 
 try simp only [PT]
 refine tk 12 ?_ ‹_› ?_ ?_; rotate_left; focus (intro w0 hSw; go_simp; try with_reducible rfl)
 try simp only [PT]
 refine wpAnyH_done (by kernel_rfl) ?_ _
 clear hHeld2
 generalize v1.alloc (.cells #[.string pk, .int .i64 pvk, .int .i64 pvn, .string pvs, .bool pw, .bool pe, .bool pf, av (nd x.b x.pb x.pb.length), av ⟨x.b, 5, none⟩] 81) = v2 at *
 generalize v1.heap.size = B at *
 have HZ : Hid (ObjAt v2.drew ow i n pp x o ∧ Blk v2.drew w.heap.size 31 (Pr.cs ⟨pk, ⟨pvk, pvn, pvs⟩, pw, pe, pf⟩) ∧ Below w.heap.size w v2.drew) := ⟨hz.1.low (fun k hk => Nat.lt_of_lt_of_le (HL.out k hk) hz.2.2.size) (below_draw _), hz.2.1.fr rfl, hz.2.2.drew⟩
 have HBN : Hid (Blk v2.drew B 81 (propC ⟨pk, ⟨pvk, pvn, pvs⟩, pw, pe, pf⟩ (av (nd x.b x.pb x.pb.length)) (av ⟨x.b, 5, none⟩))) := hbn.fr rfl
 have HLO := Lib.hid hlo
 have HBX : Hid (B ∉ x.pb) := fun e => by
  have h1 := hz.1.wp B e
  have h2 := HL.out B (by rw [h1]; simp)
  omega
 clear hz hbn hlo hl0
 go_wp2_with fail
 obtain ⟨g, q, hgq, ⟨u8, hu8⟩, -, hfz, hgb⟩ := HZ.out.1.ring.place x.pb.length
 have hBN := HBN.out
 rw [hgq] at hBN ⊢
 have hgB : g ≠ B := by
  rcases hgb with rfl | hgb
  ·exact Ne.symm (hBN.ne HZ.out.1.ob (by decide))
  ·rintro rfl
   exact HBX.out hgb
 have HGB := Lib.hid hgB
 have HGQ := Lib.hid hgq
 have HBS : Hid (∃ u, (v2.drew.setCell ⟨g, q + 8, none⟩ (pv B)).cell? ⟨x.b, 12, none⟩ = some u) := by
  have hob := HZ.out.1.ob
  by_cases e : g = x.b
  ·subst e
   have := (Blk.set (w := v2.drew) hob (q + 8) (pv B))
   exact ⟨_, this.cell (k := 12) (List.getElem?_eq_getElem (by rw [List.length_set]; show 12 < 17; omega))⟩
  ·have := (Blk.other (w := v2.drew) hob (p := ⟨g, q + 8, none⟩) (Ne.symm e) (pv B))
   exact ⟨_, this.cell (k := 12) rfl⟩
 have HFZ2 : Hid (∀ k, v2.frozen? ⟨x.b, k, none⟩ = false) := HZ.out.1.ob.fz
 have hs0 : v2.drew.cell? ⟨B, 7, none⟩ = some (av ⟨g, q, none⟩) ∧ v2.drew.cell? ⟨B, 8, none⟩ = some (av ⟨x.b, 5, none⟩) := ⟨hBN.cell (k := 7) rfl, hBN.cell (k := 8) rfl⟩
 clear hBN hgb hgq hgB
 refine wp_region_held_drew (S := fun w' => w'.cell? ⟨B, 7, none⟩ = some (av ⟨g, q, none⟩) ∧ w'.cell? ⟨B, 8, none⟩ = some (av ⟨x.b, 5, none⟩)) (by kernel_rfl) (hs0) (fun hHeld0 => ?_)
 generalize v2.drew = v3 at *
 refine tk 0 ?_ ‹_› ?_ ?_; rotate_left; focus (intro w0 hSw; go_simp; try with_reducible rfl)
 refine tk 1 ?_ ‹_› ?_ ?_; rotate_left; focus (intro w0 hSw; go_simp; try with_reducible rfl)
 refine tk 2 ?_ ‹_› ?_ ?_; rotate_left; focus (intro w0 hSw; go_simp; try with_reducible rfl)
 refine tk 3 ?_ ‹_› ?_ ?_; rotate_left; focus (intro w0 hSw; obtain ⟨c7, c8⟩ := hSw; go_simp; try with_reducible rfl)
 refine tk 4 ?_ ‹_› ?_ ?_; rotate_left; focus (intro w0 hSw; go_simp; try with_reducible rfl)
 refine tk 5 ?_ ‹_› ?_ ?_; rotate_left; focus (intro w0 hSw; go_simp; try with_reducible rfl)
 refine tk 6 ?_ ‹_› ?_ ?_; rotate_left; focus (intro w0 hSw; go_simp; try with_reducible rfl)
 refine tk 7 ?_ ‹_› ?_ ?_; rotate_left; focus (intro w0 hSw; obtain ⟨c7, c8⟩ := hSw; go_simp; try with_reducible rfl)
 refine tk 8 ?_ ‹_› ?_ ?_; rotate_left; focus (intro w0 hSw; go_simp; try with_reducible rfl)
 refine tk 9 ?_ ‹_› ?_ ?_; rotate_left; focus (intro w0 hSw; go_simp; try with_reducible rfl)
 refine tk 10 ?_ ‹_› ?_ ?_; rotate_left; focus (intro w0 hSw; go_simp; try with_reducible rfl)
 refine tk 11 ?_ ‹_› ?_ ?_; rotate_left; focus (intro w0 hSw; go_simp; try with_reducible rfl)
 try simp only [PT]
 refine wpAnyH_ready (rs := [12]) (by decide +kernel) (by simp) (AllReadyH.cons rfl (fun K hK => ?_) AllReadyH.nil)
 have hu8' : v3.cell? ⟨g, q + 8, none⟩ = some u8 := hu8
 have hfz' : v3.frozen? ⟨g, q + 8, none⟩ = false := hfz _
 go_simp
 clear hu8' hfz'
 refine hK.out _ _ ⟨(cell_far _ HGB.out _ _ _).trans hs0.1, (cell_far _ HGB.out _ _ _).trans hs0.2⟩ (fun hHeld1 => ?_)
 clear hK K hHeld0 
 try simp only [PT]
 refine tk 13 ?_ ‹_› ?_ ?_; rotate_left; focus (intro w0 hSw; go_simp; try with_reducible rfl)
 refine tk 14 ?_ ‹_› ?_ ?_; rotate_left; focus (intro w0 hSw; go_simp; try with_reducible rfl)
 try simp only [PT]
 refine wpAnyH_ready (rs := [15]) (by decide +kernel) (by simp) (AllReadyH.cons rfl (fun K hK => ?_) AllReadyH.nil)
 obtain ⟨u12, hu12⟩ := HBS.out
 have hf12 : (v3.setCell ⟨g, q + 8, none⟩ (pv B)).frozen? ⟨x.b, 12, none⟩ = false := by
  rw [World.frozen?_setCell]
  exact HZ.out.1.ob.fz 12
 go_simp
 clear hu12 hf12
 have hxB : x.b ≠ B := Ne.symm (HBN.out.ne HZ.out.1.ob (by decide))
 refine hK.out _ _ ⟨(cell_far _ hxB _ _ _).trans ((cell_far _ HGB.out _ _ _).trans hs0.1), (cell_far _ hxB _ _ _).trans ((cell_far _ HGB.out _ _ _).trans hs0.2)⟩ (fun hHeld2 => ?_)
 clear hK K hHeld1 
 try simp only [PT]
 refine wpAnyH_done (by kernel_rfl) ?_ _
 have hring := Ring.snoc (w := v3) HZ.out.1.ring (B := B) (p := ⟨pk, ⟨pvk, pvn, pvs⟩, pw, pe, pf⟩) HBN.out HBX.out
 rw [HGQ.out] at hring
 have hbb : B ≠ x.b := HBN.out.ne HZ.out.1.ob (by decide)
 have hown : ∀ k, ow k ≠ some (i + 1) → k ≠ g ∧ k ≠ x.b := fun k hk => by
  obtain ⟨g', q', e1, -, -, -, e2⟩ := HZ.out.1.ring.place x.pb.length
  rw [HGQ.out] at e1
  injection e1 with e1 _
  subst e1
  refine ⟨?_, ?_⟩
  ·rintro rfl
   rcases e2 with rfl | e2
   ·exact hk HZ.out.1.wb
   ·exact hk (HZ.out.1.wp _ e2)
  ·rintro rfl
   exact hk HZ.out.1.wb
 have hmap : ∀ (m : Nat) (es : Array MapEntry) (c : Nat), v3.heap[m]? = some (.map es c) → ((v3.setCell ⟨g, q + 8, none⟩ (pv B)).setCell ⟨x.b, 12, none⟩ (pv B)).heap[m]? = v3.heap[m]? := fun m es c hm => by
  obtain ⟨g', q', e1, -, -, -, e2⟩ := HZ.out.1.ring.place x.pb.length
  rw [HGQ.out] at e1
  injection e1 with e1 _
  subst e1
  rw [Below.heap_setCell _ _ _ _ (fun e => HZ.out.1.ob.ne_map hm e.symm), Below.heap_setCell _ _ _ _ (fun e => ?_)]
  rcases e2 with e2 | e2
  ·exact HZ.out.1.ob.ne_map hm (e2.symm.trans e.symm)
  ·exact HZ.out.1.ring.ne_map e2 hm e.symm
 have hrows : ∀ y k, (x.fi y).ownBlock = some k → ((v3.setCell ⟨g, q + 8, none⟩ (pv B)).setCell ⟨x.b, 12, none⟩ (pv B)).heap[k]? = v3.heap[k]? := fun y k hk => by
  obtain ⟨g', q', e1, -, -, -, e2⟩ := HZ.out.1.ring.place x.pb.length
  rw [HGQ.out] at e1
  injection e1 with e1 _
  subst e1
  rw [Below.heap_setCell _ _ _ _ (fun e => HZ.out.1.ob.ne_row (HZ.out.1.rw y) (by decide) k hk e.symm), Below.heap_setCell _ _ _ _ (fun e => ?_)]
  rcases e2 with e2 | e2
  ·exact HZ.out.1.ob.ne_row (HZ.out.1.rw y) (by decide) k hk (e2.symm.trans e.symm)
  ·exact HZ.out.1.ring.ne_row e2 (HZ.out.1.rw y) k hk e.symm
 have HMI : Hid (Ring ((v3.setCell ⟨g, q + 8, none⟩ (pv B)).setCell ⟨x.b, 12, none⟩ (pv B)) i pp { x with pb := x.pb ++ [B] } { o with ps := o.ps ++ [⟨pk, ⟨pvk, pvn, pvs⟩, pw, pe, pf⟩] } ∧
   MapS ((v3.setCell ⟨g, q + 8, none⟩ (pv B)).setCell ⟨x.b, 12, none⟩ (pv B)) x.pm n (.pointer none) (fnd x.pb o.ps) ∧
   (∃ ni, ni + o.ps.length ≤ 2 * n ∧ MapI ((v3.setCell ⟨g, q + 8, none⟩ (pv B)).setCell ⟨x.b, 12, none⟩ (pv B)) x.im ni (.slice none 0 0) x.fi) ∧
   (∀ y, ((v3.setCell ⟨g, q + 8, none⟩ (pv B)).setCell ⟨x.b, 12, none⟩ (pv B)).ownsRow 0 79 1 (x.fi y) (sel o x.pb y).length ((sel o x.pb y).map pv)) ∧
   Fr (fun k => k < w.heap.size ∧ ow k ≠ some (i + 1)) w ((v3.setCell ⟨g, q + 8, none⟩ (pv B)).setCell ⟨x.b, 12, none⟩ (pv B)) ∧ w.heap.size ≤ B ∧ B < ((v3.setCell ⟨g, q + 8, none⟩ (pv B)).setCell ⟨x.b, 12, none⟩ (pv B)).heap.size ∧
   Blk ((v3.setCell ⟨g, q + 8, none⟩ (pv B)).setCell ⟨x.b, 12, none⟩ (pv B)) B 81 (propC ⟨pk, ⟨pvk, pvn, pvs⟩, pw, pe, pf⟩ (av ⟨g, q, none⟩) (av ⟨x.b, 5, none⟩))) := by
  obtain ⟨es, c, hes⟩ := HZ.out.1.mp.isMap
  obtain ⟨ni, hn1, hn2⟩ := HZ.out.1.mi
  obtain ⟨es2, c2, hes2⟩ := hn2.isMap
  refine ⟨hring, HZ.out.1.mp.fr (hmap _ _ _ hes), ⟨ni, hn1, hn2.fr (hmap _ _ _ hes2)⟩, fun y => row_same (HZ.out.1.rw y) (hrows y), ?_, HLO.out, ?_, ?_⟩
  ·exact ((Fr.of HZ.out.2.2 fun k hk => hk.1).setCell (p := ⟨g, q + 8, none⟩) (fun hk => (hown _ hk.2).1 rfl) _).setCell (p := ⟨x.b, 12, none⟩) (fun hk => (hown _ hk.2).2 rfl) _
  ·have := HBN.out.lt
   simpa [World.setCell] using this
  ·have hBN := HBN.out
   rw [HGQ.out] at hBN
   exact (hBN.other (p := ⟨g, q + 8, none⟩) (Ne.symm HGB.out) _).other (p := ⟨x.b, 12, none⟩) hbb _
 clear hring hown hmap hrows hs0 hu8 hfz HZ HBN HFZ2 HBS hHeld2
 generalize (v3.setCell ⟨g, q + 8, none⟩ (pv B)).setCell ⟨x.b, 12, none⟩ (pv B) = v4 at *
 have HM4 : Hid (Ring v4.drew i pp { x with pb := x.pb ++ [B] } { o with ps := o.ps ++ [⟨pk, ⟨pvk, pvn, pvs⟩, pw, pe, pf⟩] } ∧ MapS v4.drew x.pm n (.pointer none) (fnd x.pb o.ps) ∧
   (∃ ni, ni + o.ps.length ≤ 2 * n ∧ MapI v4.drew x.im ni (.slice none 0 0) x.fi) ∧ (∀ y, v4.drew.ownsRow 0 79 1 (x.fi y) (sel o x.pb y).length ((sel o x.pb y).map pv)) ∧
   Fr (fun k => k < w.heap.size ∧ ow k ≠ some (i + 1)) w v4.drew ∧ w.heap.size ≤ B ∧ B < v4.drew.heap.size ∧ Blk v4.drew B 81 (propC ⟨pk, ⟨pvk, pvn, pvs⟩, pw, pe, pf⟩ (av ⟨g, q, none⟩) (av ⟨x.b, 5, none⟩))) := by
  obtain ⟨q1, q2, ⟨ni, q3, q4⟩, q5, q6, q7, q8, q9⟩ := HMI.out
  exact ⟨q1.fr rfl (fun _ _ => rfl), q2.fr rfl, ⟨ni, q3, q4.fr rfl⟩, fun y => row_same (q5 y) (fun _ _ => rfl), q6.drew, q7, q8, q9.fr rfl⟩
 have hs3 : v4.drew.cell? ⟨x.b, 4, none⟩ = some (.map (some x.pm)) ∧ v4.drew.cell? ⟨B, 0, none⟩ = some (.string pk) := ⟨HM4.out.1.ob.cell (k := 4) rfl, HM4.out.2.2.2.2.2.2.2.cell (k := 0) rfl⟩
 clear HMI
 go_wp2_with fail
 refine wp_region_held_drew (S := fun w' => w'.cell? ⟨x.b, 4, none⟩ = some (.map (some x.pm)) ∧ w'.cell? ⟨B, 0, none⟩ = some (.string pk)) (by kernel_rfl) (hs3) (fun hHeld0 => ?_)
 generalize v4.drew = v5 at *
 refine tk 0 ?_ ‹_› ?_ ?_; rotate_left; focus (intro w0 hSw; go_simp; try with_reducible rfl)
 refine tk 1 ?_ ‹_› ?_ ?_; rotate_left; focus (intro w0 hSw; go_simp; try with_reducible rfl)
 refine tk 2 ?_ ‹_› ?_ ?_; rotate_left; focus (intro w0 hSw; go_simp; try with_reducible rfl)
 refine tk 3 ?_ ‹_› ?_ ?_; rotate_left; focus (intro w0 hSw; obtain ⟨c4, c0⟩ := hSw; go_simp; try with_reducible rfl)
 refine tk 4 ?_ ‹_› ?_ ?_; rotate_left; focus (intro w0 hSw; go_simp; try with_reducible rfl)
 refine tk 5 ?_ ‹_› ?_ ?_; rotate_left; focus (intro w0 hSw; go_simp; try with_reducible rfl)
 refine tk 6 ?_ ‹_› ?_ ?_; rotate_left; focus (intro w0 hSw; go_simp; try with_reducible rfl)
 refine tk 7 ?_ ‹_› ?_ ?_; rotate_left; focus (intro w0 hSw; go_simp; try with_reducible rfl)
 refine tk 8 ?_ ‹_› ?_ ?_; rotate_left; focus (intro w0 hSw; obtain ⟨c4, c0⟩ := hSw; go_simp; try with_reducible rfl)
 refine tk 9 ?_ ‹_› ?_ ?_; rotate_left; focus (intro w0 hSw; go_simp; try with_reducible rfl)
 try simp only [PT]
 refine wpAnyH_ready (rs := [10]) (by decide +kernel) (by simp) (AllReadyH.cons rfl (fun K hK => ?_) AllReadyH.nil)
 obtain ⟨v6, hr6, hm6, ht6⟩ := HM4.out.2.1.store Tryz.underlying78 (by have := HN.out; unfold maxLen; omega) HKS.out (pv B)
 have hmid : Mid w ow i n pp x o B ⟨pk, ⟨pvk, pvn, pvs⟩, pw, pe, pf⟩ v6 := by
  obtain ⟨q1, q2, ⟨ni, q3, q4⟩, q5, q6, q7, q8, q9⟩ := HM4.out
  obtain ⟨es, c, hes⟩ := q2.isMap
  obtain ⟨es2, c2, hes2⟩ := q4.isMap
  have hk6 : ∀ k, k < v5.heap.size → k ≠ x.pm → v6.heap[k]? = v5.heap[k]? := fun k h1 h2 => ht6.grown.block k h1 (fun e => h2 (Option.some.inj e))
  refine ⟨q1.fr (hk6 _ q1.ob.lt (q1.ob.ne_map hes)) fun b hb => hk6 _ (q1.lt hb) (q1.ne_map hb hes), ?_, ⟨ni, q3, q4.fr (hk6 _ q4.lt (Ne.symm HH.out.mne))⟩, fun y => row_same (q5 y) fun k e => hk6 _ ((q5 y).lt k e).2 (fun e2 => row_ne_map (q5 y) hes (by rw [← e2]; exact e)), ?_, q7, Nat.lt_of_lt_of_le q8 ht6.grown.size⟩
  ·have : (fun t => if t = pk then pv B else fnd x.pb o.ps t) = fnd (x.pb ++ [B]) (o.ps ++ [⟨pk, ⟨pvk, pvn, pvs⟩, pw, pe, pf⟩]) := funext fun s => (fnd_snoc (p := ⟨pk, ⟨pvk, pvn, pvs⟩, pw, pe, pf⟩) s HH.out.pl HKO.out).symm
   rw [← this]
   exact hm6
  ·exact q6.turned (fun hk => hk.2 HH.out.wm) ht6 fun k hk => hk.1
 have hbk : Blk v6 B 81 (propC ⟨pk, ⟨pvk, pvn, pvs⟩, pw, pe, pf⟩ (av ⟨g, q, none⟩) (av ⟨x.b, 5, none⟩)) := by
  obtain ⟨es, c, hes⟩ := HM4.out.2.1.isMap
  have hbB := HM4.out.2.2.2.2.2.2.2
  exact hbB.fr (ht6.grown.block _ hbB.lt (fun e => hbB.ne_map hes (Option.some.inj e)))
 have hs6 : v6.cell? ⟨x.b, 4, none⟩ = some (.map (some x.pm)) ∧ v6.cell? ⟨B, 0, none⟩ = some (.string pk) := ⟨hmid.ring.ob.cell (k := 4) rfl, hbk.cell (k := 0) rfl⟩
 refine step_mapU rfl (.tmp 36) (.tmp 41) (.tmp 42) _ rfl v6 hr6 ?_
 clear hr6 hm6 ht6 HM4
 refine hK.out _ _ hs6 (fun hHeld1 => ?_)
 clear hK K hHeld0 
 try simp only [PT]
 refine wpAnyH_done (by kernel_rfl) ?_ _
 clear hHeld1 hs3 hs6
 have HMID := Lib.hid hmid
 have HBK := Lib.hid hbk
 clear hmid hbk
 have hI := index_cell (w := v6) (b := x.b) o (HMID.out.ring.ob.cell (k := 1) rfl) pk HKS.out
 have c0 := HBK.out.cell (k := 0) (v := .string pk) rfl
 have HI := Lib.hid hI
 clear hI
 go_wp2_with fail
 refine HI.out.mono ?_
 rintro e v7 ⟨rfl, hb⟩
 replace HMID := Lib.hid (HMID.out.low hb)
 clear HI c0 HBK
 cases hq : o.ixA ix AR pk with
 | none =>
  simp only [idxRes] at *
  go_wp2_with fail
  exact Go.Great.bodyPost_end0 rfl rfl ⟨rfl, HMID.out.whole HH.out HL.out hq⟩
 | some y =>
  have HY := Lib.hid (HIX.out y hq)
  have HQ := Lib.hid hq
  clear hq
  simp only [idxRes] at *
  have HM7 := Lib.hid (HMID.out.low (below_draw _))
  have hs7 : (fun w' : World => w'.cell? ⟨x.b, 16, none⟩ = some (.map (some x.im))) v7.drew := HM7.out.ring.ob.cell (k := 16) rfl
  clear HMID hb
  go_wp2_with fail
  refine wp_region_held_drew (S := (fun w' : World => w'.cell? ⟨x.b, 16, none⟩ = some (.map (some x.im)))) (by kernel_rfl) (hs7) (fun hHeld0 => ?_)
  generalize v7.drew = v8 at *
  refine tk 0 ?_ ‹_› ?_ ?_; rotate_left; focus (intro w0 hSw; go_simp; try with_reducible rfl)
  refine tk 1 ?_ ‹_› ?_ ?_; rotate_left; focus (intro w0 hSw; go_simp; try with_reducible rfl)
  refine tk 2 ?_ ‹_› ?_ ?_; rotate_left; focus (intro w0 hSw; go_simp; try with_reducible rfl)
  refine tk 3 ?_ ‹_› ?_ ?_; rotate_left; focus (intro w0 hSw; have c16 := hSw; go_simp; try with_reducible rfl)
  refine tk 4 ?_ ‹_› ?_ ?_; rotate_left; focus (intro w0 hSw; go_simp; try with_reducible rfl)
  refine tk 5 ?_ ‹_› ?_ ?_; rotate_left; focus (intro w0 hSw; go_simp; try with_reducible rfl)
  refine tk 6 ?_ ‹_› ?_ ?_; rotate_left; focus (intro w0 hSw; go_simp; try with_reducible rfl)
  refine tk 7 ?_ ‹_› ?_ ?_; rotate_left; focus (intro w0 hSw; go_simp; try with_reducible rfl)
  refine tk 8 ?_ ‹_› ?_ ?_; rotate_left; focus (intro w0 hSw; have c16 := hSw; go_simp; try with_reducible rfl)
  refine tk 9 ?_ ‹_› ?_ ?_; rotate_left; focus (intro w0 hSw; go_simp; try with_reducible rfl)
  refine tk 11 ?_ ‹_› ?_ ?_; rotate_left; focus (intro w0 hSw; go_simp; try with_reducible rfl)
  try simp only [PT]
  refine wpAnyH_ready (rs := [10, 12]) (by decide +kernel) (by simp) (AllReadyH.cons rfl (fun K hK => ?_) (AllReadyH.cons rfl (fun K hK => ?_) AllReadyH.nil))
  ·obtain ⟨ni, -, hmi⟩ := HM7.out.mi
   have hlk := hmi.look Tryz.underlying82 (zeroR _) (y := y) (by have := HY.out; omega)
   go_simp
   clear hlk hmi
   refine hK.out _ _ hs7 (fun hHeld1 => ?_)
   clear hK K hHeld0 
   try simp only [PT]
   refine wpAnyH_ready (rs := [12]) (by decide +kernel) (by simp) (AllReadyH.cons rfl (fun K hK => ?_) AllReadyH.nil)
   have hbl := below_new v8 (.cells #[pv B] 79)
   have hcc : Blk (v8.alloc (.cells #[pv B] 79)) v8.heap.size 79 [pv B] := Blk.new _ _ _
   have HM9 := Lib.hid (HM7.out.low hbl)
   have hs9 : (fun w' : World => w'.cell? ⟨x.b, 16, none⟩ = some (.map (some x.im))) (v8.alloc (.cells #[pv B] 79)) := HM9.out.ring.ob.cell (k := 16) rfl
   have HB9 := Lib.hid hbl
   have HCC := Lib.hid hcc
   clear hbl hcc
   go_simp
   refine hK.out _ _ hs9 (fun hHeld2 => ?_)
   clear hK K hHeld1 
   try simp only [PT]
   generalize (v8.alloc (.cells #[pv B] 79)) = v9 at *
   refine wpAnyH_ready (rs := [13]) (by decide +kernel) (by simp) (AllReadyH.cons rfl (fun K hK => ?_) AllReadyH.nil)
   refine step_app1 rfl (.tmp 64) (.tmp 66) 121 79 _ 8 Tryz.underlying121 infoPp rfl (by decide) (by rfl) 0 _ _ _ (by rfl) (HM9.out.rw y) _ (pv B) (by rfl) (HCC.out.cell rfl) rfl (by have := HPS.out; have := sel_len o x.pb y; have := HH.out.pl; omega) (by omega) ?_
   intro nv v10 h1 h2 h3
   have hk10 : ∀ k, k < v9.heap.size → (x.fi y).ownBlock ≠ some k → v10.heap[k]? = v9.heap[k]? := fun k a b => h2.block k a (Ne.symm b)
   have hoX : Blk v10 x.b 84 (objC i { o with ps := o.ps ++ [⟨pk, ⟨pvk, pvn, pvs⟩, pw, pe, pf⟩] } pp { x with pb := x.pb ++ [B] }) := HM9.out.ring.ob.fr (hk10 _ HM9.out.ring.ob.lt fun e => HM9.out.ring.ob.ne_row (HM9.out.rw y) (by decide) _ e rfl)
   have hmX : ∃ ni, ni + o.ps.length ≤ 2 * n ∧ MapI v10 x.im ni (.slice none 0 0) x.fi := by
    obtain ⟨ni, e1, e2⟩ := HM9.out.mi
    obtain ⟨es, c, hes⟩ := e2.isMap
    exact ⟨ni, e1, e2.fr (hk10 _ e2.lt (row_ne_map (HM9.out.rw y) hes))⟩
   have hs10 : (fun w' : World => w'.cell? ⟨x.b, 16, none⟩ = some (.map (some x.im))) v10 := hoX.cell (k := 16) rfl
   have HR10 := Lib.hid h1
   have HG10 := Lib.hid h2
   have HV10 := Lib.hid h3
   have HOX := Lib.hid hoX
   have HMX := Lib.hid hmX
   clear h1 h2 h3 hk10 hoX hmX
   refine hK.out _ _ hs10 (fun hHeld3 => ?_)
   clear hK K hHeld2 
   try simp only [PT]
   refine wpAnyH_ready (rs := [14]) (by decide +kernel) (by simp) (AllReadyH.cons rfl (fun K hK => ?_) AllReadyH.nil)
   obtain ⟨ni, hn1, hn2⟩ := HMX.out
   obtain ⟨es, ce, hes⟩ := hn2.isMap
   obtain ⟨v11, hr11, hm11, ht11⟩ := hn2.store Tryz.underlying82 (by have := HN.out; unfold maxLen; omega) (y := y) (by have := HY.out; omega) nv
   have HO11 : Hid (Blk v11 x.b 84 (objC i { o with ps := o.ps ++ [⟨pk, ⟨pvk, pvn, pvs⟩, pw, pe, pf⟩] } pp { x with pb := x.pb ++ [B] })) := HOX.out.fr (ht11.grown.block _ HOX.out.lt fun e => HOX.out.ne_map hes (Option.some.inj e))
   have HM11 : Hid (∃ ni, ni + o.ps.length ≤ 2 * n + 1 ∧ MapI v11 x.im ni (.slice none 0 0) (fun t => if t = y then nv else x.fi t)) := ⟨_, by omega, hm11⟩
   have HR11 : Hid (v11.ownsRow 0 79 1 nv ((sel o x.pb y).length + 1) ((sel o x.pb y).map pv ++ [pv B])) := row_same HR10.out fun k e => ht11.grown.block _ (HR10.out.lt k e).2 (fun e2 => row_ne_map HR10.out hes (by rw [← Option.some.inj e2]; exact e))
   have HF11 : Hid (Fr (fun k => k < v8.heap.size ∧ k ≠ x.b ∧ k ≠ x.im ∧ (x.fi y).ownBlock ≠ some k) v8 v11) := (((Fr.of HB9.out fun k hk => hk.1).grown (fun k hk => hk.1) HG10.out fun k e hk => hk.2.2.2 e)).turned (fun hk => hk.2.2.1 rfl) ht11 fun k hk => hk.1
   refine step_mapU rfl (.tmp 57) (.tmp 58) (.tmp 67) _ rfl v11 hr11 ?_
   clear hr11 hm11 ht11 hn1 hn2 hes HR10 HG10 HOX HMX
   refine hK.out _ _ (HO11.out.cell (k := 16) rfl) (fun hHeld4 => ?_)
   clear hK K hHeld3 
   try simp only [PT]
   refine wpAnyH_done (by kernel_rfl) ?_ _
   clear hHeld4 hs7 hs9 hs10
   obtain ⟨c14, z14⟩ : v11.cell? ⟨x.b, 14, none⟩ = some (.int .i64 (o.len : Int)) ∧ v11.frozen? ⟨x.b, 14, none⟩ = false := ⟨HO11.out.cell (k := 14) rfl, HO11.out.fz 14⟩
   go_wp2_with fail
   refine Go.Great.bodyPost_end0 rfl rfl ⟨rfl, ?_⟩
   rw [show wrap64 ((y : Int) + 1) = (y : Int) + 1 from by have := HY.out; unfold wrap64; omega]
   have e14 : (max (o.len : Int) ((y : Int) + 1)) = ((max o.len (y + 1) : Nat) : Int) := by omega
   rw [e14]
   refine HM7.out.indexed HH.out HL.out HQ.out (v' := nv) ?_ ?_ ?_ ?_ ?_
   ·have hset := HO11.out.set 14 (.int .i64 ((max o.len (y + 1) : Nat) : Int))
    have el : (o.more ix AR ⟨pk, ⟨pvk, pvn, pvs⟩, pw, pe, pf⟩).len = max o.len (y + 1) := by
     unfold Ob.more
     dsimp only
     rw [HQ.out]
    have ec : objC i (o.more ix AR ⟨pk, ⟨pvk, pvn, pvs⟩, pw, pe, pf⟩) pp { x with pb := x.pb ++ [B] } = (objC i { o with ps := o.ps ++ [⟨pk, ⟨pvk, pvn, pvs⟩, pw, pe, pf⟩] } pp { x with pb := x.pb ++ [B] }).set 14 (.int .i64 ((max o.len (y + 1) : Nat) : Int)) := by
     unfold objC
     rw [el]
     rfl
    rw [ec]
    exact hset
   ·obtain ⟨ni, e1, e2⟩ := HM11.out
    obtain ⟨es, c, hes⟩ := e2.isMap
    exact ⟨ni, e1, e2.fr (Below.heap_setCell _ _ _ _ (fun e => HO11.out.ne_map hes e.symm))⟩
   ·exact row_same HR11.out fun k e => Below.heap_setCell _ _ _ _ (fun e2 => HO11.out.ne_row HR11.out (by decide) k e e2.symm)
   ·exact HV10.out.imp id fun e => ⟨_, e, HB9.out.size⟩
   ·exact HF11.out.setCell (p := ⟨x.b, 14, none⟩) (fun hk => hk.2.1 rfl) _
  ·have hbl := below_new v8 (.cells #[pv B] 79)
   have hcc : Blk (v8.alloc (.cells #[pv B] 79)) v8.heap.size 79 [pv B] := Blk.new _ _ _
   have HM9 := Lib.hid (HM7.out.low hbl)
   have hs9 : (fun w' : World => w'.cell? ⟨x.b, 16, none⟩ = some (.map (some x.im))) (v8.alloc (.cells #[pv B] 79)) := HM9.out.ring.ob.cell (k := 16) rfl
   have HB9 := Lib.hid hbl
   have HCC := Lib.hid hcc
   clear hbl hcc
   go_simp
   refine hK.out _ _ hs9 (fun hHeld1 => ?_)
   clear hK K hHeld0 
   try simp only [PT]
   generalize (v8.alloc (.cells #[pv B] 79)) = v9 at *
   refine wpAnyH_ready (rs := [10]) (by decide +kernel) (by simp) (AllReadyH.cons rfl (fun K hK => ?_) AllReadyH.nil)
   obtain ⟨ni, -, hmi⟩ := HM9.out.mi
   have hlk := hmi.look Tryz.underlying82 (zeroR _) (y := y) (by have := HY.out; omega)
   go_simp
   clear hlk hmi
   refine hK.out _ _ hs9 (fun hHeld2 => ?_)
   clear hK K hHeld1 
   try simp only [PT]
   refine wpAnyH_ready (rs := [13]) (by decide +kernel) (by simp) (AllReadyH.cons rfl (fun K hK => ?_) AllReadyH.nil)
   refine step_app1 rfl (.tmp 64) (.tmp 66) 121 79 _ 8 Tryz.underlying121 infoPp rfl (by decide) (by rfl) 0 _ _ _ (by rfl) (HM9.out.rw y) _ (pv B) (by rfl) (HCC.out.cell rfl) rfl (by have := HPS.out; have := sel_len o x.pb y; have := HH.out.pl; omega) (by omega) ?_
   intro nv v10 h1 h2 h3
   have hk10 : ∀ k, k < v9.heap.size → (x.fi y).ownBlock ≠ some k → v10.heap[k]? = v9.heap[k]? := fun k a b => h2.block k a (Ne.symm b)
   have hoX : Blk v10 x.b 84 (objC i { o with ps := o.ps ++ [⟨pk, ⟨pvk, pvn, pvs⟩, pw, pe, pf⟩] } pp { x with pb := x.pb ++ [B] }) := HM9.out.ring.ob.fr (hk10 _ HM9.out.ring.ob.lt fun e => HM9.out.ring.ob.ne_row (HM9.out.rw y) (by decide) _ e rfl)
   have hmX : ∃ ni, ni + o.ps.length ≤ 2 * n ∧ MapI v10 x.im ni (.slice none 0 0) x.fi := by
    obtain ⟨ni, e1, e2⟩ := HM9.out.mi
    obtain ⟨es, c, hes⟩ := e2.isMap
    exact ⟨ni, e1, e2.fr (hk10 _ e2.lt (row_ne_map (HM9.out.rw y) hes))⟩
   have hs10 : (fun w' : World => w'.cell? ⟨x.b, 16, none⟩ = some (.map (some x.im))) v10 := hoX.cell (k := 16) rfl
   have HR10 := Lib.hid h1
   have HG10 := Lib.hid h2
   have HV10 := Lib.hid h3
   have HOX := Lib.hid hoX
   have HMX := Lib.hid hmX
   clear h1 h2 h3 hk10 hoX hmX
   refine hK.out _ _ hs10 (fun hHeld3 => ?_)
   clear hK K hHeld2 
   try simp only [PT]
   refine wpAnyH_ready (rs := [14]) (by decide +kernel) (by simp) (AllReadyH.cons rfl (fun K hK => ?_) AllReadyH.nil)
   obtain ⟨ni, hn1, hn2⟩ := HMX.out
   obtain ⟨es, ce, hes⟩ := hn2.isMap
   obtain ⟨v11, hr11, hm11, ht11⟩ := hn2.store Tryz.underlying82 (by have := HN.out; unfold maxLen; omega) (y := y) (by have := HY.out; omega) nv
   have HO11 : Hid (Blk v11 x.b 84 (objC i { o with ps := o.ps ++ [⟨pk, ⟨pvk, pvn, pvs⟩, pw, pe, pf⟩] } pp { x with pb := x.pb ++ [B] })) := HOX.out.fr (ht11.grown.block _ HOX.out.lt fun e => HOX.out.ne_map hes (Option.some.inj e))
   have HM11 : Hid (∃ ni, ni + o.ps.length ≤ 2 * n + 1 ∧ MapI v11 x.im ni (.slice none 0 0) (fun t => if t = y then nv else x.fi t)) := ⟨_, by omega, hm11⟩
   have HR11 : Hid (v11.ownsRow 0 79 1 nv ((sel o x.pb y).length + 1) ((sel o x.pb y).map pv ++ [pv B])) := row_same HR10.out fun k e => ht11.grown.block _ (HR10.out.lt k e).2 (fun e2 => row_ne_map HR10.out hes (by rw [← Option.some.inj e2]; exact e))
   have HF11 : Hid (Fr (fun k => k < v8.heap.size ∧ k ≠ x.b ∧ k ≠ x.im ∧ (x.fi y).ownBlock ≠ some k) v8 v11) := (((Fr.of HB9.out fun k hk => hk.1).grown (fun k hk => hk.1) HG10.out fun k e hk => hk.2.2.2 e)).turned (fun hk => hk.2.2.1 rfl) ht11 fun k hk => hk.1
   refine step_mapU rfl (.tmp 57) (.tmp 58) (.tmp 67) _ rfl v11 hr11 ?_
   clear hr11 hm11 ht11 hn1 hn2 hes HR10 HG10 HOX HMX
   refine hK.out _ _ (HO11.out.cell (k := 16) rfl) (fun hHeld4 => ?_)
   clear hK K hHeld3 
   try simp only [PT]
   refine wpAnyH_done (by kernel_rfl) ?_ _
   clear hHeld4 hs7 hs9 hs10
   obtain ⟨c14, z14⟩ : v11.cell? ⟨x.b, 14, none⟩ = some (.int .i64 (o.len : Int)) ∧ v11.frozen? ⟨x.b, 14, none⟩ = false := ⟨HO11.out.cell (k := 14) rfl, HO11.out.fz 14⟩
   go_wp2_with fail
   refine Go.Great.bodyPost_end0 rfl rfl ⟨rfl, ?_⟩
   rw [show wrap64 ((y : Int) + 1) = (y : Int) + 1 from by have := HY.out; unfold wrap64; omega]
   have e14 : (max (o.len : Int) ((y : Int) + 1)) = ((max o.len (y + 1) : Nat) : Int) := by omega
   rw [e14]
   refine HM7.out.indexed HH.out HL.out HQ.out (v' := nv) ?_ ?_ ?_ ?_ ?_
   ·have hset := HO11.out.set 14 (.int .i64 ((max o.len (y + 1) : Nat) : Int))
    have el : (o.more ix AR ⟨pk, ⟨pvk, pvn, pvs⟩, pw, pe, pf⟩).len = max o.len (y + 1) := by
     unfold Ob.more
     dsimp only
     rw [HQ.out]
    have ec : objC i (o.more ix AR ⟨pk, ⟨pvk, pvn, pvs⟩, pw, pe, pf⟩) pp { x with pb := x.pb ++ [B] } = (objC i { o with ps := o.ps ++ [⟨pk, ⟨pvk, pvn, pvs⟩, pw, pe, pf⟩] } pp { x with pb := x.pb ++ [B] }).set 14 (.int .i64 ((max o.len (y + 1) : Nat) : Int)) := by
     unfold objC
     rw [el]
     rfl
    rw [ec]
    exact hset
   ·obtain ⟨ni, e1, e2⟩ := HM11.out
    obtain ⟨es, c, hes⟩ := e2.isMap
    exact ⟨ni, e1, e2.fr (Below.heap_setCell _ _ _ _ (fun e => HO11.out.ne_map hes e.symm))⟩
   ·exact row_same HR11.out fun k e => Below.heap_setCell _ _ _ _ (fun e2 => HO11.out.ne_row HR11.out (by decide) k e e2.symm)
   ·exact HV10.out.imp id fun e => ⟨_, e, HB9.out.size⟩
   ·exact HF11.out.setCell (p := ⟨x.b, 14, none⟩) (fun hk => hk.2.1 rfl) _
end
end Go.Proofs.YtcahijpbkjplmaaGreatDoor.G
namespace Go.Proofs.YtcahijpbkjplmaaGreatDoor.G
open Go.RowKit Go.Shelf Go.Maps Go.Lib Go.Sort Go.Proofs.YtcahijpbkjplmaaGreatDoor
def delRen : Go.Shelf.Ren := ⟨fun | 6 => 100 | 10 => 92 | n => n, fun | 0 => 0 | 3 => 3 | 4 => 4 | 22 => 121 | 23 => 79 | 25 => 114 | n => n, fun | n => n⟩
theorem delLays : SlLaysH.n10 Tryz.prog delRen := {
 mixed := by kernel_rfl
 f6 := ⟨Tryz.f100.name, by kernel_rfl, Tryz.func100.trans (congrArg some (by kernel_rfl))⟩
 f10 := ⟨Tryz.f92.name, by kernel_rfl, Tryz.func92.trans (congrArg some (by kernel_rfl))⟩
 t0 := Tryz.underlying0
 a0 := Tryz.isAgg0
 z0 := Tryz.sizeOf0
 v0 := Tryz.zeroValue0
 t3 := Tryz.underlying3
 a3 := Tryz.isAgg3
 z3 := Tryz.sizeOf3
 v3 := Tryz.zeroValue3
 t4 := Tryz.underlying4
 a4 := Tryz.isAgg4
 z4 := Tryz.sizeOf4
 v4 := Tryz.zeroValue4
 t22 := Tryz.underlying121
 a22 := Tryz.isAgg121
 z22 := Tryz.sizeOf121
 v22 := Tryz.zeroValue121
 a23 := Tryz.isAgg79
 z23 := Tryz.sizeOf79
 t25 := Tryz.underlying114
 a25 := Tryz.isAgg114
 z25 := Tryz.sizeOf114
 v25 := Tryz.zeroValue114 }
def encO (pb : List Nat) : Option {b : Nat // b ∈ pb} → Value
 | none => .pointer none
 | some b => pv b.1
theorem encO_one (pb : List Nat) : OneCell (encO pb) := fun x => by cases x <;> rfl
theorem nil_eql (w : World) (b : Addr) : (binOp .eql 79 (.pointer none) (av b)).run Tryz.prog w = .ok (.bool false) w := by
 simp only [binOp]
 have hp := Tryz.underlying79
 have h : ∀ d : Nat, (Op.equalIn (d + 1) 79 (.pointer none) (.pointer (some b))).run Tryz.prog w = .ok false w := fun d => by
  simp [Op.equalIn, run_underlying hp]
 simp [Op.equal, Op.maxDepth, h 9999]
theorem sameA (a b : Nat) : decide ((⟨a, 0, none⟩ : Addr) = ⟨b, 0, none⟩) = decide (a = b) := by
 by_cases h : a = b
 ·subst h
  rw [decide_eq_true rfl, decide_eq_true rfl]
 ·rw [decide_eq_false h, decide_eq_false fun e => h (congrArg Addr.block e)]
theorem sameO {pb : List Nat} (c b : {b : Nat // b ∈ pb}) : decide ((⟨c.1, 0, none⟩ : Addr) = ⟨b.1, 0, none⟩) = decide (some c = some b) := by
 rw [sameA]
 by_cases h : c.1 = b.1
 ·rw [decide_eq_true h, decide_eq_true (congrArg some (Subtype.ext h))]
 ·rw [decide_eq_false h, decide_eq_false fun e => h (congrArg Subtype.val (Option.some.inj e))]
theorem sameS {pb : List Nat} (c b : {b : Nat // b ∈ pb}) : decide (c = b) = decide (some c = some b) := by
 by_cases h : c = b
 ·rw [decide_eq_true h, decide_eq_true (congrArg some h)]
 ·rw [decide_eq_false h, decide_eq_false fun e => h (Option.some.inj e)]
theorem gives {pb : List Nat} (b0 : {b : Nat // b ∈ pb}) (cb : Nat) (W : World) (hc : W.cell? ⟨cb, 0, none⟩ = some (pv b0.1)) (hB : ∀ c ∈ pb, ∃ T xs, Blk W c T xs) (x : Option {b : Nat // b ∈ pb}) :
  FnGives Tryz.prog 93 #[.pointer (some ⟨cb, 0, none⟩)] #[encO pb x] (.bool (decide (x = some b0))) W := by
 show Calls Tryz.prog 93 #[encO pb x, .pointer (some ⟨cb, 0, none⟩)] W _
 cases x with
 | none =>
  have he := nil_eql W ⟨b0.1, 0, none⟩
  rw [show decide ((none : Option {b : Nat // b ∈ pb}) = some b0) = false from rfl]
  show Calls Tryz.prog 93 #[.pointer none, .pointer (some ⟨cb, 0, none⟩)] W _
  go_enter Tryz.func93, Tryz.ntmps93
  go_wp2_with fail
  refine bodyPost_ret (results_tmp rfl _ _ _) rfl ⟨rfl, 0, rfl⟩
 | some c =>
  obtain ⟨T, xs, h1⟩ := hB c.1 c.2
  obtain ⟨T', ys, h2⟩ := hB b0.1 b0.2
  have he := ptr_eql W (a := ⟨c.1, 0, none⟩) (b := ⟨b0.1, 0, none⟩) h1 h2
  have e := sameO c b0
  rw [e] at he
  show Calls Tryz.prog 93 #[pv c.1, .pointer (some ⟨cb, 0, none⟩)] W _
  clear h1 h2 hB
  go_enter Tryz.func93, Tryz.ntmps93
  go_wp2_with fail
  refine bodyPost_ret (results_tmp rfl _ _ _) rfl ⟨?_, 0, rfl⟩
  exact congrArg (fun b => Ending.returned (Value.bool b)) (sameS c b0)
theorem take_putO {pb : List Nat} (cur : Array Value) (ts us : List (Option {b : Nat // b ∈ pb})) (h : (ts ++ us).length ≤ cur.size) : (putCells (encO pb) 0 (ts ++ us).toArray cur).toList.take ts.length = ts.map (encO pb) := by
 rw [List.length_append] at h
 apply List.ext_getElem?
 intro j
 by_cases hj : j < ts.length
 ·rw [List.getElem?_take_of_lt hj, Array.getElem?_toList]
  have h1 : j < cur.size := by omega
  have h2 : j < (ts ++ us).length := by rw [List.length_append]; omega
  have h3 : (ts ++ us).toArray[j]! = ts[j] := by
   rw [getElem!_pos _ j (by simpa using h2)]
   simp [List.getElem_append_left hj]
  simp only [putCells, Array.getElem?_mapIdx, Array.getElem?_eq_getElem h1, Option.map_some, Nat.zero_le, true_and, Nat.zero_add, Nat.sub_zero, List.size_toArray, h2, if_true, h3, List.getElem?_map, List.getElem?_eq_getElem hj]
 ·rw [List.getElem?_take_eq_none (by omega), List.getElem?_eq_none (by simp; omega)]
theorem heap_putO {pb : List Nat} {w : World} {g q : Nat} {cur : Array Value} {e : TypeId} {fr : Nat × Nat} (d : Array (Option {b : Nat // b ∈ pb})) (hb : w.heap[g]? = some (.cells cur e fr)) :
  (putRow (encO pb) (Sort.ahead w q) g 0 d).heap[g]? = some (.cells (putCells (encO pb) 0 d cur) e fr) := by
 simp [putRow, mapBlock, Sort.ahead, Array.getElem?_modify, hb, onCells]
theorem grown_putO {pb : List Nat} {w : World} {g q : Nat} (d : Array (Option {b : Nat // b ∈ pb})) : w.grownBy (putRow (encO pb) (Sort.ahead w q) g 0 d) (some g) := by
 refine ⟨rfl, rfl, rfl, by simp, fun k hk hne => ?_⟩
 have : g ≠ k := fun e => hne (by rw [e])
 simp [putRow, mapBlock, Sort.ahead, Array.getElem?_modify, this]
theorem dele_any {w : World} {nv : Value} {bs pb : List Nat} (hr : w.ownsRow 0 79 1 nv bs.length (bs.map pv)) (hne : bs ≠ []) (hbs : ∀ b ∈ bs, b ∈ pb) {b0 : Nat} (hb0 : b0 ∈ pb) {cb : Nat} (hc : w.cell? ⟨cb, 0, none⟩ = some (pv b0))
  (hcr : nv.ownBlock ≠ some cb) (hB : ∀ c ∈ pb, ∃ T xs, Blk w c T xs) (hpr : ∀ c ∈ pb, nv.ownBlock ≠ some c) (hlen : bs.length ≤ maxLen) :
  Calls Tryz.prog 92 #[nv, .func (.func 93) #[] #[pv cb]] w fun e w' => ∃ nv', e = .returned nv' ∧
   w'.ownsRow 0 79 1 nv' (bs.filter fun c => !decide (c = b0)).length ((bs.filter fun c => !decide (c = b0)).map pv) ∧ nv'.ownBlock = nv.ownBlock ∧ w.grownBy w' nv.ownBlock := by
 obtain ⟨hxs, hr2⟩ := hr
 rcases hr2 with ⟨-, h0⟩ | ⟨g, cap, cur, rfl, -, hg, hn, hcap, hcur, htk⟩
 ·exact absurd (List.eq_nil_of_length_eq_zero h0) hne
 rw [Nat.mul_one] at hcur htk
 have hcr' : g ≠ cb := fun e => hcr (by rw [← e]; rfl)
 have hpr' : ∀ c ∈ pb, g ≠ c := fun c h e => hpr c h (by rw [← e]; rfl)
 obtain ⟨L, hL⟩ : ∃ L : List {b : Nat // b ∈ pb}, bs = L.map (·.1) := ⟨bs.attachWith _ hbs, by simp⟩
 subst hL
 have hcellB : ∀ W : World, (∀ c ∈ pb, W.heap[c]? = w.heap[c]?) → ∀ c ∈ pb, ∃ T xs, Blk W c T xs := fun W hW c h => by
  obtain ⟨T, xs, hb⟩ := hB c h
  exact ⟨T, xs, hb.fr (hW c h)⟩
 have hcb : cb < w.heap.size := by
  obtain ⟨u, hu, -⟩ := cells_of_cell hc
  exact (Array.getElem?_eq_some_iff.1 hu).1
 have hlt : ∀ c ∈ pb, c < w.heap.size := fun c h => by
  obtain ⟨T, xs, hb⟩ := hB c h
  exact hb.lt
 have hp : PredAt Tryz.prog 93 #[pv cb] (encO pb) (fun x => decide (x = some ⟨b0, hb0⟩)) w := fun W x hb => gives ⟨b0, hb0⟩ cb W ((hb.cell (p := ⟨cb, 0, none⟩) hcb).trans hc) (hcellB W fun c h => hb.block c (hlt c h)) x
 have hgl : g < w.heap.size := (Array.getElem?_eq_some_iff.1 hg).1
 have hpo : PredOver Tryz.prog 93 #[pv cb] (encO pb) (fun x => decide (x = some ⟨b0, hb0⟩)) g 0 (L.map some).toArray.size w := fun n os dk x _ => by
  refine gives ⟨b0, hb0⟩ cb _ ?_ (hcellB _ fun c h => ?_) x
  ·unfold sortWorld
   rw [cell?_grow _ _ _ (by show cb < (putRow _ _ _ _ _).heap.size; rw [size_putRow]; exact hcb), cell?_putRow_other _ _ g 0 _ _ (Or.inl (Ne.symm hcr'))]
   exact hc
  ·unfold sortWorld
   rw [Sort.heap_grow_old _ _ (by rw [size_putRow]; exact hlt c h)]
   exact (grown_putO (q := n) dk).block c (hlt c h) (fun e => hpr' c h (Option.some.inj e).symm)
 have hcell : ∀ j (hj : j < L.length), cur[j]? = some (pv L[j].1) := fun j hj => by
  have : ((L.map (·.1)).map pv)[j]? = some (pv L[j].1) := by simp [List.getElem?_eq_getElem hj]
  rw [← htk, List.getElem?_take_of_lt (by rw [List.length_map]; exact hj), Array.getElem?_toList] at this
  exact this
 have hH : Holds (encO pb) w g 0 (L.map some).toArray := fun j hj => by
  have hj' : j < L.length := by simpa using hj
  refine ⟨?_, ?_⟩
  ·rw [Nat.zero_add, getElem!_pos _ j hj]
   unfold World.cell?
   rw [hg]
   simpa [encO] using hcell j hj'
  ·unfold World.frozen?
   rw [hg]
   simp
 have hsz : (L.map some).toArray.size = L.length := by simp
 have hln : (L.map (·.1)).length = L.length := by simp
 rw [hln] at hn hlen ⊢
 have hc1 := AnyE.slices_DeleteFunc delLays (encO pb) (encO_one pb) (fun x => decide (x = some ⟨b0, hb0⟩)) 93 #[pv cb] (enters_of Tryz.func93 (by kernel_rfl) rfl) none Tryz.zeroValue79 g 0 cap (L.map some).toArray w hp hpo hH (by rw [hsz]; unfold maxLen at hlen; omega) (by rw [hsz]; exact hn)
 rw [hsz] at hc1
 have hf : (L.map some).toArray.toList.filter (fun x => !decide (x = some (⟨b0, hb0⟩ : {b : Nat // b ∈ pb}))) = (L.filter fun c => !decide (c.1 = b0)).map some := by
  show (L.map some).filter _ = _
  rw [List.filter_map]
  congr 2
  funext c
  show (!decide (some c = some _)) = _
  congr 2
  exact propext ⟨fun e => by rw [Option.some.inj e], fun e => by congr 1; exact Subtype.ext e⟩
 have hfb : (L.map (·.1)).filter (fun c => !decide (c = b0)) = (L.filter fun c => !decide (c.1 = b0)).map (·.1) := by
  rw [List.filter_map]
  rfl
 rw [hf] at hc1
 rw [hfb]
 refine hc1.mono ?_
 rintro e w' ⟨rfl, q, rfl⟩
 have hle : (L.filter fun c => !decide (c.1 = b0)).length ≤ L.length := List.length_filter_le _ _
 refine ⟨_, rfl, ⟨by simp, .inr ⟨g, cap, _, by simp, Nat.zero_le _, heap_putO _ hg, by simp; omega, hcap, by simp [putCells, hcur], ?_⟩⟩, rfl, grown_putO _⟩
 rw [Nat.mul_one]
 have := take_putO cur ((L.filter fun c => !decide (c.1 = b0)).map some) (List.replicate (L.length - ((L.filter fun c => !decide (c.1 = b0)).map some).length) none) (by simp; omega)
 simp only [List.length_map] at this ⊢
 rw [this, List.map_map, List.map_map]
 rfl
end Go.Proofs.YtcahijpbkjplmaaGreatDoor.G
namespace Go.Proofs.YtcahijpbkjplmaaGreatDoor.G
open Go.RowKit Go.Shelf Go.Maps Go.Proofs.YtcahijpbkjplmaaGreatDoor
theorem selG_off {f : ByteArray → Bool} : ∀ {pb : List Nat} {ps : List Pr} {k : Nat} {p : Pr}, pb.length = ps.length → ps[k]? = some p → f p.key = false → selG f (pb.eraseIdx k) (ps.eraseIdx k) = selG f pb ps
 | [], [], k, p, _, h, _ => by simp at h
 | b :: pb, q :: ps, 0, p, _, h, hf => by
  simp only [List.getElem?_cons_zero, Option.some.injEq] at h
  subst h
  rw [List.eraseIdx_cons_zero, List.eraseIdx_cons_zero, selG_cons, hf]
  rfl
 | b :: pb, q :: ps, k + 1, p, hl, h, hf => by
  rw [List.eraseIdx_cons_succ, List.eraseIdx_cons_succ, selG_cons, selG_cons, selG_off (by simpa using hl) (by simpa using h) hf]
structure Less (w : World) (ow : Nat → Option Nat) (i n : Nat) (pp : Value) (x : OL) (o : Ob) (k : Nat) (w' : World) : Prop where
 ring : Ring w' i pp { x with pb := x.pb.eraseIdx k } { o with ps := o.ps.eraseIdx k }
 mp : MapS w' x.pm n (.pointer none) (fnd (x.pb.eraseIdx k) (o.ps.eraseIdx k))
 mi : ∃ ni, ni + o.ps.length ≤ 2 * n ∧ MapI w' x.im ni (.slice none 0 0) x.fi
 rw : ∀ y, w'.ownsRow 0 79 1 (x.fi y) (sel o x.pb y).length ((sel o x.pb y).map pv)
 fr : Fr (fun k => k < w.heap.size ∧ ow k ≠ some (i + 1)) w w'
 all : ∀ c ∈ x.pb, ∃ xs, Blk w' c 81 xs
section
variable {w w1 w2 : World} {ow : Nat → Option Nat} {i n k : Nat} {pp : Value} {x : OL} {o : Ob} {p : Pr}
theorem Less.low (h : Less w ow i n pp x o k w1) (hb : Below w1.heap.size w1 w2) : Less w ow i n pp x o k w2 := by
 obtain ⟨ni, h1, h2⟩ := h.mi
 refine ⟨h.ring.fr (hb.block _ h.ring.ob.lt) fun b hbm => hb.block _ (h.ring.lt hbm), h.mp.fr (hb.block _ h.mp.lt), ⟨ni, h1, h2.fr (hb.block _ h2.lt)⟩, fun y => row_same (h.rw y) fun k e => hb.block k ((h.rw y).lt k e).2, h.fr.trans ⟨hb.os, hb.tape, hb.output, hb.size, fun k hk => hb.block k (Nat.lt_of_lt_of_le hk.1 h.fr.size)⟩, fun c hc => ?_⟩
 obtain ⟨xs, hx⟩ := h.all c hc
 exact ⟨xs, hx.low hb⟩
theorem ObjAt.map (h : ObjAt w ow i n pp x o) (hp : o.ps[k]? = some p) : (x.pb.eraseIdx k).length = (o.ps.eraseIdx k).length ∧ (o.ps.eraseIdx k).length + 1 = o.ps.length := by
 have h1 : k < o.ps.length := (List.getElem?_eq_some_iff.1 hp).1
 rw [List.length_eraseIdx_of_lt h1, List.length_eraseIdx_of_lt (by rw [h.pl]; exact h1), h.pl]
 omega
theorem Less.whole (h : Less w ow i n pp x o k w1) (h0 : ObjAt w ow i n pp x o) (hl : ∀ k, ow k ≠ none → k < w.heap.size) (hp : o.ps[k]? = some p) (hx : o.ixA ix AR p.key = none) :
  ∃ ow' x', x'.pb = x.pb.eraseIdx k ∧ Chg w ow i n pp x.b { o with ps := o.ps.eraseIdx k } w1 ow' x' := by
 obtain ⟨ni, hn1, hn2⟩ := h.mi
 obtain ⟨hl1, hl2⟩ := h0.map hp
 refine ⟨ow, { x with pb := x.pb.eraseIdx k }, rfl, rfl, ⟨h.ring.ob, hl1, h.ring.pr, h.ring.nod, h.mp, ⟨ni, by show ni + (o.ps.eraseIdx k).length ≤ _; omega, hn2⟩, fun y => ?_, h0.ra, h0.wb, h0.wm, h0.wi, fun b hb => h0.wp b (List.mem_of_mem_eraseIdx hb), h0.mne⟩, fun _ _ e => e, fun _ e => .inl e, fun k e => Nat.lt_of_lt_of_le (hl k e) h.fr.size, fun _ _ e _ => e, h.fr⟩
 have e : sel { o with ps := o.ps.eraseIdx k } (x.pb.eraseIdx k) y = sel o x.pb y := by
  rw [sel_eq, sel_eq]
  exact selG_off h0.pl hp (decide_eq_false (by show ¬ o.ixA ix AR p.key = some y; rw [hx]; simp))
 rw [e]
 exact h.rw y
theorem Less.indexed (h : Less w ow i n pp x o k w1) (h0 : ObjAt w ow i n pp x o) (hl : ∀ k, ow k ≠ none → k < w.heap.size) (hp : o.ps[k]? = some p) {b0 : Nat} (hb0 : x.pb[k]? = some b0) {y : Nat} (hx : o.ixA ix AR p.key = some y) {v' : Value}
  (him : ∃ ni, ni + o.ps.length ≤ 2 * n + 1 ∧ MapI w2 x.im ni (.slice none 0 0) (fun t => if t = y then v' else x.fi t))
  (hrow : w2.ownsRow 0 79 1 v' ((sel o x.pb y).filter fun c => !decide (c = b0)).length (((sel o x.pb y).filter fun c => !decide (c = b0)).map pv)) (hv : v'.ownBlock = (x.fi y).ownBlock)
  (hfr : Fr (fun k => k < w1.heap.size ∧ k ≠ x.im ∧ (x.fi y).ownBlock ≠ some k) w1 w2) :
  ∃ ow' x', x'.pb = x.pb.eraseIdx k ∧ Chg w ow i n pp x.b { o with ps := o.ps.eraseIdx k } w2 ow' x' := by
 obtain ⟨ni, hn1, hn2⟩ := him
 obtain ⟨mi, hm1, hm2⟩ := h.mi
 obtain ⟨ese, ce, hme⟩ := h.mp.isMap
 obtain ⟨esi, ci, hmi⟩ := hm2.isMap
 obtain ⟨hl1, hl2⟩ := h0.map hp
 have hob : w2.heap[x.b]? = w1.heap[x.b]? := hfr.block _ ⟨h.ring.ob.lt, h.ring.ob.ne_map hmi, fun e => h.ring.ob.ne_row (h.rw y) (by decide) _ e rfl⟩
 have hpb : ∀ b ∈ x.pb, w2.heap[b]? = w1.heap[b]? := fun b hb => by
  obtain ⟨xs, hbx⟩ := h.all b hb
  exact hfr.block _ ⟨hbx.lt, hbx.ne_map hmi, fun e => hbx.ne_row (h.rw y) (by decide) _ e rfl⟩
 have hring := h.ring.fr (w' := w2) hob fun b hb => hpb b (List.mem_of_mem_eraseIdx hb)
 have hown : ∀ t g, (if t = y then v' else x.fi t).ownBlock = some g → (x.fi t).ownBlock = some g := fun t g e => by
  by_cases ht : t = y
  ·rw [if_pos ht, hv] at e
   rw [ht]
   exact e
  ·rw [if_neg ht] at e
   exact e
 refine ⟨ow, { x with pb := x.pb.eraseIdx k, fi := fun t => if t = y then v' else x.fi t }, rfl, rfl, ⟨hring.ob, hl1, hring.pr, hring.nod, h.mp.fr (hfr.block _ ⟨h.mp.lt, h0.mne, row_ne_map (h.rw y) hme⟩), ⟨ni, by show ni + (o.ps.eraseIdx k).length ≤ _; omega, hn2⟩, fun t => ?_, fun t g e => ?_, h0.wb, h0.wm, h0.wi, fun b hb => h0.wp b (List.mem_of_mem_eraseIdx hb), h0.mne⟩, fun _ _ e => e, fun _ e => .inl e, fun k e => Nat.lt_of_lt_of_le (hl k e) (Nat.le_trans h.fr.size hfr.size), fun _ _ e _ => e, h.fr.trans ⟨hfr.os, hfr.tape, hfr.output, hfr.size, fun k hk => hfr.block k ⟨Nat.lt_of_lt_of_le hk.1 h.fr.size, (fun e => hk.2 (by rw [e]; exact h0.wi)), fun e => hk.2 (h0.ra y k e).1⟩⟩⟩
 ·by_cases ht : t = y
  ·have e : sel { o with ps := o.ps.eraseIdx k } (x.pb.eraseIdx k) t = (sel o x.pb y).filter fun c => !decide (c = b0) := by
    rw [ht, sel_eq, sel_eq]
    exact selG_erase _ h0.pl h0.nod hb0
   rw [e]
   show w2.ownsRow 0 _ 1 (if t = y then v' else x.fi t) _ _
   rw [if_pos ht]
   exact hrow
  ·have e : sel { o with ps := o.ps.eraseIdx k } (x.pb.eraseIdx k) t = sel o x.pb t := by
    rw [sel_eq, sel_eq]
    exact selG_off h0.pl hp (decide_eq_false (by show ¬ o.ixA ix AR p.key = some t; rw [hx]; exact fun e => ht (Option.some.inj e).symm))
   rw [e]
   show w2.ownsRow 0 _ 1 (if t = y then v' else x.fi t) _ _
   rw [if_neg ht]
   exact row_same (h.rw t) fun g e => hfr.block g ⟨((h.rw t).lt g e).2, (fun e2 => row_ne_map (h.rw t) hmi (by rw [← e2]; exact e)), fun e2 => ht ((h0.ra t g e).2 y e2).symm⟩
 ·obtain ⟨e1, e2⟩ := h0.ra t g (hown t g e)
  exact ⟨e1, fun y' e' => e2 y' (hown y' g e')⟩
theorem Ring.apart (h : Ring w i pp x o) (hk : k < x.pb.length) (j : Nat) (hj : j ≠ k + 1) : (nd x.b x.pb j).block ≠ x.pb[k] := by
 have hb : x.b ≠ x.pb[k] := Ne.symm (h.ne (List.getElem_mem hk))
 cases j with
 | zero => exact hb
 | succ j =>
  rcases Nat.lt_or_ge j x.pb.length with h' | h'
  ·rw [nd_of h']
   exact fun e => hj (by rw [(List.getElem_inj h.nod).1 e])
  ·rw [nd_end h']
   exact hb
theorem Ring.at_place (h : Ring w i pp x o) {j g q : Nat} (e : nd x.b x.pb j = ⟨g, q, none⟩) : (∃ u, w.cell? ⟨g, q + 8, none⟩ = some u) ∧ (∃ u, w.cell? ⟨g, q + 7, none⟩ = some u) ∧ (∀ k, w.frozen? ⟨g, k, none⟩ = false) := by
 obtain ⟨g', q', e', h1, h2, h3, -⟩ := h.place j
 rw [e] at e'
 injection e' with e1 e2
 subst e1 e2
 exact ⟨h1, h2, h3⟩
theorem set_some (w : World) (p q : Addr) (v : Value) (h : ∃ u, w.cell? q = some u) : ∃ u, (w.setCell p v).cell? q = some u := by
 obtain ⟨u, hu⟩ := h
 by_cases e : q = p
 ·subst e
  exact ⟨v, World.cell?_setCell_same _ _ _ hu⟩
 ·exact ⟨u, (World.cell?_setCell_other _ _ _ _ (Ne.symm e)).trans hu⟩
theorem sel_mem {b0 y : Nat} (hp : o.ps[k]? = some p) (hb : x.pb[k]? = some b0) (hx : o.ixA ix AR p.key = some y) : b0 ∈ sel o x.pb y := by
 rw [sel_eq]
 unfold selG
 exact List.mem_map.2 ⟨(b0, p), List.mem_filter.2 ⟨List.mem_of_getElem? (i := k) (List.getElem?_zip_eq_some.2 ⟨hb, hp⟩), by simpa using hx⟩, rfl⟩
theorem sel_sub {c y : Nat} (h : c ∈ sel o x.pb y) : c ∈ x.pb := selG_mem (by rw [sel_eq] at h; exact h)
theorem step_del {ops : Array Oper} {o : Oper} {a : Act} {w : World} {K : Act → World → Prop} {Q : Exit → Act → World → Prop} {E : Prop} (hgd : o.guard = none) (m s : Operand) (t t' : TypeId) (ho : o.op = .call { callee := .builtin .delete, args := #[m, s], argTypes := #[t, t'] }) (w' : World)
  (hr : (Builtin.delete_ #[t, t'] o.type #[a.eval m, a.eval s]).run Tryz.prog w = .ok (.tuple #[]) w') (h : K (a.put o.dst (.tuple #[])) w') : if Region.wanted o (yielded ops a.tmps) = true then Oper.wp Tryz.prog o a w K Q else E := by
 have hw : Region.wanted o (yielded ops a.tmps) = true := by simp [Region.wanted, hgd]
 rw [if_pos hw]
 unfold Oper.wp execOp
 simp only [ho, resolve, invoke, builtin, Sem.run_bind, Sem.run_pure, Result.andThen_ok, List.map_toArray, List.map_cons, List.map_nil, hr]
 exact h
def RemR (w : World) (ow : Nat → Option Nat) (i n : Nat) (pp : Value) (b : Nat) (pb' : List Nat) (o' : Ob) (e : Ending) (w' : World) : Prop := e = .returned (.tuple #[]) ∧ ∃ ow' x', x'.pb = pb' ∧ Chg w ow i n pp b o' w' ow' x'
set_option maxRecDepth 20000 in
set_option maxHeartbeats 1000000 in
theorem remove_any (h : ObjAt w ow i n pp x o) (hl : ∀ k, ow k ≠ none → k < w.heap.size) (hp : o.ps[k]? = some p) {b0 : Nat} (hb0 : x.pb[k]? = some b0) (hs : p.key.size ≤ 16777216) (hnd : (o.ps.map (·.key)).Nodup) (hn : n ≤ 100000) (hps : o.ps.length ≤ 100000) (hix : ∀ y, o.ixA ix AR p.key = some y → y < 1000) :
  Calls Tryz.prog 77 #[pv x.b, pv b0] w (RemR w ow i n pp x.b (x.pb.eraseIdx k) { o with ps := o.ps.eraseIdx k }) := by
 have hk : k < x.pb.length := (List.getElem?_eq_some_iff.1 hb0).1
 have hk2 : k < o.ps.length := (List.getElem?_eq_some_iff.1 hp).1
 have eb : x.pb[k] = b0 := (List.getElem?_eq_some_iff.1 hb0).2
 have ep : o.ps[k] = p := (List.getElem?_eq_some_iff.1 hp).2
 obtain ⟨g1, q1, hg1, hu1, -, hz1, hm1⟩ := h.ring.place k
 obtain ⟨g2, q2, hg2, -, hu2, hz2, hm2⟩ := h.ring.place (k + 2)
 have hn1 : g1 ≠ b0 := by have := h.ring.apart hk k (by omega); rw [hg1, eb] at this; exact this
 have hn2 : g2 ≠ b0 := by have := h.ring.apart hk (k + 2) (by omega); rw [hg2, eb] at this; exact this
 have hbB : Blk w b0 81 (propC p (av ⟨g1, q1, none⟩) (av ⟨g2, q2, none⟩)) := by
  have := h.pr k hk hk2
  rw [eb, ep, hg1, hg2] at this
  exact this
 have h0 := h.low hl (below_new w (.cells #[pv b0] 79))
 have hB0 := Blk.new w 79 [pv b0]
 have hb := below_new w (.cells #[pv b0] 79)
 have hbm : b0 ∈ x.pb := List.mem_of_getElem? hb0
 have hblt : b0 < w.heap.size := hbB.lt
 have HH := Lib.hid h
 have HL := Lib.hid hl
 have HP := Lib.hid hp
 have HPB := Lib.hid hb0
 have HND := Lib.hid hnd
 have HN := Lib.hid hn
 have HPS := Lib.hid hps
 have HIX := Lib.hid hix
 have HKS : Hid (p.key.size ≤ maxLen) := by show p.key.size ≤ maxLen; unfold maxLen; omega
 have HBM := Lib.hid hbm
 have HK := Lib.hid hk
 have HG1 := Lib.hid hg1
 have HG2 := Lib.hid hg2
 have HM1 := Lib.hid hm1
 have HM2 := Lib.hid hm2
 have HN1 := Lib.hid hn1
 have HN2 := Lib.hid hn2
 have HX : Hid (ObjAt (w.alloc (.cells #[pv b0] 79)).drew ow i n pp x o ∧ Blk (w.alloc (.cells #[pv b0] 79)).drew w.heap.size 79 [pv b0] ∧ Below w.heap.size w (w.alloc (.cells #[pv b0] 79)).drew ∧
   Blk (w.alloc (.cells #[pv b0] 79)).drew b0 81 (propC p (av ⟨g1, q1, none⟩) (av ⟨g2, q2, none⟩))) := ⟨h0.low (fun k hk => Nat.lt_of_lt_of_le (hl k hk) hb.size) (below_draw _), hB0.fr rfl, hb.drew, (hbB.low hb).fr rfl⟩
 clear h hl hp hb0 hs hnd hn hps hix hbm hk hk2 hg1 hg2 hm1 hm2 hn1 hn2 hbB h0 hB0 hb eb ep hz1 hz2 hu1 hu2
 obtain ⟨pk, ⟨pvk, pvn, pvs⟩, pw, pe, pf⟩ := p
 dsimp only at HKS HIX
 go_enter Tryz.func77, Tryz.ntmps77
 go_wp2_with fail
 refine wp_region_held_drew (S := fun w' => w'.cell? ⟨w.heap.size, 0, none⟩ = some (pv b0) ∧ w'.cell? ⟨b0, 7, none⟩ = some (av ⟨g1, q1, none⟩) ∧ w'.cell? ⟨b0, 8, none⟩ = some (av ⟨g2, q2, none⟩)) (by kernel_rfl) (⟨HX.out.2.1.cell (k := 0) rfl, HX.out.2.2.2.cell (k := 7) rfl, HX.out.2.2.2.cell (k := 8) rfl⟩) (fun hHeld0 => ?_)
 generalize (w.alloc (.cells #[pv b0] 79)).drew = v1 at *
 refine tk 0 ?_ ‹_› ?_ ?_; rotate_left; focus (intro w0 hSw; obtain ⟨cB, c7, c8⟩ := hSw; go_simp; try with_reducible rfl)
 refine tk 1 ?_ ‹_› ?_ ?_; rotate_left; focus (intro w0 hSw; obtain ⟨cB, c7, c8⟩ := hSw; go_simp; try with_reducible rfl)
 refine tk 2 ?_ ‹_› ?_ ?_; rotate_left; focus (intro w0 hSw; obtain ⟨cB, c7, c8⟩ := hSw; go_simp; try with_reducible rfl)
 refine tk 3 ?_ ‹_› ?_ ?_; rotate_left; focus (intro w0 hSw; obtain ⟨cB, c7, c8⟩ := hSw; go_simp; try with_reducible rfl)
 refine tk 4 ?_ ‹_› ?_ ?_; rotate_left; focus (intro w0 hSw; obtain ⟨cB, c7, c8⟩ := hSw; go_simp; try with_reducible rfl)
 refine tk 5 ?_ ‹_› ?_ ?_; rotate_left; focus (intro w0 hSw; obtain ⟨cB, c7, c8⟩ := hSw; go_simp; try with_reducible rfl)
 refine tk 6 ?_ ‹_› ?_ ?_; rotate_left; focus (intro w0 hSw; obtain ⟨cB, c7, c8⟩ := hSw; go_simp; try with_reducible rfl)
 refine tk 7 ?_ ‹_› ?_ ?_; rotate_left; focus (intro w0 hSw; obtain ⟨cB, c7, c8⟩ := hSw; go_simp; try with_reducible rfl)
 refine tk 8 ?_ ‹_› ?_ ?_; rotate_left; focus (intro w0 hSw; obtain ⟨cB, c7, c8⟩ := hSw; go_simp; try with_reducible rfl)
 refine tk 9 ?_ ‹_› ?_ ?_; rotate_left; focus (intro w0 hSw; obtain ⟨cB, c7, c8⟩ := hSw; go_simp; try with_reducible rfl)
 refine tk 10 ?_ ‹_› ?_ ?_; rotate_left; focus (intro w0 hSw; obtain ⟨cB, c7, c8⟩ := hSw; go_simp; try with_reducible rfl)
 refine tk 11 ?_ ‹_› ?_ ?_; rotate_left; focus (intro w0 hSw; obtain ⟨cB, c7, c8⟩ := hSw; go_simp; try with_reducible rfl)
 refine tk 12 ?_ ‹_› ?_ ?_; rotate_left; focus (intro w0 hSw; obtain ⟨cB, c7, c8⟩ := hSw; go_simp; try with_reducible rfl)
 refine tk 13 ?_ ‹_› ?_ ?_; rotate_left; focus (intro w0 hSw; obtain ⟨cB, c7, c8⟩ := hSw; go_simp; try with_reducible rfl)
 refine tk 14 ?_ ‹_› ?_ ?_; rotate_left; focus (intro w0 hSw; obtain ⟨cB, c7, c8⟩ := hSw; go_simp; try with_reducible rfl)
 refine tk 15 ?_ ‹_› ?_ ?_; rotate_left; focus (intro w0 hSw; obtain ⟨cB, c7, c8⟩ := hSw; go_simp; try with_reducible rfl)
 refine tk 16 ?_ ‹_› ?_ ?_; rotate_left; focus (intro w0 hSw; obtain ⟨cB, c7, c8⟩ := hSw; go_simp; try with_reducible rfl)
 refine tk 17 ?_ ‹_› ?_ ?_; rotate_left; focus (intro w0 hSw; obtain ⟨cB, c7, c8⟩ := hSw; go_simp; try with_reducible rfl)
 try simp only [PT]
 refine wpAnyH_ready (rs := [18]) (by decide +kernel) (by simp) (AllReadyH.cons rfl (fun K hK => ?_) AllReadyH.nil)
 obtain ⟨⟨u8, hu8⟩, -, hfz⟩ := HX.out.1.ring.at_place HG1.out
 have hu8' : v1.cell? ⟨g1, q1 + 8, none⟩ = some u8 := hu8
 have hfz' : v1.frozen? ⟨g1, q1 + 8, none⟩ = false := hfz _
 go_simp
 clear hu8' hfz' hu8 hfz
 have hP1 : g1 ≠ w.heap.size := by
  have : ow g1 = some (i + 1) := HM1.out.elim (fun e => by rw [e]; exact HH.out.wb) (fun e => HH.out.wp _ e)
  exact Nat.ne_of_lt (HL.out _ (by rw [this]; simp))
 have HP1 := Lib.hid hP1
 clear hP1
 refine hK.out _ _ ⟨(cell_far _ HP1.out _ _ _).trans hHeld0.1, (cell_far _ HN1.out _ _ _).trans hHeld0.2.1, (cell_far _ HN1.out _ _ _).trans hHeld0.2.2⟩ (fun hHeld1 => ?_)
 clear hK K hHeld0 
 try simp only [PT]
 refine tk 19 ?_ ‹_› ?_ ?_; rotate_left; focus (intro w0 hSw; go_simp; try with_reducible rfl)
 refine tk 20 ?_ ‹_› ?_ ?_; rotate_left; focus (intro w0 hSw; go_simp; try with_reducible rfl)
 try simp only [PT]
 refine wpAnyH_ready (rs := [21]) (by decide +kernel) (by simp) (AllReadyH.cons rfl (fun K hK => ?_) AllReadyH.nil)
 obtain ⟨u7, hu7⟩ := set_some v1 ⟨g1, q1 + 8, none⟩ ⟨g2, q2 + 7, none⟩ (av ⟨g2, q2, none⟩) (HX.out.1.ring.at_place HG2.out).2.1
 have hf7 : (v1.setCell ⟨g1, q1 + 8, none⟩ (av ⟨g2, q2, none⟩)).frozen? ⟨g2, q2 + 7, none⟩ = false := by
  rw [World.frozen?_setCell]
  exact (HX.out.1.ring.at_place HG2.out).2.2 _
 go_simp
 clear hu7 hf7
 have hP2 : g2 ≠ w.heap.size := by
  have : ow g2 = some (i + 1) := HM2.out.elim (fun e => by rw [e]; exact HH.out.wb) (fun e => HH.out.wp _ e)
  exact Nat.ne_of_lt (HL.out _ (by rw [this]; simp))
 have HP2 := Lib.hid hP2
 clear hP2
 refine hK.out _ _ ⟨(cell_far _ HP2.out _ _ _).trans hHeld1.1, (cell_far _ HN2.out _ _ _).trans hHeld1.2.1, (cell_far _ HN2.out _ _ _).trans hHeld1.2.2⟩ (fun hHeld2 => ?_)
 clear hK K hHeld1 
 try simp only [PT]
 refine wpAnyH_done (by kernel_rfl) ?_ _
 clear hHeld2
 have HR2 : Hid (Ring ((v1.setCell ⟨g1, q1 + 8, none⟩ (av ⟨g2, q2, none⟩)).setCell ⟨g2, q2 + 7, none⟩ (av ⟨g1, q1, none⟩)).drew i pp { x with pb := x.pb.eraseIdx k } { o with ps := o.ps.eraseIdx k }) := by
  have := HX.out.1.ring.erase HK.out
  rw [HG1.out, HG2.out] at this
  exact this.fr rfl fun _ _ => rfl
 have hkeep : ∀ c, c ≠ g1 → c ≠ g2 → ((v1.setCell ⟨g1, q1 + 8, none⟩ (av ⟨g2, q2, none⟩)).setCell ⟨g2, q2 + 7, none⟩ (av ⟨g1, q1, none⟩)).drew.heap[c]? = v1.heap[c]? := fun c h1 h2 => by
  show ((v1.setCell ⟨g1, q1 + 8, none⟩ (av ⟨g2, q2, none⟩)).setCell ⟨g2, q2 + 7, none⟩ (av ⟨g1, q1, none⟩)).heap[c]? = _
  rw [Below.heap_setCell _ _ _ _ h2, Below.heap_setCell _ _ _ _ h1]
 have hmapk : ∀ (m : Nat) (es : Array MapEntry) (c : Nat), v1.heap[m]? = some (.map es c) → ((v1.setCell ⟨g1, q1 + 8, none⟩ (av ⟨g2, q2, none⟩)).setCell ⟨g2, q2 + 7, none⟩ (av ⟨g1, q1, none⟩)).drew.heap[m]? = v1.heap[m]? := fun m es c hm => by
  refine hkeep m ?_ ?_
  ·exact HM1.out.elim (fun e => by rw [e]; exact Ne.symm (HX.out.1.ob.ne_map hm)) (fun e => Ne.symm (HX.out.1.ring.ne_map e hm))
  ·exact HM2.out.elim (fun e => by rw [e]; exact Ne.symm (HX.out.1.ob.ne_map hm)) (fun e => Ne.symm (HX.out.1.ring.ne_map e hm))
 have hrowk : ∀ y c, (x.fi y).ownBlock = some c → ((v1.setCell ⟨g1, q1 + 8, none⟩ (av ⟨g2, q2, none⟩)).setCell ⟨g2, q2 + 7, none⟩ (av ⟨g1, q1, none⟩)).drew.heap[c]? = v1.heap[c]? := fun y c hc => by
  refine hkeep c ?_ ?_
  ·exact HM1.out.elim (fun e => by rw [e]; exact Ne.symm (HX.out.1.ob.ne_row (HX.out.1.rw y) (by decide) c hc)) (fun e => Ne.symm (HX.out.1.ring.ne_row e (HX.out.1.rw y) c hc))
  ·exact HM2.out.elim (fun e => by rw [e]; exact Ne.symm (HX.out.1.ob.ne_row (HX.out.1.rw y) (by decide) c hc)) (fun e => Ne.symm (HX.out.1.ring.ne_row e (HX.out.1.rw y) c hc))
 have HS2 : Hid (MapS ((v1.setCell ⟨g1, q1 + 8, none⟩ (av ⟨g2, q2, none⟩)).setCell ⟨g2, q2 + 7, none⟩ (av ⟨g1, q1, none⟩)).drew x.pm n (.pointer none) (fnd x.pb o.ps)) := by
  obtain ⟨es, c, hes⟩ := HX.out.1.mp.isMap
  exact HX.out.1.mp.fr (hmapk _ _ _ hes)
 have HI2 : Hid (∃ ni, ni + o.ps.length ≤ 2 * n ∧ MapI ((v1.setCell ⟨g1, q1 + 8, none⟩ (av ⟨g2, q2, none⟩)).setCell ⟨g2, q2 + 7, none⟩ (av ⟨g1, q1, none⟩)).drew x.im ni (.slice none 0 0) x.fi) := by
  obtain ⟨ni, h1, h2⟩ := HX.out.1.mi
  obtain ⟨es, c, hes⟩ := h2.isMap
  exact ⟨ni, h1, h2.fr (hmapk _ _ _ hes)⟩
 have HW2 : Hid (∀ y, ((v1.setCell ⟨g1, q1 + 8, none⟩ (av ⟨g2, q2, none⟩)).setCell ⟨g2, q2 + 7, none⟩ (av ⟨g1, q1, none⟩)).drew.ownsRow 0 79 1 (x.fi y) (sel o x.pb y).length ((sel o x.pb y).map pv)) := fun y => row_same (HX.out.1.rw y) (hrowk y)
 have HF2 : Hid (Fr (fun k => k < w.heap.size ∧ ow k ≠ some (i + 1)) w ((v1.setCell ⟨g1, q1 + 8, none⟩ (av ⟨g2, q2, none⟩)).setCell ⟨g2, q2 + 7, none⟩ (av ⟨g1, q1, none⟩)).drew) := by
  have o1 : ow g1 = some (i + 1) := HM1.out.elim (fun e => by rw [e]; exact HH.out.wb) (fun e => HH.out.wp _ e)
  have o2 : ow g2 = some (i + 1) := HM2.out.elim (fun e => by rw [e]; exact HH.out.wb) (fun e => HH.out.wp _ e)
  exact (((Fr.of HX.out.2.2.1 fun k hk => hk.1).setCell (p := ⟨g1, q1 + 8, none⟩) (fun hk => hk.2 o1) _).setCell (p := ⟨g2, q2 + 7, none⟩) (fun hk => hk.2 o2) _).drew
 have HA2 : Hid (∀ c ∈ x.pb, ∃ xs, Blk ((v1.setCell ⟨g1, q1 + 8, none⟩ (av ⟨g2, q2, none⟩)).setCell ⟨g2, q2 + 7, none⟩ (av ⟨g1, q1, none⟩)).drew c 81 xs) := fun c hc => by
  obtain ⟨j, hj, rfl⟩ := List.getElem_of_mem hc
  have hb := HX.out.1.pr j hj (by rw [← HX.out.1.pl]; exact hj)
  have hs1 : ∃ xs, Blk (v1.setCell ⟨g1, q1 + 8, none⟩ (av ⟨g2, q2, none⟩)) x.pb[j] 81 xs := by
   by_cases e : x.pb[j] = g1
   ·rw [e] at hb ⊢
    exact ⟨_, hb.set _ _⟩
   ·exact ⟨_, hb.other e _⟩
  obtain ⟨ys, hy⟩ := hs1
  by_cases e : x.pb[j] = g2
  ·rw [e] at hy ⊢
   exact ⟨_, hy.set _ _⟩
  ·exact ⟨_, hy.other (p := ⟨g2, q2 + 7, none⟩) e _⟩
 have HC2 : Hid (Blk ((v1.setCell ⟨g1, q1 + 8, none⟩ (av ⟨g2, q2, none⟩)).setCell ⟨g2, q2 + 7, none⟩ (av ⟨g1, q1, none⟩)).drew w.heap.size 79 [pv b0] ∧ Blk ((v1.setCell ⟨g1, q1 + 8, none⟩ (av ⟨g2, q2, none⟩)).setCell ⟨g2, q2 + 7, none⟩ (av ⟨g1, q1, none⟩)).drew b0 81 (propC ⟨pk, ⟨pvk, pvn, pvs⟩, pw, pe, pf⟩ (av ⟨g1, q1, none⟩) (av ⟨g2, q2, none⟩))) := by
  have p1 := HP1.out
  have p2 := HP2.out
  have p3 := HN1.out
  have p4 := HN2.out
  exact ⟨HX.out.2.1.fr (hkeep _ (Ne.symm p1) (Ne.symm p2)), HX.out.2.2.2.fr (hkeep _ (Ne.symm p3) (Ne.symm p4))⟩
 have hs2 : (fun w' : World => w'.cell? ⟨x.b, 4, none⟩ = some (.map (some x.pm)) ∧ w'.cell? ⟨w.heap.size, 0, none⟩ = some (pv b0) ∧ w'.cell? ⟨b0, 0, none⟩ = some (.string pk)) ((v1.setCell ⟨g1, q1 + 8, none⟩ (av ⟨g2, q2, none⟩)).setCell ⟨g2, q2 + 7, none⟩ (av ⟨g1, q1, none⟩)).drew := ⟨HR2.out.ob.cell (k := 4) rfl, HC2.out.1.cell (k := 0) rfl, HC2.out.2.cell (k := 0) rfl⟩
 clear hkeep hmapk hrowk HX
 generalize ((v1.setCell ⟨g1, q1 + 8, none⟩ (av ⟨g2, q2, none⟩)).setCell ⟨g2, q2 + 7, none⟩ (av ⟨g1, q1, none⟩)) = v2 at *
 go_wp2_with fail
 refine wp_region_held_drew (S := (fun w' : World => w'.cell? ⟨x.b, 4, none⟩ = some (.map (some x.pm)) ∧ w'.cell? ⟨w.heap.size, 0, none⟩ = some (pv b0) ∧ w'.cell? ⟨b0, 0, none⟩ = some (.string pk))) (by kernel_rfl) (hs2) (fun hHeld0 => ?_)
 generalize v2.drew = v3 at *
 refine tk 0 ?_ ‹_› ?_ ?_; rotate_left; focus (intro w0 hSw; obtain ⟨c4, cB, c0⟩ := hSw; go_simp; try with_reducible rfl)
 refine tk 1 ?_ ‹_› ?_ ?_; rotate_left; focus (intro w0 hSw; obtain ⟨c4, cB, c0⟩ := hSw; go_simp; try with_reducible rfl)
 refine tk 2 ?_ ‹_› ?_ ?_; rotate_left; focus (intro w0 hSw; obtain ⟨c4, cB, c0⟩ := hSw; go_simp; try with_reducible rfl)
 refine tk 3 ?_ ‹_› ?_ ?_; rotate_left; focus (intro w0 hSw; obtain ⟨c4, cB, c0⟩ := hSw; go_simp; try with_reducible rfl)
 refine tk 4 ?_ ‹_› ?_ ?_; rotate_left; focus (intro w0 hSw; obtain ⟨c4, cB, c0⟩ := hSw; go_simp; try with_reducible rfl)
 refine tk 5 ?_ ‹_› ?_ ?_; rotate_left; focus (intro w0 hSw; obtain ⟨c4, cB, c0⟩ := hSw; go_simp; try with_reducible rfl)
 refine tk 6 ?_ ‹_› ?_ ?_; rotate_left; focus (intro w0 hSw; obtain ⟨c4, cB, c0⟩ := hSw; go_simp; try with_reducible rfl)
 refine tk 7 ?_ ‹_› ?_ ?_; rotate_left; focus (intro w0 hSw; obtain ⟨c4, cB, c0⟩ := hSw; go_simp; try with_reducible rfl)
 refine tk 8 ?_ ‹_› ?_ ?_; rotate_left; focus (intro w0 hSw; obtain ⟨c4, cB, c0⟩ := hSw; go_simp; try with_reducible rfl)
 try simp only [PT]
 refine wpAnyH_ready (rs := [9]) (by decide +kernel) (by simp) (AllReadyH.cons rfl (fun K hK => ?_) AllReadyH.nil)
 obtain ⟨v4, hr4, hm4, ht4⟩ := HS2.out.drop Tryz.underlying78 HKS.out 0
 have hless : Less w ow i n pp x o k v4 := by
  obtain ⟨es, c, hes⟩ := HS2.out.isMap
  obtain ⟨ni, hi1, hi2⟩ := HI2.out
  have hk4 : ∀ k, k < v3.heap.size → k ≠ x.pm → v4.heap[k]? = v3.heap[k]? := fun k h1 h2 => ht4.grown.block k h1 (fun e => h2 (Option.some.inj e))
  refine ⟨HR2.out.fr (hk4 _ HR2.out.ob.lt (HR2.out.ob.ne_map hes)) fun b hb => hk4 _ (HR2.out.lt hb) (HR2.out.ne_map hb hes), ?_, ⟨ni, hi1, hi2.fr (hk4 _ hi2.lt (Ne.symm HH.out.mne))⟩, fun y => row_same (HW2.out y) fun k e => hk4 _ ((HW2.out y).lt k e).2 (fun e2 => row_ne_map (HW2.out y) hes (by rw [← e2]; exact e)), ?_, fun c hc => ?_⟩
  ·have : (fun t => if t = pk then Value.pointer none else fnd x.pb o.ps t) = fnd (x.pb.eraseIdx k) (o.ps.eraseIdx k) := funext fun s => (fnd_erase s HH.out.pl HND.out HP.out).symm
   rw [← this]
   exact hm4
  ·exact HF2.out.turned (fun hk => hk.2 HH.out.wm) ht4 fun k hk => hk.1
  ·obtain ⟨xs, hx⟩ := HA2.out c hc
   exact ⟨xs, hx.fr (hk4 _ hx.lt (hx.ne_map hes))⟩
 have hcb : Blk v4 w.heap.size 79 [pv b0] ∧ Blk v4 b0 81 (propC ⟨pk, ⟨pvk, pvn, pvs⟩, pw, pe, pf⟩ (av ⟨g1, q1, none⟩) (av ⟨g2, q2, none⟩)) := by
  obtain ⟨es, c, hes⟩ := HS2.out.isMap
  exact ⟨HC2.out.1.fr (ht4.grown.block _ HC2.out.1.lt (fun e => HC2.out.1.ne_map hes (Option.some.inj e))), HC2.out.2.fr (ht4.grown.block _ HC2.out.2.lt (fun e => HC2.out.2.ne_map hes (Option.some.inj e)))⟩
 have HLS := Lib.hid hless
 have HC4 := Lib.hid hcb
 refine step_del rfl (.tmp 29) (.tmp 34) _ _ rfl v4 hr4 ?_
 clear hr4 hm4 ht4 hless hcb HR2 HS2 HI2 HW2 HF2 HA2 HC2
 refine hK.out _ _ ⟨HLS.out.ring.ob.cell (k := 4) rfl, HC4.out.1.cell (k := 0) rfl, HC4.out.2.cell (k := 0) rfl⟩ (fun hHeld1 => ?_)
 clear hK K hHeld0 
 try simp only [PT]
 refine wpAnyH_done (by kernel_rfl) ?_ _
 clear hHeld1 hs2
 have hI := index_cell (w := v4) (b := x.b) o (HLS.out.ring.ob.cell (k := 1) rfl) pk HKS.out
 have cB := HC4.out.1.cell (k := 0) (v := pv b0) rfl
 have c0 := HC4.out.2.cell (k := 0) (v := .string pk) rfl
 have HI := Lib.hid hI
 clear hI
 go_wp2_with fail
 refine HI.out.mono ?_
 rintro e v5 ⟨rfl, hb⟩
 replace HLS := Lib.hid (HLS.out.low hb)
 replace HC4 := Lib.hid (HC4.out.1.low hb)
 clear HI c0 cB hb
 cases hq : o.ixA ix AR pk with
 | none =>
  simp only [idxRes] at *
  go_wp2_with fail
  exact Go.Great.bodyPost_end0 rfl rfl ⟨rfl, HLS.out.whole HH.out HL.out HP.out hq⟩
 | some y =>
  have HY := Lib.hid (HIX.out y hq)
  have HQ := Lib.hid hq
  have HSM := Lib.hid (sel_mem HP.out HPB.out hq)
  clear hq
  simp only [idxRes] at *
  have HL6 := Lib.hid (HLS.out.low (below_draw _))
  have HC6 : Hid (Blk v5.drew w.heap.size 79 [pv b0]) := HC4.out.fr rfl
  have hs6 : (fun w' : World => w'.cell? ⟨x.b, 16, none⟩ = some (.map (some x.im))) v5.drew := HL6.out.ring.ob.cell (k := 16) rfl
  clear HLS HC4
  go_wp2_with fail
  refine wp_region_held_drew (S := (fun w' : World => w'.cell? ⟨x.b, 16, none⟩ = some (.map (some x.im)))) (by kernel_rfl) (hs6) (fun hHeld0 => ?_)
  generalize v5.drew = v6 at *
  refine tk 0 ?_ ‹_› ?_ ?_; rotate_left; focus (intro w0 hSw; go_simp; try with_reducible rfl)
  refine tk 1 ?_ ‹_› ?_ ?_; rotate_left; focus (intro w0 hSw; go_simp; try with_reducible rfl)
  refine tk 2 ?_ ‹_› ?_ ?_; rotate_left; focus (intro w0 hSw; go_simp; try with_reducible rfl)
  refine tk 3 ?_ ‹_› ?_ ?_; rotate_left; focus (intro w0 hSw; have c16 := hSw; go_simp; try with_reducible rfl)
  refine tk 4 ?_ ‹_› ?_ ?_; rotate_left; focus (intro w0 hSw; go_simp; try with_reducible rfl)
  refine tk 5 ?_ ‹_› ?_ ?_; rotate_left; focus (intro w0 hSw; go_simp; try with_reducible rfl)
  refine tk 6 ?_ ‹_› ?_ ?_; rotate_left; focus (intro w0 hSw; go_simp; try with_reducible rfl)
  refine tk 7 ?_ ‹_› ?_ ?_; rotate_left; focus (intro w0 hSw; go_simp; try with_reducible rfl)
  refine tk 8 ?_ ‹_› ?_ ?_; rotate_left; focus (intro w0 hSw; have c16 := hSw; go_simp; try with_reducible rfl)
  refine tk 9 ?_ ‹_› ?_ ?_; rotate_left; focus (intro w0 hSw; go_simp; try with_reducible rfl)
  refine tk 11 ?_ ‹_› ?_ ?_; rotate_left; focus (intro w0 hSw; go_simp; try with_reducible rfl)
  try simp only [PT]
  refine wpAnyH_ready (rs := [10]) (by decide +kernel) (by simp) (AllReadyH.cons rfl (fun K hK => ?_) AllReadyH.nil)
  obtain ⟨ni, -, hmi⟩ := HL6.out.mi
  have hlk := hmi.look Tryz.underlying82 (zeroR _) (y := y) (by have := HY.out; omega)
  go_simp
  clear hlk hmi
  refine hK.out _ _ hs6 (fun hHeld1 => ?_)
  clear hK K hHeld0 
  try simp only [PT]
  refine wpAnyH_ready (rs := [12]) (by decide +kernel) (by simp) (AllReadyH.cons rfl (fun K hK => ?_) AllReadyH.nil)
  have hD := dele_any (w := v6) (bs := sel o x.pb y) (pb := x.pb) (HL6.out.rw y) (List.ne_nil_of_mem HSM.out) (fun c hc => sel_sub hc) HBM.out (HC6.out.cell (k := 0) rfl) (fun e => Nat.lt_irrefl _ (HL.out _ (by rw [(HH.out.ra y _ e).1]; simp))) (fun c hc => ⟨_, HL6.out.all c hc⟩) (fun c hc e => by
   obtain ⟨xs, hx⟩ := HL6.out.all c hc
   exact hx.ne_row (HL6.out.rw y) (by decide) _ e rfl) (by have := HPS.out; have := sel_len o x.pb y; have := HH.out.pl; unfold maxLen; omega)
  go_simp
  refine hD.mono ?_
  rintro e v7 ⟨nv, rfl, h1, h3, h2⟩
  have hk7 : ∀ k, k < v6.heap.size → (x.fi y).ownBlock ≠ some k → v7.heap[k]? = v6.heap[k]? := fun k a b => h2.block k a (Ne.symm b)
  have hoX : v7.heap[x.b]? = v6.heap[x.b]? := hk7 _ HL6.out.ring.ob.lt fun e => HL6.out.ring.ob.ne_row (HL6.out.rw y) (by decide) _ e rfl
  have hmX : ∃ ni, ni + o.ps.length ≤ 2 * n ∧ MapI v7 x.im ni (.slice none 0 0) x.fi := by
   obtain ⟨ni, e1, e2⟩ := HL6.out.mi
   obtain ⟨es, c, hes⟩ := e2.isMap
   exact ⟨ni, e1, e2.fr (hk7 _ e2.lt (row_ne_map (HL6.out.rw y) hes))⟩
  have hs7 : (fun w' : World => w'.cell? ⟨x.b, 16, none⟩ = some (.map (some x.im))) v7 := (HL6.out.ring.ob.fr hoX).cell (k := 16) rfl
  have HR7 := Lib.hid h1
  have HG7 := Lib.hid h2
  have HV7 := Lib.hid h3
  have HMX := Lib.hid hmX
  clear h1 h2 h3 hk7 hoX hmX hD
  refine hK.out _ _ hs7 (fun hHeld2 => ?_)
  clear hK K hHeld1 
  try simp only [PT]
  refine wpAnyH_ready (rs := [13]) (by decide +kernel) (by simp) (AllReadyH.cons rfl (fun K hK => ?_) AllReadyH.nil)
  obtain ⟨ni, hn1, hn2⟩ := HMX.out
  obtain ⟨es, ce, hes⟩ := hn2.isMap
  obtain ⟨v8, hr8, hm8, ht8⟩ := hn2.store Tryz.underlying82 (by have := HN.out; unfold maxLen; omega) (y := y) (by have := HY.out; omega) nv
  have HM8 : Hid (∃ ni, ni + o.ps.length ≤ 2 * n + 1 ∧ MapI v8 x.im ni (.slice none 0 0) (fun t => if t = y then nv else x.fi t)) := ⟨_, by omega, hm8⟩
  have HR8 : Hid (v8.ownsRow 0 79 1 nv ((sel o x.pb y).filter fun c => !decide (c = b0)).length (((sel o x.pb y).filter fun c => !decide (c = b0)).map pv)) := row_same HR7.out fun k e => ht8.grown.block _ (HR7.out.lt k e).2 (fun e2 => row_ne_map HR7.out hes (by rw [← Option.some.inj e2]; exact e))
  have HF8 : Hid (Fr (fun k => k < v6.heap.size ∧ k ≠ x.im ∧ (x.fi y).ownBlock ≠ some k) v6 v8) := (((Fr.refl _ v6).grown (fun k hk => hk.1) HG7.out fun k e hk => hk.2.2 e)).turned (fun hk => hk.2.1 rfl) ht8 fun k hk => hk.1
  have hs8 : (fun w' : World => w'.cell? ⟨x.b, 16, none⟩ = some (.map (some x.im))) v8 := by
   have h1 := HL6.out.ring.ob
   obtain ⟨mi, -, hmi⟩ := HL6.out.mi
   obtain ⟨es6, c6, hes6⟩ := hmi.isMap
   exact (h1.fr (HF8.out.block _ ⟨h1.lt, h1.ne_map hes6, fun e => h1.ne_row (HL6.out.rw y) (by decide) _ e rfl⟩)).cell (k := 16) rfl
  refine step_mapU rfl (.tmp 49) (.tmp 50) (.tmp 58) _ rfl v8 hr8 ?_
  clear hr8 hm8 ht8 hn1 hn2 hes HR7 HG7 HMX
  refine hK.out _ _ hs8 (fun hHeld3 => ?_)
  clear hK K hHeld2 
  try simp only [PT]
  refine wpAnyH_done (by kernel_rfl) ?_ _
  clear hHeld3
  go_wp2_with fail
  exact Go.Great.bodyPost_end0 rfl rfl ⟨rfl, HL6.out.indexed HH.out HL.out HP.out HPB.out HQ.out HM8.out HR8.out HV7.out HF8.out⟩
end
end Go.Proofs.YtcahijpbkjplmaaGreatDoor.G
