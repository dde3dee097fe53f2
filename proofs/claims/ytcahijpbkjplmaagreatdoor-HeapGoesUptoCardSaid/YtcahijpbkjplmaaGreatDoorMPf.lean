/-
 own; Own, Class, Proto, IsOpen, Len, by contract.
 Own, Class, Proto, IsOpen, Len, Close, by contract.
 Own, Close, Take, Used, by contract.
-/
import Derived.Test.YtcahijpbkjplmaaGreatDoorMPc
import Derived.Test.YtcahijpbkjplmaaGreatDoorMHf
import Derived.Test.YtcahijpbkjplmaaGreatDoorMZ0
set_option linter.unusedSimpArgs false
namespace Go.Proofs.YtcahijpbkjplmaaGreatDoor.G
open Go.RowKit Go.Maps Go.Proofs.YtcahijpbkjplmaaGreatDoor
def ownR : Option Pr → Value
 | some p => .tuple #[p.v', .bool true]
 | none => .tuple #[pr0.v', .bool false]
theorem fnd_some {pb : List Nat} {ps : List Pr} (hl : pb.length = ps.length) {s : ByteArray} {p : Pr} (h : ps.find? (has s) = some p) : ∃ (k : Nat) (h1 : k < pb.length) (h2 : k < ps.length), ps.findIdx? (has s) = some k ∧ fnd pb ps s = pv pb[k] ∧ ps[k] = p ∧ p.key = s := by
 rw [find_of_idx] at h
 cases hk : ps.findIdx? (has s) with
 | none =>
  rw [hk] at h
  cases h
 | some k =>
  rw [hk] at h
  have h : ps[k]? = some p := h
  have h2 := get_mem_lt h
  obtain ⟨q, hq, hkey⟩ := find_idx hk
  rw [h] at hq
  injection hq with hq
  subst hq
  refine ⟨k, by omega, h2, rfl, ?_, ?_, hkey⟩
  ·unfold fnd
   rw [hk]
   simp only [List.getElem?_eq_getElem (show k < pb.length by omega)]
  ·rw [List.getElem?_eq_getElem h2] at h
   exact Option.some.inj h
theorem fnd_none {pb : List Nat} {ps : List Pr} {s : ByteArray} (h : ps.find? (has s) = none) : fnd pb ps s = .pointer none := by
 rw [find_of_idx] at h
 unfold fnd
 cases hk : ps.findIdx? (has s) with
 | none => rfl
 | some k =>
  rw [hk] at h
  obtain ⟨q, hq, _⟩ := find_idx hk
  have h : ps[k]? = none := h
  rw [h] at hq
  cases hq
section
variable {w : World} {ow : Nat → Option Nat} {i n A : Nat} {pp : Value} {x : OL} {o : Ob} {H : Hs} {L : List OL}
theorem ObjAt.low {w' : World} (h : ObjAt w ow i n pp x o) (hl : ∀ k, ow k ≠ none → k < w.heap.size) (hb : Below w.heap.size w w') : ObjAt w' ow i n pp x o :=
 h.fr (fun k e => ⟨e, hb.block k (hl k (by rw [e]; simp))⟩) (Nat.le_refl _)
set_option maxRecDepth 8000 in
theorem own_any (h : ObjAt w ow i n pp x o) (hl : ∀ k, ow k ≠ none → k < w.heap.size) (key : ByteArray) (hs : key.size ≤ maxLen) :
  Calls Tryz.prog 58 #[pv x.b, .string key] w fun e w' => e = .returned (ownR (o.own LK AR key)) ∧ Below w.heap.size w w' := by
 have HL := Lib.hid hl
 unfold Ob.own
 have h0 := h.low hl (below_new w (.cells (Pr.cs pr0).toArray 31))
 have hB0 := Blk.new w 31 (Pr.cs pr0)
 have hb0 := below_new w (.cells (Pr.cs pr0).toArray 31)
 have hlt := h.blt
 cases hc : o.isLen LK AR key with
 | true =>
  rw [if_pos rfl]
  have e1 : o.lenP LK = (⟨key, num o.len, o.lw, false, false⟩ : Pr) := by
   unfold Ob.isLen at hc
   rw [Bool.and_eq_true, decide_eq_true_eq, decide_eq_true_eq] at hc
   unfold Ob.lenP
   rw [hc.2]
  rw [e1]
  clear e1
  have HI := Lib.hid (isLength_any h0 key)
  rw [hc] at HI
  have H0 := Lib.hid h0
  have HB0 := Lib.hid hB0
  have HBL := Lib.hid hb0
  clear hc h0 hB0 hb0 h hl
  unfold Pr.cs pr0 at HI H0 HB0 HBL
  dsimp only at HI H0 HB0 HBL
  go_enter Tryz.func58, Tryz.ntmps58
  go_wp2_with fail
  refine HI.out.mono ?_
  rintro e w1 ⟨rfl, hw1⟩
  rw [hw1] at H0 HB0 HBL
  clear HI hw1
  go_wp2_with fail
  have hx : ObjAt w1.drew ow i n pp x o ∧ Blk w1.drew w.heap.size 31 pr0.cs ∧ Below w.heap.size w w1.drew := ⟨H0.out.low (fun k hk => Nat.lt_of_lt_of_le (HL.out k hk) HBL.out.size) (below_draw _), HB0.out.fr rfl, HBL.out.drew⟩
  refine wp_region_held_drew (S := fun w' => ObjAt w' ow i n pp x o ∧ (∃ q : Pr, Blk w' w.heap.size 31 q.cs) ∧ Below w.heap.size w w') (by kernel_rfl) (⟨hx.1, ⟨pr0, hx.2.1⟩, hx.2.2⟩) (fun hHeld0 => ?_)
  generalize w1.drew = v0 at *
  clear H0 HB0 HBL
  refine tk 0 ?_ ‹_› ?_ ?_; rotate_left; focus (intro w0 hSw; go_simp; try with_reducible rfl)
  refine tk 1 ?_ ‹_› ?_ ?_; rotate_left; focus (intro w0 hSw; go_simp; try with_reducible rfl)
  refine tk 3 ?_ ‹_› ?_ ?_; rotate_left; focus (intro w0 hSw; go_simp; try with_reducible rfl)
  refine tk 4 ?_ ‹_› ?_ ?_; rotate_left; focus (intro w0 hSw; go_simp; try with_reducible rfl)
  refine tk 5 ?_ ‹_› ?_ ?_; rotate_left; focus (intro w0 hSw; go_simp; try with_reducible rfl)
  refine tk 6 ?_ ‹_› ?_ ?_; rotate_left; focus (intro w0 hSw; have c7 := hSw.1.ob.cell (k := 15) rfl; go_simp; try with_reducible rfl)
  refine tk 7 ?_ ‹_› ?_ ?_; rotate_left; focus (intro w0 hSw; go_simp; try with_reducible rfl)
  try simp only [PT]
  refine wpAnyH_ready (rs := [2]) (by decide +kernel) (by simp) (AllReadyH.cons rfl (fun K hK => ?_) AllReadyH.nil)
  go_simp
  refine (lengthValue_any hx.1).mono ?_
  rintro e v1 ⟨rfl, hb⟩
  simp only [Vl.v, num]
  have hl0 : ∀ k, ow k ≠ none → k < v0.heap.size := fun k hk => Nat.lt_of_lt_of_le (HL.out k hk) hx.2.2.size
  have hy : ObjAt v1 ow i n pp x o ∧ Blk v1 w.heap.size 31 pr0.cs ∧ Below w.heap.size w v1 := ⟨hx.1.low hl0 hb, hx.2.1.low hb, hx.2.2.trans (hb.mono hx.2.2.size)⟩
  clear hb hx hl0
  refine hK.out _ _ ⟨hy.1, ⟨pr0, hy.2.1⟩, hy.2.2⟩ (fun hHeld1 => ?_)
  clear hK K hHeld0 
  try simp only [PT]
  refine tk 8 ?_ ‹_› ?_ ?_; rotate_left; focus (intro w0 hSw; go_simp; try with_reducible rfl)
  try simp only [PT]
  refine wpAnyH_ready (rs := [9]) (by decide +kernel) (by simp) (AllReadyH.cons rfl (fun K hK => ?_) AllReadyH.nil)
  obtain ⟨d0, d1, d2, d3, d4, d5, d6⟩ := Blk.seven hy.2.1
  have z := hy.2.1.fz
  dsimp only [pr0] at d0 d1 d2 d3 d4 d5 d6
  have hw : ow w.heap.size = none := by
   cases hw : ow w.heap.size with
   | none => rfl
   | some r => exact absurd (HL.out w.heap.size (by rw [hw]; simp)) (Nat.lt_irrefl _)
  have HY := Lib.hid hy
  clear hy
  go_simp
  have hk : ∀ (j : Nat) (u : Value) (v : World), ObjAt v ow i n pp x o → ObjAt (v.setCell ⟨w.heap.size, j, none⟩ u) ow i n pp x o := fun j u v hv => hv.fr (fun k e => ⟨e, Below.heap_setCell _ _ _ _ (by rintro rfl; rw [hw] at e; cases e)⟩) (Nat.le_refl _)
  have hz : Blk (((((((v1.setCell ⟨w.heap.size, 0, none⟩ (.string key)).setCell ⟨w.heap.size, 1, none⟩ (.int .i64 3)).setCell ⟨w.heap.size, 2, none⟩ (.int .i64 (o.len : Int))).setCell ⟨w.heap.size, 3, none⟩ (.string ⟨#[]⟩)).setCell ⟨w.heap.size, 4, none⟩ (.bool o.lw)).setCell ⟨w.heap.size, 5, none⟩ (.bool false)).setCell ⟨w.heap.size, 6, none⟩ (.bool false)) w.heap.size 31 (Pr.cs ⟨key, num o.len, o.lw, false, false⟩) := ((((((HY.out.2.1.set 0 _).set 1 _).set 2 _).set 3 _).set 4 _).set 5 _).set 6 _
  have hzb : Below w.heap.size w (((((((v1.setCell ⟨w.heap.size, 0, none⟩ (.string key)).setCell ⟨w.heap.size, 1, none⟩ (.int .i64 3)).setCell ⟨w.heap.size, 2, none⟩ (.int .i64 (o.len : Int))).setCell ⟨w.heap.size, 3, none⟩ (.string ⟨#[]⟩)).setCell ⟨w.heap.size, 4, none⟩ (.bool o.lw)).setCell ⟨w.heap.size, 5, none⟩ (.bool false)).setCell ⟨w.heap.size, 6, none⟩ (.bool false)) := ((((((HY.out.2.2.setCell (p := ⟨w.heap.size, 0, none⟩) (Nat.le_refl _) _).setCell (p := ⟨w.heap.size, 1, none⟩) (Nat.le_refl _) _).setCell (p := ⟨w.heap.size, 2, none⟩) (Nat.le_refl _) _).setCell (p := ⟨w.heap.size, 3, none⟩) (Nat.le_refl _) _).setCell (p := ⟨w.heap.size, 4, none⟩) (Nat.le_refl _) _).setCell (p := ⟨w.heap.size, 5, none⟩) (Nat.le_refl _) _).setCell (p := ⟨w.heap.size, 6, none⟩) (Nat.le_refl _) _
  clear d0 d1 d2 d3 d4 d5 d6 z
  refine hK.out _ _ ⟨hk _ _ _ (hk _ _ _ (hk _ _ _ (hk _ _ _ (hk _ _ _ (hk _ _ _ (hk _ _ _ HY.out.1)))))), ⟨_, hz⟩, hzb⟩ (fun hHeld2 => ?_)
  clear hK K hHeld1 
  try simp only [PT]
  refine tk 10 ?_ ‹_› ?_ ?_; rotate_left; focus (intro w0 hSw; go_simp; try with_reducible rfl)
  try simp only [PT]
  refine wpAnyH_done (by kernel_rfl) ?_ _
  clear hHeld2 hk HY hw
  go_wp2_with fail
  refine bodyPost_ret (res_pt rfl _ _ w.heap.size ⟨key, num o.len, o.lw, false, false⟩ _ (by rfl) (by rfl) hz) rfl ⟨rfl, hzb⟩
 | false =>
  rw [if_neg Bool.false_ne_true]
  have HI := Lib.hid (isLength_any h0 key)
  rw [hc] at HI
  have c4 := h0.ob.cell (k := 4) rfl
  have hlk := h0.mp.look Tryz.underlying78 (zeroP _) hs
  cases hf : o.ps.find? (has key) with
  | none =>
   rw [fnd_none hf] at hlk
   have HB0 := Lib.hid hB0
   have HBL := Lib.hid hb0
   clear hc h0 hB0 hb0 h hl hf
   unfold Pr.cs pr0 at HI HB0 HBL hlk c4
   dsimp only at HI HB0 HBL hlk c4
   go_enter Tryz.func58, Tryz.ntmps58
   go_wp2_with fail
   refine HI.out.mono ?_
   rintro e w1 ⟨rfl, hw1⟩
   rw [hw1] at HB0 HBL c4 hlk
   clear HI hw1
   obtain ⟨d0, d1, d2, d3, d4, d5, d6⟩ := Blk.seven (p := pr0) HB0.out
   have z := HB0.out.fz
   dsimp only [pr0] at d0 d1 d2 d3 d4 d5 d6
   go_wp2_with fail
   refine bodyPost_ret (res_pt rfl _ _ w.heap.size pr0 _ (by rfl) (by rfl) ?_) rfl ⟨rfl, ?_⟩
   ·exact ((((((HB0.out.set 0 _).set 1 _).set 2 _).set 3 _).set 4 _).set 5 _).set 6 _
   ·exact ((((((HBL.out.setCell (p := ⟨w.heap.size, 0, none⟩) (Nat.le_refl _) _).setCell (p := ⟨w.heap.size, 1, none⟩) (Nat.le_refl _) _).setCell (p := ⟨w.heap.size, 2, none⟩) (Nat.le_refl _) _).setCell (p := ⟨w.heap.size, 3, none⟩) (Nat.le_refl _) _).setCell (p := ⟨w.heap.size, 4, none⟩) (Nat.le_refl _) _).setCell (p := ⟨w.heap.size, 5, none⟩) (Nat.le_refl _) _).setCell (p := ⟨w.heap.size, 6, none⟩) (Nat.le_refl _) _
  | some p =>
   obtain ⟨k, h1, h2, _, h4, h5, h6⟩ := fnd_some h0.pl hf
   rw [h4] at hlk
   have hp := h0.pr k h1 h2
   rw [h5] at hp
   have hpb : x.pb[k] < w.heap.size := hl _ (by rw [h.wp _ (List.getElem_mem h1)]; simp)
   generalize x.pb[k] = pb at *
   have p0 := hp.cell (k := 0) rfl
   have p1 := hp.cell (k := 1) rfl
   have p2 := hp.cell (k := 2) rfl
   have p3 := hp.cell (k := 3) rfl
   have p4 := hp.cell (k := 4) rfl
   have p5 := hp.cell (k := 5) rfl
   have p6 := hp.cell (k := 6) rfl
   have HB0 := Lib.hid hB0
   have HBL := Lib.hid hb0
   have HPB := Lib.hid hpb
   clear hc h0 hB0 hb0 h hl hf hp h4 h5 h6 h1 h2 hpb
   unfold Pr.cs pr0 at HI HB0 HBL hlk c4 p0 p1 p2 p3 p4 p5 p6
   dsimp only at HI HB0 HBL hlk c4 p0 p1 p2 p3 p4 p5 p6
   go_enter Tryz.func58, Tryz.ntmps58
   go_wp2_with fail
   refine HI.out.mono ?_
   rintro e w1 ⟨rfl, hw1⟩
   rw [hw1] at HB0 HBL c4 hlk p0 p1 p2 p3 p4 p5 p6
   clear HI hw1
   obtain ⟨d0, d1, d2, d3, d4, d5, d6⟩ := Blk.seven (p := pr0) HB0.out
   have z := HB0.out.fz
   dsimp only [pr0] at d0 d1 d2 d3 d4 d5 d6
   obtain ⟨key', ⟨vk, vn, vs⟩, pw, pe, pf⟩ := p
   dsimp only at p0 p1 p2 p3 p4 p5 p6
   go_wp2_with fail
   refine bodyPost_ret (res_pt rfl _ _ w.heap.size ⟨key', ⟨vk, vn, vs⟩, pw, pe, pf⟩ _ (by rfl) (by rfl) ?_) rfl ⟨rfl, ?_⟩
   ·exact ((((((HB0.out.set 0 _).set 1 _).set 2 _).set 3 _).set 4 _).set 5 _).set 6 _
   ·exact ((((((HBL.out.setCell (p := ⟨w.heap.size, 0, none⟩) (Nat.le_refl _) _).setCell (p := ⟨w.heap.size, 1, none⟩) (Nat.le_refl _) _).setCell (p := ⟨w.heap.size, 2, none⟩) (Nat.le_refl _) _).setCell (p := ⟨w.heap.size, 3, none⟩) (Nat.le_refl _) _).setCell (p := ⟨w.heap.size, 4, none⟩) (Nat.le_refl _) _).setCell (p := ⟨w.heap.size, 5, none⟩) (Nat.le_refl _) _).setCell (p := ⟨w.heap.size, 6, none⟩) (Nat.le_refl _) _
end
def Hs.obj (h : Hs) (v : Vl) : Option Ob := (h.at v).bind fun i => h.os[i]?
def clsR : Option Ob → ByteArray
 | some o => o.cls
 | none => nil
def protoR : Option Ob → Vl
 | some o => refO o.proto
 | none => null
def openR : Option Ob → Bool
 | some o => !o.closed
 | none => false
def lenR : Option Ob → Value
 | some o => if o.cls = AR then .tuple #[.int .i64 (o.len : Int), .bool true] else .tuple #[.int .i64 0, .bool false]
 | none => .tuple #[.int .i64 0, .bool false]
section
variable {w : World} {ow : Nat → Option Nat} {A : Nat} {H : Hs} {L : List OL}
theorem PH.obj (h : PH w A H ow L) {v : Vl} : (H.at v = none ∧ H.obj v = none) ∨ ∃ i x o, H.at v = some i ∧ H.obj v = some o ∧ H.os[i]? = some o ∧ L[i]? = some x ∧ ppv L (some i) = pv x.b ∧ ObjAt w ow i H.n (ppv L o.proto) x o := by
 cases e : H.at v with
 | none => exact .inl ⟨rfl, by unfold Hs.obj; rw [e]; rfl⟩
 | some i =>
  obtain ⟨h1, h2, h3⟩ := h.at' e
  refine .inr ⟨i, L[i], H.os[i], rfl, ?_, List.getElem?_eq_getElem h2, List.getElem?_eq_getElem h1, ?_, h3⟩
  ·unfold Hs.obj
   rw [e]
   exact List.getElem?_eq_getElem h2
  ·simp only [ppv, List.getElem?_eq_getElem h1]
set_option maxRecDepth 8000 in
theorem class_any (h : PH w A H ow L) (g : Gd H) (v : Vl) :
  Calls Tryz.prog 19 #[pv A, v.v] w fun e w' => e = .returned (.string (clsR (H.obj v))) ∧ Below w.heap.size w w' := by
 have h0 := h.low (below_new w (.cells (Vl.cs v).toArray 29))
 have HF := Lib.hid (find_any h0 v g.os100)
 have HB := Lib.hid (below_new w (.cells (Vl.cs v).toArray 29))
 rcases h0.obj (v := v) with ⟨e1, e2⟩ | ⟨i, x, o, e1, e2, e3, -, e4, h5⟩
 ·rw [e2]
  rw [e1] at HF
  clear e1 e2 h0 h g
  obtain ⟨vk, vn, vs⟩ := v
  simp only [Vl.v, Vl.cs, ppv] at HF HB ⊢
  go_enter Tryz.func19, Tryz.ntmps19
  go_wp2_with fail
  refine HF.out.mono ?_
  rintro e w1 ⟨rfl, hb⟩
  go_wp2_with fail
  go_ret
  exact ⟨rfl, HB.out.trans (hb.mono HB.out.size)⟩
 ·rw [e2]
  rw [e1, e4] at HF
  have HC := Lib.hid (fun w => clone_any o.cls w (by have := (g.og i o e3).c; omega))
  have hcl := h5.ob.cell (k := 1) rfl
  have hlt := h5.blt
  clear e1 e2 e3 e4 h0 h g h5
  obtain ⟨vk, vn, vs⟩ := v
  simp only [Vl.v, Vl.cs] at HF HB hcl hlt ⊢
  go_enter Tryz.func19, Tryz.ntmps19
  go_wp2_with fail
  refine HF.out.mono ?_
  rintro e w1 ⟨rfl, hb⟩
  have hcl2 := (hb.cell (p := ⟨x.b, 1, none⟩) hlt).trans hcl
  have HB1 := Lib.hid (HB.out.trans (hb.mono HB.out.size))
  clear hcl hlt hb
  go_wp2_with fail
  refine (HC.out _).mono ?_
  rintro e w2 ⟨rfl, hb⟩
  go_wp2_with fail
  go_ret
  exact ⟨rfl, HB1.out.trans (hb.mono HB1.out.size)⟩
set_option maxRecDepth 8000 in
theorem isopen_any (h : PH w A H ow L) (g : Gd H) (v : Vl) :
  Calls Tryz.prog 21 #[pv A, v.v] w fun e w' => e = .returned (.bool (openR (H.obj v))) ∧ Below w.heap.size w w' := by
 have h0 := h.low (below_new w (.cells (Vl.cs v).toArray 29))
 have HF := Lib.hid (find_any h0 v g.os100)
 have HB := Lib.hid (below_new w (.cells (Vl.cs v).toArray 29))
 rcases h0.obj (v := v) with ⟨e1, e2⟩ | ⟨i, x, o, e1, e2, e3, -, e4, h5⟩
 ·rw [e2]
  rw [e1] at HF
  clear e1 e2 h0 h g
  obtain ⟨vk, vn, vs⟩ := v
  simp only [Vl.v, Vl.cs, ppv] at HF HB ⊢
  go_enter Tryz.func21, Tryz.ntmps21
  go_wp2_with fail
  refine HF.out.mono ?_
  rintro e w1 ⟨rfl, hb⟩
  go_wp2_with fail
  go_ret
  exact ⟨rfl, HB.out.trans (hb.mono HB.out.size)⟩
 ·rw [e2]
  rw [e1, e4] at HF
  have hcl := h5.ob.cell (k := 3) rfl
  have hlt := h5.blt
  clear e1 e2 e3 e4 h0 h g h5
  obtain ⟨vk, vn, vs⟩ := v
  simp only [Vl.v, Vl.cs] at HF HB hcl hlt ⊢
  go_enter Tryz.func21, Tryz.ntmps21
  go_wp2_with fail
  refine HF.out.mono ?_
  rintro e w1 ⟨rfl, hb⟩
  have hcl2 := (hb.cell (p := ⟨x.b, 3, none⟩) hlt).trans hcl
  have HB1 := Lib.hid (HB.out.trans (hb.mono HB.out.size))
  clear hcl hlt hb
  go_wp2_with fail
  go_ret
  exact ⟨rfl, HB1.out⟩
set_option maxRecDepth 8000 in
theorem len_any (h : PH w A H ow L) (g : Gd H) (v : Vl) :
  Calls Tryz.prog 29 #[pv A, v.v] w fun e w' => e = .returned (lenR (H.obj v)) ∧ Below w.heap.size w w' := by
 have h0 := h.low (below_new w (.cells (Vl.cs v).toArray 29))
 have HF := Lib.hid (find_any h0 v g.os100)
 have HB := Lib.hid (below_new w (.cells (Vl.cs v).toArray 29))
 rcases h0.obj (v := v) with ⟨e1, e2⟩ | ⟨i, x, o, e1, e2, e3, -, e4, h5⟩
 ·rw [e2]
  rw [e1] at HF
  clear e1 e2 h0 h g
  obtain ⟨vk, vn, vs⟩ := v
  simp only [Vl.v, Vl.cs, ppv] at HF HB ⊢
  go_enter Tryz.func29, Tryz.ntmps29
  go_wp2_with fail
  refine HF.out.mono ?_
  rintro e w1 ⟨rfl, hb⟩
  go_wp2_with fail
  go_ret2
  exact ⟨rfl, HB.out.trans (hb.mono HB.out.size)⟩
 ·rw [e2]
  rw [e1, e4] at HF
  have h6 := Lib.hid h5
  have hcl := h5.ob.cell (k := 14) rfl
  have hlt := h5.blt
  have HLT := Lib.hid h0.lt
  clear e1 e2 e3 e4 h0 h g h5
  simp only [lenR]
  by_cases hc : o.cls = AR
  ·have HI0 := Lib.hid (decide_eq_true hc)
   rw [if_pos hc]
   clear hc
   obtain ⟨vk, vn, vs⟩ := v
   simp only [Vl.v, Vl.cs] at HF HB h6 HLT hcl hlt HI0 ⊢
   go_enter Tryz.func29, Tryz.ntmps29
   go_wp2_with fail
   refine HF.out.mono ?_
   rintro e w1 ⟨rfl, hb⟩
   have hcl2 := (hb.cell (p := ⟨x.b, 14, none⟩) hlt).trans hcl
   have HI := Lib.hid (isArray_any (h6.out.low HLT.out hb))
   rw [HI0.out] at HI
   have HB1 := Lib.hid (HB.out.trans (hb.mono HB.out.size))
   clear hcl hlt hb h6 HLT HI0
   go_wp2_with fail
   refine HI.out.mono ?_
   rintro e w2 ⟨rfl, rfl⟩
   go_wp2_with fail
   go_ret2
   exact ⟨rfl, HB1.out⟩
  ·have HI0 := Lib.hid (decide_eq_false hc)
   rw [if_neg hc]
   clear hc
   obtain ⟨vk, vn, vs⟩ := v
   simp only [Vl.v, Vl.cs] at HF HB h6 HLT hcl hlt HI0 ⊢
   go_enter Tryz.func29, Tryz.ntmps29
   go_wp2_with fail
   refine HF.out.mono ?_
   rintro e w1 ⟨rfl, hb⟩
   have hcl2 := (hb.cell (p := ⟨x.b, 14, none⟩) hlt).trans hcl
   have HI := Lib.hid (isArray_any (h6.out.low HLT.out hb))
   rw [HI0.out] at HI
   have HB1 := Lib.hid (HB.out.trans (hb.mono HB.out.size))
   clear hcl hlt hb h6 HLT HI0
   go_wp2_with fail
   refine HI.out.mono ?_
   rintro e w2 ⟨rfl, rfl⟩
   go_wp2_with fail
   go_ret2
   exact ⟨rfl, HB1.out⟩
theorem two_low {w : World} (T T' : TypeId) (xs ys : List Value) : Below w.heap.size w ((w.alloc (.cells xs.toArray T)).alloc (.cells ys.toArray T')) := (below_new w _).trans ((below_new _ _).mono (by simp))
set_option maxRecDepth 8000 in
theorem proto_any (h : PH w A H ow L) (g : Gd H) (v : Vl) :
  Calls Tryz.prog 25 #[pv A, v.v] w fun e w' => e = .returned (protoR (H.obj v)).v ∧ Below w.heap.size w w' := by
 have h0 := h.low (two_low 29 29 (Vl.cs v) (Vl.cs vl0))
 have HF := Lib.hid (find_any h0 v g.os100)
 have HB := Lib.hid (two_low (w := w) 29 29 (Vl.cs v) (Vl.cs vl0))
 have HR : Hid (Blk ((w.alloc (.cells (Vl.cs v).toArray 29)).alloc (.cells (Vl.cs vl0).toArray 29)) w.heap.size 29 v.cs ∧ Blk ((w.alloc (.cells (Vl.cs v).toArray 29)).alloc (.cells (Vl.cs vl0).toArray 29)) (w.heap.size + 1) 29 vl0.cs) := by
  obtain ⟨W0, e, h1, h2, -⟩ := two_new w 29 29 v.cs vl0.cs
  rw [← e] at h1 h2
  exact ⟨h1, h2⟩
 rcases h0.obj (v := v) with ⟨e1, e2⟩ | ⟨i, x, o, e1, e2, e3, -, e4, h5⟩
 ·rw [e2]
  rw [e1] at HF
  clear e1 e2 h0 h g
  obtain ⟨vk, vn, vs⟩ := v
  simp only [Vl.v, Vl.cs, vl0, ppv] at HF HB HR ⊢
  go_enter Tryz.func25, Tryz.ntmps25
  go_wp2_with fail
  refine HF.out.mono ?_
  rintro e w1 ⟨rfl, hb⟩
  have H2 := Lib.hid (HR.out.2.low hb)
  have H3 := Lib.hid (HB.out.trans (hb.mono HB.out.size))
  clear hb HR
  obtain ⟨d0, d1, d2⟩ := Blk.three (v := ⟨0, 0, ⟨#[]⟩⟩) H2.out
  have z2 := H2.out.fz
  dsimp only at d0 d1 d2
  go_wp2_with fail
  refine bodyPost_ret (res_v rfl _ _ (w.heap.size + 1) null (by rfl) ?_) rfl ⟨rfl, ?_⟩
  ·exact (((H2.out.set 0 _).set 1 _).set 2 _)
  ·exact (((H3.out.setCell (p := ⟨w.heap.size + 1, 0, none⟩) (Nat.le_succ _) _).setCell (p := ⟨w.heap.size + 1, 1, none⟩) (Nat.le_succ _) _).setCell (p := ⟨w.heap.size + 1, 2, none⟩) (Nat.le_succ _) _)
 ·rw [e2]
  rw [e1, e4] at HF
  have h6 := Lib.hid h5
  have hpr : ∀ q, o.proto = some q → ∃ y oq, H.os[q]? = some oq ∧ ppv L (some q) = pv y.b ∧ ObjAt ((w.alloc (.cells (Vl.cs v).toArray 29)).alloc (.cells (Vl.cs vl0).toArray 29)) ow q H.n (ppv L oq.proto) y oq := fun q hq => by
   have hqi := g.ok.pw i o e3 q hq
   have hil := get_lt e3
   have hqL : q < L.length := by have := h0.len; omega
   have hqH : q < H.os.length := by omega
   exact ⟨L[q], H.os[q], List.getElem?_eq_getElem hqH, by simp only [ppv, List.getElem?_eq_getElem hqL], h0.ob q hqL hqH⟩
  have HP := Lib.hid hpr
  have hcl := h5.ob.cell (k := 2) rfl
  have hlt := h5.blt
  have HLT := Lib.hid h0.lt
  clear e1 e2 e3 e4 h0 h g h5 hpr
  obtain ⟨vk, vn, vs⟩ := v
  obtain ⟨PR, hPR⟩ : ∃ PR, PR = protoR (some o) := ⟨_, rfl⟩
  rw [← hPR]
  have HPR := Lib.hid hPR
  clear hPR
  simp only [Vl.v, Vl.cs, vl0] at HF HB h6 HP HLT HR hcl hlt ⊢
  cases hq : o.proto with
  | none =>
   rw [hq] at hcl
   simp only [ppv] at hcl
   have HQ := Lib.hid hq
   clear hq h6 HP HLT
   go_enter Tryz.func25, Tryz.ntmps25
   go_wp2_with fail
   refine HF.out.mono ?_
   rintro e w1 ⟨rfl, hb⟩
   have hcl2 := (hb.cell (p := ⟨x.b, 2, none⟩) hlt).trans hcl
   have H2 := Lib.hid (HR.out.2.low hb)
   have H3 := Lib.hid (HB.out.trans (hb.mono HB.out.size))
   clear hb HR hcl hlt
   obtain ⟨d0, d1, d2⟩ := Blk.three (v := ⟨0, 0, ⟨#[]⟩⟩) H2.out
   have z2 := H2.out.fz
   dsimp only at d0 d1 d2
   go_wp2_with fail
   refine bodyPost_ret (res_v rfl _ _ (w.heap.size + 1) null (by rfl) ?_) rfl ⟨by rw [HPR.out]; simp only [protoR, HQ.out]; rfl, ?_⟩
   ·exact (((H2.out.set 0 _).set 1 _).set 2 _)
   ·exact (((H3.out.setCell (p := ⟨w.heap.size + 1, 0, none⟩) (Nat.le_succ _) _).setCell (p := ⟨w.heap.size + 1, 1, none⟩) (Nat.le_succ _) _).setCell (p := ⟨w.heap.size + 1, 2, none⟩) (Nat.le_succ _) _)
  | some q =>
   obtain ⟨y, oq, -, hy1, hy2⟩ := HP.out q hq
   rw [hq, hy1] at hcl
   have HY := Lib.hid hy2
   have HQ := Lib.hid hq
   clear hq h6 HP hy1 hy2
   go_enter Tryz.func25, Tryz.ntmps25
   go_wp2_with fail
   refine HF.out.mono ?_
   rintro e w1 ⟨rfl, hb⟩
   have hcl2 := (hb.cell (p := ⟨x.b, 2, none⟩) hlt).trans hcl
   have HV := Lib.hid (value_any (HY.out.low HLT.out hb))
   have H2 := Lib.hid (HR.out.2.low hb)
   have H3 := Lib.hid (HB.out.trans (hb.mono HB.out.size))
   clear hb HR hcl hlt HLT HY
   go_wp2_with fail
   refine HV.out.mono ?_
   rintro e w2 ⟨rfl, hb⟩
   have H4 := Lib.hid (H2.out.low hb)
   have H5 := Lib.hid (H3.out.trans (hb.mono H3.out.size))
   clear hb H2 H3
   obtain ⟨d0, d1, d2⟩ := Blk.three (v := ⟨0, 0, ⟨#[]⟩⟩) H4.out
   have z2 := H4.out.fz
   simp only [Vl.v, ref] at d0 d1 d2 ⊢
   go_wp2_with fail
   refine bodyPost_ret (res_v rfl _ _ (w.heap.size + 1) (ref q) (by rfl) ?_) rfl ⟨by rw [HPR.out]; simp only [protoR, HQ.out]; rfl, ?_⟩
   ·exact (((H4.out.set 0 _).set 1 _).set 2 _)
   ·exact (((H5.out.setCell (p := ⟨w.heap.size + 1, 0, none⟩) (Nat.le_succ _) _).setCell (p := ⟨w.heap.size + 1, 1, none⟩) (Nat.le_succ _) _).setCell (p := ⟨w.heap.size + 1, 2, none⟩) (Nat.le_succ _) _)
end
theorem ownR_is (o : Option Pr) : ∃ (q : Pr) (b : Bool), ownR o = .tuple #[q.v', .bool b] ∧ (q = pr0 ∨ o = some q) := by
 cases o with
 | none => exact ⟨pr0, false, rfl, .inl rfl⟩
 | some q => exact ⟨q, true, rfl, .inr rfl⟩
theorem sp0 : Sp pr0 := ⟨by decide, by show (ByteArray.mk #[]).size ≤ 16777216; decide⟩
theorem own_mem {o : Ob} {key : ByteArray} {q : Pr} (h : o.own LK AR key = some q) : q = o.lenP LK ∨ q ∈ o.ps := by
 unfold Ob.own at h
 split at h
 ·exact .inl (Option.some.inj h).symm
 ·exact .inr (List.mem_of_find?_eq_some h)
theorem own_sp {n : Nat} {o : Ob} (g : Og n o) {key : ByteArray} {q : Pr} (h : o.own LK AR key = some q) : Sp q := by
 rcases own_mem h with rfl | h
 ·exact ⟨by show LK.size ≤ 16777216; decide, by show (nil : ByteArray).size ≤ 16777216; decide⟩
 ·exact g.s q h
def Hs.ownV (h : Hs) (v : Vl) (key : ByteArray) : Option Pr := (h.obj v).bind fun o => o.own LK AR key
section
variable {w : World} {ow : Nat → Option Nat} {A : Nat} {H : Hs} {L : List OL}
set_option maxRecDepth 8000 in
theorem Own_any (h : PH w A H ow L) (g : Gd H) (v : Vl) (key : ByteArray) (hs : key.size ≤ maxLen) :
  Calls Tryz.prog 23 #[pv A, v.v, .string key] w fun e w' => e = .returned (ownR (H.ownV v key)) ∧ Below w.heap.size w w' := by
 have h0 := h.low (two_low 29 31 (Vl.cs v) (Pr.cs pr0))
 have HF := Lib.hid (find_any h0 v g.os100)
 have HB := Lib.hid (two_low (w := w) 29 31 (Vl.cs v) (Pr.cs pr0))
 have HR : Hid (Blk ((w.alloc (.cells (Vl.cs v).toArray 29)).alloc (.cells (Pr.cs pr0).toArray 31)) w.heap.size 29 v.cs ∧ Blk ((w.alloc (.cells (Vl.cs v).toArray 29)).alloc (.cells (Pr.cs pr0).toArray 31)) (w.heap.size + 1) 31 (Pr.cs pr0)) := by
  obtain ⟨W0, e, h1, h2, -⟩ := two_new w 29 31 v.cs pr0.cs
  rw [← e] at h1 h2
  exact ⟨h1, h2⟩
 rcases h0.obj (v := v) with ⟨e1, e2⟩ | ⟨i, x, o, e1, e2, e3, -, e4, h5⟩
 ·have HQ : Hid (H.ownV v key = none) := by show (H.obj v).bind _ = none; rw [e2]; rfl
  rw [e1] at HF
  clear e1 e2 h0 h g
  obtain ⟨vk, vn, vs⟩ := v
  simp only [Vl.v, Vl.cs, ppv, Pr.cs, pr0] at HF HB HR ⊢
  go_enter Tryz.func23, Tryz.ntmps23
  go_wp2_with fail
  refine HF.out.mono ?_
  rintro e w1 ⟨rfl, hb⟩
  have H2 := Lib.hid (HR.out.2.low hb)
  have H3 := Lib.hid (HB.out.trans (hb.mono HB.out.size))
  clear hb HR
  obtain ⟨d0, d1, d2, d3, d4, d5, d6⟩ := Blk.seven (p := pr0) H2.out
  have z2 := H2.out.fz
  dsimp only [pr0] at d0 d1 d2 d3 d4 d5 d6
  go_wp2_with fail
  refine bodyPost_ret (res_pt rfl _ _ (w.heap.size + 1) pr0 _ (by rfl) (by rfl) ?_) rfl ⟨by rw [HQ.out]; rfl, ?_⟩
  ·exact ((((((H2.out.set 0 _).set 1 _).set 2 _).set 3 _).set 4 _).set 5 _).set 6 _
  ·exact (((((((H3.out.setCell (p := ⟨w.heap.size + 1, 0, none⟩) (Nat.le_succ _) _).setCell (p := ⟨w.heap.size + 1, 1, none⟩) (Nat.le_succ _) _).setCell (p := ⟨w.heap.size + 1, 2, none⟩) (Nat.le_succ _) _).setCell (p := ⟨w.heap.size + 1, 3, none⟩) (Nat.le_succ _) _).setCell (p := ⟨w.heap.size + 1, 4, none⟩) (Nat.le_succ _) _).setCell (p := ⟨w.heap.size + 1, 5, none⟩) (Nat.le_succ _) _).setCell (p := ⟨w.heap.size + 1, 6, none⟩) (Nat.le_succ _) _)
 ·obtain ⟨q, b, hq1, hq2⟩ := ownR_is (o.own LK AR key)
  have hsp : Sp q := by
   rcases hq2 with rfl | hq2
   ·exact sp0
   ·exact own_sp (g.og i o e3) hq2
  have HQ : Hid (ownR (H.ownV v key) = .tuple #[q.v', .bool b]) := by show ownR ((H.obj v).bind _) = _; rw [e2]; exact hq1
  have HC := Lib.hid (fun w => copyProp_any q w (by have := hsp.1; omega) (by have := hsp.2; unfold Sv at this; omega))
  rw [e1, e4] at HF
  have HO : Hid (∀ w1, Below ((w.alloc (.cells (Vl.cs v).toArray 29)).alloc (.cells (Pr.cs pr0).toArray 31)).heap.size ((w.alloc (.cells (Vl.cs v).toArray 29)).alloc (.cells (Pr.cs pr0).toArray 31)) w1 → Calls Tryz.prog 58 #[pv x.b, .string key] w1 fun e w' => e = .returned (.tuple #[q.v', .bool b]) ∧ Below w1.heap.size w1 w') := Lib.hid fun w1 hb => by
   rw [← hq1]
   exact own_any (h5.low h0.lt hb) (fun k hk => Nat.lt_of_lt_of_le (h0.lt k hk) hb.size) key hs
  clear e1 e2 e3 e4 h0 h g h5 hq1 hq2 hsp hs
  obtain ⟨vk, vn, vs⟩ := v
  obtain ⟨qk, ⟨qvk, qvn, qvs⟩, qw, qe, qf⟩ := q
  simp only [Vl.v, Vl.cs, Pr.cs, pr0, Pr.v'] at HF HB HR HO HC HQ ⊢
  go_enter Tryz.func23, Tryz.ntmps23
  go_wp2_with fail
  refine HF.out.mono ?_
  rintro e w1 ⟨rfl, hb⟩
  have HO1 := Lib.hid (HO.out _ hb)
  have H2 := Lib.hid (HR.out.2.low hb)
  have H3 := Lib.hid (HB.out.trans (hb.mono HB.out.size))
  clear hb HR HB HF HO
  go_wp2_with fail
  refine HO1.out.mono ?_
  rintro e w2 ⟨rfl, hb⟩
  have H4 := Lib.hid (H2.out.low hb)
  have H5 := Lib.hid (H3.out.trans (hb.mono H3.out.size))
  have hb2 := below_new w2 (.cells #[.string qk, .int .i64 qvk, .int .i64 qvn, .string qvs, .bool qw, .bool qe, .bool qf] 31)
  have H6 := Lib.hid (H4.out.low hb2)
  have H7 := Lib.hid (H5.out.trans (hb2.mono H5.out.size))
  clear hb H2 H3 HO1 H4 H5 hb2
  go_wp2_with fail
  refine (HC.out _).mono ?_
  rintro e w3 ⟨rfl, hb⟩
  have H8 := Lib.hid (H6.out.low hb)
  have H9 := Lib.hid (H7.out.trans (hb.mono H7.out.size))
  clear hb H6 H7 HC
  obtain ⟨d0, d1, d2, d3, d4, d5, d6⟩ := Blk.seven (p := pr0) H8.out
  have z2 := H8.out.fz
  dsimp only [pr0] at d0 d1 d2 d3 d4 d5 d6
  go_wp2_with fail
  refine bodyPost_ret (res_pt rfl _ _ (w.heap.size + 1) ⟨qk, ⟨qvk, qvn, qvs⟩, qw, qe, qf⟩ _ (by rfl) (by rfl) ?_) rfl ⟨by rw [HQ.out]; rfl, ?_⟩
  ·exact ((((((H8.out.set 0 _).set 1 _).set 2 _).set 3 _).set 4 _).set 5 _).set 6 _
  ·exact (((((((H9.out.setCell (p := ⟨w.heap.size + 1, 0, none⟩) (Nat.le_succ _) _).setCell (p := ⟨w.heap.size + 1, 1, none⟩) (Nat.le_succ _) _).setCell (p := ⟨w.heap.size + 1, 2, none⟩) (Nat.le_succ _) _).setCell (p := ⟨w.heap.size + 1, 3, none⟩) (Nat.le_succ _) _).setCell (p := ⟨w.heap.size + 1, 4, none⟩) (Nat.le_succ _) _).setCell (p := ⟨w.heap.size + 1, 5, none⟩) (Nat.le_succ _) _).setCell (p := ⟨w.heap.size + 1, 6, none⟩) (Nat.le_succ _) _)
theorem take_none (h : PH w A H ow L) (g : Gd H) (hm : H.most ≤ H.n) :
  Calls Tryz.prog 43 #[pv A] w fun e w' => e = .returned (.bool false) ∧ Below w.heap.size w w' := by
 have HL := Lib.hid (left_any h g.ok.le g.mx)
 have hle := g.ok.le
 have e1 : ((H.most : Int) - (H.n : Int)) = 0 := by omega
 rw [e1] at HL
 clear h g e1 hm hle
 go_enter Tryz.func43, Tryz.ntmps43
 go_wp2_with fail
 refine HL.out.mono ?_
 rintro e w1 ⟨rfl, hb⟩
 go_wp2_with fail
 go_ret
 exact ⟨rfl, hb⟩
theorem PH.took (h : PH w A H ow L) : PH (w.setCell ⟨A, 1, none⟩ (.int .i64 ((H.n : Int) + 1))) A { H with n := H.n + 1 } ow L := by
 obtain ⟨⟨ov, h1, h2, h3⟩, h4, h5, h6, h7⟩ := h
 refine ⟨⟨ov, ?_, row_same h2 fun k e => Below.heap_setCell _ _ _ _ (fun ek => h1.ne_row h2 (by decide) k e ek.symm), h3⟩, h4, h5, fun i a b => (h6 i a b).fr (fun k e => ⟨e, Below.heap_setCell _ _ _ _ (fun ek => by subst ek; rw [h4] at e; cases e)⟩) (Nat.le_succ _), fun k hk => by simpa [World.setCell] using h7 k hk⟩
 have := h1.set 1 (.int .i64 ((H.n : Int) + 1))
 rw [show ((H.n : Int) + 1) = (((H.n + 1 : Nat)) : Int) from by omega] at this ⊢
 exact this
theorem take_some (h : PH w A H ow L) (g : Gd H) (hm : H.n < H.most) :
  Calls Tryz.prog 43 #[pv A] w fun e w' => e = .returned (.bool true) ∧ PH w' A { H with n := H.n + 1 } ow L ∧ Fr (Aw w ow) w w' := by
 have HL := Lib.hid (left_any h g.ok.le g.mx)
 have hmx := g.mx
 have e1 : (((H.most : Int) - (H.n : Int)) == 0) = false := by rw [beq_eq_false_iff_ne]; omega
 have hn : (H.n : Int) ≤ 100000 := by omega
 have HH := Lib.hid h
 clear h g hm hmx
 go_enter Tryz.func43, Tryz.ntmps43
 go_wp2_with fail
 refine HL.out.mono ?_
 rintro e w1 ⟨rfl, hb⟩
 have h1 := HH.out.low hb
 obtain ⟨⟨ov, hbk, -, -⟩, -, -, -, -⟩ := id h1
 have c1 := hbk.cell (k := 1) rfl
 have z1 := hbk.fz 1
 have H1 := Lib.hid h1
 have HBL := Lib.hid hb
 clear hbk h1 hb
 go_wp2_with fail
 go_ret
 refine ⟨rfl, H1.out.took, ?_⟩
 refine ((Fr.of HBL.out fun k hk => hk.1).setCell (p := ⟨A, 1, none⟩) (fun hk => ?_) _)
 have := H1.out.wA
 rw [hk.2] at this
 cases this
theorem used_any (h : PH w A H ow L) :
  Calls Tryz.prog 12 #[pv A] w fun e w' => e = .returned (.int .i64 (H.n : Int)) ∧ w = w' := by
 obtain ⟨⟨ov, hbk, -, -⟩, -, -, -, -⟩ := h
 have c1 := hbk.cell (k := 1) rfl
 clear hbk
 go_enter Tryz.func12, Tryz.ntmps12
 go_wp2_with fail
 go_ret
 exact ⟨rfl, rfl⟩
end
end Go.Proofs.YtcahijpbkjplmaaGreatDoor.G
