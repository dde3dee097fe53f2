/-
 Where an operation of the reference stands while it changes an object.
 The reference's add, by contract.
-/
import Derived.Test.YtcahijpbkjplmaaGreatDoorMLe
import Derived.Test.YtcahijpbkjplmaaGreatDoorMZ0
set_option linter.unusedSimpArgs false
namespace Go.Proofs.YtcahijpbkjplmaaGreatDoor.G
open Go.RowKit Go.Shelf Go.Maps Go.Lib Go.Proofs.YtcahijpbkjplmaaGreatDoor
section
variable {w w' w1 w2 : World} {ow ow1 ow2 : Nat → Option Nat} {A i g cap n : Nat} {H H1 H2 Hc : Hs} {R R1 R2 : List Value} {o o' : Ob}
structure Rg (w : World) (ow : Nat → Option Nat) (A g cap n : Nat) (Hc : Hs) (wr : World) (owr : Nat → Option Nat) (Rr : List Value) : Prop where
 oA : ow A = some 0
 ph : RH wr A Hc owr Rr
 hl : Hc.os.length = n
 new : ∀ k, owr k ≠ none → ow k ≠ none ∨ w.heap.size ≤ k
 fr : Fr (Aw w ow) w wr
 c0 : wr.cell? ⟨A, 0, none⟩ = some (.slice (some ⟨g, 0, none⟩) n cap)
def Stp (w1 : World) (ow1 : Nat → Option Nat) (w2 : World) (ow2 : Nat → Option Nat) : Prop := ∀ k, k < w1.heap.size → ow1 k = none → w2.heap[k]? = w1.heap[k]? ∧ ow2 k = none
theorem Rg.start (h : RH w A H ow R) (ho : H.os[i]? = some o) : ∃ g cap, H.os.length ≤ cap ∧ Rg w ow A g cap H.os.length H w ow R := by
 obtain ⟨g, cap, r, hro, hcap, -, -⟩ := h.ro ho
 exact ⟨g, cap, hcap, h.wA, h, rfl, fun _ e => .inl e, Fr.of (Below.refl _ _) fun _ hk => hk.1, hro.c0⟩
theorem Rg.lA (h : Rg w ow A g cap n Hc w1 ow1 R1) : A < w1.heap.size := by
 obtain ⟨ov, hov, -, -⟩ := h.ph.hb
 exact hov.lt
theorem Rg.og (h : Rg w ow A g cap n Hc w1 ow1 R1) : ow1 g = some 0 := by
 obtain ⟨ov, hov, -, hown⟩ := h.ph.hb
 have := hov.cell (k := 0) (v := ov) rfl
 rw [h.c0] at this
 exact hown g (by rw [← Option.some.inj this]; rfl)
theorem Rg.out (h : Rg w ow A g cap n Hc w1 ow1 R1) : Rch w A ow Hc w1 ow1 R1 := ⟨h.ph, h.new, h.fr⟩
theorem Rg.low (h : Rg w ow A g cap n Hc w1 ow1 R1) (hb : Below w1.heap.size w1 w2) : Rg w ow A g cap n Hc w2 ow1 R1 :=
 ⟨h.oA, h.ph.low hb, h.hl, h.new, h.fr.trans (Fr.of hb fun _ hk => Nat.lt_of_lt_of_le hk.1 h.fr.size), (World.cell?_of_block (w := w1) (a := ⟨A, 0, none⟩) (hb.block A h.lA)).trans h.c0⟩
theorem Rg.cell (h : Rg w ow A g cap n Hc w1 ow1 R1) (ho : Hc.os[i]? = some o) : ∃ r, R1[i]? = some r ∧ (∀ j v, (objV (o, r))[j]? = some v → w1.cell? ⟨g, i * 8 + j, none⟩ = some v ∧ w1.frozen? ⟨g, i * 8 + j, none⟩ = false) := by
 obtain ⟨g', cap', r, c0, -, hr, hcell, -⟩ := h.ph.row ho
 rw [h.hl, h.c0] at c0
 injection c0 with c0
 injection c0 with e1 _ _
 injection e1 with e1
 injection e1 with e1 _ _
 subst e1
 exact ⟨r, hr, hcell⟩
theorem Rg.pcell (h : Rg w ow A g cap n Hc w1 ow1 R1) {r : Value} (ho : Hc.os[i]? = some o) (hr : R1[i]? = some r) :
  (∀ j v, (objV (o, r))[j]? = some v → w1.cell? ⟨g, i * 8 + j, none⟩ = some v ∧ w1.frozen? ⟨g, i * 8 + j, none⟩ = false) ∧ w1.ownsRow 0 31 7 r o.ps.length (o.ps.map Pr.cs).flatten := by
 obtain ⟨r', hr', hc⟩ := h.cell ho
 rw [hr] at hr'
 have e := Option.some.inj hr'
 subst e
 exact ⟨hc, (h.ph.props ho hr).1⟩
theorem Rg.gcell (h : Rg w ow A g cap n Hc w1 ow1 R1) {r : Value} (ho : Hc.os[i]? = some o) (hr : R1[i]? = some r) (hg : ∀ k, k < w1.heap.size → r.ownBlock ≠ some k → w2.heap[k]? = w1.heap[k]?) {j : Nat} {v : Value} (hj : (objV (o, r))[j]? = some v) :
  w2.cell? ⟨g, i * 8 + j, none⟩ = some v ∧ w2.frozen? ⟨g, i * 8 + j, none⟩ = false := by
 obtain ⟨c1, c2⟩ := (h.pcell ho hr).1 j v hj
 have hb : w2.heap[g]? = w1.heap[g]? := hg g (h.ph.lt g (by rw [h.og]; simp)) fun e => by
  have := (h.ph.props ho hr).2 g e
  rw [h.og] at this
  cases this
 refine ⟨(World.cell?_of_block (w := w1) (a := ⟨g, _, none⟩) hb).trans c1, ?_⟩
 unfold World.frozen? at c2 ⊢
 rw [hb]
 exact c2
theorem Rg.keep (h : Rg w ow A g cap n Hc w1 ow1 R1) {H2 : Hs} (hp : RH w2 A H2 ow2 R2) (hl : H2.os.length = n) (hn : ∀ k, ow2 k ≠ none → ow1 k ≠ none ∨ w1.heap.size ≤ k) (hk : ∀ k, k < w1.heap.size → ow1 k = none → w2.heap[k]? = w1.heap[k]?)
  (hc : w2.cell? ⟨A, 0, none⟩ = some (.slice (some ⟨g, 0, none⟩) n cap)) (hs : w1.heap.size ≤ w2.heap.size) (ho : w2.os = w1.os ∧ w2.tape = w1.tape ∧ w2.output = w1.output) : Rg w ow A g cap n H2 w2 ow2 R2 ∧ Stp w1 ow1 w2 ow2 := by
 have off : ∀ k, k < w1.heap.size → ow1 k = none → ow2 k = none := fun k h1 h2 => by
  cases e : ow2 k with
  | none => rfl
  | some r =>
   rcases hn k (by rw [e]; simp) with e2 | e2
   ·exact absurd h2 e2
   ·omega
 have out : ∀ k, k < w.heap.size → ow k = none → ow1 k = none := fun k h1 h2 => by
  cases e : ow1 k with
  | none => rfl
  | some r =>
   rcases h.new k (by rw [e]; simp) with e2 | e2
   ·exact absurd h2 e2
   ·omega
 have sz := h.fr.size
 refine ⟨⟨h.oA, hp, hl, fun k e => ?_, ⟨ho.1.trans h.fr.os, ho.2.1.trans h.fr.tape, ho.2.2.trans h.fr.output, Nat.le_trans sz hs, fun k e => (hk k (Nat.lt_of_lt_of_le e.1 sz) (out k e.1 e.2)).trans (h.fr.block k e)⟩, hc⟩, fun k h1 h2 => ⟨hk k h1 h2, off k h1 h2⟩⟩
 rcases hn k e with e2 | e2
 ·exact h.new k e2
 ·exact .inr (Nat.le_trans sz e2)
theorem Rg.nAg (h : Rg w ow A g cap n Hc w1 ow1 R1) : A ≠ g := fun e => by
 obtain ⟨ov, hov, hrw, hown⟩ := h.ph.hb
 have h2 := hov.cell (k := 0) (v := ov) rfl
 rw [h.c0] at h2
 exact hov.ne_row hrw (by decide) g (by rw [← Option.some.inj h2]; rfl) e
theorem Rg.put (h : Rg w ow A g cap n Hc w1 ow1 R1) {r u : Value} {j : Nat} (ho : Hc.os[i]? = some o) (hr : R1[i]? = some r) (hj : j < 8) (he : objV (o', r) = (objV (o, r)).set j u) (hps : o'.ps = o.ps) :
  Rg w ow A g cap n (Hc.set i o') (w1.setCell ⟨g, i * 8 + j, none⟩ u) ow1 R1 ∧ Stp w1 ow1 (w1.setCell ⟨g, i * 8 + j, none⟩ u) ow1 :=
 h.keep (h.ph.put ho hr (by rw [h.hl]; exact h.c0) hj he hps) (by show (Hc.os.set i _).length = n; rw [List.length_set]; exact h.hl) (fun _ e => .inl e)
  (fun k _ e => Below.heap_setCell _ _ _ _ fun e2 => by rw [e2, h.og] at e; cases e)
  ((World.cell?_of_block (w := w1) (a := ⟨A, 0, none⟩) (Below.heap_setCell _ _ _ _ h.nAg)).trans h.c0) (by simp [World.setCell]) ⟨rfl, rfl, rfl⟩
theorem Rg.row (h : Rg w ow A g cap n Hc w1 ow1 R1) {r nv : Value} {ps' : List Pr} (ho : Hc.os[i]? = some o) (hr : R1[i]? = some r)
  (hrow : w2.ownsRow 0 31 7 nv ps'.length (ps'.map Pr.cs).flatten) (hg : ∀ k, k < w1.heap.size → r.ownBlock ≠ some k → w2.heap[k]? = w1.heap[k]?) (hnv : nv.ownBlock = r.ownBlock ∨ ∀ k, nv.ownBlock = some k → w1.heap.size ≤ k) (hs : w1.heap.size ≤ w2.heap.size) (hos : w2.os = w1.os ∧ w2.tape = w1.tape ∧ w2.output = w1.output) :
  ∃ ow', Rg w ow A g cap n (Hc.set i { o with ps := ps' }) (w2.setCell ⟨g, i * 8 + 4, none⟩ nv) ow' (R1.set i nv) ∧ Stp w1 ow1 (w2.setCell ⟨g, i * 8 + 4, none⟩ nv) ow' := by
 have hrb : ∀ k, r.ownBlock = some k → ow1 k = some (i + 1) := (h.ph.props ho hr).2
 have c0 : w1.cell? ⟨A, 0, none⟩ = some (.slice (some ⟨g, 0, none⟩) Hc.os.length cap) := by rw [h.hl]; exact h.c0
 obtain ⟨ow', hp, hn⟩ := h.ph.setps ho hr c0 hrow hnv
  (fun k q e hq => hg k (h.ph.lt k (by rw [e]; simp)) fun e2 => by have := hrb k e2; rw [e] at this; exact hq (Option.some.inj this)) hs
 have og := h.og
 refine ⟨ow', h.keep hp (by show (Hc.os.set i _).length = n; rw [List.length_set]; exact h.hl) hn (fun k e1 e2 => ?_) ?_ ?_ hos⟩
 ·refine (Below.heap_setCell _ _ _ _ (fun e => ?_)).trans (hg k e1 fun e => ?_)
  ·rw [e] at e2
   rw [og] at e2
   cases e2
  ·rw [hrb k e] at e2
   cases e2
 ·refine (World.cell?_of_block (w := w2) (a := ⟨A, 0, none⟩) (Below.heap_setCell _ _ _ _ h.nAg)).trans ((World.cell?_of_block (w := w1) (a := ⟨A, 0, none⟩) (hg A h.lA fun e => ?_)).trans h.c0)
  have := hrb A e
  rw [h.ph.wA] at this
  have := Option.some.inj this
  omega
 ·have : (w2.setCell ⟨g, i * 8 + 4, none⟩ nv).heap.size = w2.heap.size := by simp [World.setCell]
  rw [this]
  exact hs
theorem grown_row {r : Value} (hg : w1.grownBy w2 r.ownBlock) : (∀ k, k < w1.heap.size → r.ownBlock ≠ some k → w2.heap[k]? = w1.heap[k]?) ∧ w1.heap.size ≤ w2.heap.size ∧ w2.os = w1.os ∧ w2.tape = w1.tape ∧ w2.output = w1.output :=
 ⟨fun k h1 h2 => hg.block k h1 fun e => h2 e.symm, hg.size, hg.os, hg.tape, hg.output⟩
theorem Rg.took (h : Rg w ow A g cap n Hc w1 ow1 R1) : Rg w ow A g cap n { Hc with n := Hc.n + 1 } (w1.setCell ⟨A, 2, none⟩ (.int .i64 ((Hc.n : Int) + 1))) ow1 R1 ∧ Stp w1 ow1 (w1.setCell ⟨A, 2, none⟩ (.int .i64 ((Hc.n : Int) + 1))) ow1 :=
 h.keep h.ph.took h.hl (fun _ e => .inl e) (fun k _ e => Below.heap_setCell _ _ _ _ (fun e2 => by rw [e2, h.ph.wA] at e; cases e)) ((World.cell?_setCell_other _ _ _ _ (by intro e; injection e with _ e; cases e)).trans h.c0) (by simp [World.setCell]) ⟨rfl, rfl, rfl⟩
end
section
variable {w w' w1 w2 : World} {ow ow1 ow2 : Nat → Option Nat} {A i : Nat} {H H1 H2 Hc : Hs} {R R1 R2 : List Value} {o o' : Ob}
set_option maxRecDepth 8000 in
theorem rtake_set (h : RH w A H ow R) (hm : H.n < H.most) (hx : H.most ≤ 100000) :
  Calls Tryz.prog 44 #[pv A] w fun e w' => e = .returned (.bool true) ∧ w' = w.drew.setCell ⟨A, 2, none⟩ (.int .i64 ((H.n : Int) + 1)) := by
 obtain ⟨⟨ov, hbk, -, -⟩, -, -, -, -, -⟩ := h
 have HBK := Lib.hid (hbk.fr (w' := w.drew) rfl)
 have hi : ¬ (H.most : Int) ≤ (H.n : Int) := by omega
 have hs0 : (fun w' : World => w'.cell? ⟨A, 1, none⟩ = some (.int .i64 (H.most : Int)) ∧ w'.cell? ⟨A, 2, none⟩ = some (.int .i64 (H.n : Int))) w.drew := ⟨(hbk.fr (w' := w.drew) rfl).cell (k := 1) rfl, (hbk.fr (w' := w.drew) rfl).cell (k := 2) rfl⟩
 have hw : IntKind.i64.wrap ((H.n : Int) + 1) = (H.n : Int) + 1 := IntWalk.i64_in _ (by omega)
 obtain ⟨W, hW⟩ : ∃ W, W = w.drew.setCell ⟨A, 2, none⟩ (.int .i64 ((H.n : Int) + 1)) := ⟨_, rfl⟩
 rw [← hW]
 clear hbk hm
 go_enter Tryz.func44, Tryz.ntmps44
 go_wp2_with fail
 refine wp_region_held_drew (S := (fun w' : World => w'.cell? ⟨A, 1, none⟩ = some (.int .i64 (H.most : Int)) ∧ w'.cell? ⟨A, 2, none⟩ = some (.int .i64 (H.n : Int)))) (by kernel_rfl) (hs0) (fun hHeld0 => ?_)
 generalize w.drew = v0 at *
 refine tk 0 ?_ ‹_› ?_ ?_; rotate_left; focus (intro w0 hSw; obtain ⟨e1, e2⟩ := hSw; go_simp; try with_reducible rfl)
 refine tk 1 ?_ ‹_› ?_ ?_; rotate_left; focus (intro w0 hSw; obtain ⟨e1, e2⟩ := hSw; go_simp; try with_reducible rfl)
 refine tk 2 ?_ ‹_› ?_ ?_; rotate_left; focus (intro w0 hSw; obtain ⟨e1, e2⟩ := hSw; go_simp; try with_reducible rfl)
 refine tk 3 ?_ ‹_› ?_ ?_; rotate_left; focus (intro w0 hSw; obtain ⟨e1, e2⟩ := hSw; go_simp; try with_reducible rfl)
 refine tk 4 ?_ ‹_› ?_ ?_; rotate_left; focus (intro w0 hSw; obtain ⟨e1, e2⟩ := hSw; go_simp; try with_reducible rfl)
 refine tk 5 ?_ ‹_› ?_ ?_; rotate_left; focus (intro w0 hSw; obtain ⟨e1, e2⟩ := hSw; go_simp; try with_reducible rfl)
 refine tk 6 ?_ ‹_› ?_ ?_; rotate_left; focus (intro w0 hSw; obtain ⟨e1, e2⟩ := hSw; go_simp; try with_reducible rfl)
 refine tk 7 ?_ ‹_› ?_ ?_; rotate_left; focus (intro w0 hSw; obtain ⟨e1, e2⟩ := hSw; go_simp; try with_reducible rfl)
 refine tk 8 ?_ ‹_› ?_ ?_; rotate_left; focus (intro w0 hSw; obtain ⟨e1, e2⟩ := hSw; go_simp; try with_reducible rfl)
 try simp only [PT]
 refine wpAnyH_done (by kernel_rfl) ?_ _
 clear hHeld0 hs0
 have c2 := HBK.out.cell (k := 2) rfl
 have z2 := HBK.out.fz 2
 go_wp2_with fail
 go_ret
 exact ⟨rfl, hW.symm⟩
theorem add_bar {p : Pr} {b : Int} (hb : o.bar ix AR p.key = b) (h0 : b ≠ 0) : H.add ix AR i o p = (H, b) := by
 unfold Hs.add
 rw [hb, if_pos h0]
theorem add_full {p : Pr} (hb : o.bar ix AR p.key = 0) (hm : H.most ≤ H.n) : H.add ix AR i o p = (H, 111) := by
 unfold Hs.add
 rw [hb, if_neg (by decide), if_pos hm]
theorem add_ok {p : Pr} (hb : o.bar ix AR p.key = 0) (hm : H.n < H.most) : H.add ix AR i o p = ({ (H.set i (o.more ix AR p)) with n := H.n + 1 }, 0) := by
 unfold Hs.add
 rw [hb, if_neg (by decide), if_neg (by omega)]
theorem bar_closed {key : ByteArray} (h : o.closed = true) : o.bar ix AR key = 110 := by
 unfold Ob.bar
 rw [if_pos h]
theorem bar_none {key : ByteArray} (h : o.closed = false) (hx : o.ixA ix AR key = none) : o.bar ix AR key = 0 := by
 unfold Ob.bar
 rw [if_neg (by rw [h]; decide), hx]
theorem bar_range {key : ByteArray} {x : Nat} (h : o.closed = false) (hx : o.ixA ix AR key = some x) (h1 : 1000 ≤ x) : o.bar ix AR key = 100 := by
 unfold Ob.bar
 rw [if_neg (by rw [h]; decide), hx]
 exact if_pos h1
theorem bar_lw {key : ByteArray} {x : Nat} (h : o.closed = false) (hx : o.ixA ix AR key = some x) (h1 : ¬ 1000 ≤ x) (h2 : o.len ≤ x) (h3 : o.lw = false) : o.bar ix AR key = 110 := by
 unfold Ob.bar
 rw [if_neg (by rw [h]; decide), hx]
 dsimp only
 rw [if_neg h1, if_pos ⟨h2, h3⟩]
theorem bar_free {key : ByteArray} {x : Nat} (h : o.closed = false) (hx : o.ixA ix AR key = some x) (h1 : ¬ 1000 ≤ x) (h2 : ¬ (o.len ≤ x ∧ o.lw = false)) : o.bar ix AR key = 0 := by
 unfold Ob.bar
 rw [if_neg (by rw [h]; decide), hx]
 dsimp only
 rw [if_neg h1, if_neg h2]
theorem ixA_ar {key : ByteArray} (hc : o.cls = AR) : o.ixA ix AR key = idx (us key.data.toList) := by
 unfold Ob.ixA
 rw [if_pos hc]
 rfl
theorem ixA_not {key : ByteArray} (hc : ¬ o.cls = AR) : o.ixA ix AR key = none := by
 unfold Ob.ixA
 rw [if_neg hc]
theorem more_none {p : Pr} (hx : o.ixA ix AR p.key = none) : o.more ix AR p = { o with ps := o.ps ++ [p] } := by
 unfold Ob.more
 rw [hx]
theorem more_some {p : Pr} {x : Nat} (hx : o.ixA ix AR p.key = some x) : o.more ix AR p = { o with ps := o.ps ++ [p], len := max o.len (x + 1) } := by
 unfold Ob.more
 rw [hx]
theorem set_getO {l : List Ob} {a b : Ob} (h : l[i]? = some a) : (l.set i b)[i]? = some b := by
 rw [List.getElem?_set_self (List.getElem?_eq_some_iff.1 h).1]
theorem ixA_none {key : ByteArray} (hx : idx (us key.data.toList) = none) : o.ixA ix AR key = none := by
 unfold Ob.ixA
 split
 ·exact hx
 ·rfl
set_option maxRecDepth 8000 in
set_option maxHeartbeats 4000000 in
theorem radd_any (h : RH w A H ow R) (gd : Gd H) (ho : H.os[i]? = some o) (p : Pr) (hs : p.key.size ≤ 16777216) :
  Calls Tryz.prog 76 #[pv A, .int .i64 (i : Int), p.v'] w (RpR w A ow (.int .i64 (H.add ix AR i o p).2) (H.add ix AR i o p).1) := by
 obtain ⟨g, cap, hcap, hrg⟩ := Rg.start h ho
 have hb0 := below_new w (.cells (Pr.cs p).toArray 31)
 have HR0 := Lib.hid (hrg.low hb0)
 have HP0 := Lib.hid (Blk.new w 31 (Pr.cs p))
 have HO := Lib.hid ho
 have HH := Lib.hid h
 obtain ⟨r, hr, hc⟩ := HR0.out.cell ho
 have HRR := Lib.hid hr
 have hil := (List.getElem?_eq_some_iff.1 ho).1
 have hii : (i : Int) < (H.os.length : Int) := by omega
 have hm0 := gd.mx
 have hps := (gd.og i o ho).l
 have HN : Hid (H.n ≤ H.most ∧ H.most ≤ 100000 ∧ o.ps.length ≤ H.n) := ⟨gd.ok.le, gd.mx, hps⟩
 have HI := Lib.hid fun w => refIndex_any p.key w hs
 obtain ⟨rh, HRH⟩ : ∃ rh, Hid (H.add ix AR i o p = rh) := ⟨_, rfl⟩
 rw [HRH.out]
 have HPB : Hid (w.heap.size ≠ A) := fun e => by obtain ⟨ov, hov, -, -⟩ := h.hb; exact absurd hov.lt (by rw [e]; exact Nat.lt_irrefl _)
 have HPO : Hid (ow w.heap.size = none) := h.off (Nat.le_refl _)
 have c0 := HR0.out.c0
 have c5 := (hc 5 _ rfl).1
 have HIX := Lib.hid fun (hx : idx (us p.key.data.toList) = none) => ixA_none (o := o) hx
 have HIA := Lib.hid fun (hc : o.cls = AR) => ixA_ar (o := o) (key := p.key) hc
 have HIN := Lib.hid fun (hc : ¬ o.cls = AR) => ixA_not (o := o) (key := p.key) hc
 have HA := Lib.hid (ar_eq o.cls)
 obtain ⟨PB, hPB⟩ : ∃ PB, w.heap.size = PB := ⟨_, rfl⟩
 have HHP : Hid (∃ q : Pr, q = p) := ⟨p, rfl⟩
 clear hrg hb0 h gd ho hr hc hs hm0 hps hil hcap
 obtain ⟨pk, ⟨vk, vn, vs⟩, pw, pe, pf⟩ := p
 simp only [Pr.cs, Pr.v'] at HR0 HP0 c0 c5 HI HIX HIA HIN ⊢
 rw [hPB] at HP0 HPB HPO
 cases hcl : o.closed with
 | true =>
  rw [hcl] at c5
  have HE := Lib.hid (HRH.out.symm.trans (add_bar (bar_closed hcl) (by decide)))
  go_enter Tryz.func76, Tryz.ntmps76
  go_wp2_with fail
  go_ret
  exact ⟨by rw [HE.out]; rfl, ow, R, by rw [HE.out]; exact HR0.out.out⟩
 | false =>
  rw [hcl] at c5
  have HCL := Lib.hid hcl
  clear hcl
  go_enter Tryz.func76, Tryz.ntmps76
  go_wp2_with fail
  refine (HI.out _).mono ?_
  rintro e w1 ⟨rfl, hb⟩
  have HR1 := Lib.hid (HR0.out.low hb)
  have HP1 := Lib.hid (HP0.out.low hb)
  obtain ⟨hc, -⟩ := HR1.out.pcell HO.out HRR.out
  have c0 := HR1.out.c0
  have d0 := (hc 0 _ rfl).1
  have d6 := (hc 6 _ rfl).1
  have d7 := (hc 7 _ rfl).1
  simp only [Nat.add_zero] at d0
  clear hb hc HR0 HP0 HI c5
  cases hx : idx (us pk.data.toList) with
  | none =>
   have HX := Lib.hid (HIX.out hx)
   have HB0 := Lib.hid (bar_none HCL.out HX.out)
   simp only [idxRes]
   clear hx HIX HIA HIN
   rcases Nat.lt_or_ge H.n H.most with hm | hm
   ·
    have HT := Lib.hid (rtake_set HR1.out.ph hm HN.out.2.1)
    go_wp2_with fail
    refine HT.out.mono ?_
    rintro e w2 ⟨rfl, hw2⟩
    have HR2 : Hid (Rg w ow A g cap H.os.length { H with n := H.n + 1 } w2 ow R) := by rw [hw2]; exact ((HR1.out.low (below_draw w1)).took).1
    have HP2 : Hid (Blk w2 PB 31 [.string pk, .int .i64 vk, .int .i64 vn, .string vs, .bool pw, .bool pe, .bool pf]) := by rw [hw2]; exact (HP1.out.fr (w' := w1.drew) rfl).other (p := ⟨A, 2, none⟩) HPB.out _
    have HR3 := Lib.hid (HR2.out.low (below_draw w2))
    have HP3 := Lib.hid (HP2.out.fr (w' := w2.drew) rfl)
    have hs3 : (fun w' : World => w'.cell? ⟨PB, 0, none⟩ = some (.string pk) ∧ w'.cell? ⟨PB, 1, none⟩ = some (.int .i64 vk) ∧ w'.cell? ⟨PB, 2, none⟩ = some (.int .i64 vn) ∧ w'.cell? ⟨PB, 3, none⟩ = some (.string vs) ∧ w'.cell? ⟨PB, 4, none⟩ = some (.bool pw) ∧ w'.cell? ⟨PB, 5, none⟩ = some (.bool pe) ∧ w'.cell? ⟨PB, 6, none⟩ = some (.bool pf)) w2.drew := ⟨HP3.out.cell (k := 0) rfl, HP3.out.cell (k := 1) rfl, HP3.out.cell (k := 2) rfl, HP3.out.cell (k := 3) rfl, HP3.out.cell (k := 4) rfl, HP3.out.cell (k := 5) rfl, HP3.out.cell (k := 6) rfl⟩
    dsimp only at hs3
    clear hw2 HT HR1 HP1 HR2 HP2 c0 d0 d6 d7
    go_wp2_with fail
    refine wp_region_held_drew (S := (fun w' : World => w'.cell? ⟨PB, 0, none⟩ = some (.string pk) ∧ w'.cell? ⟨PB, 1, none⟩ = some (.int .i64 vk) ∧ w'.cell? ⟨PB, 2, none⟩ = some (.int .i64 vn) ∧ w'.cell? ⟨PB, 3, none⟩ = some (.string vs) ∧ w'.cell? ⟨PB, 4, none⟩ = some (.bool pw) ∧ w'.cell? ⟨PB, 5, none⟩ = some (.bool pe) ∧ w'.cell? ⟨PB, 6, none⟩ = some (.bool pf))) (by kernel_rfl) (hs3) (fun hHeld0 => ?_)
    generalize w2.drew = w3 at *
    refine tk 0 ?_ ‹_› ?_ ?_; rotate_left; focus (intro w0 hSw; obtain ⟨e0, e1, e2, e3, e4, e5, e6⟩ := hSw; go_simp; try with_reducible rfl)
    refine tk 1 ?_ ‹_› ?_ ?_; rotate_left; focus (intro w0 hSw; obtain ⟨e0, e1, e2, e3, e4, e5, e6⟩ := hSw; go_simp; try with_reducible rfl)
    refine tk 2 ?_ ‹_› ?_ ?_; rotate_left; focus (intro w0 hSw; obtain ⟨e0, e1, e2, e3, e4, e5, e6⟩ := hSw; go_simp; try with_reducible rfl)
    refine tk 3 ?_ ‹_› ?_ ?_; rotate_left; focus (intro w0 hSw; obtain ⟨e0, e1, e2, e3, e4, e5, e6⟩ := hSw; go_simp; try with_reducible rfl)
    refine tk 5 ?_ ‹_› ?_ ?_; rotate_left; focus (intro w0 hSw; obtain ⟨e0, e1, e2, e3, e4, e5, e6⟩ := hSw; go_simp; try with_reducible rfl)
    try simp only [PT]
    refine wpAnyH_ready (rs := [4, 6]) (by decide +kernel) (by simp) (AllReadyH.cons rfl (fun K hK => ?_) (AllReadyH.cons rfl (fun K hK => ?_) AllReadyH.nil))
    ·
     have c4 := ((HR3.out.pcell HO.out HRR.out).1 4 _ rfl).1
     go_simp
     refine hK.out _ _ hs3 (fun hHeld1 => ?_)
     clear hK K hHeld0 c4
     try simp only [PT]
     refine wpAnyH_ready (rs := [6]) (by decide +kernel) (by simp) (AllReadyH.cons rfl (fun K hK => ?_) AllReadyH.nil)
     go_simp
     have hb := below_new w3 (.cells #[.string pk, .int .i64 vk, .int .i64 vn, .string vs, .bool pw, .bool pe, .bool pf] 31)
     have HR4 := Lib.hid (HR3.out.low hb)
     have HP4 := Lib.hid (HP3.out.low hb)
     have HX4 := Lib.hid (Blk.new w3 31 [.string pk, .int .i64 vk, .int .i64 vn, .string vs, .bool pw, .bool pe, .bool pf])
     obtain ⟨xb, hxb⟩ : ∃ xb, w3.heap.size = xb := ⟨_, rfl⟩
     clear hb
     have hs4 : (fun w' : World => w'.cell? ⟨PB, 0, none⟩ = some (.string pk) ∧ w'.cell? ⟨PB, 1, none⟩ = some (.int .i64 vk) ∧ w'.cell? ⟨PB, 2, none⟩ = some (.int .i64 vn) ∧ w'.cell? ⟨PB, 3, none⟩ = some (.string vs) ∧ w'.cell? ⟨PB, 4, none⟩ = some (.bool pw) ∧ w'.cell? ⟨PB, 5, none⟩ = some (.bool pe) ∧ w'.cell? ⟨PB, 6, none⟩ = some (.bool pf)) (w3.alloc (.cells #[.string pk, .int .i64 vk, .int .i64 vn, .string vs, .bool pw, .bool pe, .bool pf] 31)) := ⟨HP4.out.cell (k := 0) rfl, HP4.out.cell (k := 1) rfl, HP4.out.cell (k := 2) rfl, HP4.out.cell (k := 3) rfl, HP4.out.cell (k := 4) rfl, HP4.out.cell (k := 5) rfl, HP4.out.cell (k := 6) rfl⟩
     dsimp only at hs4
     refine hK.out _ _ hs4 (fun hHeld2 => ?_)
     clear hK K hHeld1
     rw [hxb] at HX4 ⊢
     clear hxb
     generalize (w3.alloc (.cells #[.string pk, .int .i64 vk, .int .i64 vn, .string vs, .bool pw, .bool pe, .bool pf] 31)) = w4 at *
     try simp only [PT]
     refine wpAnyH_ready (rs := [7]) (by decide +kernel) (by simp) (AllReadyH.cons rfl (fun K hK => ?_) AllReadyH.nil)
     have hrow := (HR4.out.pcell HO.out HRR.out).2
     obtain ⟨nv, w5, hr5, hrow5, hg5, hn5⟩ := run_appK (w := w4) 71 31 71 _ 7 56 Tryz.underlying71 infoPr' rfl (by decide) (by decide) 0 _ _ _ hrow xb 0 1 1 [.string pk, .int .i64 vk, .int .i64 vn, .string vs, .bool pw, .bool pe, .bool pf] rfl (fun j u hj => by rw [Nat.zero_add]; exact HX4.out.cell hj) (by intro u hu; simp only [List.mem_cons, List.not_mem_nil, or_false] at hu; rcases hu with rfl | rfl | rfl | rfl | rfl | rfl | rfl <;> rfl) (by obtain ⟨a, b, c⟩ := HN.out; omega) (Nat.zero_le _)
     obtain ⟨rA, rc, rfl, -, -⟩ := rows_form hrow
     obtain ⟨nA, nc, rfl, -, -⟩ := rows_form hrow5
     have hpb : some PB ≠ (Value.slice rA o.ps.length rc).ownBlock := fun e => by
      have h1 := (HR4.out.ph.props HO.out HRR.out).2 PB e.symm
      rw [HPO.out] at h1
      cases h1
     have HP5 := Lib.hid (HP4.out.fr (hg5.block _ HP4.out.lt hpb))
     have HG5 := Lib.hid hg5
     have HW5 := Lib.hid hrow5
     have HN5 := Lib.hid hn5
     have hs5 : (fun w' : World => w'.cell? ⟨PB, 0, none⟩ = some (.string pk) ∧ w'.cell? ⟨PB, 1, none⟩ = some (.int .i64 vk) ∧ w'.cell? ⟨PB, 2, none⟩ = some (.int .i64 vn) ∧ w'.cell? ⟨PB, 3, none⟩ = some (.string vs) ∧ w'.cell? ⟨PB, 4, none⟩ = some (.bool pw) ∧ w'.cell? ⟨PB, 5, none⟩ = some (.bool pe) ∧ w'.cell? ⟨PB, 6, none⟩ = some (.bool pf)) w5 := ⟨HP5.out.cell (k := 0) rfl, HP5.out.cell (k := 1) rfl, HP5.out.cell (k := 2) rfl, HP5.out.cell (k := 3) rfl, HP5.out.cell (k := 4) rfl, HP5.out.cell (k := 5) rfl, HP5.out.cell (k := 6) rfl⟩
     dsimp only at hs5
     refine step_appK rfl (.tmp 62) (.tmp 64) 71 rfl _ _ rfl rfl _ w5 hr5 ?_
     clear hr5 hrow5 hg5 hn5 hrow hpb
     refine hK.out _ _ hs5 (fun hHeld3 => ?_)
     clear hK K hHeld2
     try simp only [PT]
     refine tk 8 ?_ ‹_› ?_ ?_; rotate_left; focus (intro w0 hSw; obtain ⟨e0, e1, e2, e3, e4, e5, e6⟩ := hSw; go_simp; try with_reducible rfl)
     refine tk 9 ?_ ‹_› ?_ ?_; rotate_left; focus (intro w0 hSw; obtain ⟨e0, e1, e2, e3, e4, e5, e6⟩ := hSw; go_simp; try with_reducible rfl)
     try simp only [PT]
     refine wpAnyH_ready (rs := [10]) (by decide +kernel) (by simp) (AllReadyH.cons rfl (fun K hK => ?_) AllReadyH.nil)
     obtain ⟨c4, z4⟩ := HR4.out.gcell HO.out HRR.out (grown_row HG5.out).1 (j := 4) rfl
     go_simp
     have HBG : Hid (PB ≠ g) := fun e => by
      have h1 := HR4.out.og
      rw [← e, HPO.out] at h1
      cases h1
     have HP6 := Lib.hid (HP5.out.other (p := ⟨g, i * 8 + 4, none⟩) HBG.out (.slice nA (o.ps.length + 1) nc))
     have hs6 : (fun w' : World => w'.cell? ⟨PB, 0, none⟩ = some (.string pk) ∧ w'.cell? ⟨PB, 1, none⟩ = some (.int .i64 vk) ∧ w'.cell? ⟨PB, 2, none⟩ = some (.int .i64 vn) ∧ w'.cell? ⟨PB, 3, none⟩ = some (.string vs) ∧ w'.cell? ⟨PB, 4, none⟩ = some (.bool pw) ∧ w'.cell? ⟨PB, 5, none⟩ = some (.bool pe) ∧ w'.cell? ⟨PB, 6, none⟩ = some (.bool pf)) (w5.setCell ⟨g, i * 8 + 4, none⟩ (.slice nA (o.ps.length + 1) nc)) := ⟨HP6.out.cell (k := 0) rfl, HP6.out.cell (k := 1) rfl, HP6.out.cell (k := 2) rfl, HP6.out.cell (k := 3) rfl, HP6.out.cell (k := 4) rfl, HP6.out.cell (k := 5) rfl, HP6.out.cell (k := 6) rfl⟩
     dsimp only at hs6
     obtain ⟨ow6, HR6, -⟩ := HR4.out.row HO.out HRR.out (ps' := o.ps ++ [(⟨pk, ⟨vk, vn, vs⟩, pw, pe, pf⟩ : Pr)]) (by rw [List.length_append, List.map_append, List.flatten_append]; exact HW5.out) (grown_row HG5.out).1 (HN5.out.imp id fun e k e2 => by rw [e] at e2; cases e2; exact Nat.le_refl _) (grown_row HG5.out).2.1 (grown_row HG5.out).2.2
     have HR6 := Lib.hid HR6
     refine hK.out _ _ hs6 (fun hHeld4 => ?_)
     clear hK K hHeld3
     refine wpAnyH_done (by kernel_rfl) ?_ _
     clear hHeld4 hs6 c4 z4
     generalize (w5.setCell ⟨g, i * 8 + 4, none⟩ (.slice nA (o.ps.length + 1) nc)) = w6 at *
     have HE := Lib.hid (HRH.out.symm.trans (add_ok HB0.out hm))
     go_wp2_with fail
     go_ret
     refine ⟨by rw [HE.out]; rfl, ow6, R.set i (.slice nA (o.ps.length + 1) nc), ?_⟩
     rw [HE.out, more_none HX.out]
     exact HR6.out.out
    ·
     go_simp
     have hb := below_new w3 (.cells #[.string pk, .int .i64 vk, .int .i64 vn, .string vs, .bool pw, .bool pe, .bool pf] 31)
     have HR4 := Lib.hid (HR3.out.low hb)
     have HP4 := Lib.hid (HP3.out.low hb)
     have HX4 := Lib.hid (Blk.new w3 31 [.string pk, .int .i64 vk, .int .i64 vn, .string vs, .bool pw, .bool pe, .bool pf])
     obtain ⟨xb, hxb⟩ : ∃ xb, w3.heap.size = xb := ⟨_, rfl⟩
     clear hb
     have hs4 : (fun w' : World => w'.cell? ⟨PB, 0, none⟩ = some (.string pk) ∧ w'.cell? ⟨PB, 1, none⟩ = some (.int .i64 vk) ∧ w'.cell? ⟨PB, 2, none⟩ = some (.int .i64 vn) ∧ w'.cell? ⟨PB, 3, none⟩ = some (.string vs) ∧ w'.cell? ⟨PB, 4, none⟩ = some (.bool pw) ∧ w'.cell? ⟨PB, 5, none⟩ = some (.bool pe) ∧ w'.cell? ⟨PB, 6, none⟩ = some (.bool pf)) (w3.alloc (.cells #[.string pk, .int .i64 vk, .int .i64 vn, .string vs, .bool pw, .bool pe, .bool pf] 31)) := ⟨HP4.out.cell (k := 0) rfl, HP4.out.cell (k := 1) rfl, HP4.out.cell (k := 2) rfl, HP4.out.cell (k := 3) rfl, HP4.out.cell (k := 4) rfl, HP4.out.cell (k := 5) rfl, HP4.out.cell (k := 6) rfl⟩
     dsimp only at hs4
     refine hK.out _ _ hs4 (fun hHeld1 => ?_)
     clear hK K hHeld0
     rw [hxb] at HX4 ⊢
     clear hxb
     generalize (w3.alloc (.cells #[.string pk, .int .i64 vk, .int .i64 vn, .string vs, .bool pw, .bool pe, .bool pf] 31)) = w4 at *
     try simp only [PT]
     refine wpAnyH_ready (rs := [4]) (by decide +kernel) (by simp) (AllReadyH.cons rfl (fun K hK => ?_) AllReadyH.nil)
     have c4 := ((HR4.out.pcell HO.out HRR.out).1 4 _ rfl).1
     go_simp
     refine hK.out _ _ hs4 (fun hHeld2 => ?_)
     clear hK K hHeld1 c4
     try simp only [PT]
     refine wpAnyH_ready (rs := [7]) (by decide +kernel) (by simp) (AllReadyH.cons rfl (fun K hK => ?_) AllReadyH.nil)
     have hrow := (HR4.out.pcell HO.out HRR.out).2
     obtain ⟨nv, w5, hr5, hrow5, hg5, hn5⟩ := run_appK (w := w4) 71 31 71 _ 7 56 Tryz.underlying71 infoPr' rfl (by decide) (by decide) 0 _ _ _ hrow xb 0 1 1 [.string pk, .int .i64 vk, .int .i64 vn, .string vs, .bool pw, .bool pe, .bool pf] rfl (fun j u hj => by rw [Nat.zero_add]; exact HX4.out.cell hj) (by intro u hu; simp only [List.mem_cons, List.not_mem_nil, or_false] at hu; rcases hu with rfl | rfl | rfl | rfl | rfl | rfl | rfl <;> rfl) (by obtain ⟨a, b, c⟩ := HN.out; omega) (Nat.zero_le _)
     obtain ⟨rA, rc, rfl, -, -⟩ := rows_form hrow
     obtain ⟨nA, nc, rfl, -, -⟩ := rows_form hrow5
     have hpb : some PB ≠ (Value.slice rA o.ps.length rc).ownBlock := fun e => by
      have h1 := (HR4.out.ph.props HO.out HRR.out).2 PB e.symm
      rw [HPO.out] at h1
      cases h1
     have HP5 := Lib.hid (HP4.out.fr (hg5.block _ HP4.out.lt hpb))
     have HG5 := Lib.hid hg5
     have HW5 := Lib.hid hrow5
     have HN5 := Lib.hid hn5
     have hs5 : (fun w' : World => w'.cell? ⟨PB, 0, none⟩ = some (.string pk) ∧ w'.cell? ⟨PB, 1, none⟩ = some (.int .i64 vk) ∧ w'.cell? ⟨PB, 2, none⟩ = some (.int .i64 vn) ∧ w'.cell? ⟨PB, 3, none⟩ = some (.string vs) ∧ w'.cell? ⟨PB, 4, none⟩ = some (.bool pw) ∧ w'.cell? ⟨PB, 5, none⟩ = some (.bool pe) ∧ w'.cell? ⟨PB, 6, none⟩ = some (.bool pf)) w5 := ⟨HP5.out.cell (k := 0) rfl, HP5.out.cell (k := 1) rfl, HP5.out.cell (k := 2) rfl, HP5.out.cell (k := 3) rfl, HP5.out.cell (k := 4) rfl, HP5.out.cell (k := 5) rfl, HP5.out.cell (k := 6) rfl⟩
     dsimp only at hs5
     refine step_appK rfl (.tmp 62) (.tmp 64) 71 rfl _ _ rfl rfl _ w5 hr5 ?_
     clear hr5 hrow5 hg5 hn5 hrow hpb
     refine hK.out _ _ hs5 (fun hHeld3 => ?_)
     clear hK K hHeld2
     try simp only [PT]
     refine tk 8 ?_ ‹_› ?_ ?_; rotate_left; focus (intro w0 hSw; obtain ⟨e0, e1, e2, e3, e4, e5, e6⟩ := hSw; go_simp; try with_reducible rfl)
     refine tk 9 ?_ ‹_› ?_ ?_; rotate_left; focus (intro w0 hSw; obtain ⟨e0, e1, e2, e3, e4, e5, e6⟩ := hSw; go_simp; try with_reducible rfl)
     try simp only [PT]
     refine wpAnyH_ready (rs := [10]) (by decide +kernel) (by simp) (AllReadyH.cons rfl (fun K hK => ?_) AllReadyH.nil)
     obtain ⟨c4, z4⟩ := HR4.out.gcell HO.out HRR.out (grown_row HG5.out).1 (j := 4) rfl
     go_simp
     have HBG : Hid (PB ≠ g) := fun e => by
      have h1 := HR4.out.og
      rw [← e, HPO.out] at h1
      cases h1
     have HP6 := Lib.hid (HP5.out.other (p := ⟨g, i * 8 + 4, none⟩) HBG.out (.slice nA (o.ps.length + 1) nc))
     have hs6 : (fun w' : World => w'.cell? ⟨PB, 0, none⟩ = some (.string pk) ∧ w'.cell? ⟨PB, 1, none⟩ = some (.int .i64 vk) ∧ w'.cell? ⟨PB, 2, none⟩ = some (.int .i64 vn) ∧ w'.cell? ⟨PB, 3, none⟩ = some (.string vs) ∧ w'.cell? ⟨PB, 4, none⟩ = some (.bool pw) ∧ w'.cell? ⟨PB, 5, none⟩ = some (.bool pe) ∧ w'.cell? ⟨PB, 6, none⟩ = some (.bool pf)) (w5.setCell ⟨g, i * 8 + 4, none⟩ (.slice nA (o.ps.length + 1) nc)) := ⟨HP6.out.cell (k := 0) rfl, HP6.out.cell (k := 1) rfl, HP6.out.cell (k := 2) rfl, HP6.out.cell (k := 3) rfl, HP6.out.cell (k := 4) rfl, HP6.out.cell (k := 5) rfl, HP6.out.cell (k := 6) rfl⟩
     dsimp only at hs6
     obtain ⟨ow6, HR6, -⟩ := HR4.out.row HO.out HRR.out (ps' := o.ps ++ [(⟨pk, ⟨vk, vn, vs⟩, pw, pe, pf⟩ : Pr)]) (by rw [List.length_append, List.map_append, List.flatten_append]; exact HW5.out) (grown_row HG5.out).1 (HN5.out.imp id fun e k e2 => by rw [e] at e2; cases e2; exact Nat.le_refl _) (grown_row HG5.out).2.1 (grown_row HG5.out).2.2
     have HR6 := Lib.hid HR6
     refine hK.out _ _ hs6 (fun hHeld4 => ?_)
     clear hK K hHeld3
     refine wpAnyH_done (by kernel_rfl) ?_ _
     clear hHeld4 hs6 c4 z4
     generalize (w5.setCell ⟨g, i * 8 + 4, none⟩ (.slice nA (o.ps.length + 1) nc)) = w6 at *
     have HE := Lib.hid (HRH.out.symm.trans (add_ok HB0.out hm))
     go_wp2_with fail
     go_ret
     refine ⟨by rw [HE.out]; rfl, ow6, R.set i (.slice nA (o.ps.length + 1) nc), ?_⟩
     rw [HE.out, more_none HX.out]
     exact HR6.out.out
   ·
    have HT := Lib.hid (rtake_none HR1.out.ph hm)
    have HE := Lib.hid (HRH.out.symm.trans (add_full HB0.out hm))
    go_wp2_with fail
    refine HT.out.mono ?_
    rintro e w2 ⟨rfl, hb⟩
    have HR2 := Lib.hid (HR1.out.low hb)
    clear hb HT
    go_wp2_with fail
    go_ret
    exact ⟨by rw [HE.out]; rfl, ow, R, by rw [HE.out]; exact HR2.out.out⟩
  | some x =>
   simp only [idxRes]
   by_cases hcc : o.cls = AR
   ·have HX := Lib.hid ((HIA.out hcc).trans hx)
    have ha := HA.out.trans (decide_eq_true hcc)
    clear hcc HIX HIA HIN hx
    by_cases h1000 : 1000 ≤ x
    ·have HE := Lib.hid (HRH.out.symm.trans (add_bar (bar_range HCL.out HX.out h1000) (by decide)))
     have hi : (1000 : Int) ≤ (x : Int) := by omega
     clear h1000
     go_wp2_with fail
     go_ret
     exact ⟨by rw [HE.out]; rfl, ow, R, by rw [HE.out]; exact HR1.out.out⟩
    ·have hi : ¬ (1000 : Int) ≤ (x : Int) := by omega
     by_cases hlen : o.len ≤ x
     ·have hj : (o.len : Int) ≤ (x : Int) := by omega
      cases hlw : o.lw with
      | false =>
       rw [hlw] at d7
       have HE := Lib.hid (HRH.out.symm.trans (add_bar (bar_lw HCL.out HX.out h1000 hlen hlw) (by decide)))
       clear h1000 hlen hlw
       go_wp2_with fail
       go_ret
       exact ⟨by rw [HE.out]; rfl, ow, R, by rw [HE.out]; exact HR1.out.out⟩
      | true =>
       rw [hlw] at d7
       have HB0 := Lib.hid (bar_free HCL.out HX.out h1000 (fun e => by rw [e.2] at hlw; cases hlw))
       have hx1 : x < 1000 := by omega
       clear h1000 hlen hlw
       rcases Nat.lt_or_ge H.n H.most with hm | hm
       ·
        have HT := Lib.hid (rtake_set HR1.out.ph hm HN.out.2.1)
        go_wp2_with fail
        refine HT.out.mono ?_
        rintro e w2 ⟨rfl, hw2⟩
        have HR2 : Hid (Rg w ow A g cap H.os.length { H with n := H.n + 1 } w2 ow R) := by rw [hw2]; exact ((HR1.out.low (below_draw w1)).took).1
        have HP2 : Hid (Blk w2 PB 31 [.string pk, .int .i64 vk, .int .i64 vn, .string vs, .bool pw, .bool pe, .bool pf]) := by rw [hw2]; exact (HP1.out.fr (w' := w1.drew) rfl).other (p := ⟨A, 2, none⟩) HPB.out _
        have HR3 := Lib.hid (HR2.out.low (below_draw w2))
        have HP3 := Lib.hid (HP2.out.fr (w' := w2.drew) rfl)
        have hs3 : (fun w' : World => w'.cell? ⟨PB, 0, none⟩ = some (.string pk) ∧ w'.cell? ⟨PB, 1, none⟩ = some (.int .i64 vk) ∧ w'.cell? ⟨PB, 2, none⟩ = some (.int .i64 vn) ∧ w'.cell? ⟨PB, 3, none⟩ = some (.string vs) ∧ w'.cell? ⟨PB, 4, none⟩ = some (.bool pw) ∧ w'.cell? ⟨PB, 5, none⟩ = some (.bool pe) ∧ w'.cell? ⟨PB, 6, none⟩ = some (.bool pf)) w2.drew := ⟨HP3.out.cell (k := 0) rfl, HP3.out.cell (k := 1) rfl, HP3.out.cell (k := 2) rfl, HP3.out.cell (k := 3) rfl, HP3.out.cell (k := 4) rfl, HP3.out.cell (k := 5) rfl, HP3.out.cell (k := 6) rfl⟩
        dsimp only at hs3
        clear hw2 HT HR1 HP1 HR2 HP2 c0 d0 d6 d7
        go_wp2_with fail
        refine wp_region_held_drew (S := (fun w' : World => w'.cell? ⟨PB, 0, none⟩ = some (.string pk) ∧ w'.cell? ⟨PB, 1, none⟩ = some (.int .i64 vk) ∧ w'.cell? ⟨PB, 2, none⟩ = some (.int .i64 vn) ∧ w'.cell? ⟨PB, 3, none⟩ = some (.string vs) ∧ w'.cell? ⟨PB, 4, none⟩ = some (.bool pw) ∧ w'.cell? ⟨PB, 5, none⟩ = some (.bool pe) ∧ w'.cell? ⟨PB, 6, none⟩ = some (.bool pf))) (by kernel_rfl) (hs3) (fun hHeld0 => ?_)
        generalize w2.drew = w3 at *
        refine tk 0 ?_ ‹_› ?_ ?_; rotate_left; focus (intro w0 hSw; obtain ⟨e0, e1, e2, e3, e4, e5, e6⟩ := hSw; go_simp; try with_reducible rfl)
        refine tk 1 ?_ ‹_› ?_ ?_; rotate_left; focus (intro w0 hSw; obtain ⟨e0, e1, e2, e3, e4, e5, e6⟩ := hSw; go_simp; try with_reducible rfl)
        refine tk 2 ?_ ‹_› ?_ ?_; rotate_left; focus (intro w0 hSw; obtain ⟨e0, e1, e2, e3, e4, e5, e6⟩ := hSw; go_simp; try with_reducible rfl)
        refine tk 3 ?_ ‹_› ?_ ?_; rotate_left; focus (intro w0 hSw; obtain ⟨e0, e1, e2, e3, e4, e5, e6⟩ := hSw; go_simp; try with_reducible rfl)
        refine tk 5 ?_ ‹_› ?_ ?_; rotate_left; focus (intro w0 hSw; obtain ⟨e0, e1, e2, e3, e4, e5, e6⟩ := hSw; go_simp; try with_reducible rfl)
        try simp only [PT]
        refine wpAnyH_ready (rs := [4, 6]) (by decide +kernel) (by simp) (AllReadyH.cons rfl (fun K hK => ?_) (AllReadyH.cons rfl (fun K hK => ?_) AllReadyH.nil))
        ·
         have c4 := ((HR3.out.pcell HO.out HRR.out).1 4 _ rfl).1
         go_simp
         refine hK.out _ _ hs3 (fun hHeld1 => ?_)
         clear hK K hHeld0 c4
         try simp only [PT]
         refine wpAnyH_ready (rs := [6]) (by decide +kernel) (by simp) (AllReadyH.cons rfl (fun K hK => ?_) AllReadyH.nil)
         go_simp
         have hb := below_new w3 (.cells #[.string pk, .int .i64 vk, .int .i64 vn, .string vs, .bool pw, .bool pe, .bool pf] 31)
         have HR4 := Lib.hid (HR3.out.low hb)
         have HP4 := Lib.hid (HP3.out.low hb)
         have HX4 := Lib.hid (Blk.new w3 31 [.string pk, .int .i64 vk, .int .i64 vn, .string vs, .bool pw, .bool pe, .bool pf])
         obtain ⟨xb, hxb⟩ : ∃ xb, w3.heap.size = xb := ⟨_, rfl⟩
         clear hb
         have hs4 : (fun w' : World => w'.cell? ⟨PB, 0, none⟩ = some (.string pk) ∧ w'.cell? ⟨PB, 1, none⟩ = some (.int .i64 vk) ∧ w'.cell? ⟨PB, 2, none⟩ = some (.int .i64 vn) ∧ w'.cell? ⟨PB, 3, none⟩ = some (.string vs) ∧ w'.cell? ⟨PB, 4, none⟩ = some (.bool pw) ∧ w'.cell? ⟨PB, 5, none⟩ = some (.bool pe) ∧ w'.cell? ⟨PB, 6, none⟩ = some (.bool pf)) (w3.alloc (.cells #[.string pk, .int .i64 vk, .int .i64 vn, .string vs, .bool pw, .bool pe, .bool pf] 31)) := ⟨HP4.out.cell (k := 0) rfl, HP4.out.cell (k := 1) rfl, HP4.out.cell (k := 2) rfl, HP4.out.cell (k := 3) rfl, HP4.out.cell (k := 4) rfl, HP4.out.cell (k := 5) rfl, HP4.out.cell (k := 6) rfl⟩
         dsimp only at hs4
         refine hK.out _ _ hs4 (fun hHeld2 => ?_)
         clear hK K hHeld1
         rw [hxb] at HX4 ⊢
         clear hxb
         generalize (w3.alloc (.cells #[.string pk, .int .i64 vk, .int .i64 vn, .string vs, .bool pw, .bool pe, .bool pf] 31)) = w4 at *
         try simp only [PT]
         refine wpAnyH_ready (rs := [7]) (by decide +kernel) (by simp) (AllReadyH.cons rfl (fun K hK => ?_) AllReadyH.nil)
         have hrow := (HR4.out.pcell HO.out HRR.out).2
         obtain ⟨nv, w5, hr5, hrow5, hg5, hn5⟩ := run_appK (w := w4) 71 31 71 _ 7 56 Tryz.underlying71 infoPr' rfl (by decide) (by decide) 0 _ _ _ hrow xb 0 1 1 [.string pk, .int .i64 vk, .int .i64 vn, .string vs, .bool pw, .bool pe, .bool pf] rfl (fun j u hj => by rw [Nat.zero_add]; exact HX4.out.cell hj) (by intro u hu; simp only [List.mem_cons, List.not_mem_nil, or_false] at hu; rcases hu with rfl | rfl | rfl | rfl | rfl | rfl | rfl <;> rfl) (by obtain ⟨a, b, c⟩ := HN.out; omega) (Nat.zero_le _)
         obtain ⟨rA, rc, rfl, -, -⟩ := rows_form hrow
         obtain ⟨nA, nc, rfl, -, -⟩ := rows_form hrow5
         have hpb : some PB ≠ (Value.slice rA o.ps.length rc).ownBlock := fun e => by
          have h1 := (HR4.out.ph.props HO.out HRR.out).2 PB e.symm
          rw [HPO.out] at h1
          cases h1
         have HP5 := Lib.hid (HP4.out.fr (hg5.block _ HP4.out.lt hpb))
         have HG5 := Lib.hid hg5
         have HW5 := Lib.hid hrow5
         have HN5 := Lib.hid hn5
         have hs5 : (fun w' : World => w'.cell? ⟨PB, 0, none⟩ = some (.string pk) ∧ w'.cell? ⟨PB, 1, none⟩ = some (.int .i64 vk) ∧ w'.cell? ⟨PB, 2, none⟩ = some (.int .i64 vn) ∧ w'.cell? ⟨PB, 3, none⟩ = some (.string vs) ∧ w'.cell? ⟨PB, 4, none⟩ = some (.bool pw) ∧ w'.cell? ⟨PB, 5, none⟩ = some (.bool pe) ∧ w'.cell? ⟨PB, 6, none⟩ = some (.bool pf)) w5 := ⟨HP5.out.cell (k := 0) rfl, HP5.out.cell (k := 1) rfl, HP5.out.cell (k := 2) rfl, HP5.out.cell (k := 3) rfl, HP5.out.cell (k := 4) rfl, HP5.out.cell (k := 5) rfl, HP5.out.cell (k := 6) rfl⟩
         dsimp only at hs5
         refine step_appK rfl (.tmp 62) (.tmp 64) 71 rfl _ _ rfl rfl _ w5 hr5 ?_
         clear hr5 hrow5 hg5 hn5 hrow hpb
         refine hK.out _ _ hs5 (fun hHeld3 => ?_)
         clear hK K hHeld2
         try simp only [PT]
         refine tk 8 ?_ ‹_› ?_ ?_; rotate_left; focus (intro w0 hSw; obtain ⟨e0, e1, e2, e3, e4, e5, e6⟩ := hSw; go_simp; try with_reducible rfl)
         refine tk 9 ?_ ‹_› ?_ ?_; rotate_left; focus (intro w0 hSw; obtain ⟨e0, e1, e2, e3, e4, e5, e6⟩ := hSw; go_simp; try with_reducible rfl)
         try simp only [PT]
         refine wpAnyH_ready (rs := [10]) (by decide +kernel) (by simp) (AllReadyH.cons rfl (fun K hK => ?_) AllReadyH.nil)
         obtain ⟨c4, z4⟩ := HR4.out.gcell HO.out HRR.out (grown_row HG5.out).1 (j := 4) rfl
         go_simp
         have HBG : Hid (PB ≠ g) := fun e => by
          have h1 := HR4.out.og
          rw [← e, HPO.out] at h1
          cases h1
         have HP6 := Lib.hid (HP5.out.other (p := ⟨g, i * 8 + 4, none⟩) HBG.out (.slice nA (o.ps.length + 1) nc))
         have hs6 : (fun w' : World => w'.cell? ⟨PB, 0, none⟩ = some (.string pk) ∧ w'.cell? ⟨PB, 1, none⟩ = some (.int .i64 vk) ∧ w'.cell? ⟨PB, 2, none⟩ = some (.int .i64 vn) ∧ w'.cell? ⟨PB, 3, none⟩ = some (.string vs) ∧ w'.cell? ⟨PB, 4, none⟩ = some (.bool pw) ∧ w'.cell? ⟨PB, 5, none⟩ = some (.bool pe) ∧ w'.cell? ⟨PB, 6, none⟩ = some (.bool pf)) (w5.setCell ⟨g, i * 8 + 4, none⟩ (.slice nA (o.ps.length + 1) nc)) := ⟨HP6.out.cell (k := 0) rfl, HP6.out.cell (k := 1) rfl, HP6.out.cell (k := 2) rfl, HP6.out.cell (k := 3) rfl, HP6.out.cell (k := 4) rfl, HP6.out.cell (k := 5) rfl, HP6.out.cell (k := 6) rfl⟩
         dsimp only at hs6
         obtain ⟨ow6, HR6, -⟩ := HR4.out.row HO.out HRR.out (ps' := o.ps ++ [(⟨pk, ⟨vk, vn, vs⟩, pw, pe, pf⟩ : Pr)]) (by rw [List.length_append, List.map_append, List.flatten_append]; exact HW5.out) (grown_row HG5.out).1 (HN5.out.imp id fun e k e2 => by rw [e] at e2; cases e2; exact Nat.le_refl _) (grown_row HG5.out).2.1 (grown_row HG5.out).2.2
         have HR6 := Lib.hid HR6
         refine hK.out _ _ hs6 (fun hHeld4 => ?_)
         clear hK K hHeld3
         refine wpAnyH_done (by kernel_rfl) ?_ _
         clear hHeld4 hs6 c4 z4
         generalize (w5.setCell ⟨g, i * 8 + 4, none⟩ (.slice nA (o.ps.length + 1) nc)) = w6 at *
         have HO6 := Lib.hid (set_getO (b := { o with ps := o.ps ++ [(⟨pk, ⟨vk, vn, vs⟩, pw, pe, pf⟩ : Pr)] }) HO.out)
         obtain ⟨r6, hr6, hc6⟩ := HR6.out.cell HO6.out
         have d6 := (hc6 6 _ rfl).1
         have z6 := (hc6 6 _ rfl).2
         dsimp only at d6
         have HE := Lib.hid (HRH.out.symm.trans (add_ok HB0.out hm))
         have hwx : IntKind.i64.wrap ((x : Int) + 1) = (x : Int) + 1 := IntWalk.i64_in _ (by omega)
         obtain ⟨HR7, -⟩ := HR6.out.put (j := 6) (o' := { o with ps := o.ps ++ [(⟨pk, ⟨vk, vn, vs⟩, pw, pe, pf⟩ : Pr)], len := max o.len (x + 1) }) (u := .int .i64 ((max o.len (x + 1) : Nat) : Int)) HO6.out hr6 (by decide) rfl rfl
         have HR7 := Lib.hid HR7
         have HMX : Hid (((max o.len (x + 1) : Nat) : Int) = max (o.len : Int) ((x : Int) + 1)) := by show _ = _; omega
         rw [HMX.out] at HR7
         clear hc6
         go_wp2_with fail
         go_ret
         refine ⟨by rw [HE.out]; rfl, ow6, R.set i (.slice nA (o.ps.length + 1) nc), ?_⟩
         rw [HE.out, more_some HX.out]
         have := HR7.out.out
         unfold Hs.set at this ⊢
         rw [List.set_set] at this
         exact this
        ·
         go_simp
         have hb := below_new w3 (.cells #[.string pk, .int .i64 vk, .int .i64 vn, .string vs, .bool pw, .bool pe, .bool pf] 31)
         have HR4 := Lib.hid (HR3.out.low hb)
         have HP4 := Lib.hid (HP3.out.low hb)
         have HX4 := Lib.hid (Blk.new w3 31 [.string pk, .int .i64 vk, .int .i64 vn, .string vs, .bool pw, .bool pe, .bool pf])
         obtain ⟨xb, hxb⟩ : ∃ xb, w3.heap.size = xb := ⟨_, rfl⟩
         clear hb
         have hs4 : (fun w' : World => w'.cell? ⟨PB, 0, none⟩ = some (.string pk) ∧ w'.cell? ⟨PB, 1, none⟩ = some (.int .i64 vk) ∧ w'.cell? ⟨PB, 2, none⟩ = some (.int .i64 vn) ∧ w'.cell? ⟨PB, 3, none⟩ = some (.string vs) ∧ w'.cell? ⟨PB, 4, none⟩ = some (.bool pw) ∧ w'.cell? ⟨PB, 5, none⟩ = some (.bool pe) ∧ w'.cell? ⟨PB, 6, none⟩ = some (.bool pf)) (w3.alloc (.cells #[.string pk, .int .i64 vk, .int .i64 vn, .string vs, .bool pw, .bool pe, .bool pf] 31)) := ⟨HP4.out.cell (k := 0) rfl, HP4.out.cell (k := 1) rfl, HP4.out.cell (k := 2) rfl, HP4.out.cell (k := 3) rfl, HP4.out.cell (k := 4) rfl, HP4.out.cell (k := 5) rfl, HP4.out.cell (k := 6) rfl⟩
         dsimp only at hs4
         refine hK.out _ _ hs4 (fun hHeld1 => ?_)
         clear hK K hHeld0
         rw [hxb] at HX4 ⊢
         clear hxb
         generalize (w3.alloc (.cells #[.string pk, .int .i64 vk, .int .i64 vn, .string vs, .bool pw, .bool pe, .bool pf] 31)) = w4 at *
         try simp only [PT]
         refine wpAnyH_ready (rs := [4]) (by decide +kernel) (by simp) (AllReadyH.cons rfl (fun K hK => ?_) AllReadyH.nil)
         have c4 := ((HR4.out.pcell HO.out HRR.out).1 4 _ rfl).1
         go_simp
         refine hK.out _ _ hs4 (fun hHeld2 => ?_)
         clear hK K hHeld1 c4
         try simp only [PT]
         refine wpAnyH_ready (rs := [7]) (by decide +kernel) (by simp) (AllReadyH.cons rfl (fun K hK => ?_) AllReadyH.nil)
         have hrow := (HR4.out.pcell HO.out HRR.out).2
         obtain ⟨nv, w5, hr5, hrow5, hg5, hn5⟩ := run_appK (w := w4) 71 31 71 _ 7 56 Tryz.underlying71 infoPr' rfl (by decide) (by decide) 0 _ _ _ hrow xb 0 1 1 [.string pk, .int .i64 vk, .int .i64 vn, .string vs, .bool pw, .bool pe, .bool pf] rfl (fun j u hj => by rw [Nat.zero_add]; exact HX4.out.cell hj) (by intro u hu; simp only [List.mem_cons, List.not_mem_nil, or_false] at hu; rcases hu with rfl | rfl | rfl | rfl | rfl | rfl | rfl <;> rfl) (by obtain ⟨a, b, c⟩ := HN.out; omega) (Nat.zero_le _)
         obtain ⟨rA, rc, rfl, -, -⟩ := rows_form hrow
         obtain ⟨nA, nc, rfl, -, -⟩ := rows_form hrow5
         have hpb : some PB ≠ (Value.slice rA o.ps.length rc).ownBlock := fun e => by
          have h1 := (HR4.out.ph.props HO.out HRR.out).2 PB e.symm
          rw [HPO.out] at h1
          cases h1
         have HP5 := Lib.hid (HP4.out.fr (hg5.block _ HP4.out.lt hpb))
         have HG5 := Lib.hid hg5
         have HW5 := Lib.hid hrow5
         have HN5 := Lib.hid hn5
         have hs5 : (fun w' : World => w'.cell? ⟨PB, 0, none⟩ = some (.string pk) ∧ w'.cell? ⟨PB, 1, none⟩ = some (.int .i64 vk) ∧ w'.cell? ⟨PB, 2, none⟩ = some (.int .i64 vn) ∧ w'.cell? ⟨PB, 3, none⟩ = some (.string vs) ∧ w'.cell? ⟨PB, 4, none⟩ = some (.bool pw) ∧ w'.cell? ⟨PB, 5, none⟩ = some (.bool pe) ∧ w'.cell? ⟨PB, 6, none⟩ = some (.bool pf)) w5 := ⟨HP5.out.cell (k := 0) rfl, HP5.out.cell (k := 1) rfl, HP5.out.cell (k := 2) rfl, HP5.out.cell (k := 3) rfl, HP5.out.cell (k := 4) rfl, HP5.out.cell (k := 5) rfl, HP5.out.cell (k := 6) rfl⟩
         dsimp only at hs5
         refine step_appK rfl (.tmp 62) (.tmp 64) 71 rfl _ _ rfl rfl _ w5 hr5 ?_
         clear hr5 hrow5 hg5 hn5 hrow hpb
         refine hK.out _ _ hs5 (fun hHeld3 => ?_)
         clear hK K hHeld2
         try simp only [PT]
         refine tk 8 ?_ ‹_› ?_ ?_; rotate_left; focus (intro w0 hSw; obtain ⟨e0, e1, e2, e3, e4, e5, e6⟩ := hSw; go_simp; try with_reducible rfl)
         refine tk 9 ?_ ‹_› ?_ ?_; rotate_left; focus (intro w0 hSw; obtain ⟨e0, e1, e2, e3, e4, e5, e6⟩ := hSw; go_simp; try with_reducible rfl)
         try simp only [PT]
         refine wpAnyH_ready (rs := [10]) (by decide +kernel) (by simp) (AllReadyH.cons rfl (fun K hK => ?_) AllReadyH.nil)
         obtain ⟨c4, z4⟩ := HR4.out.gcell HO.out HRR.out (grown_row HG5.out).1 (j := 4) rfl
         go_simp
         have HBG : Hid (PB ≠ g) := fun e => by
          have h1 := HR4.out.og
          rw [← e, HPO.out] at h1
          cases h1
         have HP6 := Lib.hid (HP5.out.other (p := ⟨g, i * 8 + 4, none⟩) HBG.out (.slice nA (o.ps.length + 1) nc))
         have hs6 : (fun w' : World => w'.cell? ⟨PB, 0, none⟩ = some (.string pk) ∧ w'.cell? ⟨PB, 1, none⟩ = some (.int .i64 vk) ∧ w'.cell? ⟨PB, 2, none⟩ = some (.int .i64 vn) ∧ w'.cell? ⟨PB, 3, none⟩ = some (.string vs) ∧ w'.cell? ⟨PB, 4, none⟩ = some (.bool pw) ∧ w'.cell? ⟨PB, 5, none⟩ = some (.bool pe) ∧ w'.cell? ⟨PB, 6, none⟩ = some (.bool pf)) (w5.setCell ⟨g, i * 8 + 4, none⟩ (.slice nA (o.ps.length + 1) nc)) := ⟨HP6.out.cell (k := 0) rfl, HP6.out.cell (k := 1) rfl, HP6.out.cell (k := 2) rfl, HP6.out.cell (k := 3) rfl, HP6.out.cell (k := 4) rfl, HP6.out.cell (k := 5) rfl, HP6.out.cell (k := 6) rfl⟩
         dsimp only at hs6
         obtain ⟨ow6, HR6, -⟩ := HR4.out.row HO.out HRR.out (ps' := o.ps ++ [(⟨pk, ⟨vk, vn, vs⟩, pw, pe, pf⟩ : Pr)]) (by rw [List.length_append, List.map_append, List.flatten_append]; exact HW5.out) (grown_row HG5.out).1 (HN5.out.imp id fun e k e2 => by rw [e] at e2; cases e2; exact Nat.le_refl _) (grown_row HG5.out).2.1 (grown_row HG5.out).2.2
         have HR6 := Lib.hid HR6
         refine hK.out _ _ hs6 (fun hHeld4 => ?_)
         clear hK K hHeld3
         refine wpAnyH_done (by kernel_rfl) ?_ _
         clear hHeld4 hs6 c4 z4
         generalize (w5.setCell ⟨g, i * 8 + 4, none⟩ (.slice nA (o.ps.length + 1) nc)) = w6 at *
         have HO6 := Lib.hid (set_getO (b := { o with ps := o.ps ++ [(⟨pk, ⟨vk, vn, vs⟩, pw, pe, pf⟩ : Pr)] }) HO.out)
         obtain ⟨r6, hr6, hc6⟩ := HR6.out.cell HO6.out
         have d6 := (hc6 6 _ rfl).1
         have z6 := (hc6 6 _ rfl).2
         dsimp only at d6
         have HE := Lib.hid (HRH.out.symm.trans (add_ok HB0.out hm))
         have hwx : IntKind.i64.wrap ((x : Int) + 1) = (x : Int) + 1 := IntWalk.i64_in _ (by omega)
         obtain ⟨HR7, -⟩ := HR6.out.put (j := 6) (o' := { o with ps := o.ps ++ [(⟨pk, ⟨vk, vn, vs⟩, pw, pe, pf⟩ : Pr)], len := max o.len (x + 1) }) (u := .int .i64 ((max o.len (x + 1) : Nat) : Int)) HO6.out hr6 (by decide) rfl rfl
         have HR7 := Lib.hid HR7
         have HMX : Hid (((max o.len (x + 1) : Nat) : Int) = max (o.len : Int) ((x : Int) + 1)) := by show _ = _; omega
         rw [HMX.out] at HR7
         clear hc6
         go_wp2_with fail
         go_ret
         refine ⟨by rw [HE.out]; rfl, ow6, R.set i (.slice nA (o.ps.length + 1) nc), ?_⟩
         rw [HE.out, more_some HX.out]
         have := HR7.out.out
         unfold Hs.set at this ⊢
         rw [List.set_set] at this
         exact this
       ·
        have HT := Lib.hid (rtake_none HR1.out.ph hm)
        have HE := Lib.hid (HRH.out.symm.trans (add_full HB0.out hm))
        go_wp2_with fail
        refine HT.out.mono ?_
        rintro e w2 ⟨rfl, hb⟩
        have HR2 := Lib.hid (HR1.out.low hb)
        clear hb HT
        go_wp2_with fail
        go_ret
        exact ⟨by rw [HE.out]; rfl, ow, R, by rw [HE.out]; exact HR2.out.out⟩
     ·have hj : ¬ (o.len : Int) ≤ (x : Int) := by omega
      have HB0 := Lib.hid (bar_free HCL.out HX.out h1000 (fun e => hlen e.1))
      have hx1 : x < 1000 := by omega
      clear h1000 hlen
      rcases Nat.lt_or_ge H.n H.most with hm | hm
      ·
       have HT := Lib.hid (rtake_set HR1.out.ph hm HN.out.2.1)
       go_wp2_with fail
       refine HT.out.mono ?_
       rintro e w2 ⟨rfl, hw2⟩
       have HR2 : Hid (Rg w ow A g cap H.os.length { H with n := H.n + 1 } w2 ow R) := by rw [hw2]; exact ((HR1.out.low (below_draw w1)).took).1
       have HP2 : Hid (Blk w2 PB 31 [.string pk, .int .i64 vk, .int .i64 vn, .string vs, .bool pw, .bool pe, .bool pf]) := by rw [hw2]; exact (HP1.out.fr (w' := w1.drew) rfl).other (p := ⟨A, 2, none⟩) HPB.out _
       have HR3 := Lib.hid (HR2.out.low (below_draw w2))
       have HP3 := Lib.hid (HP2.out.fr (w' := w2.drew) rfl)
       have hs3 : (fun w' : World => w'.cell? ⟨PB, 0, none⟩ = some (.string pk) ∧ w'.cell? ⟨PB, 1, none⟩ = some (.int .i64 vk) ∧ w'.cell? ⟨PB, 2, none⟩ = some (.int .i64 vn) ∧ w'.cell? ⟨PB, 3, none⟩ = some (.string vs) ∧ w'.cell? ⟨PB, 4, none⟩ = some (.bool pw) ∧ w'.cell? ⟨PB, 5, none⟩ = some (.bool pe) ∧ w'.cell? ⟨PB, 6, none⟩ = some (.bool pf)) w2.drew := ⟨HP3.out.cell (k := 0) rfl, HP3.out.cell (k := 1) rfl, HP3.out.cell (k := 2) rfl, HP3.out.cell (k := 3) rfl, HP3.out.cell (k := 4) rfl, HP3.out.cell (k := 5) rfl, HP3.out.cell (k := 6) rfl⟩
       dsimp only at hs3
       clear hw2 HT HR1 HP1 HR2 HP2 c0 d0 d6 d7
       go_wp2_with fail
       refine wp_region_held_drew (S := (fun w' : World => w'.cell? ⟨PB, 0, none⟩ = some (.string pk) ∧ w'.cell? ⟨PB, 1, none⟩ = some (.int .i64 vk) ∧ w'.cell? ⟨PB, 2, none⟩ = some (.int .i64 vn) ∧ w'.cell? ⟨PB, 3, none⟩ = some (.string vs) ∧ w'.cell? ⟨PB, 4, none⟩ = some (.bool pw) ∧ w'.cell? ⟨PB, 5, none⟩ = some (.bool pe) ∧ w'.cell? ⟨PB, 6, none⟩ = some (.bool pf))) (by kernel_rfl) (hs3) (fun hHeld0 => ?_)
       generalize w2.drew = w3 at *
       refine tk 0 ?_ ‹_› ?_ ?_; rotate_left; focus (intro w0 hSw; obtain ⟨e0, e1, e2, e3, e4, e5, e6⟩ := hSw; go_simp; try with_reducible rfl)
       refine tk 1 ?_ ‹_› ?_ ?_; rotate_left; focus (intro w0 hSw; obtain ⟨e0, e1, e2, e3, e4, e5, e6⟩ := hSw; go_simp; try with_reducible rfl)
       refine tk 2 ?_ ‹_› ?_ ?_; rotate_left; focus (intro w0 hSw; obtain ⟨e0, e1, e2, e3, e4, e5, e6⟩ := hSw; go_simp; try with_reducible rfl)
       refine tk 3 ?_ ‹_› ?_ ?_; rotate_left; focus (intro w0 hSw; obtain ⟨e0, e1, e2, e3, e4, e5, e6⟩ := hSw; go_simp; try with_reducible rfl)
       refine tk 5 ?_ ‹_› ?_ ?_; rotate_left; focus (intro w0 hSw; obtain ⟨e0, e1, e2, e3, e4, e5, e6⟩ := hSw; go_simp; try with_reducible rfl)
       try simp only [PT]
       refine wpAnyH_ready (rs := [4, 6]) (by decide +kernel) (by simp) (AllReadyH.cons rfl (fun K hK => ?_) (AllReadyH.cons rfl (fun K hK => ?_) AllReadyH.nil))
       ·
        have c4 := ((HR3.out.pcell HO.out HRR.out).1 4 _ rfl).1
        go_simp
        refine hK.out _ _ hs3 (fun hHeld1 => ?_)
        clear hK K hHeld0 c4
        try simp only [PT]
        refine wpAnyH_ready (rs := [6]) (by decide +kernel) (by simp) (AllReadyH.cons rfl (fun K hK => ?_) AllReadyH.nil)
        go_simp
        have hb := below_new w3 (.cells #[.string pk, .int .i64 vk, .int .i64 vn, .string vs, .bool pw, .bool pe, .bool pf] 31)
        have HR4 := Lib.hid (HR3.out.low hb)
        have HP4 := Lib.hid (HP3.out.low hb)
        have HX4 := Lib.hid (Blk.new w3 31 [.string pk, .int .i64 vk, .int .i64 vn, .string vs, .bool pw, .bool pe, .bool pf])
        obtain ⟨xb, hxb⟩ : ∃ xb, w3.heap.size = xb := ⟨_, rfl⟩
        clear hb
        have hs4 : (fun w' : World => w'.cell? ⟨PB, 0, none⟩ = some (.string pk) ∧ w'.cell? ⟨PB, 1, none⟩ = some (.int .i64 vk) ∧ w'.cell? ⟨PB, 2, none⟩ = some (.int .i64 vn) ∧ w'.cell? ⟨PB, 3, none⟩ = some (.string vs) ∧ w'.cell? ⟨PB, 4, none⟩ = some (.bool pw) ∧ w'.cell? ⟨PB, 5, none⟩ = some (.bool pe) ∧ w'.cell? ⟨PB, 6, none⟩ = some (.bool pf)) (w3.alloc (.cells #[.string pk, .int .i64 vk, .int .i64 vn, .string vs, .bool pw, .bool pe, .bool pf] 31)) := ⟨HP4.out.cell (k := 0) rfl, HP4.out.cell (k := 1) rfl, HP4.out.cell (k := 2) rfl, HP4.out.cell (k := 3) rfl, HP4.out.cell (k := 4) rfl, HP4.out.cell (k := 5) rfl, HP4.out.cell (k := 6) rfl⟩
        dsimp only at hs4
        refine hK.out _ _ hs4 (fun hHeld2 => ?_)
        clear hK K hHeld1
        rw [hxb] at HX4 ⊢
        clear hxb
        generalize (w3.alloc (.cells #[.string pk, .int .i64 vk, .int .i64 vn, .string vs, .bool pw, .bool pe, .bool pf] 31)) = w4 at *
        try simp only [PT]
        refine wpAnyH_ready (rs := [7]) (by decide +kernel) (by simp) (AllReadyH.cons rfl (fun K hK => ?_) AllReadyH.nil)
        have hrow := (HR4.out.pcell HO.out HRR.out).2
        obtain ⟨nv, w5, hr5, hrow5, hg5, hn5⟩ := run_appK (w := w4) 71 31 71 _ 7 56 Tryz.underlying71 infoPr' rfl (by decide) (by decide) 0 _ _ _ hrow xb 0 1 1 [.string pk, .int .i64 vk, .int .i64 vn, .string vs, .bool pw, .bool pe, .bool pf] rfl (fun j u hj => by rw [Nat.zero_add]; exact HX4.out.cell hj) (by intro u hu; simp only [List.mem_cons, List.not_mem_nil, or_false] at hu; rcases hu with rfl | rfl | rfl | rfl | rfl | rfl | rfl <;> rfl) (by obtain ⟨a, b, c⟩ := HN.out; omega) (Nat.zero_le _)
        obtain ⟨rA, rc, rfl, -, -⟩ := rows_form hrow
        obtain ⟨nA, nc, rfl, -, -⟩ := rows_form hrow5
        have hpb : some PB ≠ (Value.slice rA o.ps.length rc).ownBlock := fun e => by
         have h1 := (HR4.out.ph.props HO.out HRR.out).2 PB e.symm
         rw [HPO.out] at h1
         cases h1
        have HP5 := Lib.hid (HP4.out.fr (hg5.block _ HP4.out.lt hpb))
        have HG5 := Lib.hid hg5
        have HW5 := Lib.hid hrow5
        have HN5 := Lib.hid hn5
        have hs5 : (fun w' : World => w'.cell? ⟨PB, 0, none⟩ = some (.string pk) ∧ w'.cell? ⟨PB, 1, none⟩ = some (.int .i64 vk) ∧ w'.cell? ⟨PB, 2, none⟩ = some (.int .i64 vn) ∧ w'.cell? ⟨PB, 3, none⟩ = some (.string vs) ∧ w'.cell? ⟨PB, 4, none⟩ = some (.bool pw) ∧ w'.cell? ⟨PB, 5, none⟩ = some (.bool pe) ∧ w'.cell? ⟨PB, 6, none⟩ = some (.bool pf)) w5 := ⟨HP5.out.cell (k := 0) rfl, HP5.out.cell (k := 1) rfl, HP5.out.cell (k := 2) rfl, HP5.out.cell (k := 3) rfl, HP5.out.cell (k := 4) rfl, HP5.out.cell (k := 5) rfl, HP5.out.cell (k := 6) rfl⟩
        dsimp only at hs5
        refine step_appK rfl (.tmp 62) (.tmp 64) 71 rfl _ _ rfl rfl _ w5 hr5 ?_
        clear hr5 hrow5 hg5 hn5 hrow hpb
        refine hK.out _ _ hs5 (fun hHeld3 => ?_)
        clear hK K hHeld2
        try simp only [PT]
        refine tk 8 ?_ ‹_› ?_ ?_; rotate_left; focus (intro w0 hSw; obtain ⟨e0, e1, e2, e3, e4, e5, e6⟩ := hSw; go_simp; try with_reducible rfl)
        refine tk 9 ?_ ‹_› ?_ ?_; rotate_left; focus (intro w0 hSw; obtain ⟨e0, e1, e2, e3, e4, e5, e6⟩ := hSw; go_simp; try with_reducible rfl)
        try simp only [PT]
        refine wpAnyH_ready (rs := [10]) (by decide +kernel) (by simp) (AllReadyH.cons rfl (fun K hK => ?_) AllReadyH.nil)
        obtain ⟨c4, z4⟩ := HR4.out.gcell HO.out HRR.out (grown_row HG5.out).1 (j := 4) rfl
        go_simp
        have HBG : Hid (PB ≠ g) := fun e => by
         have h1 := HR4.out.og
         rw [← e, HPO.out] at h1
         cases h1
        have HP6 := Lib.hid (HP5.out.other (p := ⟨g, i * 8 + 4, none⟩) HBG.out (.slice nA (o.ps.length + 1) nc))
        have hs6 : (fun w' : World => w'.cell? ⟨PB, 0, none⟩ = some (.string pk) ∧ w'.cell? ⟨PB, 1, none⟩ = some (.int .i64 vk) ∧ w'.cell? ⟨PB, 2, none⟩ = some (.int .i64 vn) ∧ w'.cell? ⟨PB, 3, none⟩ = some (.string vs) ∧ w'.cell? ⟨PB, 4, none⟩ = some (.bool pw) ∧ w'.cell? ⟨PB, 5, none⟩ = some (.bool pe) ∧ w'.cell? ⟨PB, 6, none⟩ = some (.bool pf)) (w5.setCell ⟨g, i * 8 + 4, none⟩ (.slice nA (o.ps.length + 1) nc)) := ⟨HP6.out.cell (k := 0) rfl, HP6.out.cell (k := 1) rfl, HP6.out.cell (k := 2) rfl, HP6.out.cell (k := 3) rfl, HP6.out.cell (k := 4) rfl, HP6.out.cell (k := 5) rfl, HP6.out.cell (k := 6) rfl⟩
        dsimp only at hs6
        obtain ⟨ow6, HR6, -⟩ := HR4.out.row HO.out HRR.out (ps' := o.ps ++ [(⟨pk, ⟨vk, vn, vs⟩, pw, pe, pf⟩ : Pr)]) (by rw [List.length_append, List.map_append, List.flatten_append]; exact HW5.out) (grown_row HG5.out).1 (HN5.out.imp id fun e k e2 => by rw [e] at e2; cases e2; exact Nat.le_refl _) (grown_row HG5.out).2.1 (grown_row HG5.out).2.2
        have HR6 := Lib.hid HR6
        refine hK.out _ _ hs6 (fun hHeld4 => ?_)
        clear hK K hHeld3
        refine wpAnyH_done (by kernel_rfl) ?_ _
        clear hHeld4 hs6 c4 z4
        generalize (w5.setCell ⟨g, i * 8 + 4, none⟩ (.slice nA (o.ps.length + 1) nc)) = w6 at *
        have HO6 := Lib.hid (set_getO (b := { o with ps := o.ps ++ [(⟨pk, ⟨vk, vn, vs⟩, pw, pe, pf⟩ : Pr)] }) HO.out)
        obtain ⟨r6, hr6, hc6⟩ := HR6.out.cell HO6.out
        have d6 := (hc6 6 _ rfl).1
        have z6 := (hc6 6 _ rfl).2
        dsimp only at d6
        have HE := Lib.hid (HRH.out.symm.trans (add_ok HB0.out hm))
        have hwx : IntKind.i64.wrap ((x : Int) + 1) = (x : Int) + 1 := IntWalk.i64_in _ (by omega)
        obtain ⟨HR7, -⟩ := HR6.out.put (j := 6) (o' := { o with ps := o.ps ++ [(⟨pk, ⟨vk, vn, vs⟩, pw, pe, pf⟩ : Pr)], len := max o.len (x + 1) }) (u := .int .i64 ((max o.len (x + 1) : Nat) : Int)) HO6.out hr6 (by decide) rfl rfl
        have HR7 := Lib.hid HR7
        have HMX : Hid (((max o.len (x + 1) : Nat) : Int) = max (o.len : Int) ((x : Int) + 1)) := by show _ = _; omega
        rw [HMX.out] at HR7
        clear hc6
        go_wp2_with fail
        go_ret
        refine ⟨by rw [HE.out]; rfl, ow6, R.set i (.slice nA (o.ps.length + 1) nc), ?_⟩
        rw [HE.out, more_some HX.out]
        have := HR7.out.out
        unfold Hs.set at this ⊢
        rw [List.set_set] at this
        exact this
       ·
        go_simp
        have hb := below_new w3 (.cells #[.string pk, .int .i64 vk, .int .i64 vn, .string vs, .bool pw, .bool pe, .bool pf] 31)
        have HR4 := Lib.hid (HR3.out.low hb)
        have HP4 := Lib.hid (HP3.out.low hb)
        have HX4 := Lib.hid (Blk.new w3 31 [.string pk, .int .i64 vk, .int .i64 vn, .string vs, .bool pw, .bool pe, .bool pf])
        obtain ⟨xb, hxb⟩ : ∃ xb, w3.heap.size = xb := ⟨_, rfl⟩
        clear hb
        have hs4 : (fun w' : World => w'.cell? ⟨PB, 0, none⟩ = some (.string pk) ∧ w'.cell? ⟨PB, 1, none⟩ = some (.int .i64 vk) ∧ w'.cell? ⟨PB, 2, none⟩ = some (.int .i64 vn) ∧ w'.cell? ⟨PB, 3, none⟩ = some (.string vs) ∧ w'.cell? ⟨PB, 4, none⟩ = some (.bool pw) ∧ w'.cell? ⟨PB, 5, none⟩ = some (.bool pe) ∧ w'.cell? ⟨PB, 6, none⟩ = some (.bool pf)) (w3.alloc (.cells #[.string pk, .int .i64 vk, .int .i64 vn, .string vs, .bool pw, .bool pe, .bool pf] 31)) := ⟨HP4.out.cell (k := 0) rfl, HP4.out.cell (k := 1) rfl, HP4.out.cell (k := 2) rfl, HP4.out.cell (k := 3) rfl, HP4.out.cell (k := 4) rfl, HP4.out.cell (k := 5) rfl, HP4.out.cell (k := 6) rfl⟩
        dsimp only at hs4
        refine hK.out _ _ hs4 (fun hHeld1 => ?_)
        clear hK K hHeld0
        rw [hxb] at HX4 ⊢
        clear hxb
        generalize (w3.alloc (.cells #[.string pk, .int .i64 vk, .int .i64 vn, .string vs, .bool pw, .bool pe, .bool pf] 31)) = w4 at *
        try simp only [PT]
        refine wpAnyH_ready (rs := [4]) (by decide +kernel) (by simp) (AllReadyH.cons rfl (fun K hK => ?_) AllReadyH.nil)
        have c4 := ((HR4.out.pcell HO.out HRR.out).1 4 _ rfl).1
        go_simp
        refine hK.out _ _ hs4 (fun hHeld2 => ?_)
        clear hK K hHeld1 c4
        try simp only [PT]
        refine wpAnyH_ready (rs := [7]) (by decide +kernel) (by simp) (AllReadyH.cons rfl (fun K hK => ?_) AllReadyH.nil)
        have hrow := (HR4.out.pcell HO.out HRR.out).2
        obtain ⟨nv, w5, hr5, hrow5, hg5, hn5⟩ := run_appK (w := w4) 71 31 71 _ 7 56 Tryz.underlying71 infoPr' rfl (by decide) (by decide) 0 _ _ _ hrow xb 0 1 1 [.string pk, .int .i64 vk, .int .i64 vn, .string vs, .bool pw, .bool pe, .bool pf] rfl (fun j u hj => by rw [Nat.zero_add]; exact HX4.out.cell hj) (by intro u hu; simp only [List.mem_cons, List.not_mem_nil, or_false] at hu; rcases hu with rfl | rfl | rfl | rfl | rfl | rfl | rfl <;> rfl) (by obtain ⟨a, b, c⟩ := HN.out; omega) (Nat.zero_le _)
        obtain ⟨rA, rc, rfl, -, -⟩ := rows_form hrow
        obtain ⟨nA, nc, rfl, -, -⟩ := rows_form hrow5
        have hpb : some PB ≠ (Value.slice rA o.ps.length rc).ownBlock := fun e => by
         have h1 := (HR4.out.ph.props HO.out HRR.out).2 PB e.symm
         rw [HPO.out] at h1
         cases h1
        have HP5 := Lib.hid (HP4.out.fr (hg5.block _ HP4.out.lt hpb))
        have HG5 := Lib.hid hg5
        have HW5 := Lib.hid hrow5
        have HN5 := Lib.hid hn5
        have hs5 : (fun w' : World => w'.cell? ⟨PB, 0, none⟩ = some (.string pk) ∧ w'.cell? ⟨PB, 1, none⟩ = some (.int .i64 vk) ∧ w'.cell? ⟨PB, 2, none⟩ = some (.int .i64 vn) ∧ w'.cell? ⟨PB, 3, none⟩ = some (.string vs) ∧ w'.cell? ⟨PB, 4, none⟩ = some (.bool pw) ∧ w'.cell? ⟨PB, 5, none⟩ = some (.bool pe) ∧ w'.cell? ⟨PB, 6, none⟩ = some (.bool pf)) w5 := ⟨HP5.out.cell (k := 0) rfl, HP5.out.cell (k := 1) rfl, HP5.out.cell (k := 2) rfl, HP5.out.cell (k := 3) rfl, HP5.out.cell (k := 4) rfl, HP5.out.cell (k := 5) rfl, HP5.out.cell (k := 6) rfl⟩
        dsimp only at hs5
        refine step_appK rfl (.tmp 62) (.tmp 64) 71 rfl _ _ rfl rfl _ w5 hr5 ?_
        clear hr5 hrow5 hg5 hn5 hrow hpb
        refine hK.out _ _ hs5 (fun hHeld3 => ?_)
        clear hK K hHeld2
        try simp only [PT]
        refine tk 8 ?_ ‹_› ?_ ?_; rotate_left; focus (intro w0 hSw; obtain ⟨e0, e1, e2, e3, e4, e5, e6⟩ := hSw; go_simp; try with_reducible rfl)
        refine tk 9 ?_ ‹_› ?_ ?_; rotate_left; focus (intro w0 hSw; obtain ⟨e0, e1, e2, e3, e4, e5, e6⟩ := hSw; go_simp; try with_reducible rfl)
        try simp only [PT]
        refine wpAnyH_ready (rs := [10]) (by decide +kernel) (by simp) (AllReadyH.cons rfl (fun K hK => ?_) AllReadyH.nil)
        obtain ⟨c4, z4⟩ := HR4.out.gcell HO.out HRR.out (grown_row HG5.out).1 (j := 4) rfl
        go_simp
        have HBG : Hid (PB ≠ g) := fun e => by
         have h1 := HR4.out.og
         rw [← e, HPO.out] at h1
         cases h1
        have HP6 := Lib.hid (HP5.out.other (p := ⟨g, i * 8 + 4, none⟩) HBG.out (.slice nA (o.ps.length + 1) nc))
        have hs6 : (fun w' : World => w'.cell? ⟨PB, 0, none⟩ = some (.string pk) ∧ w'.cell? ⟨PB, 1, none⟩ = some (.int .i64 vk) ∧ w'.cell? ⟨PB, 2, none⟩ = some (.int .i64 vn) ∧ w'.cell? ⟨PB, 3, none⟩ = some (.string vs) ∧ w'.cell? ⟨PB, 4, none⟩ = some (.bool pw) ∧ w'.cell? ⟨PB, 5, none⟩ = some (.bool pe) ∧ w'.cell? ⟨PB, 6, none⟩ = some (.bool pf)) (w5.setCell ⟨g, i * 8 + 4, none⟩ (.slice nA (o.ps.length + 1) nc)) := ⟨HP6.out.cell (k := 0) rfl, HP6.out.cell (k := 1) rfl, HP6.out.cell (k := 2) rfl, HP6.out.cell (k := 3) rfl, HP6.out.cell (k := 4) rfl, HP6.out.cell (k := 5) rfl, HP6.out.cell (k := 6) rfl⟩
        dsimp only at hs6
        obtain ⟨ow6, HR6, -⟩ := HR4.out.row HO.out HRR.out (ps' := o.ps ++ [(⟨pk, ⟨vk, vn, vs⟩, pw, pe, pf⟩ : Pr)]) (by rw [List.length_append, List.map_append, List.flatten_append]; exact HW5.out) (grown_row HG5.out).1 (HN5.out.imp id fun e k e2 => by rw [e] at e2; cases e2; exact Nat.le_refl _) (grown_row HG5.out).2.1 (grown_row HG5.out).2.2
        have HR6 := Lib.hid HR6
        refine hK.out _ _ hs6 (fun hHeld4 => ?_)
        clear hK K hHeld3
        refine wpAnyH_done (by kernel_rfl) ?_ _
        clear hHeld4 hs6 c4 z4
        generalize (w5.setCell ⟨g, i * 8 + 4, none⟩ (.slice nA (o.ps.length + 1) nc)) = w6 at *
        have HO6 := Lib.hid (set_getO (b := { o with ps := o.ps ++ [(⟨pk, ⟨vk, vn, vs⟩, pw, pe, pf⟩ : Pr)] }) HO.out)
        obtain ⟨r6, hr6, hc6⟩ := HR6.out.cell HO6.out
        have d6 := (hc6 6 _ rfl).1
        have z6 := (hc6 6 _ rfl).2
        dsimp only at d6
        have HE := Lib.hid (HRH.out.symm.trans (add_ok HB0.out hm))
        have hwx : IntKind.i64.wrap ((x : Int) + 1) = (x : Int) + 1 := IntWalk.i64_in _ (by omega)
        obtain ⟨HR7, -⟩ := HR6.out.put (j := 6) (o' := { o with ps := o.ps ++ [(⟨pk, ⟨vk, vn, vs⟩, pw, pe, pf⟩ : Pr)], len := max o.len (x + 1) }) (u := .int .i64 ((max o.len (x + 1) : Nat) : Int)) HO6.out hr6 (by decide) rfl rfl
        have HR7 := Lib.hid HR7
        have HMX : Hid (((max o.len (x + 1) : Nat) : Int) = max (o.len : Int) ((x : Int) + 1)) := by show _ = _; omega
        rw [HMX.out] at HR7
        clear hc6
        go_wp2_with fail
        go_ret
        refine ⟨by rw [HE.out]; rfl, ow6, R.set i (.slice nA (o.ps.length + 1) nc), ?_⟩
        rw [HE.out, more_some HX.out]
        have := HR7.out.out
        unfold Hs.set at this ⊢
        rw [List.set_set] at this
        exact this
      ·
       have HT := Lib.hid (rtake_none HR1.out.ph hm)
       have HE := Lib.hid (HRH.out.symm.trans (add_full HB0.out hm))
       go_wp2_with fail
       refine HT.out.mono ?_
       rintro e w2 ⟨rfl, hb⟩
       have HR2 := Lib.hid (HR1.out.low hb)
       clear hb HT
       go_wp2_with fail
       go_ret
       exact ⟨by rw [HE.out]; rfl, ow, R, by rw [HE.out]; exact HR2.out.out⟩
   ·have HX := Lib.hid (HIN.out hcc)
    have ha := HA.out.trans (decide_eq_false hcc)
    have HB0 := Lib.hid (bar_none HCL.out HX.out)
    clear hcc HIX HIA HIN hx
    rcases Nat.lt_or_ge H.n H.most with hm | hm
    ·
     have HT := Lib.hid (rtake_set HR1.out.ph hm HN.out.2.1)
     go_wp2_with fail
     refine HT.out.mono ?_
     rintro e w2 ⟨rfl, hw2⟩
     have HR2 : Hid (Rg w ow A g cap H.os.length { H with n := H.n + 1 } w2 ow R) := by rw [hw2]; exact ((HR1.out.low (below_draw w1)).took).1
     have HP2 : Hid (Blk w2 PB 31 [.string pk, .int .i64 vk, .int .i64 vn, .string vs, .bool pw, .bool pe, .bool pf]) := by rw [hw2]; exact (HP1.out.fr (w' := w1.drew) rfl).other (p := ⟨A, 2, none⟩) HPB.out _
     have HR3 := Lib.hid (HR2.out.low (below_draw w2))
     have HP3 := Lib.hid (HP2.out.fr (w' := w2.drew) rfl)
     have hs3 : (fun w' : World => w'.cell? ⟨PB, 0, none⟩ = some (.string pk) ∧ w'.cell? ⟨PB, 1, none⟩ = some (.int .i64 vk) ∧ w'.cell? ⟨PB, 2, none⟩ = some (.int .i64 vn) ∧ w'.cell? ⟨PB, 3, none⟩ = some (.string vs) ∧ w'.cell? ⟨PB, 4, none⟩ = some (.bool pw) ∧ w'.cell? ⟨PB, 5, none⟩ = some (.bool pe) ∧ w'.cell? ⟨PB, 6, none⟩ = some (.bool pf)) w2.drew := ⟨HP3.out.cell (k := 0) rfl, HP3.out.cell (k := 1) rfl, HP3.out.cell (k := 2) rfl, HP3.out.cell (k := 3) rfl, HP3.out.cell (k := 4) rfl, HP3.out.cell (k := 5) rfl, HP3.out.cell (k := 6) rfl⟩
     dsimp only at hs3
     clear hw2 HT HR1 HP1 HR2 HP2 c0 d0 d6 d7
     go_wp2_with fail
     refine wp_region_held_drew (S := (fun w' : World => w'.cell? ⟨PB, 0, none⟩ = some (.string pk) ∧ w'.cell? ⟨PB, 1, none⟩ = some (.int .i64 vk) ∧ w'.cell? ⟨PB, 2, none⟩ = some (.int .i64 vn) ∧ w'.cell? ⟨PB, 3, none⟩ = some (.string vs) ∧ w'.cell? ⟨PB, 4, none⟩ = some (.bool pw) ∧ w'.cell? ⟨PB, 5, none⟩ = some (.bool pe) ∧ w'.cell? ⟨PB, 6, none⟩ = some (.bool pf))) (by kernel_rfl) (hs3) (fun hHeld0 => ?_)
     generalize w2.drew = w3 at *
     refine tk 0 ?_ ‹_› ?_ ?_; rotate_left; focus (intro w0 hSw; obtain ⟨e0, e1, e2, e3, e4, e5, e6⟩ := hSw; go_simp; try with_reducible rfl)
     refine tk 1 ?_ ‹_› ?_ ?_; rotate_left; focus (intro w0 hSw; obtain ⟨e0, e1, e2, e3, e4, e5, e6⟩ := hSw; go_simp; try with_reducible rfl)
     refine tk 2 ?_ ‹_› ?_ ?_; rotate_left; focus (intro w0 hSw; obtain ⟨e0, e1, e2, e3, e4, e5, e6⟩ := hSw; go_simp; try with_reducible rfl)
     refine tk 3 ?_ ‹_› ?_ ?_; rotate_left; focus (intro w0 hSw; obtain ⟨e0, e1, e2, e3, e4, e5, e6⟩ := hSw; go_simp; try with_reducible rfl)
     refine tk 5 ?_ ‹_› ?_ ?_; rotate_left; focus (intro w0 hSw; obtain ⟨e0, e1, e2, e3, e4, e5, e6⟩ := hSw; go_simp; try with_reducible rfl)
     try simp only [PT]
     refine wpAnyH_ready (rs := [4, 6]) (by decide +kernel) (by simp) (AllReadyH.cons rfl (fun K hK => ?_) (AllReadyH.cons rfl (fun K hK => ?_) AllReadyH.nil))
     ·
      have c4 := ((HR3.out.pcell HO.out HRR.out).1 4 _ rfl).1
      go_simp
      refine hK.out _ _ hs3 (fun hHeld1 => ?_)
      clear hK K hHeld0 c4
      try simp only [PT]
      refine wpAnyH_ready (rs := [6]) (by decide +kernel) (by simp) (AllReadyH.cons rfl (fun K hK => ?_) AllReadyH.nil)
      go_simp
      have hb := below_new w3 (.cells #[.string pk, .int .i64 vk, .int .i64 vn, .string vs, .bool pw, .bool pe, .bool pf] 31)
      have HR4 := Lib.hid (HR3.out.low hb)
      have HP4 := Lib.hid (HP3.out.low hb)
      have HX4 := Lib.hid (Blk.new w3 31 [.string pk, .int .i64 vk, .int .i64 vn, .string vs, .bool pw, .bool pe, .bool pf])
      obtain ⟨xb, hxb⟩ : ∃ xb, w3.heap.size = xb := ⟨_, rfl⟩
      clear hb
      have hs4 : (fun w' : World => w'.cell? ⟨PB, 0, none⟩ = some (.string pk) ∧ w'.cell? ⟨PB, 1, none⟩ = some (.int .i64 vk) ∧ w'.cell? ⟨PB, 2, none⟩ = some (.int .i64 vn) ∧ w'.cell? ⟨PB, 3, none⟩ = some (.string vs) ∧ w'.cell? ⟨PB, 4, none⟩ = some (.bool pw) ∧ w'.cell? ⟨PB, 5, none⟩ = some (.bool pe) ∧ w'.cell? ⟨PB, 6, none⟩ = some (.bool pf)) (w3.alloc (.cells #[.string pk, .int .i64 vk, .int .i64 vn, .string vs, .bool pw, .bool pe, .bool pf] 31)) := ⟨HP4.out.cell (k := 0) rfl, HP4.out.cell (k := 1) rfl, HP4.out.cell (k := 2) rfl, HP4.out.cell (k := 3) rfl, HP4.out.cell (k := 4) rfl, HP4.out.cell (k := 5) rfl, HP4.out.cell (k := 6) rfl⟩
      dsimp only at hs4
      refine hK.out _ _ hs4 (fun hHeld2 => ?_)
      clear hK K hHeld1
      rw [hxb] at HX4 ⊢
      clear hxb
      generalize (w3.alloc (.cells #[.string pk, .int .i64 vk, .int .i64 vn, .string vs, .bool pw, .bool pe, .bool pf] 31)) = w4 at *
      try simp only [PT]
      refine wpAnyH_ready (rs := [7]) (by decide +kernel) (by simp) (AllReadyH.cons rfl (fun K hK => ?_) AllReadyH.nil)
      have hrow := (HR4.out.pcell HO.out HRR.out).2
      obtain ⟨nv, w5, hr5, hrow5, hg5, hn5⟩ := run_appK (w := w4) 71 31 71 _ 7 56 Tryz.underlying71 infoPr' rfl (by decide) (by decide) 0 _ _ _ hrow xb 0 1 1 [.string pk, .int .i64 vk, .int .i64 vn, .string vs, .bool pw, .bool pe, .bool pf] rfl (fun j u hj => by rw [Nat.zero_add]; exact HX4.out.cell hj) (by intro u hu; simp only [List.mem_cons, List.not_mem_nil, or_false] at hu; rcases hu with rfl | rfl | rfl | rfl | rfl | rfl | rfl <;> rfl) (by obtain ⟨a, b, c⟩ := HN.out; omega) (Nat.zero_le _)
      obtain ⟨rA, rc, rfl, -, -⟩ := rows_form hrow
      obtain ⟨nA, nc, rfl, -, -⟩ := rows_form hrow5
      have hpb : some PB ≠ (Value.slice rA o.ps.length rc).ownBlock := fun e => by
       have h1 := (HR4.out.ph.props HO.out HRR.out).2 PB e.symm
       rw [HPO.out] at h1
       cases h1
      have HP5 := Lib.hid (HP4.out.fr (hg5.block _ HP4.out.lt hpb))
      have HG5 := Lib.hid hg5
      have HW5 := Lib.hid hrow5
      have HN5 := Lib.hid hn5
      have hs5 : (fun w' : World => w'.cell? ⟨PB, 0, none⟩ = some (.string pk) ∧ w'.cell? ⟨PB, 1, none⟩ = some (.int .i64 vk) ∧ w'.cell? ⟨PB, 2, none⟩ = some (.int .i64 vn) ∧ w'.cell? ⟨PB, 3, none⟩ = some (.string vs) ∧ w'.cell? ⟨PB, 4, none⟩ = some (.bool pw) ∧ w'.cell? ⟨PB, 5, none⟩ = some (.bool pe) ∧ w'.cell? ⟨PB, 6, none⟩ = some (.bool pf)) w5 := ⟨HP5.out.cell (k := 0) rfl, HP5.out.cell (k := 1) rfl, HP5.out.cell (k := 2) rfl, HP5.out.cell (k := 3) rfl, HP5.out.cell (k := 4) rfl, HP5.out.cell (k := 5) rfl, HP5.out.cell (k := 6) rfl⟩
      dsimp only at hs5
      refine step_appK rfl (.tmp 62) (.tmp 64) 71 rfl _ _ rfl rfl _ w5 hr5 ?_
      clear hr5 hrow5 hg5 hn5 hrow hpb
      refine hK.out _ _ hs5 (fun hHeld3 => ?_)
      clear hK K hHeld2
      try simp only [PT]
      refine tk 8 ?_ ‹_› ?_ ?_; rotate_left; focus (intro w0 hSw; obtain ⟨e0, e1, e2, e3, e4, e5, e6⟩ := hSw; go_simp; try with_reducible rfl)
      refine tk 9 ?_ ‹_› ?_ ?_; rotate_left; focus (intro w0 hSw; obtain ⟨e0, e1, e2, e3, e4, e5, e6⟩ := hSw; go_simp; try with_reducible rfl)
      try simp only [PT]
      refine wpAnyH_ready (rs := [10]) (by decide +kernel) (by simp) (AllReadyH.cons rfl (fun K hK => ?_) AllReadyH.nil)
      obtain ⟨c4, z4⟩ := HR4.out.gcell HO.out HRR.out (grown_row HG5.out).1 (j := 4) rfl
      go_simp
      have HBG : Hid (PB ≠ g) := fun e => by
       have h1 := HR4.out.og
       rw [← e, HPO.out] at h1
       cases h1
      have HP6 := Lib.hid (HP5.out.other (p := ⟨g, i * 8 + 4, none⟩) HBG.out (.slice nA (o.ps.length + 1) nc))
      have hs6 : (fun w' : World => w'.cell? ⟨PB, 0, none⟩ = some (.string pk) ∧ w'.cell? ⟨PB, 1, none⟩ = some (.int .i64 vk) ∧ w'.cell? ⟨PB, 2, none⟩ = some (.int .i64 vn) ∧ w'.cell? ⟨PB, 3, none⟩ = some (.string vs) ∧ w'.cell? ⟨PB, 4, none⟩ = some (.bool pw) ∧ w'.cell? ⟨PB, 5, none⟩ = some (.bool pe) ∧ w'.cell? ⟨PB, 6, none⟩ = some (.bool pf)) (w5.setCell ⟨g, i * 8 + 4, none⟩ (.slice nA (o.ps.length + 1) nc)) := ⟨HP6.out.cell (k := 0) rfl, HP6.out.cell (k := 1) rfl, HP6.out.cell (k := 2) rfl, HP6.out.cell (k := 3) rfl, HP6.out.cell (k := 4) rfl, HP6.out.cell (k := 5) rfl, HP6.out.cell (k := 6) rfl⟩
      dsimp only at hs6
      obtain ⟨ow6, HR6, -⟩ := HR4.out.row HO.out HRR.out (ps' := o.ps ++ [(⟨pk, ⟨vk, vn, vs⟩, pw, pe, pf⟩ : Pr)]) (by rw [List.length_append, List.map_append, List.flatten_append]; exact HW5.out) (grown_row HG5.out).1 (HN5.out.imp id fun e k e2 => by rw [e] at e2; cases e2; exact Nat.le_refl _) (grown_row HG5.out).2.1 (grown_row HG5.out).2.2
      have HR6 := Lib.hid HR6
      refine hK.out _ _ hs6 (fun hHeld4 => ?_)
      clear hK K hHeld3
      refine wpAnyH_done (by kernel_rfl) ?_ _
      clear hHeld4 hs6 c4 z4
      generalize (w5.setCell ⟨g, i * 8 + 4, none⟩ (.slice nA (o.ps.length + 1) nc)) = w6 at *
      have HE := Lib.hid (HRH.out.symm.trans (add_ok HB0.out hm))
      go_wp2_with fail
      go_ret
      refine ⟨by rw [HE.out]; rfl, ow6, R.set i (.slice nA (o.ps.length + 1) nc), ?_⟩
      rw [HE.out, more_none HX.out]
      exact HR6.out.out
     ·
      go_simp
      have hb := below_new w3 (.cells #[.string pk, .int .i64 vk, .int .i64 vn, .string vs, .bool pw, .bool pe, .bool pf] 31)
      have HR4 := Lib.hid (HR3.out.low hb)
      have HP4 := Lib.hid (HP3.out.low hb)
      have HX4 := Lib.hid (Blk.new w3 31 [.string pk, .int .i64 vk, .int .i64 vn, .string vs, .bool pw, .bool pe, .bool pf])
      obtain ⟨xb, hxb⟩ : ∃ xb, w3.heap.size = xb := ⟨_, rfl⟩
      clear hb
      have hs4 : (fun w' : World => w'.cell? ⟨PB, 0, none⟩ = some (.string pk) ∧ w'.cell? ⟨PB, 1, none⟩ = some (.int .i64 vk) ∧ w'.cell? ⟨PB, 2, none⟩ = some (.int .i64 vn) ∧ w'.cell? ⟨PB, 3, none⟩ = some (.string vs) ∧ w'.cell? ⟨PB, 4, none⟩ = some (.bool pw) ∧ w'.cell? ⟨PB, 5, none⟩ = some (.bool pe) ∧ w'.cell? ⟨PB, 6, none⟩ = some (.bool pf)) (w3.alloc (.cells #[.string pk, .int .i64 vk, .int .i64 vn, .string vs, .bool pw, .bool pe, .bool pf] 31)) := ⟨HP4.out.cell (k := 0) rfl, HP4.out.cell (k := 1) rfl, HP4.out.cell (k := 2) rfl, HP4.out.cell (k := 3) rfl, HP4.out.cell (k := 4) rfl, HP4.out.cell (k := 5) rfl, HP4.out.cell (k := 6) rfl⟩
      dsimp only at hs4
      refine hK.out _ _ hs4 (fun hHeld1 => ?_)
      clear hK K hHeld0
      rw [hxb] at HX4 ⊢
      clear hxb
      generalize (w3.alloc (.cells #[.string pk, .int .i64 vk, .int .i64 vn, .string vs, .bool pw, .bool pe, .bool pf] 31)) = w4 at *
      try simp only [PT]
      refine wpAnyH_ready (rs := [4]) (by decide +kernel) (by simp) (AllReadyH.cons rfl (fun K hK => ?_) AllReadyH.nil)
      have c4 := ((HR4.out.pcell HO.out HRR.out).1 4 _ rfl).1
      go_simp
      refine hK.out _ _ hs4 (fun hHeld2 => ?_)
      clear hK K hHeld1 c4
      try simp only [PT]
      refine wpAnyH_ready (rs := [7]) (by decide +kernel) (by simp) (AllReadyH.cons rfl (fun K hK => ?_) AllReadyH.nil)
      have hrow := (HR4.out.pcell HO.out HRR.out).2
      obtain ⟨nv, w5, hr5, hrow5, hg5, hn5⟩ := run_appK (w := w4) 71 31 71 _ 7 56 Tryz.underlying71 infoPr' rfl (by decide) (by decide) 0 _ _ _ hrow xb 0 1 1 [.string pk, .int .i64 vk, .int .i64 vn, .string vs, .bool pw, .bool pe, .bool pf] rfl (fun j u hj => by rw [Nat.zero_add]; exact HX4.out.cell hj) (by intro u hu; simp only [List.mem_cons, List.not_mem_nil, or_false] at hu; rcases hu with rfl | rfl | rfl | rfl | rfl | rfl | rfl <;> rfl) (by obtain ⟨a, b, c⟩ := HN.out; omega) (Nat.zero_le _)
      obtain ⟨rA, rc, rfl, -, -⟩ := rows_form hrow
      obtain ⟨nA, nc, rfl, -, -⟩ := rows_form hrow5
      have hpb : some PB ≠ (Value.slice rA o.ps.length rc).ownBlock := fun e => by
       have h1 := (HR4.out.ph.props HO.out HRR.out).2 PB e.symm
       rw [HPO.out] at h1
       cases h1
      have HP5 := Lib.hid (HP4.out.fr (hg5.block _ HP4.out.lt hpb))
      have HG5 := Lib.hid hg5
      have HW5 := Lib.hid hrow5
      have HN5 := Lib.hid hn5
      have hs5 : (fun w' : World => w'.cell? ⟨PB, 0, none⟩ = some (.string pk) ∧ w'.cell? ⟨PB, 1, none⟩ = some (.int .i64 vk) ∧ w'.cell? ⟨PB, 2, none⟩ = some (.int .i64 vn) ∧ w'.cell? ⟨PB, 3, none⟩ = some (.string vs) ∧ w'.cell? ⟨PB, 4, none⟩ = some (.bool pw) ∧ w'.cell? ⟨PB, 5, none⟩ = some (.bool pe) ∧ w'.cell? ⟨PB, 6, none⟩ = some (.bool pf)) w5 := ⟨HP5.out.cell (k := 0) rfl, HP5.out.cell (k := 1) rfl, HP5.out.cell (k := 2) rfl, HP5.out.cell (k := 3) rfl, HP5.out.cell (k := 4) rfl, HP5.out.cell (k := 5) rfl, HP5.out.cell (k := 6) rfl⟩
      dsimp only at hs5
      refine step_appK rfl (.tmp 62) (.tmp 64) 71 rfl _ _ rfl rfl _ w5 hr5 ?_
      clear hr5 hrow5 hg5 hn5 hrow hpb
      refine hK.out _ _ hs5 (fun hHeld3 => ?_)
      clear hK K hHeld2
      try simp only [PT]
      refine tk 8 ?_ ‹_› ?_ ?_; rotate_left; focus (intro w0 hSw; obtain ⟨e0, e1, e2, e3, e4, e5, e6⟩ := hSw; go_simp; try with_reducible rfl)
      refine tk 9 ?_ ‹_› ?_ ?_; rotate_left; focus (intro w0 hSw; obtain ⟨e0, e1, e2, e3, e4, e5, e6⟩ := hSw; go_simp; try with_reducible rfl)
      try simp only [PT]
      refine wpAnyH_ready (rs := [10]) (by decide +kernel) (by simp) (AllReadyH.cons rfl (fun K hK => ?_) AllReadyH.nil)
      obtain ⟨c4, z4⟩ := HR4.out.gcell HO.out HRR.out (grown_row HG5.out).1 (j := 4) rfl
      go_simp
      have HBG : Hid (PB ≠ g) := fun e => by
       have h1 := HR4.out.og
       rw [← e, HPO.out] at h1
       cases h1
      have HP6 := Lib.hid (HP5.out.other (p := ⟨g, i * 8 + 4, none⟩) HBG.out (.slice nA (o.ps.length + 1) nc))
      have hs6 : (fun w' : World => w'.cell? ⟨PB, 0, none⟩ = some (.string pk) ∧ w'.cell? ⟨PB, 1, none⟩ = some (.int .i64 vk) ∧ w'.cell? ⟨PB, 2, none⟩ = some (.int .i64 vn) ∧ w'.cell? ⟨PB, 3, none⟩ = some (.string vs) ∧ w'.cell? ⟨PB, 4, none⟩ = some (.bool pw) ∧ w'.cell? ⟨PB, 5, none⟩ = some (.bool pe) ∧ w'.cell? ⟨PB, 6, none⟩ = some (.bool pf)) (w5.setCell ⟨g, i * 8 + 4, none⟩ (.slice nA (o.ps.length + 1) nc)) := ⟨HP6.out.cell (k := 0) rfl, HP6.out.cell (k := 1) rfl, HP6.out.cell (k := 2) rfl, HP6.out.cell (k := 3) rfl, HP6.out.cell (k := 4) rfl, HP6.out.cell (k := 5) rfl, HP6.out.cell (k := 6) rfl⟩
      dsimp only at hs6
      obtain ⟨ow6, HR6, -⟩ := HR4.out.row HO.out HRR.out (ps' := o.ps ++ [(⟨pk, ⟨vk, vn, vs⟩, pw, pe, pf⟩ : Pr)]) (by rw [List.length_append, List.map_append, List.flatten_append]; exact HW5.out) (grown_row HG5.out).1 (HN5.out.imp id fun e k e2 => by rw [e] at e2; cases e2; exact Nat.le_refl _) (grown_row HG5.out).2.1 (grown_row HG5.out).2.2
      have HR6 := Lib.hid HR6
      refine hK.out _ _ hs6 (fun hHeld4 => ?_)
      clear hK K hHeld3
      refine wpAnyH_done (by kernel_rfl) ?_ _
      clear hHeld4 hs6 c4 z4
      generalize (w5.setCell ⟨g, i * 8 + 4, none⟩ (.slice nA (o.ps.length + 1) nc)) = w6 at *
      have HE := Lib.hid (HRH.out.symm.trans (add_ok HB0.out hm))
      go_wp2_with fail
      go_ret
      refine ⟨by rw [HE.out]; rfl, ow6, R.set i (.slice nA (o.ps.length + 1) nc), ?_⟩
      rw [HE.out, more_none HX.out]
      exact HR6.out.out
    ·
     have HT := Lib.hid (rtake_none HR1.out.ph hm)
     have HE := Lib.hid (HRH.out.symm.trans (add_full HB0.out hm))
     go_wp2_with fail
     refine HT.out.mono ?_
     rintro e w2 ⟨rfl, hb⟩
     have HR2 := Lib.hid (HR1.out.low hb)
     clear hb HT
     go_wp2_with fail
     go_ret
     exact ⟨by rw [HE.out]; rfl, ow, R, by rw [HE.out]; exact HR2.out.out⟩
end
end Go.Proofs.YtcahijpbkjplmaaGreatDoor.G
