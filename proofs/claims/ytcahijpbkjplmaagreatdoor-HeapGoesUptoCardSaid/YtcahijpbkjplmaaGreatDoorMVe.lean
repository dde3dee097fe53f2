/-
 do beside a reference that stands as the heap does: both in memory; what is kept.
 do of a call number 0 beside a reference that stands as the heap does, by contract.
 do of a call number 1 beside a reference that stands as the heap does, by contract.
 do of a call number 5 beside a reference that stands as the heap does, by contract.
 do of a call number 9, or of another number beside a reference that stands as the heap does, by contract.
-/
import Derived.Test.YtcahijpbkjplmaaGreatDoorMFn
import Derived.Test.YtcahijpbkjplmaaGreatDoorMLe
import Derived.Test.YtcahijpbkjplmaaGreatDoorMVn
set_option linter.unusedSimpArgs false
namespace Go.Proofs.YtcahijpbkjplmaaGreatDoor.G
open Go.RowKit Go.Shelf Go.Maps Go.Lib Go.Proofs.YtcahijpbkjplmaaGreatDoor
section
variable {w w1 w2 : World} {ow ow1 ow2 owx owx1 owx2 : Nat → Option Nat} {A X B : Nat} {H H1 H2 Hx Hx2 : Hs} {L L1 L2 : List OL} {R R1 R2 : List Value} {o : Op} {sl : Value} {bk : Nat}
theorem Rch.kept (h : Rch w X owx Hx w1 owx1 R1) {k : Nat} (h1 : k < w.heap.size) (h2 : owx k = none) : w1.heap[k]? = w.heap[k]? := h.fr.block k ⟨h1, h2⟩
theorem Rch.off (h : Rch w X owx Hx w1 owx1 R1) {k : Nat} (h1 : k < w.heap.size) (h2 : owx k = none) : owx1 k = none := by
 cases e : owx1 k with
 | none => rfl
 | some r =>
  rcases h.new k (by rw [e]; simp) with e2 | e2
  ·exact absurd h2 e2
  ·omega
structure Bth (w : World) (A X : Nat) (ow owx : Nat → Option Nat) (H1 Hx : Hs) (w1 : World) (ow1 : Nat → Option Nat) (L1 : List OL) (owx1 : Nat → Option Nat) (R1 : List Value) : Prop where
 ph : PH w1 A H1 ow1 L1
 rh : RH w1 X Hx owx1 R1
 dis : ∀ k, owx1 k ≠ none → ow1 k = none
 new : ∀ k, ow1 k ≠ none → ow k ≠ none ∨ w.heap.size ≤ k
 newx : ∀ k, owx1 k ≠ none → owx k ≠ none ∨ w.heap.size ≤ k
 fr : Fr (fun k => k < w.heap.size ∧ ow k = none ∧ owx k = none) w w1
theorem Bth.start (h : PH w A H ow L) (hr : RH w X Hx owx R) (hd : ∀ k, owx k ≠ none → ow k = none) : Bth w A X ow owx H Hx w ow L owx R :=
 ⟨h, hr, hd, fun _ e => .inl e, fun _ e => .inl e, Fr.refl _ _⟩
theorem Bth.low (h : Bth w A X ow owx H1 Hx w1 ow1 L1 owx1 R1) (hb : Below w1.heap.size w1 w2) : Bth w A X ow owx H1 Hx w2 ow1 L1 owx1 R1 :=
 ⟨h.ph.low hb, h.rh.low hb, h.dis, h.new, h.newx, h.fr.trans (Fr.of hb fun _ hk => Nat.lt_of_lt_of_le hk.1 h.fr.size)⟩
theorem Bth.off (h : Bth w A X ow owx H1 Hx w1 ow1 L1 owx1 R1) {k : Nat} (h1 : k < w.heap.size) (h2 : ow k = none) : ow1 k = none := by
 cases e : ow1 k with
 | none => rfl
 | some r =>
  rcases h.new k (by rw [e]; simp) with e2 | e2
  ·exact absurd h2 e2
  ·omega
theorem Bth.offx (h : Bth w A X ow owx H1 Hx w1 ow1 L1 owx1 R1) {k : Nat} (h1 : k < w.heap.size) (h2 : owx k = none) : owx1 k = none := by
 cases e : owx1 k with
 | none => rfl
 | some r =>
  rcases h.newx k (by rw [e]; simp) with e2 | e2
  ·exact absurd h2 e2
  ·omega
theorem Bth.nextH (h : Bth w A X ow owx H1 Hx w1 ow1 L1 owx1 R1) (k : Hch w1 A ow1 L1 H2 w2 ow2 L2) : Bth w A X ow owx H2 Hx w2 ow2 L2 owx1 R1 :=
 ⟨k.ph, h.rh.fr (fun b hb => k.kept (h.rh.lt b hb) (h.dis b hb)) k.fr.size, fun b hb => k.out (h.rh.lt b hb) (h.dis b hb), fun b hb => (k.new b hb).elim (h.new b) fun e => .inr (Nat.le_trans h.fr.size e), h.newx,
  h.fr.trans (k.fr.mono fun _ hj => ⟨Nat.lt_of_lt_of_le hj.1 h.fr.size, h.off hj.1 hj.2.1⟩)⟩
theorem Bth.nextX (h : Bth w A X ow owx H1 Hx w1 ow1 L1 owx1 R1) (k : Rch w1 X owx1 Hx2 w2 owx2 R2) : Bth w A X ow owx H1 Hx2 w2 ow1 L1 owx2 R2 := by
 have hdx : ∀ b, ow1 b ≠ none → owx1 b = none := fun b hb => by
  cases e : owx1 b with
  | none => rfl
  | some r => exact absurd (h.dis b (by rw [e]; simp)) hb
 refine ⟨h.ph.fr (fun b hb => k.kept (h.ph.lt b hb) (hdx b hb)) k.fr.size, k.ph, fun b hb => ?_, h.new, fun b hb => (k.new b hb).elim (h.newx b) fun e => .inr (Nat.le_trans h.fr.size e),
  h.fr.trans (k.fr.mono fun _ hj => ⟨Nat.lt_of_lt_of_le hj.1 h.fr.size, h.offx hj.1 hj.2.2⟩)⟩
 rcases k.new b hb with e | e
 ·exact h.dis b e
 ·cases e2 : ow1 b with
  | none => rfl
  | some r =>
   have := h.ph.lt b (by rw [e2]; simp)
   omega
structure DlS (w : World) (A X B bk : Nat) (ow owx : Nat → Option Nat) (o : Op) (sl : Value) (H1 Hx : Hs) (w1 : World) (ow1 : Nat → Option Nat) (L1 : List OL) (owx1 : Nat → Option Nat) (R1 : List Value) : Prop where
 b : Bth w A X ow owx H1 Hx w1 ow1 L1 owx1 R1
 op : Blk w1 B 34 (opC o sl)
 wb : ow1 B = none ∧ owx1 B = none
 vl : Vls w1 sl o.l bk
 wk : bk < w1.heap.size ∧ ow1 bk = none ∧ owx1 bk = none
 tb : Tab w1
 wt : ow1 0 = none ∧ owx1 0 = none
theorem DlS.low (h : DlS w A X B bk ow owx o sl H1 Hx w1 ow1 L1 owx1 R1) (hb : Below w1.heap.size w1 w2) : DlS w A X B bk ow owx o sl H1 Hx w2 ow1 L1 owx1 R1 :=
 ⟨h.b.low hb, h.op.low hb, h.wb, h.vl.fr (hb.block _ h.wk.1), ⟨Nat.lt_of_lt_of_le h.wk.1 hb.size, h.wk.2⟩, h.tb.below hb, h.wt⟩
theorem DlS.nextH (h : DlS w A X B bk ow owx o sl H1 Hx w1 ow1 L1 owx1 R1) (k : Hch w1 A ow1 L1 H2 w2 ow2 L2) : DlS w A X B bk ow owx o sl H2 Hx w2 ow2 L2 owx1 R1 :=
 ⟨h.b.nextH k, h.op.fr (k.kept h.op.lt h.wb.1), ⟨k.out h.op.lt h.wb.1, h.wb.2⟩, h.vl.fr (k.kept h.wk.1 h.wk.2.1), ⟨Nat.lt_of_lt_of_le h.wk.1 k.fr.size, k.out h.wk.1 h.wk.2.1, h.wk.2.2⟩, h.tb.same (k.kept h.tb.lt h.wt.1), ⟨k.out h.tb.lt h.wt.1, h.wt.2⟩⟩
theorem DlS.nextX (h : DlS w A X B bk ow owx o sl H1 Hx w1 ow1 L1 owx1 R1) (k : Rch w1 X owx1 Hx2 w2 owx2 R2) : DlS w A X B bk ow owx o sl H1 Hx2 w2 ow1 L1 owx2 R2 :=
 ⟨h.b.nextX k, h.op.fr (k.kept h.op.lt h.wb.2), ⟨h.wb.1, k.off h.op.lt h.wb.2⟩, h.vl.fr (k.kept h.wk.1 h.wk.2.2), ⟨Nat.lt_of_lt_of_le h.wk.1 k.fr.size, h.wk.2.1, k.off h.wk.1 h.wk.2.2⟩, h.tb.same (k.kept h.tb.lt h.wt.2), ⟨h.wt.1, k.off h.tb.lt h.wt.2⟩⟩
theorem DlS.new (h : PH w A H ow L) (hr : RH w X H owx R) (hd : ∀ k, owx k ≠ none → ow k = none) (hv : Vls w sl o.l bk) (hk : bk < w.heap.size ∧ ow bk = none ∧ owx bk = none) (hT : Tab w) (hTo : ow 0 = none ∧ owx 0 = none) :
  DlS w A X w.heap.size bk ow owx o sl H H (w.alloc (.cells (opC o sl).toArray 34)) ow L owx R := by
 have hb := below_new w (.cells (opC o sl).toArray 34)
 refine ⟨(Bth.start h hr hd).low hb, Blk.new w _ _, ⟨?_, hr.off (Nat.le_refl _)⟩, hv.fr (hb.block _ hk.1), ⟨Nat.lt_of_lt_of_le hk.1 hb.size, hk.2⟩, hT.below hb, hTo⟩
 cases e : ow w.heap.size with
 | none => rfl
 | some r => exact absurd (h.lt _ (by rw [e]; simp)) (Nat.lt_irrefl _)
def DlR (w : World) (A X : Nat) (ow owx : Nat → Option Nat) (H' : Hs) (e : Ending) (w' : World) : Prop := e = .returned (.bool true) ∧ ∃ ow' L' owx' R', Bth w A X ow owx H' H' w' ow' L' owx' R'
end
section
variable {w : World} {ow owx : Nat → Option Nat} {A X : Nat} {H : Hs} {L : List OL} {R : List Value}
set_option maxRecDepth 20000 in
set_option maxHeartbeats 2000000 in
theorem dl_0 (h : PH w A H ow L) (hr : RH w X H owx R) (hd : ∀ k, owx k ≠ none → ow k = none) (g : Gd H) (o : Op) (so : So o) {sl : Value} {bk : Nat} (hv : Vls w sl o.l bk) (hk : bk < w.heap.size ∧ ow bk = none ∧ owx bk = none) (hT : Tab w) (hTo : ow 0 = none ∧ owx 0 = none) (_ : o.l.length ≤ 4194304) (e : o.d = 0) :
  Calls Tryz.prog 11 #[pv A, pv X, opV o sl] w (DlR w A X ow owx (H.step ix dx LK AR o)) := by
 have hstep : Hid (H.step ix dx LK AR o = (H.make o.key o.v).1) := by show Hs.step ix dx LK AR H o = _; unfold Hs.step; rw [e]; rfl
 rw [hstep.out]
 clear hstep
 have S0 := Lib.hid (DlS.new (o := o) h hr hd hv hk hT hTo)
 obtain ⟨sA, sc, hsl, -⟩ := id hv
 clear hv hk hT hTo hd h hr
 have HM := Lib.hid (make_any S0.out.b.ph g o.key so.k o.v)
 have HRF := Lib.hid fun (H1 : Hs) (w1 : World) ow1 L1 owx1 R1 (S : DlS w A X w.heap.size bk ow owx o sl H1 H w1 ow1 L1 owx1 R1) => rmake_any S.b.rh g o.key o.v
 obtain ⟨q, b, hq⟩ := makeR_is (H.make o.key o.v).2
 rw [hq] at HM HRF
 clear hq
 rw [hsl] at S0 HM HRF ⊢
 clear so g
 generalize (H.make o.key o.v).1 = H1 at *
 obtain ⟨d, ⟨vk, vn, vs⟩, ⟨xk, xn, xs⟩, key, ⟨pk, ⟨pvk, pvn, pvs⟩, pw, pe, pf⟩, l⟩ := o
 obtain ⟨qk, qn, qs⟩ := q
 dsimp only at e
 subst e
 simp only [opV, Vl.v] at S0 HM HRF ⊢
 go_enter Tryz.func11, Tryz.ntmps11
 go_wp2_with fail
 refine HM.out.mono ?_
 rintro e w1 ⟨rfl, ow1, L1, hch⟩
 have S1 := Lib.hid (S0.out.nextH hch)
 clear hch HM S0
 have hb := below_new w1 (.cells #[.int .i64 qk, .int .i64 qn, .string qs] 29)
 have S2 := Lib.hid (S1.out.low hb)
 have HQ := Lib.hid (Blk.new w1 29 [.int .i64 qk, .int .i64 qn, .string qs])
 have HQO := Lib.hid (S1.out.b.rh.off (Nat.le_refl _))
 clear hb
 obtain ⟨⟨c1, c2, c3⟩, ⟨c4, c5, c6⟩, c7, ⟨c8, c9, c10, c11, c12, c13, c14⟩, c15⟩ := op_cells S2.out.op
 dsimp only at c1 c2 c3 c4 c5 c6 c7 c8 c9 c10 c11 c12 c13 c14 c15
 have HRM := Lib.hid (HRF.out _ _ _ _ _ _ S2.out)
 clear HRF
 go_wp2_with fail
 refine HRM.out.mono ?_
 rintro e w2 ⟨rfl, owx2, R2, hch⟩
 have S3 := Lib.hid (S2.out.nextX hch)
 have HQ3 := Lib.hid (HQ.out.fr (hch.kept HQ.out.lt HQO.out))
 obtain ⟨d0, d1, d2⟩ := Blk.three (v := ⟨qk, qn, qs⟩) (HQ3.out.low (below_new w2 (.cells #[.int .i64 qk, .int .i64 qn, .string qs] 29)))
 dsimp only at d0 d1 d2
 clear c1 c2 c3 c4 c5 c6 c7 c8 c9 c10 c11 c12 c13 c14 c15 hch HRM S1 S2 HQ HQO
 go_wp2_with fail
 all_goals refine bodyPost_ret (results_tmp rfl _ _ _) rfl ?_
 all_goals exact ⟨by simp, ow1, L1, owx2, R2, (S3.out.low (below_new _ _)).b⟩
end
section
variable {w : World} {ow owx : Nat → Option Nat} {A X : Nat} {H : Hs} {L : List OL} {R : List Value}
set_option maxRecDepth 20000 in
set_option maxHeartbeats 2000000 in
theorem dl_1 (h : PH w A H ow L) (hr : RH w X H owx R) (hd : ∀ k, owx k ≠ none → ow k = none) (g : Gd H) (o : Op) (so : So o) {sl : Value} {bk : Nat} (hv : Vls w sl o.l bk) (hk : bk < w.heap.size ∧ ow bk = none ∧ owx bk = none) (hT : Tab w) (hTo : ow 0 = none ∧ owx 0 = none) (hll : o.l.length ≤ 4194304) (e : o.d = 1) :
  Calls Tryz.prog 11 #[pv A, pv X, opV o sl] w (DlR w A X ow owx (H.step ix dx LK AR o)) := by
 have hstep : Hid (H.step ix dx LK AR o = (H.array dx AR o.v o.l).1) := by show Hs.step ix dx LK AR H o = _; unfold Hs.step; rw [e]; rfl
 rw [hstep.out]
 clear hstep
 have S0 := Lib.hid (DlS.new (o := o) h hr hd hv hk hT hTo)
 obtain ⟨sA, sc, hsl, -⟩ := id hv
 clear hv hk hT hTo hd h hr
 have HM := Lib.hid (array_any S0.out.b.ph g o.v o.l so.l S0.out.vl ⟨S0.out.wk.1, S0.out.wk.2.1⟩ S0.out.tb S0.out.wt.1 hll)
 have HRF := Lib.hid fun (H1 : Hs) (w1 : World) ow1 L1 owx1 R1 (S : DlS w A X w.heap.size bk ow owx o sl H1 H w1 ow1 L1 owx1 R1) => rarray_any S.b.rh g o.v S.vl ⟨S.wk.1, S.wk.2.2⟩ hll
 obtain ⟨q, b, hq⟩ := makeR_is (H.array dx AR o.v o.l).2
 rw [hq] at HM HRF
 clear hq
 rw [hsl] at S0 HM HRF ⊢
 clear hll so g
 generalize (H.array dx AR o.v o.l).1 = H1 at *
 obtain ⟨d, ⟨vk, vn, vs⟩, ⟨xk, xn, xs⟩, key, ⟨pk, ⟨pvk, pvn, pvs⟩, pw, pe, pf⟩, l⟩ := o
 obtain ⟨qk, qn, qs⟩ := q
 dsimp only at e
 subst e
 simp only [opV, Vl.v] at S0 HM HRF ⊢
 go_enter Tryz.func11, Tryz.ntmps11
 go_wp2_with fail
 refine HM.out.mono ?_
 rintro e w1 ⟨rfl, ow1, L1, hch⟩
 have S1 := Lib.hid (S0.out.nextH hch)
 clear hch HM S0
 have hb := below_new w1 (.cells #[.int .i64 qk, .int .i64 qn, .string qs] 29)
 have S2 := Lib.hid (S1.out.low hb)
 have HQ := Lib.hid (Blk.new w1 29 [.int .i64 qk, .int .i64 qn, .string qs])
 have HQO := Lib.hid (S1.out.b.rh.off (Nat.le_refl _))
 clear hb
 obtain ⟨⟨c1, c2, c3⟩, ⟨c4, c5, c6⟩, c7, ⟨c8, c9, c10, c11, c12, c13, c14⟩, c15⟩ := op_cells S2.out.op
 dsimp only at c1 c2 c3 c4 c5 c6 c7 c8 c9 c10 c11 c12 c13 c14 c15
 have HRM := Lib.hid (HRF.out _ _ _ _ _ _ S2.out)
 clear HRF
 go_wp2_with fail
 refine HRM.out.mono ?_
 rintro e w2 ⟨rfl, owx2, R2, hch⟩
 have S3 := Lib.hid (S2.out.nextX hch)
 have HQ3 := Lib.hid (HQ.out.fr (hch.kept HQ.out.lt HQO.out))
 obtain ⟨d0, d1, d2⟩ := Blk.three (v := ⟨qk, qn, qs⟩) (HQ3.out.low (below_new w2 (.cells #[.int .i64 qk, .int .i64 qn, .string qs] 29)))
 dsimp only at d0 d1 d2
 clear c1 c2 c3 c4 c5 c6 c7 c8 c9 c10 c11 c12 c13 c14 c15 hch HRM S1 S2 HQ HQO
 go_wp2_with fail
 all_goals refine bodyPost_ret (results_tmp rfl _ _ _) rfl ?_
 all_goals exact ⟨by simp, ow1, L1, owx2, R2, (S3.out.low (below_new _ _)).b⟩
end
section
variable {w : World} {ow owx : Nat → Option Nat} {A X : Nat} {H : Hs} {L : List OL} {R : List Value}
structure RdS (w : World) (A X B : Nat) (ow owx : Nat → Option Nat) (o : Op) (sl : Value) (H : Hs) (L : List OL) (R : List Value) (w1 : World) : Prop where
 ph : PH w1 A H ow L
 rh : RH w1 X H owx R
 op : Blk w1 B 34 (opC o sl)
 bel : Below w.heap.size w w1
theorem RdS.low {w w1 w2 : World} {B : Nat} {o : Op} {sl : Value} (h : RdS w A X B ow owx o sl H L R w1) (hb : Below w1.heap.size w1 w2) : RdS w A X B ow owx o sl H L R w2 :=
 ⟨h.ph.low hb, h.rh.low hb, h.op.low hb, h.bel.trans (hb.mono h.bel.size)⟩
theorem RdS.new (h : PH w A H ow L) (hr : RH w X H owx R) (o : Op) (sl : Value) : RdS w A X w.heap.size ow owx o sl H L R (w.alloc (.cells (opC o sl).toArray 34)) := by
 have hb := below_new w (.cells (opC o sl).toArray 34)
 exact ⟨h.low hb, hr.low hb, Blk.new w _ _, hb⟩
set_option maxRecDepth 20000 in
set_option maxHeartbeats 2000000 in
theorem rd_5 (h : PH w A H ow L) (hr : RH w X H owx R) (g : Gd H) (o : Op) (hkr : o.key.size ≤ 16777216) (sl : Value) (e : o.d = 5) :
  Calls Tryz.prog 11 #[pv A, pv X, opV o sl] w (AnsB w true) := by
 have S0 := Lib.hid (RdS.new h hr o sl)
 clear h hr
 have hkm : o.key.size ≤ maxLen := by unfold maxLen; omega
 have HG1 := Lib.hid fun (w1 : World) (hp : PH w1 A H ow L) => get_any hp g o.v o.key hkm
 have HG2 := Lib.hid fun (w1 : World) (hp : PH w1 A H ow L) => Own_any hp g o.v o.key hkm
 have HR1 := Lib.hid fun (w1 : World) (hp : RH w1 X H owx R) => rget_any hp g o.v o.key hkr
 have HR2 := Lib.hid fun (w1 : World) (hp : RH w1 X H owx R) => rown_any hp g o.v o.key hkr
 obtain ⟨q1, b1, hq1⟩ := getR_is (H.find LK AR (H.at o.v) o.key)
 obtain ⟨q2, b2, hq2, -⟩ := ownR_is (H.ownV o.v o.key)
 rw [hq1] at HG1 HR1
 rw [hq2] at HG2 HR2
 clear hq1 hq2 hkm hkr g
 obtain ⟨d, ⟨vk, vn, vs⟩, ⟨xk, xn, xs⟩, key, ⟨pk, ⟨pvk, pvn, pvs⟩, pw, pe, pf⟩, l⟩ := o
 obtain ⟨qk1, qn1, qs1⟩ := q1
 obtain ⟨qk2, ⟨qvk2, qvn2, qvs2⟩, qw2, qe2, qf2⟩ := q2
 dsimp only at e
 subst e
 simp only [opV, Vl.v, Pr.v'] at S0 HG1 HG2 HR1 HR2 ⊢
 have HC1 := HG1.out _ S0.out.ph
 go_enter Tryz.func11, Tryz.ntmps11
 go_wp2_with fail
 refine HC1.mono ?_
 rintro e w1 ⟨rfl, hb⟩
 have S1a := Lib.hid (S0.out.low hb)
 have hb1 := below_new w1 (.cells #[.int .i64 qk1, .int .i64 qn1, .string qs1] 29)
 have S1 := Lib.hid (S1a.out.low hb1)
 have B0_0 := Lib.hid (Blk.new w1 29 [.int .i64 qk1, .int .i64 qn1, .string qs1])
 clear hb hb1 S1a S0  HC1
 obtain ⟨⟨c1, c2, c3⟩, ⟨c4, c5, c6⟩, c7, ⟨c8, c9, c10, c11, c12, c13, c14⟩, c15⟩ := op_cells S1.out.op
 dsimp only at c1 c2 c3 c4 c5 c6 c7 c8 c9 c10 c11 c12 c13 c14 c15
 have HC2 := HR1.out _ S1.out.rh
 go_wp2_with fail
 refine HC2.mono ?_
 rintro e w2 ⟨rfl, hb⟩
 have S2a := Lib.hid (S1.out.low hb)
 have B0_1a := Lib.hid (B0_0.out.low hb)
 have hb2 := below_new w2 (.cells #[.int .i64 qk1, .int .i64 qn1, .string qs1] 29)
 have S2 := Lib.hid (S2a.out.low hb2)
 have B0_1 := Lib.hid (B0_1a.out.low hb2)
 have B1_1 := Lib.hid (Blk.new w2 29 [.int .i64 qk1, .int .i64 qn1, .string qs1])
 clear hb hb2 S2a S1 B0_0 B0_1a HC2 c1 c2 c3 c4 c5 c6 c7 c8 c9 c10 c11 c12 c13 c14 c15
 obtain ⟨⟨c1, c2, c3⟩, ⟨c4, c5, c6⟩, c7, ⟨c8, c9, c10, c11, c12, c13, c14⟩, c15⟩ := op_cells S2.out.op
 dsimp only at c1 c2 c3 c4 c5 c6 c7 c8 c9 c10 c11 c12 c13 c14 c15
 have HC3 := HG2.out _ S2.out.ph
 go_wp2_with fail
 refine HC3.mono ?_
 rintro e w3 ⟨rfl, hb⟩
 have S3a := Lib.hid (S2.out.low hb)
 have B0_2a := Lib.hid (B0_1.out.low hb)
 have B1_2a := Lib.hid (B1_1.out.low hb)
 have hb3 := below_new w3 (.cells #[.string qk2, .int .i64 qvk2, .int .i64 qvn2, .string qvs2, .bool qw2, .bool qe2, .bool qf2] 31)
 have S3 := Lib.hid (S3a.out.low hb3)
 have B0_2 := Lib.hid (B0_2a.out.low hb3)
 have B1_2 := Lib.hid (B1_2a.out.low hb3)
 have B2_2 := Lib.hid (Blk.new w3 31 [.string qk2, .int .i64 qvk2, .int .i64 qvn2, .string qvs2, .bool qw2, .bool qe2, .bool qf2])
 clear hb hb3 S3a S2 B0_1 B0_2a B1_1 B1_2a HC3 c1 c2 c3 c4 c5 c6 c7 c8 c9 c10 c11 c12 c13 c14 c15
 obtain ⟨⟨c1, c2, c3⟩, ⟨c4, c5, c6⟩, c7, ⟨c8, c9, c10, c11, c12, c13, c14⟩, c15⟩ := op_cells S3.out.op
 dsimp only at c1 c2 c3 c4 c5 c6 c7 c8 c9 c10 c11 c12 c13 c14 c15
 have HC4 := HR2.out _ S3.out.rh
 go_wp2_with fail
 refine HC4.mono ?_
 rintro e w4 ⟨rfl, hb⟩
 have S4a := Lib.hid (S3.out.low hb)
 have B0_3a := Lib.hid (B0_2.out.low hb)
 have B1_3a := Lib.hid (B1_2.out.low hb)
 have B2_3a := Lib.hid (B2_2.out.low hb)
 have hb4 := below_new w4 (.cells #[.string qk2, .int .i64 qvk2, .int .i64 qvn2, .string qvs2, .bool qw2, .bool qe2, .bool qf2] 31)
 have S4 := Lib.hid (S4a.out.low hb4)
 have B0_3 := Lib.hid (B0_3a.out.low hb4)
 have B1_3 := Lib.hid (B1_3a.out.low hb4)
 have B2_3 := Lib.hid (B2_3a.out.low hb4)
 have B3_3 := Lib.hid (Blk.new w4 31 [.string qk2, .int .i64 qvk2, .int .i64 qvn2, .string qvs2, .bool qw2, .bool qe2, .bool qf2])
 clear hb hb4 S4a S3 B0_2 B0_3a B1_2 B1_3a B2_2 B2_3a HC4 c1 c2 c3 c4 c5 c6 c7 c8 c9 c10 c11 c12 c13 c14 c15
 obtain ⟨d0, d1, d2⟩ := Blk.three (v := ⟨qk1, qn1, qs1⟩) B0_3.out
 obtain ⟨e0, e1, e2⟩ := Blk.three (v := ⟨qk1, qn1, qs1⟩) B1_3.out
 obtain ⟨f0, f1, f2, f3, f4, f5, f6⟩ := Blk.seven (p := ⟨qk2, ⟨qvk2, qvn2, qvs2⟩, qw2, qe2, qf2⟩) B2_3.out
 dsimp only at d0 d1 d2 e0 e1 e2 f0 f1 f2 f3 f4 f5 f6
 go_wp2_with fail
 all_goals refine bodyPost_ret (results_tmp rfl _ _ _) rfl ?_
 all_goals exact ⟨by simp, S4.out.bel⟩
theorem dl_5 (h : PH w A H ow L) (hr : RH w X H owx R) (hd : ∀ k, owx k ≠ none → ow k = none) (g : Gd H) (o : Op) (hkr : o.key.size ≤ 16777216) (sl : Value) (e : o.d = 5) :
  Calls Tryz.prog 11 #[pv A, pv X, opV o sl] w (DlR w A X ow owx (H.step ix dx LK AR o)) := by
 have hstep : Hid (H.step ix dx LK AR o = H) := by show Hs.step ix dx LK AR H o = _; unfold Hs.step; rw [e]; rfl
 rw [hstep.out]
 refine (rd_5 h hr g o hkr sl e).mono ?_
 rintro e w' ⟨rfl, hb⟩
 exact ⟨rfl, ow, L, owx, R, (Bth.start h hr hd).low hb⟩
end
section
variable {w : World} {ow owx : Nat → Option Nat} {A X : Nat} {H : Hs} {L : List OL} {R : List Value}
set_option maxRecDepth 20000 in
set_option maxHeartbeats 2000000 in
theorem dl_9 (h : PH w A H ow L) (hr : RH w X H owx R) (hd : ∀ k, owx k ≠ none → ow k = none) (g : Gd H) (o : Op) (_ : So o) {sl : Value} {bk : Nat} (hv : Vls w sl o.l bk) (hk : bk < w.heap.size ∧ ow bk = none ∧ owx bk = none) (hT : Tab w) (hTo : ow 0 = none ∧ owx 0 = none) (_ : o.l.length ≤ 4194304) (e : o.d = 9) :
  Calls Tryz.prog 11 #[pv A, pv X, opV o sl] w (DlR w A X ow owx (H.step ix dx LK AR o)) := by
 have hstep : Hid (H.step ix dx LK AR o = H.take.1) := by show Hs.step ix dx LK AR H o = _; unfold Hs.step; rw [e]; rfl
 rw [hstep.out]
 clear hstep
 have S0 := Lib.hid (DlS.new (o := o) h hr hd hv hk hT hTo)
 clear hv hk hT hTo hd h hr
 have hm : ∃ b, Calls Tryz.prog 43 #[pv A] (w.alloc (.cells (opC o sl).toArray 34)) (HpR (w.alloc (.cells (opC o sl).toArray 34)) A ow L (.bool b) H.take.1) ∧ ∀ (w1 : World), RH w1 X H owx R → Calls Tryz.prog 44 #[pv X] w1 (RpR w1 X owx (.bool b) H.take.1) := by
  rcases Nat.lt_or_ge H.n H.most with hm | hm
  ·refine ⟨true, (take_some S0.out.b.ph g hm).mono ?_, fun w1 hr => (rtake_some hr hm g.mx).mono ?_⟩
   ·rintro e w1 ⟨rfl, hp, hf⟩
    unfold Hs.take
    rw [if_neg (by omega)]
    exact ⟨rfl, ow, L, hp, fun _ e => .inl e, hf, [], by simp⟩
   ·rintro e w2 ⟨rfl, hp, hf⟩
    unfold Hs.take
    rw [if_neg (by omega)]
    exact ⟨rfl, owx, R, hp, fun _ e => .inl e, hf.mono fun k hk => ⟨hk.1, fun e => by have h2 := hk.2; rw [e, hr.wA] at h2; cases h2⟩⟩
  ·refine ⟨false, (take_none S0.out.b.ph g hm).mono ?_, fun w1 hr => (rtake_none hr hm).mono ?_⟩
   ·rintro e w1 ⟨rfl, hb⟩
    unfold Hs.take
    rw [if_pos hm]
    exact ⟨rfl, ow, L, Hch.below S0.out.b.ph hb⟩
   ·rintro e w2 ⟨rfl, hb⟩
    unfold Hs.take
    rw [if_pos hm]
    exact ⟨rfl, owx, R, Rch.below hr hb⟩
 obtain ⟨b, hm, hmx⟩ := hm
 have HM := Lib.hid hm
 have HX := Lib.hid hmx
 clear hm hmx g
 generalize H.take.1 = H1 at *
 obtain ⟨d, ⟨vk, vn, vs⟩, ⟨xk, xn, xs⟩, key, ⟨pk, ⟨pvk, pvn, pvs⟩, pw, pe, pf⟩, l⟩ := o
 dsimp only at e
 subst e
 simp only [opV] at S0 HM ⊢
 go_enter Tryz.func11, Tryz.ntmps11
 go_wp2_with fail
 refine HM.out.mono ?_
 rintro e w1 ⟨rfl, ow1, L1, hch⟩
 have S1 := Lib.hid (S0.out.nextH hch)
 clear hch HM S0
 have HC := HX.out _ S1.out.b.rh
 clear HX
 go_wp2_with fail
 refine HC.mono ?_
 rintro e w2 ⟨rfl, owx2, R2, hch⟩
 have S2 := Lib.hid (S1.out.nextX hch)
 clear hch HC S1
 go_wp2_with fail
 all_goals refine bodyPost_ret (results_tmp rfl _ _ _) rfl ?_
 all_goals exact ⟨by simp, ow1, L1, owx2, R2, S2.out.b⟩
set_option maxRecDepth 20000 in
set_option maxHeartbeats 2000000 in
theorem dl_n (h : PH w A H ow L) (hr : RH w X H owx R) (hd : ∀ k, owx k ≠ none → ow k = none) (_ : Gd H) (o : Op) (_ : So o) {sl : Value} {bk : Nat} (hv : Vls w sl o.l bk) (hk : bk < w.heap.size ∧ ow bk = none ∧ owx bk = none) (hT : Tab w) (hTo : ow 0 = none ∧ owx 0 = none) (_ : o.l.length ≤ 4194304) (e : o.d < 0 ∨ 9 < o.d) :
  Calls Tryz.prog 11 #[pv A, pv X, opV o sl] w (DlR w A X ow owx (H.step ix dx LK AR o)) := by
 have hne : (o.d == 0) = false ∧ (o.d == 1) = false ∧ (o.d == 2) = false ∧ (o.d == 3) = false ∧ (o.d == 4) = false ∧ (o.d == 5) = false ∧ (o.d == 6) = false ∧ (o.d == 7) = false ∧ (o.d == 8) = false ∧ (o.d == 9) = false := by
  simp only [beq_eq_false_iff_ne]
  omega
 have hstep : Hid (H.step ix dx LK AR o = H) := by
  show Hs.step ix dx LK AR H o = _
  unfold Hs.step
  rw [if_neg (by omega), if_neg (by omega), if_neg (by omega), if_neg (by omega), if_neg (by omega), if_neg (by omega), if_neg (by omega)]
 rw [hstep.out]
 clear hstep
 have S0 := Lib.hid (DlS.new (o := o) h hr hd hv hk hT hTo)
 clear hv hk hT hTo hd h hr
 obtain ⟨d, ⟨vk, vn, vs⟩, ⟨xk, xn, xs⟩, key, ⟨pk, ⟨pvk, pvn, pvs⟩, pw, pe, pf⟩, l⟩ := o
 dsimp only at e hne
 obtain ⟨n0, n1, n2, n3, n4, n5, n6, n7, n8, n9⟩ := hne
 clear e
 simp only [opV] at S0 ⊢
 go_enter Tryz.func11, Tryz.ntmps11
 go_wp2_with fail
 refine bodyPost_ret (results_tmp rfl _ _ _) rfl ?_
 exact ⟨rfl, ow, L, owx, R, S0.out.b⟩
end
end Go.Proofs.YtcahijpbkjplmaaGreatDoor.G
