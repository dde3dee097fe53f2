/-
  do of a call number 5 beside a reference where nothing is done, by contract. (gen_fa.py)
-/
import Derived.Test.YtcahijpbkjplmaaGreatDoorMFa
namespace Go.Proofs.YtcahijpbkjplmaaGreatDoor.G
open Go.RowKit Go.Shelf Go.Maps Go.Lib Go.Proofs.YtcahijpbkjplmaaGreatDoor

section
variable {w : World} {ow : Nat → Option Nat} {A X : Nat} {H : Hs} {L : List OL}
set_option linter.unusedSimpArgs false in
set_option maxRecDepth 20000 in
set_option maxHeartbeats 2000000 in
theorem do_5 (h : PH w A H ow L) (g : Gd H) (hd : Dr w X ow) (o : Op) (so : So o) {sl : Value} {bk : Nat} (hv : Vls w sl o.l bk) (hk : bk < w.heap.size ∧ ow bk = none) (hT : Tab w) (hTo : ow 0 = none) (_ : o.l.length ≤ 4194304) (e : o.d = 5) :
    Calls Tryz.prog 11 #[pv A, pv X, opV o sl] w (DoR w A ow L (H.step ix dx LK AR o)) := by
  have hstep : Hid (H.step ix dx LK AR o = H) := by show Hs.step ix dx LK AR H o = _; unfold Hs.step; rw [e]; rfl
  rw [hstep.out]
  clear hstep
  have S0 := Lib.hid (DoS.new (X := X) (o := o) h hd hv hk hT hTo)
  clear hv hk hT hTo hd h
  have hkm : o.key.size ≤ maxLen := by have := so.k; unfold maxLen; omega
  have HG1 := Lib.hid fun (w1 : World) (hp : PH w1 A H ow L) => get_any hp g o.v o.key hkm
  have HG2 := Lib.hid fun (w1 : World) (hp : PH w1 A H ow L) => Own_any hp g o.v o.key hkm
  have HR1 := Lib.hid fun (w1 : World) owx R (hr : RH w1 X (Hs.new 0) owx R) => rget_none hr o.v o.key (by decide) (new0_at _)
  have HR2 := Lib.hid fun (w1 : World) owx R (hr : RH w1 X (Hs.new 0) owx R) => rown_none hr o.v o.key (by decide) (new0_at _)
  obtain ⟨q1, b1, hq1⟩ := getR_is (H.find LK AR (H.at o.v) o.key)
  obtain ⟨q2, b2, hq2, -⟩ := ownR_is (H.ownV o.v o.key)
  rw [hq1] at HG1
  rw [hq2] at HG2
  clear hq1 hq2 hkm so g
  obtain ⟨d, ⟨vk, vn, vs⟩, ⟨xk, xn, xs⟩, key, ⟨pk, ⟨pvk, pvn, pvs⟩, pw, pe, pf⟩, l⟩ := o
  obtain ⟨qk1, qn1, qs1⟩ := q1
  obtain ⟨qk2, ⟨qvk2, qvn2, qvs2⟩, qw2, qe2, qf2⟩ := q2
  dsimp only at e
  subst e
  simp only [opV, Vl.v, Pr.v', getR, ownR, vl0, pr0] at S0 HG1 HG2 HR1 HR2 ⊢
  have HC1 := HG1.out _ S0.out.ch.ph
  go_enter Tryz.func11, Tryz.ntmps11
  go_wp2_with fail
  refine HC1.mono ?_
  rintro e w1 ⟨rfl, hb⟩
  have S1a := Lib.hid (S0.out.low hb)
  have hb1 := below_new w1 (.cells #[.int .i64 qk1, .int .i64 qn1, .string qs1] 29)
  have S1 := Lib.hid (S1a.out.low hb1)
  have B0_0 := Lib.hid (Blk.new w1 29 [.int .i64 qk1, .int .i64 qn1, .string qs1])
  clear hb hb1 S1a S0  HC1
  obtain ⟨⟨c1, c2, c3⟩, ⟨c4, c5, c6⟩, c7, ⟨c8, c9, c10, c11, c12, c13, c14⟩, c15⟩ := op_cells S1.out.op
  dsimp only at c1 c2 c3 c4 c5 c6 c7 c8 c9 c10 c11 c12 c13 c14 c15
  obtain ⟨owx, R, hrh, -⟩ := S1.out.dr
  have HC2 := HR1.out _ _ _ hrh
  clear hrh
  go_wp2_with fail
  refine HC2.mono ?_
  rintro e w2 ⟨rfl, hb⟩
  have S2a := Lib.hid (S1.out.low hb)
  have B0_1a := Lib.hid (B0_0.out.low hb)
  have hb2 := below_new w2 (.cells #[.int .i64 0, .int .i64 0, .string ⟨#[]⟩] 29)
  have S2 := Lib.hid (S2a.out.low hb2)
  have B0_1 := Lib.hid (B0_1a.out.low hb2)
  have B1_1 := Lib.hid (Blk.new w2 29 [.int .i64 0, .int .i64 0, .string ⟨#[]⟩])
  clear hb hb2 S2a S1 B0_0 B0_1a HC2 c1 c2 c3 c4 c5 c6 c7 c8 c9 c10 c11 c12 c13 c14 c15
  obtain ⟨⟨c1, c2, c3⟩, ⟨c4, c5, c6⟩, c7, ⟨c8, c9, c10, c11, c12, c13, c14⟩, c15⟩ := op_cells S2.out.op
  dsimp only at c1 c2 c3 c4 c5 c6 c7 c8 c9 c10 c11 c12 c13 c14 c15
  have HC3 := HG2.out _ S2.out.ch.ph
  go_wp2_with fail
  refine HC3.mono ?_
  rintro e w3 ⟨rfl, hb⟩
  have S3a := Lib.hid (S2.out.low hb)
  have B0_2a := Lib.hid (B0_1.out.low hb)
  have B1_2a := Lib.hid (B1_1.out.low hb)
  have hb3 := below_new w3 (.cells #[.string qk2, .int .i64 qvk2, .int .i64 qvn2, .string qvs2, .bool qw2, .bool qe2, .bool qf2] 31)
  have S3 := Lib.hid (S3a.out.low hb3)
  have B0_2 := Lib.hid (B0_2a.out.low hb3)
  have B1_2 := Lib.hid (B1_2a.out.low hb3)
  have B2_2 := Lib.hid (Blk.new w3 31 [.string qk2, .int .i64 qvk2, .int .i64 qvn2, .string qvs2, .bool qw2, .bool qe2, .bool qf2])
  clear hb hb3 S3a S2 B0_1 B0_2a B1_1 B1_2a HC3 c1 c2 c3 c4 c5 c6 c7 c8 c9 c10 c11 c12 c13 c14 c15
  obtain ⟨⟨c1, c2, c3⟩, ⟨c4, c5, c6⟩, c7, ⟨c8, c9, c10, c11, c12, c13, c14⟩, c15⟩ := op_cells S3.out.op
  dsimp only at c1 c2 c3 c4 c5 c6 c7 c8 c9 c10 c11 c12 c13 c14 c15
  obtain ⟨owx, R, hrh, -⟩ := S3.out.dr
  have HC4 := HR2.out _ _ _ hrh
  clear hrh
  go_wp2_with fail
  refine HC4.mono ?_
  rintro e w4 ⟨rfl, hb⟩
  have S4a := Lib.hid (S3.out.low hb)
  have B0_3a := Lib.hid (B0_2.out.low hb)
  have B1_3a := Lib.hid (B1_2.out.low hb)
  have B2_3a := Lib.hid (B2_2.out.low hb)
  have hb4 := below_new w4 (.cells #[.string ⟨#[]⟩, .int .i64 0, .int .i64 0, .string ⟨#[]⟩, .bool false, .bool false, .bool false] 31)
  have S4 := Lib.hid (S4a.out.low hb4)
  have B0_3 := Lib.hid (B0_3a.out.low hb4)
  have B1_3 := Lib.hid (B1_3a.out.low hb4)
  have B2_3 := Lib.hid (B2_3a.out.low hb4)
  have B3_3 := Lib.hid (Blk.new w4 31 [.string ⟨#[]⟩, .int .i64 0, .int .i64 0, .string ⟨#[]⟩, .bool false, .bool false, .bool false])
  clear hb hb4 S4a S3 B0_2 B0_3a B1_2 B1_3a B2_2 B2_3a HC4 c1 c2 c3 c4 c5 c6 c7 c8 c9 c10 c11 c12 c13 c14 c15
  obtain ⟨d0, d1, d2⟩ := Blk.three (v := ⟨qk1, qn1, qs1⟩) B0_3.out
  obtain ⟨e0, e1, e2⟩ := Blk.three (v := ⟨0, 0, ⟨#[]⟩⟩) B1_3.out
  obtain ⟨f0, f1, f2, f3, f4, f5, f6⟩ := Blk.seven (p := ⟨qk2, ⟨qvk2, qvn2, qvs2⟩, qw2, qe2, qf2⟩) B2_3.out
  dsimp only at d0 d1 d2 e0 e1 e2 f0 f1 f2 f3 f4 f5 f6
  go_wp2_with fail
  all_goals refine bodyPost_ret (results_tmp rfl _ _ _) rfl ?_
  all_goals exact ⟨_, rfl, ow, L, S4.out.ch⟩
end
end Go.Proofs.YtcahijpbkjplmaaGreatDoor.G
