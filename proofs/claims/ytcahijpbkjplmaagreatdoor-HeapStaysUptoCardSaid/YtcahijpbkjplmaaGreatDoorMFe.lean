/-
  do of a call number 0 beside a reference where nothing is done, by contract. (gen_fa.py)
  do of a call number 1 beside a reference where nothing is done, by contract. (gen_fa.py)
  do of a call number 9, or of another number beside a reference where nothing is done, by contract. (gen_fa.py)
-/
import Derived.Test.YtcahijpbkjplmaaGreatDoorMFa
namespace Go.Proofs.YtcahijpbkjplmaaGreatDoor.G
open Go.RowKit Go.Shelf Go.Maps Go.Lib Go.Proofs.YtcahijpbkjplmaaGreatDoor

section
variable {w : World} {ow : Nat → Option Nat} {A X : Nat} {H : Hs} {L : List OL}
set_option linter.unusedSimpArgs false in
set_option maxRecDepth 20000 in
set_option maxHeartbeats 2000000 in
theorem do_0 (h : PH w A H ow L) (g : Gd H) (hd : Dr w X ow) (o : Op) (so : So o) {sl : Value} {bk : Nat} (hv : Vls w sl o.l bk) (hk : bk < w.heap.size ∧ ow bk = none) (hT : Tab w) (hTo : ow 0 = none) (_ : o.l.length ≤ 4194304) (e : o.d = 0) :
    Calls Tryz.prog 11 #[pv A, pv X, opV o sl] w (DoR w A ow L (H.step ix dx LK AR o)) := by
  have hstep : Hid (H.step ix dx LK AR o = (H.make o.key o.v).1) := by show Hs.step ix dx LK AR H o = _; unfold Hs.step; rw [e]; rfl
  rw [hstep.out]
  clear hstep
  have S0 := Lib.hid (DoS.new (X := X) (o := o) h hd hv hk hT hTo)
  obtain ⟨sA, sc, hsl, -⟩ := id hv
  clear hv hk hT hTo hd h
  have HM := Lib.hid (make_any S0.out.ch.ph g o.key so.k o.v)
  have HRF := Lib.hid fun (w1 : World) owx R (hr : RH w1 X (Hs.new 0) owx R) => rmake_none hr o.key o.v (by decide)
  obtain ⟨q, b, hq⟩ := makeR_is (H.make o.key o.v).2
  rw [hq] at HM
  clear hq
  rw [hsl] at S0 HM ⊢
  clear so g
  generalize (H.make o.key o.v).1 = H1 at *
  obtain ⟨d, ⟨vk, vn, vs⟩, ⟨xk, xn, xs⟩, key, ⟨pk, ⟨pvk, pvn, pvs⟩, pw, pe, pf⟩, l⟩ := o
  obtain ⟨qk, qn, qs⟩ := q
  dsimp only at e
  subst e
  simp only [opV, Vl.v, makeR, vundef, nil] at S0 HM HRF ⊢
  go_enter Tryz.func11, Tryz.ntmps11
  go_wp2_with fail
  refine HM.out.mono ?_
  rintro e w1 ⟨rfl, ow1, L1, hch⟩
  have S1 := Lib.hid (S0.out.next hch)
  clear hch HM S0
  have hb := below_new w1 (.cells #[.int .i64 qk, .int .i64 qn, .string qs] 29)
  have S2 := Lib.hid (S1.out.low hb)
  have HQ := Lib.hid (Blk.new w1 29 [.int .i64 qk, .int .i64 qn, .string qs])
  clear hb
  obtain ⟨⟨c1, c2, c3⟩, ⟨c4, c5, c6⟩, c7, ⟨c8, c9, c10, c11, c12, c13, c14⟩, c15⟩ := op_cells S2.out.op
  dsimp only at c1 c2 c3 c4 c5 c6 c7 c8 c9 c10 c11 c12 c13 c14 c15
  obtain ⟨owx, R, hrh, -⟩ := S2.out.dr
  have HRM := Lib.hid (HRF.out _ _ _ hrh)
  clear hrh HRF
  go_wp2_with fail
  refine HRM.out.mono ?_
  rintro e w2 ⟨rfl, hb⟩
  have S3 := Lib.hid (S2.out.low hb)
  obtain ⟨d0, d1, d2⟩ := Blk.three (v := ⟨qk, qn, qs⟩) ((HQ.out.low hb).low (below_new w2 (.cells #[.int .i64 0, .int .i64 0, .string ⟨#[]⟩] 29)))
  dsimp only at d0 d1 d2
  clear c1 c2 c3 c4 c5 c6 c7 c8 c9 c10 c11 c12 c13 c14 c15 hb HRM S1 S2 HQ
  go_wp2_with fail
  all_goals refine bodyPost_ret (results_tmp rfl _ _ _) rfl ?_
  all_goals exact ⟨_, rfl, ow1, L1, (S3.out.low (below_new _ _)).ch⟩
end
end Go.Proofs.YtcahijpbkjplmaaGreatDoor.G
namespace Go.Proofs.YtcahijpbkjplmaaGreatDoor.G
open Go.RowKit Go.Shelf Go.Maps Go.Lib Go.Proofs.YtcahijpbkjplmaaGreatDoor

section
variable {w : World} {ow : Nat → Option Nat} {A X : Nat} {H : Hs} {L : List OL}
set_option linter.unusedSimpArgs false in
set_option maxRecDepth 20000 in
set_option maxHeartbeats 2000000 in
theorem do_1 (h : PH w A H ow L) (g : Gd H) (hd : Dr w X ow) (o : Op) (so : So o) {sl : Value} {bk : Nat} (hv : Vls w sl o.l bk) (hk : bk < w.heap.size ∧ ow bk = none) (hT : Tab w) (hTo : ow 0 = none) (hll : o.l.length ≤ 4194304) (e : o.d = 1) :
    Calls Tryz.prog 11 #[pv A, pv X, opV o sl] w (DoR w A ow L (H.step ix dx LK AR o)) := by
  have hstep : Hid (H.step ix dx LK AR o = (H.array dx AR o.v o.l).1) := by show Hs.step ix dx LK AR H o = _; unfold Hs.step; rw [e]; rfl
  rw [hstep.out]
  clear hstep
  have S0 := Lib.hid (DoS.new (X := X) (o := o) h hd hv hk hT hTo)
  obtain ⟨sA, sc, hsl, -⟩ := id hv
  clear hv hk hT hTo hd h
  have HM := Lib.hid (array_any S0.out.ch.ph g o.v o.l so.l S0.out.vl S0.out.wk S0.out.tb S0.out.wt hll)
  have HRF := Lib.hid fun (w1 : World) owx R (hr : RH w1 X (Hs.new 0) owx R) => rarray_none hr o.v sA o.l.length sc (.inr (Nat.lt_of_lt_of_le (Nat.zero_lt_succ _) (Nat.le_add_left _ _))) (by decide) (by decide)
  obtain ⟨q, b, hq⟩ := makeR_is (H.array dx AR o.v o.l).2
  rw [hq] at HM
  clear hq
  rw [hsl] at S0 HM ⊢
  clear hll so g
  generalize (H.array dx AR o.v o.l).1 = H1 at *
  obtain ⟨d, ⟨vk, vn, vs⟩, ⟨xk, xn, xs⟩, key, ⟨pk, ⟨pvk, pvn, pvs⟩, pw, pe, pf⟩, l⟩ := o
  obtain ⟨qk, qn, qs⟩ := q
  dsimp only at e
  subst e
  simp only [opV, Vl.v, makeR, vundef, nil] at S0 HM HRF ⊢
  go_enter Tryz.func11, Tryz.ntmps11
  go_wp2_with fail
  refine HM.out.mono ?_
  rintro e w1 ⟨rfl, ow1, L1, hch⟩
  have S1 := Lib.hid (S0.out.next hch)
  clear hch HM S0
  have hb := below_new w1 (.cells #[.int .i64 qk, .int .i64 qn, .string qs] 29)
  have S2 := Lib.hid (S1.out.low hb)
  have HQ := Lib.hid (Blk.new w1 29 [.int .i64 qk, .int .i64 qn, .string qs])
  clear hb
  obtain ⟨⟨c1, c2, c3⟩, ⟨c4, c5, c6⟩, c7, ⟨c8, c9, c10, c11, c12, c13, c14⟩, c15⟩ := op_cells S2.out.op
  dsimp only at c1 c2 c3 c4 c5 c6 c7 c8 c9 c10 c11 c12 c13 c14 c15
  obtain ⟨owx, R, hrh, -⟩ := S2.out.dr
  have HRM := Lib.hid (HRF.out _ _ _ hrh)
  clear hrh HRF
  go_wp2_with fail
  refine HRM.out.mono ?_
  rintro e w2 ⟨rfl, hb⟩
  have S3 := Lib.hid (S2.out.low hb)
  obtain ⟨d0, d1, d2⟩ := Blk.three (v := ⟨qk, qn, qs⟩) ((HQ.out.low hb).low (below_new w2 (.cells #[.int .i64 0, .int .i64 0, .string ⟨#[]⟩] 29)))
  dsimp only at d0 d1 d2
  clear c1 c2 c3 c4 c5 c6 c7 c8 c9 c10 c11 c12 c13 c14 c15 hb HRM S1 S2 HQ
  go_wp2_with fail
  all_goals refine bodyPost_ret (results_tmp rfl _ _ _) rfl ?_
  all_goals exact ⟨_, rfl, ow1, L1, (S3.out.low (below_new _ _)).ch⟩
end
end Go.Proofs.YtcahijpbkjplmaaGreatDoor.G
namespace Go.Proofs.YtcahijpbkjplmaaGreatDoor.G
open Go.RowKit Go.Shelf Go.Maps Go.Lib Go.Proofs.YtcahijpbkjplmaaGreatDoor

section
variable {w : World} {ow : Nat → Option Nat} {A X : Nat} {H : Hs} {L : List OL}
set_option linter.unusedSimpArgs false in
set_option maxRecDepth 20000 in
set_option maxHeartbeats 2000000 in
theorem do_9 (h : PH w A H ow L) (g : Gd H) (hd : Dr w X ow) (o : Op) (_ : So o) {sl : Value} {bk : Nat} (hv : Vls w sl o.l bk) (hk : bk < w.heap.size ∧ ow bk = none) (hT : Tab w) (hTo : ow 0 = none) (_ : o.l.length ≤ 4194304) (e : o.d = 9) :
    Calls Tryz.prog 11 #[pv A, pv X, opV o sl] w (DoR w A ow L (H.step ix dx LK AR o)) := by
  have hstep : Hid (H.step ix dx LK AR o = H.take.1) := by show Hs.step ix dx LK AR H o = _; unfold Hs.step; rw [e]; rfl
  rw [hstep.out]
  clear hstep
  have S0 := Lib.hid (DoS.new (X := X) (o := o) h hd hv hk hT hTo)
  clear hv hk hT hTo hd h
  have HR1 := Lib.hid fun (w1 : World) owx R (hr : RH w1 X (Hs.new 0) owx R) => rtake_none hr (by decide)
  have hm : ∃ b, Calls Tryz.prog 43 #[pv A] (w.alloc (.cells (opC o sl).toArray 34)) (HpR (w.alloc (.cells (opC o sl).toArray 34)) A ow L (.bool b) H.take.1) := by
    rcases Nat.lt_or_ge H.n H.most with hm | hm
    · refine ⟨true, (take_some S0.out.ch.ph g hm).mono ?_⟩
      rintro e w1 ⟨rfl, hp, hf⟩
      unfold Hs.take
      rw [if_neg (by omega)]
      exact ⟨rfl, ow, L, hp, fun _ e => .inl e, hf, [], by simp⟩
    · refine ⟨false, (take_none S0.out.ch.ph g hm).mono ?_⟩
      rintro e w1 ⟨rfl, hb⟩
      unfold Hs.take
      rw [if_pos hm]
      exact ⟨rfl, ow, L, Hch.below S0.out.ch.ph hb⟩
  obtain ⟨b, hm⟩ := hm
  have HM := Lib.hid hm
  clear hm g
  generalize H.take.1 = H1 at *
  obtain ⟨d, ⟨vk, vn, vs⟩, ⟨xk, xn, xs⟩, key, ⟨pk, ⟨pvk, pvn, pvs⟩, pw, pe, pf⟩, l⟩ := o
  dsimp only at e
  subst e
  simp only [opV] at S0 HM ⊢
  go_enter Tryz.func11, Tryz.ntmps11
  go_wp2_with fail
  refine HM.out.mono ?_
  rintro e w1 ⟨rfl, ow1, L1, hch⟩
  have S1 := Lib.hid (S0.out.next hch)
  clear hch HM S0
  obtain ⟨owx, R, hrh, -⟩ := S1.out.dr
  have HC := HR1.out _ _ _ hrh
  clear hrh HR1
  go_wp2_with fail
  refine HC.mono ?_
  rintro e w2 ⟨rfl, hb⟩
  go_wp2_with fail
  all_goals refine bodyPost_ret (results_tmp rfl _ _ _) rfl ?_
  all_goals exact ⟨_, rfl, ow1, L1, (S1.out.low hb).ch⟩
set_option linter.unusedSimpArgs false in
set_option maxRecDepth 20000 in
set_option maxHeartbeats 2000000 in
theorem do_n (h : PH w A H ow L) (_ : Gd H) (hd : Dr w X ow) (o : Op) (_ : So o) {sl : Value} {bk : Nat} (hv : Vls w sl o.l bk) (hk : bk < w.heap.size ∧ ow bk = none) (hT : Tab w) (hTo : ow 0 = none) (_ : o.l.length ≤ 4194304) (e : o.d < 0 ∨ 9 < o.d) :
    Calls Tryz.prog 11 #[pv A, pv X, opV o sl] w (DoR w A ow L (H.step ix dx LK AR o)) := by
  have hne : (o.d == 0) = false ∧ (o.d == 1) = false ∧ (o.d == 2) = false ∧ (o.d == 3) = false ∧ (o.d == 4) = false ∧ (o.d == 5) = false ∧ (o.d == 6) = false ∧ (o.d == 7) = false ∧ (o.d == 8) = false ∧ (o.d == 9) = false := by
    simp only [beq_eq_false_iff_ne]
    omega
  have hstep : Hid (H.step ix dx LK AR o = H) := by
    show Hs.step ix dx LK AR H o = _
    unfold Hs.step
    rw [if_neg (by omega), if_neg (by omega), if_neg (by omega), if_neg (by omega), if_neg (by omega), if_neg (by omega), if_neg (by omega)]
  rw [hstep.out]
  clear hstep
  have S0 := Lib.hid (DoS.new (X := X) (o := o) h hd hv hk hT hTo)
  clear hv hk hT hTo hd h
  obtain ⟨d, ⟨vk, vn, vs⟩, ⟨xk, xn, xs⟩, key, ⟨pk, ⟨pvk, pvn, pvs⟩, pw, pe, pf⟩, l⟩ := o
  dsimp only at e hne
  obtain ⟨n0, n1, n2, n3, n4, n5, n6, n7, n8, n9⟩ := hne
  clear e
  simp only [opV] at S0 ⊢
  go_enter Tryz.func11, Tryz.ntmps11
  go_wp2_with fail
  refine bodyPost_ret (results_tmp rfl _ _ _) rfl ?_
  exact ⟨_, rfl, ow, L, S0.out.ch⟩
end
end Go.Proofs.YtcahijpbkjplmaaGreatDoor.G
