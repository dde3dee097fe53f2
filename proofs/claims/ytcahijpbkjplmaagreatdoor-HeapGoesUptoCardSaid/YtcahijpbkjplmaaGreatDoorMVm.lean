/-
 do of a call number 2 beside a reference that stands as the heap does, by contract.
 do of a call number 3 beside a reference that stands as the heap does, by contract.
 do of a call number 4 beside a reference that stands as the heap does, by contract.
 do of a call number 7 beside a reference that stands as the heap does, by contract.
 do of a call number 6, 8 beside a reference that stands as the heap does, by contract.
 do beside a reference that stands as the heap does, by contract.
-/
import Derived.Test.YtcahijpbkjplmaaGreatDoorMVe
import Derived.Test.YtcahijpbkjplmaaGreatDoorMLn
import Derived.Test.YtcahijpbkjplmaaGreatDoorMZ0
import Derived.Test.YtcahijpbkjplmaaGreatDoorMLq
import Derived.Test.YtcahijpbkjplmaaGreatDoorMLj
import Derived.Test.YtcahijpbkjplmaaGreatDoorMTi
import Derived.Test.YtcahijpbkjplmaaGreatDoorMFl
import Derived.Test.YtcahijpbkjplmaaGreatDoorMFn
import Derived.Test.YtcahijpbkjplmaaGreatDoorMKf
set_option linter.unusedSimpArgs false
namespace Go.Proofs.YtcahijpbkjplmaaGreatDoor.G
open Go.RowKit Go.Shelf Go.Maps Go.Lib Go.Proofs.YtcahijpbkjplmaaGreatDoor
section
variable {w : World} {ow owx : Nat → Option Nat} {A X : Nat} {H : Hs} {L : List OL} {R : List Value}
set_option maxRecDepth 20000 in
set_option maxHeartbeats 2000000 in
theorem dl_2 (h : PH w A H ow L) (hr : RH w X H owx R) (hd : ∀ k, owx k ≠ none → ow k = none) (g : Gd H) (o : Op) (so : So o) {sl : Value} {bk : Nat} (hv : Vls w sl o.l bk) (hk : bk < w.heap.size ∧ ow bk = none ∧ owx bk = none) (hT : Tab w) (hTo : ow 0 = none ∧ owx 0 = none) (_ : o.l.length ≤ 4194304) (e : o.d = 2) :
  Calls Tryz.prog 11 #[pv A, pv X, opV o sl] w (DlR w A X ow owx (H.step ix dx LK AR o)) := by
 have hstep : Hid (H.step ix dx LK AR o = (H.put ix LK AR o.v o.key o.x).1) := by show Hs.step ix dx LK AR H o = _; unfold Hs.step; rw [e]; rfl
 rw [hstep.out]
 clear hstep
 have S0 := Lib.hid (DlS.new (o := o) h hr hd hv hk hT hTo)
 clear hv hk hT hTo hd h hr
 have SD := Lib.hid (S0.out.low (below_draw _))
 have hs0 := op_cells SD.out.op
 have HM := Lib.hid (put_any SD.out.b.ph g o.v o.key so.k o.x so.x)
 have HR1 := Lib.hid fun (w1 : World) (hp : RH w1 X H owx R) => rput_any hp g o.v o.key o.x so.k
 obtain ⟨H1, r, hr⟩ : ∃ H1 r, H.put ix LK AR o.v o.key o.x = (H1, r) := ⟨_, _, rfl⟩
 rw [hr] at HM HR1 ⊢
 clear hr g so
 obtain ⟨d, ⟨vk, vn, vs⟩, ⟨xk, xn, xs⟩, key, ⟨pk, ⟨pvk, pvn, pvs⟩, pw, pe, pf⟩, l⟩ := o
 dsimp only at e hs0
 subst e
 simp only [opV, Vl.v, Pr.v'] at S0 SD HM HR1 ⊢
 go_enter Tryz.func11, Tryz.ntmps11
 go_wp2_with fail
 refine wp_region_held_drew (S := (fun w' : World => (w'.cell? ⟨w.heap.size, 1, none⟩ = some (.int .i64 vk) ∧ w'.cell? ⟨w.heap.size, 2, none⟩ = some (.int .i64 vn) ∧ w'.cell? ⟨w.heap.size, 3, none⟩ = some (.string vs)) ∧ (w'.cell? ⟨w.heap.size, 4, none⟩ = some (.int .i64 xk) ∧ w'.cell? ⟨w.heap.size, 5, none⟩ = some (.int .i64 xn) ∧ w'.cell? ⟨w.heap.size, 6, none⟩ = some (.string xs)) ∧ w'.cell? ⟨w.heap.size, 7, none⟩ = some (.string key) ∧ (w'.cell? ⟨w.heap.size, 8, none⟩ = some (.string pk) ∧ w'.cell? ⟨w.heap.size, 9, none⟩ = some (.int .i64 pvk) ∧ w'.cell? ⟨w.heap.size, 10, none⟩ = some (.int .i64 pvn) ∧ w'.cell? ⟨w.heap.size, 11, none⟩ = some (.string pvs) ∧ w'.cell? ⟨w.heap.size, 12, none⟩ = some (.bool pw) ∧ w'.cell? ⟨w.heap.size, 13, none⟩ = some (.bool pe) ∧ w'.cell? ⟨w.heap.size, 14, none⟩ = some (.bool pf)) ∧ w'.cell? ⟨w.heap.size, 15, none⟩ = some sl)) (by kernel_rfl) (hs0) (fun hHeld0 => ?_)
 generalize World.drew _ = w0 at *
 clear hs0 S0
 refine tk 0 ?_ ‹_› ?_ ?_; rotate_left; focus (intro w0 hSw; obtain ⟨⟨e1, e2, e3⟩, ⟨e4, e5, e6⟩, e7, ⟨e8, e9, e10, e11, e12, e13, e14⟩, e15⟩ := hSw; go_simp; try with_reducible rfl)
 refine tk 1 ?_ ‹_› ?_ ?_; rotate_left; focus (intro w0 hSw; obtain ⟨⟨e1, e2, e3⟩, ⟨e4, e5, e6⟩, e7, ⟨e8, e9, e10, e11, e12, e13, e14⟩, e15⟩ := hSw; go_simp; try with_reducible rfl)
 refine tk 2 ?_ ‹_› ?_ ?_; rotate_left; focus (intro w0 hSw; obtain ⟨⟨e1, e2, e3⟩, ⟨e4, e5, e6⟩, e7, ⟨e8, e9, e10, e11, e12, e13, e14⟩, e15⟩ := hSw; go_simp; try with_reducible rfl)
 refine tk 3 ?_ ‹_› ?_ ?_; rotate_left; focus (intro w0 hSw; obtain ⟨⟨e1, e2, e3⟩, ⟨e4, e5, e6⟩, e7, ⟨e8, e9, e10, e11, e12, e13, e14⟩, e15⟩ := hSw; go_simp; try with_reducible rfl)
 refine tk 4 ?_ ‹_› ?_ ?_; rotate_left; focus (intro w0 hSw; obtain ⟨⟨e1, e2, e3⟩, ⟨e4, e5, e6⟩, e7, ⟨e8, e9, e10, e11, e12, e13, e14⟩, e15⟩ := hSw; go_simp; try with_reducible rfl)
 refine tk 5 ?_ ‹_› ?_ ?_; rotate_left; focus (intro w0 hSw; obtain ⟨⟨e1, e2, e3⟩, ⟨e4, e5, e6⟩, e7, ⟨e8, e9, e10, e11, e12, e13, e14⟩, e15⟩ := hSw; go_simp; try with_reducible rfl)
 refine tk 6 ?_ ‹_› ?_ ?_; rotate_left; focus (intro w0 hSw; obtain ⟨⟨e1, e2, e3⟩, ⟨e4, e5, e6⟩, e7, ⟨e8, e9, e10, e11, e12, e13, e14⟩, e15⟩ := hSw; go_simp; try with_reducible rfl)
 refine tk 8 ?_ ‹_› ?_ ?_; rotate_left; focus (intro w0 hSw; obtain ⟨⟨e1, e2, e3⟩, ⟨e4, e5, e6⟩, e7, ⟨e8, e9, e10, e11, e12, e13, e14⟩, e15⟩ := hSw; go_simp; try with_reducible rfl)
 refine tk 9 ?_ ‹_› ?_ ?_; rotate_left; focus (intro w0 hSw; obtain ⟨⟨e1, e2, e3⟩, ⟨e4, e5, e6⟩, e7, ⟨e8, e9, e10, e11, e12, e13, e14⟩, e15⟩ := hSw; go_simp; try with_reducible rfl)
 refine tk 10 ?_ ‹_› ?_ ?_; rotate_left; focus (intro w0 hSw; obtain ⟨⟨e1, e2, e3⟩, ⟨e4, e5, e6⟩, e7, ⟨e8, e9, e10, e11, e12, e13, e14⟩, e15⟩ := hSw; go_simp; try with_reducible rfl)
 refine tk 11 ?_ ‹_› ?_ ?_; rotate_left; focus (intro w0 hSw; obtain ⟨⟨e1, e2, e3⟩, ⟨e4, e5, e6⟩, e7, ⟨e8, e9, e10, e11, e12, e13, e14⟩, e15⟩ := hSw; go_simp; try with_reducible rfl)
 refine tk 12 ?_ ‹_› ?_ ?_; rotate_left; focus (intro w0 hSw; obtain ⟨⟨e1, e2, e3⟩, ⟨e4, e5, e6⟩, e7, ⟨e8, e9, e10, e11, e12, e13, e14⟩, e15⟩ := hSw; go_simp; try with_reducible rfl)
 refine tk 13 ?_ ‹_› ?_ ?_; rotate_left; focus (intro w0 hSw; obtain ⟨⟨e1, e2, e3⟩, ⟨e4, e5, e6⟩, e7, ⟨e8, e9, e10, e11, e12, e13, e14⟩, e15⟩ := hSw; go_simp; try with_reducible rfl)
 refine tk 14 ?_ ‹_› ?_ ?_; rotate_left; focus (intro w0 hSw; obtain ⟨⟨e1, e2, e3⟩, ⟨e4, e5, e6⟩, e7, ⟨e8, e9, e10, e11, e12, e13, e14⟩, e15⟩ := hSw; go_simp; try with_reducible rfl)
 try simp only [PT]
 refine wpAnyH_ready (rs := [7]) (by decide +kernel) (by simp) (AllReadyH.cons rfl (fun K hK => ?_) AllReadyH.nil)
 go_simp
 refine HM.out.mono ?_
 rintro e w1 ⟨rfl, ow1, L1, hch⟩
 have S1 := Lib.hid (SD.out.nextH hch)
 have hs1 := op_cells S1.out.op
 dsimp only at hs1
 clear hch HM SD
 refine hK.out _ _ hs1 (fun hHeld1 => ?_)
 clear hK K hHeld0 
 try simp only [PT]
 refine wpAnyH_ready (rs := [15]) (by decide +kernel) (by simp) (AllReadyH.cons rfl (fun K hK => ?_) AllReadyH.nil)
 have HC := HR1.out _ S1.out.b.rh
 clear HR1 hs1
 go_simp
 refine HC.mono ?_
 rintro e w2 ⟨rfl, owx2, R2, hch⟩
 have S2 := Lib.hid (S1.out.nextX hch)
 have hs2 := op_cells S2.out.op
 dsimp only at hs2
 clear hch HC S1
 refine hK.out _ _ hs2 (fun hHeld2 => ?_)
 clear hK K hHeld1 
 try simp only [PT]
 refine tk 16 ?_ ‹_› ?_ ?_; rotate_left; focus (intro w0 hSw; obtain ⟨⟨e1, e2, e3⟩, ⟨e4, e5, e6⟩, e7, ⟨e8, e9, e10, e11, e12, e13, e14⟩, e15⟩ := hSw; go_simp; try with_reducible rfl)
 refine tk 17 ?_ ‹_› ?_ ?_; rotate_left; focus (intro w0 hSw; obtain ⟨⟨e1, e2, e3⟩, ⟨e4, e5, e6⟩, e7, ⟨e8, e9, e10, e11, e12, e13, e14⟩, e15⟩ := hSw; go_simp; try with_reducible rfl)
 try simp only [PT]
 refine wpAnyH_done (by kernel_rfl) ?_ _
 clear hHeld2 hs2
 go_wp2_with fail
 refine bodyPost_ret (results_tmp rfl _ _ _) rfl ?_
 exact ⟨by simp, ow1, L1, owx2, R2, S2.out.b⟩
end
section
variable {w : World} {ow owx : Nat → Option Nat} {A X : Nat} {H : Hs} {L : List OL} {R : List Value}
set_option maxRecDepth 20000 in
set_option maxHeartbeats 2000000 in
theorem dl_3 (h : PH w A H ow L) (hr : RH w X H owx R) (hd : ∀ k, owx k ≠ none → ow k = none) (g : Gd H) (o : Op) (so : So o) {sl : Value} {bk : Nat} (hv : Vls w sl o.l bk) (hk : bk < w.heap.size ∧ ow bk = none ∧ owx bk = none) (hT : Tab w) (hTo : ow 0 = none ∧ owx 0 = none) (_ : o.l.length ≤ 4194304) (e : o.d = 3) :
  Calls Tryz.prog 11 #[pv A, pv X, opV o sl] w (DlR w A X ow owx (H.step ix dx LK AR o)) := by
 have hstep : Hid (H.step ix dx LK AR o = (H.define ix LK AR o.v o.p).1) := by show Hs.step ix dx LK AR H o = _; unfold Hs.step; rw [e]; rfl
 rw [hstep.out]
 clear hstep
 have S0 := Lib.hid (DlS.new (o := o) h hr hd hv hk hT hTo)
 clear hv hk hT hTo hd h hr
 have SD := Lib.hid (S0.out.low (below_draw _))
 have hs0 := op_cells SD.out.op
 have HM := Lib.hid (define_any SD.out.b.ph g o.v o.p so.p)
 have HR1 := Lib.hid fun (w1 : World) (hp : RH w1 X H owx R) => rdefine_any hp g o.v o.p so.p.1
 obtain ⟨H1, r, hr⟩ : ∃ H1 r, H.define ix LK AR o.v o.p = (H1, r) := ⟨_, _, rfl⟩
 rw [hr] at HM HR1 ⊢
 clear hr g so
 obtain ⟨d, ⟨vk, vn, vs⟩, ⟨xk, xn, xs⟩, key, ⟨pk, ⟨pvk, pvn, pvs⟩, pw, pe, pf⟩, l⟩ := o
 dsimp only at e hs0
 subst e
 simp only [opV, Vl.v, Pr.v'] at S0 SD HM HR1 ⊢
 go_enter Tryz.func11, Tryz.ntmps11
 go_wp2_with fail
 refine wp_region_held_drew (S := (fun w' : World => (w'.cell? ⟨w.heap.size, 1, none⟩ = some (.int .i64 vk) ∧ w'.cell? ⟨w.heap.size, 2, none⟩ = some (.int .i64 vn) ∧ w'.cell? ⟨w.heap.size, 3, none⟩ = some (.string vs)) ∧ (w'.cell? ⟨w.heap.size, 4, none⟩ = some (.int .i64 xk) ∧ w'.cell? ⟨w.heap.size, 5, none⟩ = some (.int .i64 xn) ∧ w'.cell? ⟨w.heap.size, 6, none⟩ = some (.string xs)) ∧ w'.cell? ⟨w.heap.size, 7, none⟩ = some (.string key) ∧ (w'.cell? ⟨w.heap.size, 8, none⟩ = some (.string pk) ∧ w'.cell? ⟨w.heap.size, 9, none⟩ = some (.int .i64 pvk) ∧ w'.cell? ⟨w.heap.size, 10, none⟩ = some (.int .i64 pvn) ∧ w'.cell? ⟨w.heap.size, 11, none⟩ = some (.string pvs) ∧ w'.cell? ⟨w.heap.size, 12, none⟩ = some (.bool pw) ∧ w'.cell? ⟨w.heap.size, 13, none⟩ = some (.bool pe) ∧ w'.cell? ⟨w.heap.size, 14, none⟩ = some (.bool pf)) ∧ w'.cell? ⟨w.heap.size, 15, none⟩ = some sl)) (by kernel_rfl) (hs0) (fun hHeld0 => ?_)
 generalize World.drew _ = w0 at *
 clear hs0 S0
 refine tk 0 ?_ ‹_› ?_ ?_; rotate_left; focus (intro w0 hSw; obtain ⟨⟨e1, e2, e3⟩, ⟨e4, e5, e6⟩, e7, ⟨e8, e9, e10, e11, e12, e13, e14⟩, e15⟩ := hSw; go_simp; try with_reducible rfl)
 refine tk 1 ?_ ‹_› ?_ ?_; rotate_left; focus (intro w0 hSw; obtain ⟨⟨e1, e2, e3⟩, ⟨e4, e5, e6⟩, e7, ⟨e8, e9, e10, e11, e12, e13, e14⟩, e15⟩ := hSw; go_simp; try with_reducible rfl)
 refine tk 2 ?_ ‹_› ?_ ?_; rotate_left; focus (intro w0 hSw; obtain ⟨⟨e1, e2, e3⟩, ⟨e4, e5, e6⟩, e7, ⟨e8, e9, e10, e11, e12, e13, e14⟩, e15⟩ := hSw; go_simp; try with_reducible rfl)
 refine tk 3 ?_ ‹_› ?_ ?_; rotate_left; focus (intro w0 hSw; obtain ⟨⟨e1, e2, e3⟩, ⟨e4, e5, e6⟩, e7, ⟨e8, e9, e10, e11, e12, e13, e14⟩, e15⟩ := hSw; go_simp; try with_reducible rfl)
 refine tk 4 ?_ ‹_› ?_ ?_; rotate_left; focus (intro w0 hSw; obtain ⟨⟨e1, e2, e3⟩, ⟨e4, e5, e6⟩, e7, ⟨e8, e9, e10, e11, e12, e13, e14⟩, e15⟩ := hSw; go_simp; try with_reducible rfl)
 refine tk 6 ?_ ‹_› ?_ ?_; rotate_left; focus (intro w0 hSw; obtain ⟨⟨e1, e2, e3⟩, ⟨e4, e5, e6⟩, e7, ⟨e8, e9, e10, e11, e12, e13, e14⟩, e15⟩ := hSw; go_simp; try with_reducible rfl)
 refine tk 7 ?_ ‹_› ?_ ?_; rotate_left; focus (intro w0 hSw; obtain ⟨⟨e1, e2, e3⟩, ⟨e4, e5, e6⟩, e7, ⟨e8, e9, e10, e11, e12, e13, e14⟩, e15⟩ := hSw; go_simp; try with_reducible rfl)
 refine tk 8 ?_ ‹_› ?_ ?_; rotate_left; focus (intro w0 hSw; obtain ⟨⟨e1, e2, e3⟩, ⟨e4, e5, e6⟩, e7, ⟨e8, e9, e10, e11, e12, e13, e14⟩, e15⟩ := hSw; go_simp; try with_reducible rfl)
 refine tk 9 ?_ ‹_› ?_ ?_; rotate_left; focus (intro w0 hSw; obtain ⟨⟨e1, e2, e3⟩, ⟨e4, e5, e6⟩, e7, ⟨e8, e9, e10, e11, e12, e13, e14⟩, e15⟩ := hSw; go_simp; try with_reducible rfl)
 refine tk 10 ?_ ‹_› ?_ ?_; rotate_left; focus (intro w0 hSw; obtain ⟨⟨e1, e2, e3⟩, ⟨e4, e5, e6⟩, e7, ⟨e8, e9, e10, e11, e12, e13, e14⟩, e15⟩ := hSw; go_simp; try with_reducible rfl)
 try simp only [PT]
 refine wpAnyH_ready (rs := [5]) (by decide +kernel) (by simp) (AllReadyH.cons rfl (fun K hK => ?_) AllReadyH.nil)
 go_simp
 refine HM.out.mono ?_
 rintro e w1 ⟨rfl, ow1, L1, hch⟩
 have S1 := Lib.hid (SD.out.nextH hch)
 have hs1 := op_cells S1.out.op
 dsimp only at hs1
 clear hch HM SD
 refine hK.out _ _ hs1 (fun hHeld1 => ?_)
 clear hK K hHeld0 
 try simp only [PT]
 refine wpAnyH_ready (rs := [11]) (by decide +kernel) (by simp) (AllReadyH.cons rfl (fun K hK => ?_) AllReadyH.nil)
 have HC := HR1.out _ S1.out.b.rh
 clear HR1 hs1
 go_simp
 refine HC.mono ?_
 rintro e w2 ⟨rfl, owx2, R2, hch⟩
 have S2 := Lib.hid (S1.out.nextX hch)
 have hs2 := op_cells S2.out.op
 dsimp only at hs2
 clear hch HC S1
 refine hK.out _ _ hs2 (fun hHeld2 => ?_)
 clear hK K hHeld1 
 try simp only [PT]
 refine tk 12 ?_ ‹_› ?_ ?_; rotate_left; focus (intro w0 hSw; obtain ⟨⟨e1, e2, e3⟩, ⟨e4, e5, e6⟩, e7, ⟨e8, e9, e10, e11, e12, e13, e14⟩, e15⟩ := hSw; go_simp; try with_reducible rfl)
 refine tk 13 ?_ ‹_› ?_ ?_; rotate_left; focus (intro w0 hSw; obtain ⟨⟨e1, e2, e3⟩, ⟨e4, e5, e6⟩, e7, ⟨e8, e9, e10, e11, e12, e13, e14⟩, e15⟩ := hSw; go_simp; try with_reducible rfl)
 try simp only [PT]
 refine wpAnyH_done (by kernel_rfl) ?_ _
 clear hHeld2 hs2
 go_wp2_with fail
 refine bodyPost_ret (results_tmp rfl _ _ _) rfl ?_
 exact ⟨by simp, ow1, L1, owx2, R2, S2.out.b⟩
end
section
variable {w : World} {ow owx : Nat → Option Nat} {A X : Nat} {H : Hs} {L : List OL} {R : List Value}
set_option maxRecDepth 20000 in
set_option maxHeartbeats 2000000 in
theorem dl_4 (h : PH w A H ow L) (hr : RH w X H owx R) (hd : ∀ k, owx k ≠ none → ow k = none) (g : Gd H) (o : Op) (so : So o) {sl : Value} {bk : Nat} (hv : Vls w sl o.l bk) (hk : bk < w.heap.size ∧ ow bk = none ∧ owx bk = none) (hT : Tab w) (hTo : ow 0 = none ∧ owx 0 = none) (_ : o.l.length ≤ 4194304) (e : o.d = 4) :
  Calls Tryz.prog 11 #[pv A, pv X, opV o sl] w (DlR w A X ow owx (H.step ix dx LK AR o)) := by
 have hstep : Hid (H.step ix dx LK AR o = (H.delete LK AR o.v o.key).1) := by show Hs.step ix dx LK AR H o = _; unfold Hs.step; rw [e]; rfl
 rw [hstep.out]
 clear hstep
 have S0 := Lib.hid (DlS.new (o := o) h hr hd hv hk hT hTo)
 clear hv hk hT hTo hd h hr
 have SD := Lib.hid (S0.out.low (below_draw _))
 have hs0 := op_cells SD.out.op
 have HM := Lib.hid (delete_any SD.out.b.ph g o.v o.key so.k)
 have HR1 := Lib.hid fun (w1 : World) (hp : RH w1 X H owx R) => rdelete_any hp g o.v o.key so.k
 obtain ⟨H1, r, hr⟩ : ∃ H1 r, H.delete LK AR o.v o.key = (H1, r) := ⟨_, _, rfl⟩
 rw [hr] at HM HR1 ⊢
 clear hr g so
 obtain ⟨d, ⟨vk, vn, vs⟩, ⟨xk, xn, xs⟩, key, ⟨pk, ⟨pvk, pvn, pvs⟩, pw, pe, pf⟩, l⟩ := o
 dsimp only at e hs0
 subst e
 simp only [opV, Vl.v, Pr.v'] at S0 SD HM HR1 ⊢
 go_enter Tryz.func11, Tryz.ntmps11
 go_wp2_with fail
 refine wp_region_held_drew (S := (fun w' : World => (w'.cell? ⟨w.heap.size, 1, none⟩ = some (.int .i64 vk) ∧ w'.cell? ⟨w.heap.size, 2, none⟩ = some (.int .i64 vn) ∧ w'.cell? ⟨w.heap.size, 3, none⟩ = some (.string vs)) ∧ (w'.cell? ⟨w.heap.size, 4, none⟩ = some (.int .i64 xk) ∧ w'.cell? ⟨w.heap.size, 5, none⟩ = some (.int .i64 xn) ∧ w'.cell? ⟨w.heap.size, 6, none⟩ = some (.string xs)) ∧ w'.cell? ⟨w.heap.size, 7, none⟩ = some (.string key) ∧ (w'.cell? ⟨w.heap.size, 8, none⟩ = some (.string pk) ∧ w'.cell? ⟨w.heap.size, 9, none⟩ = some (.int .i64 pvk) ∧ w'.cell? ⟨w.heap.size, 10, none⟩ = some (.int .i64 pvn) ∧ w'.cell? ⟨w.heap.size, 11, none⟩ = some (.string pvs) ∧ w'.cell? ⟨w.heap.size, 12, none⟩ = some (.bool pw) ∧ w'.cell? ⟨w.heap.size, 13, none⟩ = some (.bool pe) ∧ w'.cell? ⟨w.heap.size, 14, none⟩ = some (.bool pf)) ∧ w'.cell? ⟨w.heap.size, 15, none⟩ = some sl)) (by kernel_rfl) (hs0) (fun hHeld0 => ?_)
 generalize World.drew _ = w0 at *
 clear hs0 S0
 refine tk 0 ?_ ‹_› ?_ ?_; rotate_left; focus (intro w0 hSw; obtain ⟨⟨e1, e2, e3⟩, ⟨e4, e5, e6⟩, e7, ⟨e8, e9, e10, e11, e12, e13, e14⟩, e15⟩ := hSw; go_simp; try with_reducible rfl)
 refine tk 1 ?_ ‹_› ?_ ?_; rotate_left; focus (intro w0 hSw; obtain ⟨⟨e1, e2, e3⟩, ⟨e4, e5, e6⟩, e7, ⟨e8, e9, e10, e11, e12, e13, e14⟩, e15⟩ := hSw; go_simp; try with_reducible rfl)
 refine tk 2 ?_ ‹_› ?_ ?_; rotate_left; focus (intro w0 hSw; obtain ⟨⟨e1, e2, e3⟩, ⟨e4, e5, e6⟩, e7, ⟨e8, e9, e10, e11, e12, e13, e14⟩, e15⟩ := hSw; go_simp; try with_reducible rfl)
 refine tk 3 ?_ ‹_› ?_ ?_; rotate_left; focus (intro w0 hSw; obtain ⟨⟨e1, e2, e3⟩, ⟨e4, e5, e6⟩, e7, ⟨e8, e9, e10, e11, e12, e13, e14⟩, e15⟩ := hSw; go_simp; try with_reducible rfl)
 refine tk 4 ?_ ‹_› ?_ ?_; rotate_left; focus (intro w0 hSw; obtain ⟨⟨e1, e2, e3⟩, ⟨e4, e5, e6⟩, e7, ⟨e8, e9, e10, e11, e12, e13, e14⟩, e15⟩ := hSw; go_simp; try with_reducible rfl)
 refine tk 6 ?_ ‹_› ?_ ?_; rotate_left; focus (intro w0 hSw; obtain ⟨⟨e1, e2, e3⟩, ⟨e4, e5, e6⟩, e7, ⟨e8, e9, e10, e11, e12, e13, e14⟩, e15⟩ := hSw; go_simp; try with_reducible rfl)
 refine tk 7 ?_ ‹_› ?_ ?_; rotate_left; focus (intro w0 hSw; obtain ⟨⟨e1, e2, e3⟩, ⟨e4, e5, e6⟩, e7, ⟨e8, e9, e10, e11, e12, e13, e14⟩, e15⟩ := hSw; go_simp; try with_reducible rfl)
 refine tk 8 ?_ ‹_› ?_ ?_; rotate_left; focus (intro w0 hSw; obtain ⟨⟨e1, e2, e3⟩, ⟨e4, e5, e6⟩, e7, ⟨e8, e9, e10, e11, e12, e13, e14⟩, e15⟩ := hSw; go_simp; try with_reducible rfl)
 refine tk 9 ?_ ‹_› ?_ ?_; rotate_left; focus (intro w0 hSw; obtain ⟨⟨e1, e2, e3⟩, ⟨e4, e5, e6⟩, e7, ⟨e8, e9, e10, e11, e12, e13, e14⟩, e15⟩ := hSw; go_simp; try with_reducible rfl)
 refine tk 10 ?_ ‹_› ?_ ?_; rotate_left; focus (intro w0 hSw; obtain ⟨⟨e1, e2, e3⟩, ⟨e4, e5, e6⟩, e7, ⟨e8, e9, e10, e11, e12, e13, e14⟩, e15⟩ := hSw; go_simp; try with_reducible rfl)
 try simp only [PT]
 refine wpAnyH_ready (rs := [5]) (by decide +kernel) (by simp) (AllReadyH.cons rfl (fun K hK => ?_) AllReadyH.nil)
 go_simp
 refine HM.out.mono ?_
 rintro e w1 ⟨rfl, ow1, L1, hch⟩
 have S1 := Lib.hid (SD.out.nextH hch)
 have hs1 := op_cells S1.out.op
 dsimp only at hs1
 clear hch HM SD
 refine hK.out _ _ hs1 (fun hHeld1 => ?_)
 clear hK K hHeld0 
 try simp only [PT]
 refine wpAnyH_ready (rs := [11]) (by decide +kernel) (by simp) (AllReadyH.cons rfl (fun K hK => ?_) AllReadyH.nil)
 have HC := HR1.out _ S1.out.b.rh
 clear HR1 hs1
 go_simp
 refine HC.mono ?_
 rintro e w2 ⟨rfl, owx2, R2, hch⟩
 have S2 := Lib.hid (S1.out.nextX hch)
 have hs2 := op_cells S2.out.op
 dsimp only at hs2
 clear hch HC S1
 refine hK.out _ _ hs2 (fun hHeld2 => ?_)
 clear hK K hHeld1 
 try simp only [PT]
 refine tk 12 ?_ ‹_› ?_ ?_; rotate_left; focus (intro w0 hSw; obtain ⟨⟨e1, e2, e3⟩, ⟨e4, e5, e6⟩, e7, ⟨e8, e9, e10, e11, e12, e13, e14⟩, e15⟩ := hSw; go_simp; try with_reducible rfl)
 refine tk 13 ?_ ‹_› ?_ ?_; rotate_left; focus (intro w0 hSw; obtain ⟨⟨e1, e2, e3⟩, ⟨e4, e5, e6⟩, e7, ⟨e8, e9, e10, e11, e12, e13, e14⟩, e15⟩ := hSw; go_simp; try with_reducible rfl)
 try simp only [PT]
 refine wpAnyH_done (by kernel_rfl) ?_ _
 clear hHeld2 hs2
 go_wp2_with fail
 refine bodyPost_ret (results_tmp rfl _ _ _) rfl ?_
 exact ⟨by simp, ow1, L1, owx2, R2, S2.out.b⟩
end
section
variable {w : World} {ow owx : Nat → Option Nat} {A X : Nat} {H : Hs} {L : List OL} {R : List Value}
set_option maxRecDepth 20000 in
set_option maxHeartbeats 2000000 in
theorem dl_7 (h : PH w A H ow L) (hr : RH w X H owx R) (hd : ∀ k, owx k ≠ none → ow k = none) (g : Gd H) (o : Op) (_ : So o) {sl : Value} {bk : Nat} (hv : Vls w sl o.l bk) (hk : bk < w.heap.size ∧ ow bk = none ∧ owx bk = none) (hT : Tab w) (hTo : ow 0 = none ∧ owx 0 = none) (_ : o.l.length ≤ 4194304) (e : o.d = 7) :
  Calls Tryz.prog 11 #[pv A, pv X, opV o sl] w (DlR w A X ow owx (H.step ix dx LK AR o)) := by
 have hstep : Hid (H.step ix dx LK AR o = (H.close o.v).1) := by show Hs.step ix dx LK AR H o = _; unfold Hs.step; rw [e]; rfl
 rw [hstep.out]
 clear hstep
 have S0 := Lib.hid (DlS.new (o := o) h hr hd hv hk hT hTo)
 clear hv hk hT hTo hd h hr
 have SD := Lib.hid (S0.out.low (below_draw _))
 have hs0 := op_cells SD.out.op
 have HM := Lib.hid (close_any SD.out.b.ph g o.v)
 have HR1 := Lib.hid fun (w1 : World) (hp : RH w1 X H owx R) => rclose_any hp o.v g.os100
 obtain ⟨H1, r, hr⟩ : ∃ H1 r, H.close o.v = (H1, r) := ⟨_, _, rfl⟩
 rw [hr] at HM HR1 ⊢
 clear hr g
 obtain ⟨d, ⟨vk, vn, vs⟩, ⟨xk, xn, xs⟩, key, ⟨pk, ⟨pvk, pvn, pvs⟩, pw, pe, pf⟩, l⟩ := o
 dsimp only at e hs0
 subst e
 simp only [opV, Vl.v, Pr.v'] at S0 SD HM HR1 ⊢
 go_enter Tryz.func11, Tryz.ntmps11
 go_wp2_with fail
 refine wp_region_held_drew (S := (fun w' : World => (w'.cell? ⟨w.heap.size, 1, none⟩ = some (.int .i64 vk) ∧ w'.cell? ⟨w.heap.size, 2, none⟩ = some (.int .i64 vn) ∧ w'.cell? ⟨w.heap.size, 3, none⟩ = some (.string vs)) ∧ (w'.cell? ⟨w.heap.size, 4, none⟩ = some (.int .i64 xk) ∧ w'.cell? ⟨w.heap.size, 5, none⟩ = some (.int .i64 xn) ∧ w'.cell? ⟨w.heap.size, 6, none⟩ = some (.string xs)) ∧ w'.cell? ⟨w.heap.size, 7, none⟩ = some (.string key) ∧ (w'.cell? ⟨w.heap.size, 8, none⟩ = some (.string pk) ∧ w'.cell? ⟨w.heap.size, 9, none⟩ = some (.int .i64 pvk) ∧ w'.cell? ⟨w.heap.size, 10, none⟩ = some (.int .i64 pvn) ∧ w'.cell? ⟨w.heap.size, 11, none⟩ = some (.string pvs) ∧ w'.cell? ⟨w.heap.size, 12, none⟩ = some (.bool pw) ∧ w'.cell? ⟨w.heap.size, 13, none⟩ = some (.bool pe) ∧ w'.cell? ⟨w.heap.size, 14, none⟩ = some (.bool pf)) ∧ w'.cell? ⟨w.heap.size, 15, none⟩ = some sl)) (by kernel_rfl) (hs0) (fun hHeld0 => ?_)
 generalize World.drew _ = w0 at *
 clear hs0 S0
 refine tk 0 ?_ ‹_› ?_ ?_; rotate_left; focus (intro w0 hSw; obtain ⟨⟨e1, e2, e3⟩, ⟨e4, e5, e6⟩, e7, ⟨e8, e9, e10, e11, e12, e13, e14⟩, e15⟩ := hSw; go_simp; try with_reducible rfl)
 refine tk 1 ?_ ‹_› ?_ ?_; rotate_left; focus (intro w0 hSw; obtain ⟨⟨e1, e2, e3⟩, ⟨e4, e5, e6⟩, e7, ⟨e8, e9, e10, e11, e12, e13, e14⟩, e15⟩ := hSw; go_simp; try with_reducible rfl)
 refine tk 2 ?_ ‹_› ?_ ?_; rotate_left; focus (intro w0 hSw; obtain ⟨⟨e1, e2, e3⟩, ⟨e4, e5, e6⟩, e7, ⟨e8, e9, e10, e11, e12, e13, e14⟩, e15⟩ := hSw; go_simp; try with_reducible rfl)
 refine tk 4 ?_ ‹_› ?_ ?_; rotate_left; focus (intro w0 hSw; obtain ⟨⟨e1, e2, e3⟩, ⟨e4, e5, e6⟩, e7, ⟨e8, e9, e10, e11, e12, e13, e14⟩, e15⟩ := hSw; go_simp; try with_reducible rfl)
 refine tk 5 ?_ ‹_› ?_ ?_; rotate_left; focus (intro w0 hSw; obtain ⟨⟨e1, e2, e3⟩, ⟨e4, e5, e6⟩, e7, ⟨e8, e9, e10, e11, e12, e13, e14⟩, e15⟩ := hSw; go_simp; try with_reducible rfl)
 refine tk 6 ?_ ‹_› ?_ ?_; rotate_left; focus (intro w0 hSw; obtain ⟨⟨e1, e2, e3⟩, ⟨e4, e5, e6⟩, e7, ⟨e8, e9, e10, e11, e12, e13, e14⟩, e15⟩ := hSw; go_simp; try with_reducible rfl)
 try simp only [PT]
 refine wpAnyH_ready (rs := [3]) (by decide +kernel) (by simp) (AllReadyH.cons rfl (fun K hK => ?_) AllReadyH.nil)
 go_simp
 refine HM.out.mono ?_
 rintro e w1 ⟨rfl, ow1, L1, hch⟩
 have S1 := Lib.hid (SD.out.nextH hch)
 have hs1 := op_cells S1.out.op
 dsimp only at hs1
 clear hch HM SD
 refine hK.out _ _ hs1 (fun hHeld1 => ?_)
 clear hK K hHeld0 
 try simp only [PT]
 refine wpAnyH_ready (rs := [7]) (by decide +kernel) (by simp) (AllReadyH.cons rfl (fun K hK => ?_) AllReadyH.nil)
 have HC := HR1.out _ S1.out.b.rh
 clear HR1 hs1
 go_simp
 refine HC.mono ?_
 rintro e w2 ⟨rfl, owx2, R2, hch⟩
 have S2 := Lib.hid (S1.out.nextX hch)
 have hs2 := op_cells S2.out.op
 dsimp only at hs2
 clear hch HC S1
 refine hK.out _ _ hs2 (fun hHeld2 => ?_)
 clear hK K hHeld1 
 try simp only [PT]
 refine tk 8 ?_ ‹_› ?_ ?_; rotate_left; focus (intro w0 hSw; obtain ⟨⟨e1, e2, e3⟩, ⟨e4, e5, e6⟩, e7, ⟨e8, e9, e10, e11, e12, e13, e14⟩, e15⟩ := hSw; go_simp; try with_reducible rfl)
 refine tk 9 ?_ ‹_› ?_ ?_; rotate_left; focus (intro w0 hSw; obtain ⟨⟨e1, e2, e3⟩, ⟨e4, e5, e6⟩, e7, ⟨e8, e9, e10, e11, e12, e13, e14⟩, e15⟩ := hSw; go_simp; try with_reducible rfl)
 try simp only [PT]
 refine wpAnyH_done (by kernel_rfl) ?_ _
 clear hHeld2 hs2
 go_wp2_with fail
 refine bodyPost_ret (results_tmp rfl _ _ _) rfl ?_
 exact ⟨by simp, ow1, L1, owx2, R2, S2.out.b⟩
end
section
variable {w : World} {ow owx : Nat → Option Nat} {A X : Nat} {H : Hs} {L : List OL} {R : List Value}
theorem looks_live {w : World} (h : PH w A H ow L) (hr : RH w X H owx R) (g : Gd H) (v : Vl) : Calls Tryz.prog 14 #[pv A, pv X, v.v] w (AnsB w true) := by
 obtain ⟨n, is, hlen⟩ := lenR_is (H.obj v)
 have c1 := fun w1 hb => len_any (h.low (w' := w1) hb) g v
 have c2 := fun w1 hb => rlen_any (hr.low (w' := w1) hb) v g.os100
 rw [hlen] at c1 c2
 have h1 := looks_gen w A X v n n is is _ _ _ _ _ _ c1 c2 (fun w1 hb => class_any (h.low hb) g v) (fun w1 hb => rclass_any (hr.low hb) v g.os100) (fun w1 hb => proto_any (h.low hb) g v) (fun w1 hb => rproto_any (hr.low hb) v g.os100) (fun w1 hb => isopen_any (h.low hb) g v) (fun w1 hb => rIsOpen_any (hr.low hb) v g.os100)
 simp only [decide_true, beq_self_eq_true, Bool.and_self] at h1
 exact h1
set_option maxRecDepth 20000 in
set_option maxHeartbeats 2000000 in
theorem dl_8 (h : PH w A H ow L) (hr : RH w X H owx R) (hd : ∀ k, owx k ≠ none → ow k = none) (g : Gd H) (o : Op) (_ : So o) {sl : Value} {bk : Nat} (hv : Vls w sl o.l bk) (hk : bk < w.heap.size ∧ ow bk = none ∧ owx bk = none) (hT : Tab w) (hTo : ow 0 = none ∧ owx 0 = none) (_ : o.l.length ≤ 4194304) (e : o.d = 8) :
  Calls Tryz.prog 11 #[pv A, pv X, opV o sl] w (DlR w A X ow owx (H.step ix dx LK AR o)) := by
 have hstep : Hid (H.step ix dx LK AR o = H) := by show Hs.step ix dx LK AR H o = _; unfold Hs.step; rw [e]; rfl
 rw [hstep.out]
 clear hstep
 have S0 := Lib.hid (DlS.new (o := o) h hr hd hv hk hT hTo)
 clear hv hk hT hTo hd h hr
 have HM := Lib.hid (looks_live S0.out.b.ph S0.out.b.rh g o.v)
 clear g
 obtain ⟨d, ⟨vk, vn, vs⟩, ⟨xk, xn, xs⟩, key, ⟨pk, ⟨pvk, pvn, pvs⟩, pw, pe, pf⟩, l⟩ := o
 dsimp only at e
 subst e
 simp only [opV, Vl.v] at S0 HM ⊢
 go_enter Tryz.func11, Tryz.ntmps11
 go_wp2_with fail
 refine HM.out.mono ?_
 rintro e w1 ⟨rfl, hb⟩
 go_wp2_with fail
 refine bodyPost_ret (results_tmp rfl _ _ _) rfl ?_
 exact ⟨rfl, ow, L, owx, R, (S0.out.low hb).b⟩
theorem rd_6 (h : PH w A H ow L) (hr : RH w X H owx R) (g : Gd H) (o : Op) (sl : Value) (e : o.d = 6) :
  Calls Tryz.prog 11 #[pv A, pv X, opV o sl] w (AnsB w true) := by
 have h1 := do6_gen w A X o sl e (keysR (H.obj o.v)) (keysR (H.obj o.v)) (H.enum LK AR (H.at o.v)) (H.enum LK AR (H.at o.v)) (g.keys_len _) (g.keys_len _) (g.enum_len _) (g.enum_len _)
  (fun w1 hb => (keys_any (h.low hb) g o.v).mono fun e w2 ⟨r, e1, e2, e3⟩ => ⟨r, e1, e2.nm, e3⟩) (fun w1 hb => rkeys_any (hr.low hb) g o.v)
  (fun w1 hb => (enum_any (h.low hb) g o.v).mono fun e w2 ⟨r, e1, e2, e3⟩ => ⟨r, e1, e2.nm, e3⟩) (fun w1 hb => renum_any (hr.low hb) g o.v)
 simp only [decide_true, Bool.and_self] at h1
 exact h1
theorem dl_6 (h : PH w A H ow L) (hr : RH w X H owx R) (hd : ∀ k, owx k ≠ none → ow k = none) (g : Gd H) (o : Op) (sl : Value) (e : o.d = 6) :
  Calls Tryz.prog 11 #[pv A, pv X, opV o sl] w (DlR w A X ow owx (H.step ix dx LK AR o)) := by
 have hstep : Hid (H.step ix dx LK AR o = H) := by show Hs.step ix dx LK AR H o = _; unfold Hs.step; rw [e]; rfl
 rw [hstep.out]
 refine (rd_6 h hr g o sl e).mono ?_
 rintro e w' ⟨rfl, hb⟩
 exact ⟨rfl, ow, L, owx, R, (Bth.start h hr hd).low hb⟩
end
section
variable {w : World} {ow owx : Nat → Option Nat} {A X : Nat} {H : Hs} {L : List OL} {R : List Value}
theorem dl_any (h : PH w A H ow L) (hr : RH w X H owx R) (hd : ∀ k, owx k ≠ none → ow k = none) (g : Gd H) (o : Op) (so : So o) {sl : Value} {bk : Nat} (hv : Vls w sl o.l bk) (hk : bk < w.heap.size ∧ ow bk = none ∧ owx bk = none) (hT : Tab w) (hTo : ow 0 = none ∧ owx 0 = none) (hll : o.l.length ≤ 4194304)  :
  Calls Tryz.prog 11 #[pv A, pv X, opV o sl] w (DlR w A X ow owx (H.step ix dx LK AR o)) := by
 by_cases hn : o.d < 0 ∨ 9 < o.d
 ·exact dl_n h hr hd g o so hv hk hT hTo hll hn
 ·have hc : o.d = 0 ∨ o.d = 1 ∨ o.d = 2 ∨ o.d = 3 ∨ o.d = 4 ∨ o.d = 5 ∨ o.d = 6 ∨ o.d = 7 ∨ o.d = 8 ∨ o.d = 9 := by omega
  rcases hc with e | e | e | e | e | e | e | e | e | e
  ·exact dl_0 h hr hd g o so hv hk hT hTo hll e
  ·exact dl_1 h hr hd g o so hv hk hT hTo hll e
  ·exact dl_2 h hr hd g o so hv hk hT hTo hll e
  ·exact dl_3 h hr hd g o so hv hk hT hTo hll e
  ·exact dl_4 h hr hd g o so hv hk hT hTo hll e
  ·exact dl_5 h hr hd g o so.k sl e
  ·exact dl_6 h hr hd g o sl e
  ·exact dl_7 h hr hd g o so hv hk hT hTo hll e
  ·exact dl_8 h hr hd g o so hv hk hT hTo hll e
  ·exact dl_9 h hr hd g o so hv hk hT hTo hll e
end
end Go.Proofs.YtcahijpbkjplmaaGreatDoor.G
