/-
  do of a call number 4 beside a reference where nothing is done, by contract. (gen_fa.py)
  do of a call number 7 beside a reference where nothing is done, by contract. (gen_fa.py)
-/
import Derived.Test.YtcahijpbkjplmaaGreatDoorMFa
namespace Go.Proofs.YtcahijpbkjplmaaGreatDoor.G
open Go.RowKit Go.Shelf Go.Maps Go.Lib Go.Proofs.YtcahijpbkjplmaaGreatDoor

section
variable {w : World} {ow : Nat → Option Nat} {A X : Nat} {H : Hs} {L : List OL}
set_option linter.unusedSimpArgs false in
set_option maxRecDepth 20000 in
set_option maxHeartbeats 2000000 in
theorem do_4 (h : PH w A H ow L) (g : Gd H) (hd : Dr w X ow) (o : Op) (so : So o) {sl : Value} {bk : Nat} (hv : Vls w sl o.l bk) (hk : bk < w.heap.size ∧ ow bk = none) (hT : Tab w) (hTo : ow 0 = none) (_ : o.l.length ≤ 4194304) (e : o.d = 4) :
    Calls Tryz.prog 11 #[pv A, pv X, opV o sl] w (DoR w A ow L (H.step ix dx LK AR o)) := by
  have hstep : Hid (H.step ix dx LK AR o = (H.delete LK AR o.v o.key).1) := by show Hs.step ix dx LK AR H o = _; unfold Hs.step; rw [e]; rfl
  rw [hstep.out]
  clear hstep
  have S0 := Lib.hid (DoS.new (X := X) (o := o) h hd hv hk hT hTo)
  clear hv hk hT hTo hd h
  have SD := Lib.hid (S0.out.low (below_draw _))
  have hs0 := op_cells SD.out.op
  have HM := Lib.hid (delete_any SD.out.ch.ph g o.v o.key so.k)
  have HR1 := Lib.hid fun (w1 : World) owx R (hr : RH w1 X (Hs.new 0) owx R) => rdelete_none hr o.v o.key (by decide) (new0_at _)
  obtain ⟨H1, r, hr⟩ : ∃ H1 r, H.delete LK AR o.v o.key = (H1, r) := ⟨_, _, rfl⟩
  rw [hr] at HM ⊢
  clear hr g so
  obtain ⟨d, ⟨vk, vn, vs⟩, ⟨xk, xn, xs⟩, key, ⟨pk, ⟨pvk, pvn, pvs⟩, pw, pe, pf⟩, l⟩ := o
  dsimp only at e hs0
  subst e
  simp only [opV, Vl.v, Pr.v'] at S0 SD HM HR1 ⊢
  go_enter Tryz.func11, Tryz.ntmps11
  go_wp2_with fail
  refine wp_region_held_drew (S := (fun w' : World => (w'.cell? ⟨w.heap.size, 1, none⟩ = some (.int .i64 vk) ∧ w'.cell? ⟨w.heap.size, 2, none⟩ = some (.int .i64 vn) ∧ w'.cell? ⟨w.heap.size, 3, none⟩ = some (.string vs)) ∧ (w'.cell? ⟨w.heap.size, 4, none⟩ = some (.int .i64 xk) ∧ w'.cell? ⟨w.heap.size, 5, none⟩ = some (.int .i64 xn) ∧ w'.cell? ⟨w.heap.size, 6, none⟩ = some (.string xs)) ∧ w'.cell? ⟨w.heap.size, 7, none⟩ = some (.string key) ∧ (w'.cell? ⟨w.heap.size, 8, none⟩ = some (.string pk) ∧ w'.cell? ⟨w.heap.size, 9, none⟩ = some (.int .i64 pvk) ∧ w'.cell? ⟨w.heap.size, 10, none⟩ = some (.int .i64 pvn) ∧ w'.cell? ⟨w.heap.size, 11, none⟩ = some (.string pvs) ∧ w'.cell? ⟨w.heap.size, 12, none⟩ = some (.bool pw) ∧ w'.cell? ⟨w.heap.size, 13, none⟩ = some (.bool pe) ∧ w'.cell? ⟨w.heap.size, 14, none⟩ = some (.bool pf)) ∧ w'.cell? ⟨w.heap.size, 15, none⟩ = some sl)) (by kernel_rfl) (hs0) (fun hHeld0 => ?_)
  generalize World.drew _ = w0 at *
  clear hs0 S0
  (refine wpAnyH_take (i := 0) (v := ?_) rfl (by kernel_rfl) (by decide +kernel) (by decide +kernel) (fun _ _ _ h => h) (Or.inl ⟨by rfl, ?_⟩) (by assumption) ?_; rotate_left; (focus (intro w0 hSw; obtain ⟨⟨e1, e2, e3⟩, ⟨e4, e5, e6⟩, e7, ⟨e8, e9, e10, e11, e12, e13, e14⟩, e15⟩ := hSw; go_simp; (try with_reducible rfl); done)))
  (refine wpAnyH_take (i := 1) (v := ?_) rfl (by kernel_rfl) (by decide +kernel) (by decide +kernel) (fun _ _ _ h => h) (Or.inl ⟨by rfl, ?_⟩) (by assumption) ?_; rotate_left; (focus (intro w0 hSw; obtain ⟨⟨e1, e2, e3⟩, ⟨e4, e5, e6⟩, e7, ⟨e8, e9, e10, e11, e12, e13, e14⟩, e15⟩ := hSw; go_simp; (try with_reducible rfl); done)))
  (refine wpAnyH_take (i := 2) (v := ?_) rfl (by kernel_rfl) (by decide +kernel) (by decide +kernel) (fun _ _ _ h => h) (Or.inl ⟨by rfl, ?_⟩) (by assumption) ?_; rotate_left; (focus (intro w0 hSw; obtain ⟨⟨e1, e2, e3⟩, ⟨e4, e5, e6⟩, e7, ⟨e8, e9, e10, e11, e12, e13, e14⟩, e15⟩ := hSw; go_simp; (try with_reducible rfl); done)))
  (refine wpAnyH_take (i := 3) (v := ?_) rfl (by kernel_rfl) (by decide +kernel) (by decide +kernel) (fun _ _ _ h => h) (Or.inl ⟨by rfl, ?_⟩) (by assumption) ?_; rotate_left; (focus (intro w0 hSw; obtain ⟨⟨e1, e2, e3⟩, ⟨e4, e5, e6⟩, e7, ⟨e8, e9, e10, e11, e12, e13, e14⟩, e15⟩ := hSw; go_simp; (try with_reducible rfl); done)))
  (refine wpAnyH_take (i := 4) (v := ?_) rfl (by kernel_rfl) (by decide +kernel) (by decide +kernel) (fun _ _ _ h => h) (Or.inl ⟨by rfl, ?_⟩) (by assumption) ?_; rotate_left; (focus (intro w0 hSw; obtain ⟨⟨e1, e2, e3⟩, ⟨e4, e5, e6⟩, e7, ⟨e8, e9, e10, e11, e12, e13, e14⟩, e15⟩ := hSw; go_simp; (try with_reducible rfl); done)))
  (refine wpAnyH_take (i := 6) (v := ?_) rfl (by kernel_rfl) (by decide +kernel) (by decide +kernel) (fun _ _ _ h => h) (Or.inl ⟨by rfl, ?_⟩) (by assumption) ?_; rotate_left; (focus (intro w0 hSw; obtain ⟨⟨e1, e2, e3⟩, ⟨e4, e5, e6⟩, e7, ⟨e8, e9, e10, e11, e12, e13, e14⟩, e15⟩ := hSw; go_simp; (try with_reducible rfl); done)))
  (refine wpAnyH_take (i := 7) (v := ?_) rfl (by kernel_rfl) (by decide +kernel) (by decide +kernel) (fun _ _ _ h => h) (Or.inl ⟨by rfl, ?_⟩) (by assumption) ?_; rotate_left; (focus (intro w0 hSw; obtain ⟨⟨e1, e2, e3⟩, ⟨e4, e5, e6⟩, e7, ⟨e8, e9, e10, e11, e12, e13, e14⟩, e15⟩ := hSw; go_simp; (try with_reducible rfl); done)))
  (refine wpAnyH_take (i := 8) (v := ?_) rfl (by kernel_rfl) (by decide +kernel) (by decide +kernel) (fun _ _ _ h => h) (Or.inl ⟨by rfl, ?_⟩) (by assumption) ?_; rotate_left; (focus (intro w0 hSw; obtain ⟨⟨e1, e2, e3⟩, ⟨e4, e5, e6⟩, e7, ⟨e8, e9, e10, e11, e12, e13, e14⟩, e15⟩ := hSw; go_simp; (try with_reducible rfl); done)))
  (refine wpAnyH_take (i := 9) (v := ?_) rfl (by kernel_rfl) (by decide +kernel) (by decide +kernel) (fun _ _ _ h => h) (Or.inl ⟨by rfl, ?_⟩) (by assumption) ?_; rotate_left; (focus (intro w0 hSw; obtain ⟨⟨e1, e2, e3⟩, ⟨e4, e5, e6⟩, e7, ⟨e8, e9, e10, e11, e12, e13, e14⟩, e15⟩ := hSw; go_simp; (try with_reducible rfl); done)))
  (refine wpAnyH_take (i := 10) (v := ?_) rfl (by kernel_rfl) (by decide +kernel) (by decide +kernel) (fun _ _ _ h => h) (Or.inl ⟨by rfl, ?_⟩) (by assumption) ?_; rotate_left; (focus (intro w0 hSw; obtain ⟨⟨e1, e2, e3⟩, ⟨e4, e5, e6⟩, e7, ⟨e8, e9, e10, e11, e12, e13, e14⟩, e15⟩ := hSw; go_simp; (try with_reducible rfl); done)))
  try simp only [List.getElem_toArray, List.getElem_cons_zero, List.getElem_cons_succ, Act.put, List.setIfInBounds_toArray, List.set_cons_zero, List.set_cons_succ]
  refine wpAnyH_ready (rs := [5]) (by decide +kernel) (by simp) (AllReadyH.cons rfl (fun K hK => ?_) AllReadyH.nil)
  go_simp
  refine HM.out.mono ?_
  rintro e w1 ⟨rfl, ow1, L1, hch⟩
  have S1 := Lib.hid (SD.out.next hch)
  have hs1 := op_cells S1.out.op
  dsimp only at hs1
  clear hch HM SD
  refine hK.out _ _ hs1 (fun hHeld1 => ?_)
  clear hK K hHeld0 
  try simp only [List.getElem_toArray, List.getElem_cons_zero, List.getElem_cons_succ, Act.put, List.setIfInBounds_toArray, List.set_cons_zero, List.set_cons_succ]
  refine wpAnyH_ready (rs := [11]) (by decide +kernel) (by simp) (AllReadyH.cons rfl (fun K hK => ?_) AllReadyH.nil)
  obtain ⟨owx, R, hrh, -⟩ := S1.out.dr
  have HC := HR1.out _ _ _ hrh
  clear hrh HR1 hs1
  go_simp
  refine HC.mono ?_
  rintro e w2 ⟨rfl, hb⟩
  have S2 := Lib.hid (S1.out.low hb)
  have hs2 := op_cells S2.out.op
  dsimp only at hs2
  clear hb HC S1
  refine hK.out _ _ hs2 (fun hHeld2 => ?_)
  clear hK K hHeld1 
  try simp only [List.getElem_toArray, List.getElem_cons_zero, List.getElem_cons_succ, Act.put, List.setIfInBounds_toArray, List.set_cons_zero, List.set_cons_succ]
  (refine wpAnyH_take (i := 12) (v := ?_) rfl (by kernel_rfl) (by decide +kernel) (by decide +kernel) (fun _ _ _ h => h) (Or.inl ⟨by rfl, ?_⟩) (by assumption) ?_; rotate_left; (focus (intro w0 hSw; obtain ⟨⟨e1, e2, e3⟩, ⟨e4, e5, e6⟩, e7, ⟨e8, e9, e10, e11, e12, e13, e14⟩, e15⟩ := hSw; go_simp; (try with_reducible rfl); done)))
  (refine wpAnyH_take (i := 13) (v := ?_) rfl (by kernel_rfl) (by decide +kernel) (by decide +kernel) (fun _ _ _ h => h) (Or.inl ⟨by rfl, ?_⟩) (by assumption) ?_; rotate_left; (focus (intro w0 hSw; obtain ⟨⟨e1, e2, e3⟩, ⟨e4, e5, e6⟩, e7, ⟨e8, e9, e10, e11, e12, e13, e14⟩, e15⟩ := hSw; go_simp; (try with_reducible rfl); done)))
  try simp only [List.getElem_toArray, List.getElem_cons_zero, List.getElem_cons_succ, Act.put, List.setIfInBounds_toArray, List.set_cons_zero, List.set_cons_succ]
  refine wpAnyH_done (by kernel_rfl) ?_ _
  clear hHeld2 hs2
  go_wp2_with fail
  refine bodyPost_ret (results_tmp rfl _ _ _) rfl ?_
  exact ⟨_, rfl, ow1, L1, S2.out.ch⟩
end
end Go.Proofs.YtcahijpbkjplmaaGreatDoor.G
namespace Go.Proofs.YtcahijpbkjplmaaGreatDoor.G
open Go.RowKit Go.Shelf Go.Maps Go.Lib Go.Proofs.YtcahijpbkjplmaaGreatDoor

section
variable {w : World} {ow : Nat → Option Nat} {A X : Nat} {H : Hs} {L : List OL}
set_option linter.unusedSimpArgs false in
set_option maxRecDepth 20000 in
set_option maxHeartbeats 2000000 in
theorem do_7 (h : PH w A H ow L) (g : Gd H) (hd : Dr w X ow) (o : Op) (_ : So o) {sl : Value} {bk : Nat} (hv : Vls w sl o.l bk) (hk : bk < w.heap.size ∧ ow bk = none) (hT : Tab w) (hTo : ow 0 = none) (_ : o.l.length ≤ 4194304) (e : o.d = 7) :
    Calls Tryz.prog 11 #[pv A, pv X, opV o sl] w (DoR w A ow L (H.step ix dx LK AR o)) := by
  have hstep : Hid (H.step ix dx LK AR o = (H.close o.v).1) := by show Hs.step ix dx LK AR H o = _; unfold Hs.step; rw [e]; rfl
  rw [hstep.out]
  clear hstep
  have S0 := Lib.hid (DoS.new (X := X) (o := o) h hd hv hk hT hTo)
  clear hv hk hT hTo hd h
  have SD := Lib.hid (S0.out.low (below_draw _))
  have hs0 := op_cells SD.out.op
  have HM := Lib.hid (close_any SD.out.ch.ph g o.v)
  have HR1 := Lib.hid fun (w1 : World) owx R (hr : RH w1 X (Hs.new 0) owx R) => rclose_none hr o.v (by decide) (new0_at _)
  obtain ⟨H1, r, hr⟩ : ∃ H1 r, H.close o.v = (H1, r) := ⟨_, _, rfl⟩
  rw [hr] at HM ⊢
  clear hr g
  obtain ⟨d, ⟨vk, vn, vs⟩, ⟨xk, xn, xs⟩, key, ⟨pk, ⟨pvk, pvn, pvs⟩, pw, pe, pf⟩, l⟩ := o
  dsimp only at e hs0
  subst e
  simp only [opV, Vl.v, Pr.v'] at S0 SD HM HR1 ⊢
  go_enter Tryz.func11, Tryz.ntmps11
  go_wp2_with fail
  refine wp_region_held_drew (S := (fun w' : World => (w'.cell? ⟨w.heap.size, 1, none⟩ = some (.int .i64 vk) ∧ w'.cell? ⟨w.heap.size, 2, none⟩ = some (.int .i64 vn) ∧ w'.cell? ⟨w.heap.size, 3, none⟩ = some (.string vs)) ∧ (w'.cell? ⟨w.heap.size, 4, none⟩ = some (.int .i64 xk) ∧ w'.cell? ⟨w.heap.size, 5, none⟩ = some (.int .i64 xn) ∧ w'.cell? ⟨w.heap.size, 6, none⟩ = some (.string xs)) ∧ w'.cell? ⟨w.heap.size, 7, none⟩ = some (.string key) ∧ (w'.cell? ⟨w.heap.size, 8, none⟩ = some (.string pk) ∧ w'.cell? ⟨w.heap.size, 9, none⟩ = some (.int .i64 pvk) ∧ w'.cell? ⟨w.heap.size, 10, none⟩ = some (.int .i64 pvn) ∧ w'.cell? ⟨w.heap.size, 11, none⟩ = some (.string pvs) ∧ w'.cell? ⟨w.heap.size, 12, none⟩ = some (.bool pw) ∧ w'.cell? ⟨w.heap.size, 13, none⟩ = some (.bool pe) ∧ w'.cell? ⟨w.heap.size, 14, none⟩ = some (.bool pf)) ∧ w'.cell? ⟨w.heap.size, 15, none⟩ = some sl)) (by kernel_rfl) (hs0) (fun hHeld0 => ?_)
  generalize World.drew _ = w0 at *
  clear hs0 S0
  (refine wpAnyH_take (i := 0) (v := ?_) rfl (by kernel_rfl) (by decide +kernel) (by decide +kernel) (fun _ _ _ h => h) (Or.inl ⟨by rfl, ?_⟩) (by assumption) ?_; rotate_left; (focus (intro w0 hSw; obtain ⟨⟨e1, e2, e3⟩, ⟨e4, e5, e6⟩, e7, ⟨e8, e9, e10, e11, e12, e13, e14⟩, e15⟩ := hSw; go_simp; (try with_reducible rfl); done)))
  (refine wpAnyH_take (i := 1) (v := ?_) rfl (by kernel_rfl) (by decide +kernel) (by decide +kernel) (fun _ _ _ h => h) (Or.inl ⟨by rfl, ?_⟩) (by assumption) ?_; rotate_left; (focus (intro w0 hSw; obtain ⟨⟨e1, e2, e3⟩, ⟨e4, e5, e6⟩, e7, ⟨e8, e9, e10, e11, e12, e13, e14⟩, e15⟩ := hSw; go_simp; (try with_reducible rfl); done)))
  (refine wpAnyH_take (i := 2) (v := ?_) rfl (by kernel_rfl) (by decide +kernel) (by decide +kernel) (fun _ _ _ h => h) (Or.inl ⟨by rfl, ?_⟩) (by assumption) ?_; rotate_left; (focus (intro w0 hSw; obtain ⟨⟨e1, e2, e3⟩, ⟨e4, e5, e6⟩, e7, ⟨e8, e9, e10, e11, e12, e13, e14⟩, e15⟩ := hSw; go_simp; (try with_reducible rfl); done)))
  (refine wpAnyH_take (i := 4) (v := ?_) rfl (by kernel_rfl) (by decide +kernel) (by decide +kernel) (fun _ _ _ h => h) (Or.inl ⟨by rfl, ?_⟩) (by assumption) ?_; rotate_left; (focus (intro w0 hSw; obtain ⟨⟨e1, e2, e3⟩, ⟨e4, e5, e6⟩, e7, ⟨e8, e9, e10, e11, e12, e13, e14⟩, e15⟩ := hSw; go_simp; (try with_reducible rfl); done)))
  (refine wpAnyH_take (i := 5) (v := ?_) rfl (by kernel_rfl) (by decide +kernel) (by decide +kernel) (fun _ _ _ h => h) (Or.inl ⟨by rfl, ?_⟩) (by assumption) ?_; rotate_left; (focus (intro w0 hSw; obtain ⟨⟨e1, e2, e3⟩, ⟨e4, e5, e6⟩, e7, ⟨e8, e9, e10, e11, e12, e13, e14⟩, e15⟩ := hSw; go_simp; (try with_reducible rfl); done)))
  (refine wpAnyH_take (i := 6) (v := ?_) rfl (by kernel_rfl) (by decide +kernel) (by decide +kernel) (fun _ _ _ h => h) (Or.inl ⟨by rfl, ?_⟩) (by assumption) ?_; rotate_left; (focus (intro w0 hSw; obtain ⟨⟨e1, e2, e3⟩, ⟨e4, e5, e6⟩, e7, ⟨e8, e9, e10, e11, e12, e13, e14⟩, e15⟩ := hSw; go_simp; (try with_reducible rfl); done)))
  try simp only [List.getElem_toArray, List.getElem_cons_zero, List.getElem_cons_succ, Act.put, List.setIfInBounds_toArray, List.set_cons_zero, List.set_cons_succ]
  refine wpAnyH_ready (rs := [3]) (by decide +kernel) (by simp) (AllReadyH.cons rfl (fun K hK => ?_) AllReadyH.nil)
  go_simp
  refine HM.out.mono ?_
  rintro e w1 ⟨rfl, ow1, L1, hch⟩
  have S1 := Lib.hid (SD.out.next hch)
  have hs1 := op_cells S1.out.op
  dsimp only at hs1
  clear hch HM SD
  refine hK.out _ _ hs1 (fun hHeld1 => ?_)
  clear hK K hHeld0 
  try simp only [List.getElem_toArray, List.getElem_cons_zero, List.getElem_cons_succ, Act.put, List.setIfInBounds_toArray, List.set_cons_zero, List.set_cons_succ]
  refine wpAnyH_ready (rs := [7]) (by decide +kernel) (by simp) (AllReadyH.cons rfl (fun K hK => ?_) AllReadyH.nil)
  obtain ⟨owx, R, hrh, -⟩ := S1.out.dr
  have HC := HR1.out _ _ _ hrh
  clear hrh HR1 hs1
  go_simp
  refine HC.mono ?_
  rintro e w2 ⟨rfl, hb⟩
  have S2 := Lib.hid (S1.out.low hb)
  have hs2 := op_cells S2.out.op
  dsimp only at hs2
  clear hb HC S1
  refine hK.out _ _ hs2 (fun hHeld2 => ?_)
  clear hK K hHeld1 
  try simp only [List.getElem_toArray, List.getElem_cons_zero, List.getElem_cons_succ, Act.put, List.setIfInBounds_toArray, List.set_cons_zero, List.set_cons_succ]
  (refine wpAnyH_take (i := 8) (v := ?_) rfl (by kernel_rfl) (by decide +kernel) (by decide +kernel) (fun _ _ _ h => h) (Or.inl ⟨by rfl, ?_⟩) (by assumption) ?_; rotate_left; (focus (intro w0 hSw; obtain ⟨⟨e1, e2, e3⟩, ⟨e4, e5, e6⟩, e7, ⟨e8, e9, e10, e11, e12, e13, e14⟩, e15⟩ := hSw; go_simp; (try with_reducible rfl); done)))
  (refine wpAnyH_take (i := 9) (v := ?_) rfl (by kernel_rfl) (by decide +kernel) (by decide +kernel) (fun _ _ _ h => h) (Or.inl ⟨by rfl, ?_⟩) (by assumption) ?_; rotate_left; (focus (intro w0 hSw; obtain ⟨⟨e1, e2, e3⟩, ⟨e4, e5, e6⟩, e7, ⟨e8, e9, e10, e11, e12, e13, e14⟩, e15⟩ := hSw; go_simp; (try with_reducible rfl); done)))
  try simp only [List.getElem_toArray, List.getElem_cons_zero, List.getElem_cons_succ, Act.put, List.setIfInBounds_toArray, List.set_cons_zero, List.set_cons_succ]
  refine wpAnyH_done (by kernel_rfl) ?_ _
  clear hHeld2 hs2
  go_wp2_with fail
  refine bodyPost_ret (results_tmp rfl _ _ _) rfl ?_
  exact ⟨_, rfl, ow1, L1, S2.out.ch⟩
end
end Go.Proofs.YtcahijpbkjplmaaGreatDoor.G
