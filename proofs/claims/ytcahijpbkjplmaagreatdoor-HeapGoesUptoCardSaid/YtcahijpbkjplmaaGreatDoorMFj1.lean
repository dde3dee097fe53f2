/-
 looks, given what both sides answer, whatever the world.
 looks, given what both sides answer, whatever the world.
-/
import Derived.Test.YtcahijpbkjplmaaGreatDoorMFn
import Derived.Test.YtcahijpbkjplmaaGreatDoorMZ0
set_option linter.unusedSimpArgs false
namespace Go.Proofs.YtcahijpbkjplmaaGreatDoor.G
open Go.RowKit Go.Shelf Go.Maps Go.Lib Go.Proofs.YtcahijpbkjplmaaGreatDoor
set_option maxRecDepth 20000 in
set_option maxHeartbeats 4000000 in
theorem looks_0 (w : World) (A X : Nat) (v : Vl) (n m : Int) (is was op wop : Bool) (cls wcls : ByteArray) (pr wpr : Vl)
  (h1 : ∀ w1, Below w.heap.size w w1 → Calls Tryz.prog 29 #[pv A, v.v] w1 fun e w2 => e = .returned (.tuple #[.int .i64 n, .bool is]) ∧ Below w1.heap.size w1 w2)
  (h2 : ∀ w1, Below w.heap.size w w1 → Calls Tryz.prog 45 #[pv X, v.v] w1 fun e w2 => e = .returned (.tuple #[.int .i64 m, .bool was]) ∧ Below w1.heap.size w1 w2)
  (h3 : ∀ w1, Below w.heap.size w w1 → Calls Tryz.prog 19 #[pv A, v.v] w1 fun e w2 => e = .returned (.string cls) ∧ Below w1.heap.size w1 w2)
  (h4 : ∀ w1, Below w.heap.size w w1 → Calls Tryz.prog 46 #[pv X, v.v] w1 fun e w2 => e = .returned (.string wcls) ∧ Below w1.heap.size w1 w2)
  (h5 : ∀ w1, Below w.heap.size w w1 → Calls Tryz.prog 25 #[pv A, v.v] w1 fun e w2 => e = .returned (pr.v) ∧ Below w1.heap.size w1 w2)
  (h6 : ∀ w1, Below w.heap.size w w1 → Calls Tryz.prog 47 #[pv X, v.v] w1 fun e w2 => e = .returned (wpr.v) ∧ Below w1.heap.size w1 w2)
  (h7 : ∀ w1, Below w.heap.size w w1 → Calls Tryz.prog 21 #[pv A, v.v] w1 fun e w2 => e = .returned (.bool op) ∧ Below w1.heap.size w1 w2)
  (h8 : ∀ w1, Below w.heap.size w w1 → Calls Tryz.prog 48 #[pv X, v.v] w1 fun e w2 => e = .returned (.bool wop) ∧ Below w1.heap.size w1 w2)
  (Q1 : decide (cls = wcls) = false) :
  Calls Tryz.prog 14 #[pv A, pv X, v.v] w (AnsB w false) := by
 have hb0 := below_new w (.cells v.cs.toArray 29)
 have HB := Lib.hid hb0
 have HV := Lib.hid (Blk.new w 29 v.cs)
 have H1 := Lib.hid h1
 have H2 := Lib.hid h2
 have H3 := Lib.hid h3
 have H4 := Lib.hid h4
 have H5 := Lib.hid h5
 have H6 := Lib.hid h6
 have H7 := Lib.hid h7
 have H8 := Lib.hid h8
 clear h1 h2 h3 h4 h5 h6 h7 h8 hb0
 have HCC := Lib.hid (toList_eq_is cls wcls)
 obtain ⟨vk, vn, vs⟩ := v
 obtain ⟨ok, on, os⟩ := pr
 obtain ⟨uk, un, us⟩ := wpr
 simp only [Vl.v, Vl.cs] at HB HV H1 H2 H3 H4 H5 H6 H7 H8 ⊢
 go_enter Tryz.func14, Tryz.ntmps14
 go_wp2_with fail
 refine (H1.out _ HB.out).mono ?_
 rintro e wa ⟨rfl, hb⟩
 have HBa := Lib.hid (HB.out.trans (hb.mono HB.out.size))
 have HVa := Lib.hid (HV.out.low hb)
 obtain ⟨d0, d1, d2⟩ := Blk.three (v := ⟨vk, vn, vs⟩) HVa.out
 dsimp only at d0 d1 d2
 clear hb HB HV H1
 go_wp2_with fail
 refine (H2.out _ HBa.out).mono ?_
 rintro e wb ⟨rfl, hb⟩
 have hb2 := hb.drew
 have HB0 := Lib.hid (HBa.out.trans (hb2.mono HBa.out.size))
 have HV0 := Lib.hid (HVa.out.low hb2)
 have hs0 := Blk.three (v := ⟨vk, vn, vs⟩) HV0.out
 dsimp only at hs0
 clear hb hb2 d0 d1 d2 HBa HVa H2
 go_wp2_with fail
 refine wp_region_held_drew (S := (fun w' : World => w'.cell? ⟨w.heap.size, 0, none⟩ = some (.int .i64 vk) ∧ w'.cell? ⟨w.heap.size, 1, none⟩ = some (.int .i64 vn) ∧ w'.cell? ⟨w.heap.size, 2, none⟩ = some (.string vs))) (by kernel_rfl) (hs0) (fun hHeld0 => ?_)
 generalize wb.drew = w0 at *
 clear hs0
 refine tk 0 ?_ ‹_› ?_ ?_; rotate_left; focus (intro w0 hSw; obtain ⟨e0, e1, e2⟩ := hSw; go_simp; try with_reducible rfl)
 refine tk 1 ?_ ‹_› ?_ ?_; rotate_left; focus (intro w0 hSw; obtain ⟨e0, e1, e2⟩ := hSw; go_simp; try with_reducible rfl)
 refine tk 3 ?_ ‹_› ?_ ?_; rotate_left; focus (intro w0 hSw; obtain ⟨e0, e1, e2⟩ := hSw; go_simp; try with_reducible rfl)
 refine tk 4 ?_ ‹_› ?_ ?_; rotate_left; focus (intro w0 hSw; obtain ⟨e0, e1, e2⟩ := hSw; go_simp; try with_reducible rfl)
 try simp only [PT]
 refine wpAnyH_ready (rs := [2]) (by decide +kernel) (by simp) (AllReadyH.cons rfl (fun K hK => ?_) AllReadyH.nil)
 go_simp
 refine (H3.out _ HB0.out).mono ?_
 rintro e w1 ⟨rfl, hb⟩
 have HB1 := Lib.hid (HB0.out.trans (hb.mono HB0.out.size))
 have HV1 := Lib.hid (HV0.out.low hb)
 have hs1 := Blk.three (v := ⟨vk, vn, vs⟩) HV1.out
 dsimp only at hs1
 clear hb H3 HB0 HV0
 refine hK.out _ _ hs1 (fun hHeld1 => ?_)
 clear hK K hHeld0 
 try simp only [PT]
 refine wpAnyH_ready (rs := [5]) (by decide +kernel) (by simp) (AllReadyH.cons rfl (fun K hK => ?_) AllReadyH.nil)
 go_simp
 refine (H4.out _ HB1.out).mono ?_
 rintro e w2 ⟨rfl, hb⟩
 have HB2 := Lib.hid (HB1.out.trans (hb.mono HB1.out.size))
 have HV2 := Lib.hid (HV1.out.low hb)
 have hs2 := Blk.three (v := ⟨vk, vn, vs⟩) HV2.out
 dsimp only at hs2
 clear hb H4 HB1 HV1
 refine hK.out _ _ hs2 (fun hHeld2 => ?_)
 clear hK K hHeld1 
 try simp only [PT]
 refine tk 6 (.bool false) ‹_› ?_ ?_
 ·intro w0 hSw
  obtain ⟨e0, e1, e2⟩ := hSw
  have hcc := HCC.out.trans Q1
  go_simp
 try simp only [PT]
 refine tk 7 ?_ ‹_› ?_ ?_; rotate_left; focus (intro w0 hSw; obtain ⟨e0, e1, e2⟩ := hSw; go_simp; try with_reducible rfl)
 try simp only [PT]
 refine sk 8 ‹_› ?_
 refine sk 9 ‹_› ?_
 refine sk 10 ‹_› ?_
 refine sk 11 ‹_› ?_
 refine sk 12 ‹_› ?_
 refine sk 13 ‹_› ?_
 refine sk 14 ‹_› ?_
 try simp only [PT]
 refine tk 15 ?_ ‹_› ?_ ?_; rotate_left; focus (intro w0 hSw; obtain ⟨e0, e1, e2⟩ := hSw; go_simp; try with_reducible rfl)
 refine tk 16 ?_ ‹_› ?_ ?_; rotate_left; focus (intro w0 hSw; obtain ⟨e0, e1, e2⟩ := hSw; go_simp; try with_reducible rfl)
 try simp only [PT]
 refine sk 17 ‹_› ?_
 refine sk 18 ‹_› ?_
 refine sk 19 ‹_› ?_
 refine sk 20 ‹_› ?_
 refine sk 21 ‹_› ?_
 refine sk 22 ‹_› ?_
 refine sk 23 ‹_› ?_
 try simp only [PT]
 refine tk 24 ?_ ‹_› ?_ ?_; rotate_left; focus (intro w0 hSw; obtain ⟨e0, e1, e2⟩ := hSw; go_simp; try with_reducible rfl)
 refine tk 25 ?_ ‹_› ?_ ?_; rotate_left; focus (intro w0 hSw; obtain ⟨e0, e1, e2⟩ := hSw; go_simp; try with_reducible rfl)
 try simp only [PT]
 refine sk 26 ‹_› ?_
 refine sk 27 ‹_› ?_
 refine sk 28 ‹_› ?_
 try simp only [PT]
 refine tk 29 ?_ ‹_› ?_ ?_; rotate_left; focus (intro w0 hSw; obtain ⟨e0, e1, e2⟩ := hSw; go_simp; try with_reducible rfl)
 refine tk 30 ?_ ‹_› ?_ ?_; rotate_left; focus (intro w0 hSw; obtain ⟨e0, e1, e2⟩ := hSw; go_simp; try with_reducible rfl)
 try simp only [PT]
 refine sk 31 ‹_› ?_
 refine sk 32 ‹_› ?_
 refine sk 33 ‹_› ?_
 try simp only [PT]
 refine tk 34 ?_ ‹_› ?_ ?_; rotate_left; focus (intro w0 hSw; obtain ⟨e0, e1, e2⟩ := hSw; go_simp; try with_reducible rfl)
 refine tk 35 ?_ ‹_› ?_ ?_; rotate_left; focus (intro w0 hSw; obtain ⟨e0, e1, e2⟩ := hSw; go_simp; try with_reducible rfl)
 try simp only [PT]
 refine wpAnyH_done (by kernel_rfl) ?_ _
 clear hHeld2 hs2
 go_wp2_with fail
 refine bodyPost_ret (results_tmp rfl _ _ _) rfl ⟨?_, HB2.out⟩
 rfl
set_option maxRecDepth 20000 in
set_option maxHeartbeats 4000000 in
theorem looks_1 (w : World) (A X : Nat) (v : Vl) (n m : Int) (is was op wop : Bool) (cls wcls : ByteArray) (pr wpr : Vl)
  (h1 : ∀ w1, Below w.heap.size w w1 → Calls Tryz.prog 29 #[pv A, v.v] w1 fun e w2 => e = .returned (.tuple #[.int .i64 n, .bool is]) ∧ Below w1.heap.size w1 w2)
  (h2 : ∀ w1, Below w.heap.size w w1 → Calls Tryz.prog 45 #[pv X, v.v] w1 fun e w2 => e = .returned (.tuple #[.int .i64 m, .bool was]) ∧ Below w1.heap.size w1 w2)
  (h3 : ∀ w1, Below w.heap.size w w1 → Calls Tryz.prog 19 #[pv A, v.v] w1 fun e w2 => e = .returned (.string cls) ∧ Below w1.heap.size w1 w2)
  (h4 : ∀ w1, Below w.heap.size w w1 → Calls Tryz.prog 46 #[pv X, v.v] w1 fun e w2 => e = .returned (.string wcls) ∧ Below w1.heap.size w1 w2)
  (h5 : ∀ w1, Below w.heap.size w w1 → Calls Tryz.prog 25 #[pv A, v.v] w1 fun e w2 => e = .returned (pr.v) ∧ Below w1.heap.size w1 w2)
  (h6 : ∀ w1, Below w.heap.size w w1 → Calls Tryz.prog 47 #[pv X, v.v] w1 fun e w2 => e = .returned (wpr.v) ∧ Below w1.heap.size w1 w2)
  (h7 : ∀ w1, Below w.heap.size w w1 → Calls Tryz.prog 21 #[pv A, v.v] w1 fun e w2 => e = .returned (.bool op) ∧ Below w1.heap.size w1 w2)
  (h8 : ∀ w1, Below w.heap.size w w1 → Calls Tryz.prog 48 #[pv X, v.v] w1 fun e w2 => e = .returned (.bool wop) ∧ Below w1.heap.size w1 w2)
  (Q1 : decide (cls = wcls) = true) (Q2 : decide (pr = wpr) = false) :
  Calls Tryz.prog 14 #[pv A, pv X, v.v] w (AnsB w false) := by
 replace Q2 : ¬ (pr.k = wpr.k ∧ pr.n = wpr.n ∧ pr.s.toList = wpr.s.toList) := fun ⟨a1, a2, a3⟩ => of_decide_eq_false Q2 (by obtain ⟨b1, b2, b3⟩ := pr; obtain ⟨c1, c2, c3⟩ := wpr; dsimp only at a1 a2 a3; rw [a1, a2, toList_inj a3])
 have hb0 := below_new w (.cells v.cs.toArray 29)
 have HB := Lib.hid hb0
 have HV := Lib.hid (Blk.new w 29 v.cs)
 have H1 := Lib.hid h1
 have H2 := Lib.hid h2
 have H3 := Lib.hid h3
 have H4 := Lib.hid h4
 have H5 := Lib.hid h5
 have H6 := Lib.hid h6
 have H7 := Lib.hid h7
 have H8 := Lib.hid h8
 clear h1 h2 h3 h4 h5 h6 h7 h8 hb0
 have HCC := Lib.hid (toList_eq_is cls wcls)
 obtain ⟨vk, vn, vs⟩ := v
 obtain ⟨ok, on, os⟩ := pr
 obtain ⟨uk, un, us⟩ := wpr
 dsimp only at Q2
 simp only [Vl.v, Vl.cs] at HB HV H1 H2 H3 H4 H5 H6 H7 H8 ⊢
 go_enter Tryz.func14, Tryz.ntmps14
 go_wp2_with fail
 refine (H1.out _ HB.out).mono ?_
 rintro e wa ⟨rfl, hb⟩
 have HBa := Lib.hid (HB.out.trans (hb.mono HB.out.size))
 have HVa := Lib.hid (HV.out.low hb)
 obtain ⟨d0, d1, d2⟩ := Blk.three (v := ⟨vk, vn, vs⟩) HVa.out
 dsimp only at d0 d1 d2
 clear hb HB HV H1
 go_wp2_with fail
 refine (H2.out _ HBa.out).mono ?_
 rintro e wb ⟨rfl, hb⟩
 have hb2 := hb.drew
 have HB0 := Lib.hid (HBa.out.trans (hb2.mono HBa.out.size))
 have HV0 := Lib.hid (HVa.out.low hb2)
 have hs0 := Blk.three (v := ⟨vk, vn, vs⟩) HV0.out
 dsimp only at hs0
 clear hb hb2 d0 d1 d2 HBa HVa H2
 go_wp2_with fail
 refine wp_region_held_drew (S := (fun w' : World => w'.cell? ⟨w.heap.size, 0, none⟩ = some (.int .i64 vk) ∧ w'.cell? ⟨w.heap.size, 1, none⟩ = some (.int .i64 vn) ∧ w'.cell? ⟨w.heap.size, 2, none⟩ = some (.string vs))) (by kernel_rfl) (hs0) (fun hHeld0 => ?_)
 generalize wb.drew = w0 at *
 clear hs0
 refine tk 0 ?_ ‹_› ?_ ?_; rotate_left; focus (intro w0 hSw; obtain ⟨e0, e1, e2⟩ := hSw; go_simp; try with_reducible rfl)
 refine tk 1 ?_ ‹_› ?_ ?_; rotate_left; focus (intro w0 hSw; obtain ⟨e0, e1, e2⟩ := hSw; go_simp; try with_reducible rfl)
 refine tk 3 ?_ ‹_› ?_ ?_; rotate_left; focus (intro w0 hSw; obtain ⟨e0, e1, e2⟩ := hSw; go_simp; try with_reducible rfl)
 refine tk 4 ?_ ‹_› ?_ ?_; rotate_left; focus (intro w0 hSw; obtain ⟨e0, e1, e2⟩ := hSw; go_simp; try with_reducible rfl)
 try simp only [PT]
 refine wpAnyH_ready (rs := [2]) (by decide +kernel) (by simp) (AllReadyH.cons rfl (fun K hK => ?_) AllReadyH.nil)
 go_simp
 refine (H3.out _ HB0.out).mono ?_
 rintro e w1 ⟨rfl, hb⟩
 have HB1 := Lib.hid (HB0.out.trans (hb.mono HB0.out.size))
 have HV1 := Lib.hid (HV0.out.low hb)
 have hs1 := Blk.three (v := ⟨vk, vn, vs⟩) HV1.out
 dsimp only at hs1
 clear hb H3 HB0 HV0
 refine hK.out _ _ hs1 (fun hHeld1 => ?_)
 clear hK K hHeld0 
 try simp only [PT]
 refine wpAnyH_ready (rs := [5]) (by decide +kernel) (by simp) (AllReadyH.cons rfl (fun K hK => ?_) AllReadyH.nil)
 go_simp
 refine (H4.out _ HB1.out).mono ?_
 rintro e w2 ⟨rfl, hb⟩
 have HB2 := Lib.hid (HB1.out.trans (hb.mono HB1.out.size))
 have HV2 := Lib.hid (HV1.out.low hb)
 have hs2 := Blk.three (v := ⟨vk, vn, vs⟩) HV2.out
 dsimp only at hs2
 clear hb H4 HB1 HV1
 refine hK.out _ _ hs2 (fun hHeld2 => ?_)
 clear hK K hHeld1 
 try simp only [PT]
 refine tk 6 (.bool true) ‹_› ?_ ?_
 ·intro w0 hSw
  obtain ⟨e0, e1, e2⟩ := hSw
  have hcc := HCC.out.trans Q1
  go_simp
 try simp only [PT]
 refine tk 7 ?_ ‹_› ?_ ?_; rotate_left; focus (intro w0 hSw; obtain ⟨e0, e1, e2⟩ := hSw; go_simp; try with_reducible rfl)
 try simp only [PT]
 refine tk 8 ?_ ‹_› ?_ ?_; rotate_left; focus (intro w0 hSw; obtain ⟨e0, e1, e2⟩ := hSw; go_simp; try with_reducible rfl)
 refine tk 9 ?_ ‹_› ?_ ?_; rotate_left; focus (intro w0 hSw; obtain ⟨e0, e1, e2⟩ := hSw; go_simp; try with_reducible rfl)
 refine tk 11 ?_ ‹_› ?_ ?_; rotate_left; focus (intro w0 hSw; obtain ⟨e0, e1, e2⟩ := hSw; go_simp; try with_reducible rfl)
 refine tk 12 ?_ ‹_› ?_ ?_; rotate_left; focus (intro w0 hSw; obtain ⟨e0, e1, e2⟩ := hSw; go_simp; try with_reducible rfl)
 try simp only [PT]
 refine wpAnyH_ready (rs := [10]) (by decide +kernel) (by simp) (AllReadyH.cons rfl (fun K hK => ?_) AllReadyH.nil)
 go_simp
 refine (H5.out _ HB2.out).mono ?_
 rintro e w3 ⟨rfl, hb⟩
 have HB3 := Lib.hid (HB2.out.trans (hb.mono HB2.out.size))
 have HV3 := Lib.hid (HV2.out.low hb)
 have hs3 := Blk.three (v := ⟨vk, vn, vs⟩) HV3.out
 dsimp only at hs3
 clear hb H5 HB2 HV2
 refine hK.out _ _ hs3 (fun hHeld3 => ?_)
 clear hK K hHeld2 
 try simp only [PT]
 refine wpAnyH_ready (rs := [13]) (by decide +kernel) (by simp) (AllReadyH.cons rfl (fun K hK => ?_) AllReadyH.nil)
 go_simp
 refine (H6.out _ HB3.out).mono ?_
 rintro e w4 ⟨rfl, hb⟩
 have HB4 := Lib.hid (HB3.out.trans (hb.mono HB3.out.size))
 have HV4 := Lib.hid (HV3.out.low hb)
 have hs4 := Blk.three (v := ⟨vk, vn, vs⟩) HV4.out
 dsimp only at hs4
 clear hb H6 HB3 HV3
 refine hK.out _ _ hs4 (fun hHeld4 => ?_)
 clear hK K hHeld3 
 try simp only [PT]
 refine tk 14 (.bool false) ‹_› ?_ ?_
 ·intro w0 hSw
  obtain ⟨e0, e1, e2⟩ := hSw
  go_simp
  exact fun a1 a2 a3 => Q2 ⟨a1, a2, a3⟩
 try simp only [PT]
 refine tk 15 ?_ ‹_› ?_ ?_; rotate_left; focus (intro w0 hSw; obtain ⟨e0, e1, e2⟩ := hSw; go_simp; try with_reducible rfl)
 refine tk 16 ?_ ‹_› ?_ ?_; rotate_left; focus (intro w0 hSw; obtain ⟨e0, e1, e2⟩ := hSw; go_simp; try with_reducible rfl)
 try simp only [PT]
 refine sk 17 ‹_› ?_
 refine sk 18 ‹_› ?_
 refine sk 19 ‹_› ?_
 refine sk 20 ‹_› ?_
 refine sk 21 ‹_› ?_
 refine sk 22 ‹_› ?_
 refine sk 23 ‹_› ?_
 try simp only [PT]
 refine tk 24 ?_ ‹_› ?_ ?_; rotate_left; focus (intro w0 hSw; obtain ⟨e0, e1, e2⟩ := hSw; go_simp; try with_reducible rfl)
 refine tk 25 ?_ ‹_› ?_ ?_; rotate_left; focus (intro w0 hSw; obtain ⟨e0, e1, e2⟩ := hSw; go_simp; try with_reducible rfl)
 try simp only [PT]
 refine sk 26 ‹_› ?_
 refine sk 27 ‹_› ?_
 refine sk 28 ‹_› ?_
 try simp only [PT]
 refine tk 29 ?_ ‹_› ?_ ?_; rotate_left; focus (intro w0 hSw; obtain ⟨e0, e1, e2⟩ := hSw; go_simp; try with_reducible rfl)
 refine tk 30 ?_ ‹_› ?_ ?_; rotate_left; focus (intro w0 hSw; obtain ⟨e0, e1, e2⟩ := hSw; go_simp; try with_reducible rfl)
 try simp only [PT]
 refine sk 31 ‹_› ?_
 refine sk 32 ‹_› ?_
 refine sk 33 ‹_› ?_
 try simp only [PT]
 refine tk 34 ?_ ‹_› ?_ ?_; rotate_left; focus (intro w0 hSw; obtain ⟨e0, e1, e2⟩ := hSw; go_simp; try with_reducible rfl)
 refine tk 35 ?_ ‹_› ?_ ?_; rotate_left; focus (intro w0 hSw; obtain ⟨e0, e1, e2⟩ := hSw; go_simp; try with_reducible rfl)
 try simp only [PT]
 refine wpAnyH_done (by kernel_rfl) ?_ _
 clear hHeld4 hs4
 go_wp2_with fail
 refine bodyPost_ret (results_tmp rfl _ _ _) rfl ⟨?_, HB4.out⟩
 rfl
end Go.Proofs.YtcahijpbkjplmaaGreatDoor.G
