/-
 looks, given what both sides answer, whatever the world.
 looks, given what both sides answer, whatever the world.
 do of Keys and Enum, given what both sides answer, whatever the world.
-/
import Derived.Test.YtcahijpbkjplmaaGreatDoorMFn
import Derived.Test.YtcahijpbkjplmaaGreatDoorMZ0
import Derived.Test.YtcahijpbkjplmaaGreatDoorMFj1
import Derived.Test.YtcahijpbkjplmaaGreatDoorMFj3
set_option linter.unusedSimpArgs false
namespace Go.Proofs.YtcahijpbkjplmaaGreatDoor.G
open Go.RowKit Go.Shelf Go.Maps Go.Lib Go.Proofs.YtcahijpbkjplmaaGreatDoor
set_option maxRecDepth 20000 in
set_option maxHeartbeats 4000000 in
theorem looks_4 (w : World) (A X : Nat) (v : Vl) (n m : Int) (is was op wop : Bool) (cls wcls : ByteArray) (pr wpr : Vl)
  (h1 : ∀ w1, Below w.heap.size w w1 → Calls Tryz.prog 29 #[pv A, v.v] w1 fun e w2 => e = .returned (.tuple #[.int .i64 n, .bool is]) ∧ Below w1.heap.size w1 w2)
  (h2 : ∀ w1, Below w.heap.size w w1 → Calls Tryz.prog 45 #[pv X, v.v] w1 fun e w2 => e = .returned (.tuple #[.int .i64 m, .bool was]) ∧ Below w1.heap.size w1 w2)
  (h3 : ∀ w1, Below w.heap.size w w1 → Calls Tryz.prog 19 #[pv A, v.v] w1 fun e w2 => e = .returned (.string cls) ∧ Below w1.heap.size w1 w2)
  (h4 : ∀ w1, Below w.heap.size w w1 → Calls Tryz.prog 46 #[pv X, v.v] w1 fun e w2 => e = .returned (.string wcls) ∧ Below w1.heap.size w1 w2)
  (h5 : ∀ w1, Below w.heap.size w w1 → Calls Tryz.prog 25 #[pv A, v.v] w1 fun e w2 => e = .returned (pr.v) ∧ Below w1.heap.size w1 w2)
  (h6 : ∀ w1, Below w.heap.size w w1 → Calls Tryz.prog 47 #[pv X, v.v] w1 fun e w2 => e = .returned (wpr.v) ∧ Below w1.heap.size w1 w2)
  (h7 : ∀ w1, Below w.heap.size w w1 → Calls Tryz.prog 21 #[pv A, v.v] w1 fun e w2 => e = .returned (.bool op) ∧ Below w1.heap.size w1 w2)
  (h8 : ∀ w1, Below w.heap.size w w1 → Calls Tryz.prog 48 #[pv X, v.v] w1 fun e w2 => e = .returned (.bool wop) ∧ Below w1.heap.size w1 w2)
  (Q1 : decide (cls = wcls) = true) (Q2 : decide (pr = wpr) = true) (Q3 : (op == wop) = true) (Q4 : decide (n = m) = true) :
  Calls Tryz.prog 14 #[pv A, pv X, v.v] w (AnsB w (is == was)) := by
 obtain rfl := of_decide_eq_true Q2
 obtain rfl := eq_of_beq Q3
 obtain rfl := of_decide_eq_true Q4
 have hb0 := below_new w (.cells v.cs.toArray 29)
 have HB := Lib.hid hb0
 have HV := Lib.hid (Blk.new w 29 v.cs)
 have H1 := Lib.hid h1
 have H2 := Lib.hid h2
 have H3 := Lib.hid h3
 have H4 := Lib.hid h4
 have H5 := Lib.hid h5
 have H6 := Lib.hid h6
 have H7 := Lib.hid h7
 have H8 := Lib.hid h8
 clear h1 h2 h3 h4 h5 h6 h7 h8 hb0
 have HCC := Lib.hid (toList_eq_is cls wcls)
 obtain ⟨vk, vn, vs⟩ := v
 obtain ⟨ok, on, os⟩ := pr
 simp only [Vl.v, Vl.cs] at HB HV H1 H2 H3 H4 H5 H6 H7 H8 ⊢
 go_enter Tryz.func14, Tryz.ntmps14
 go_wp2_with fail
 refine (H1.out _ HB.out).mono ?_
 rintro e wa ⟨rfl, hb⟩
 have HBa := Lib.hid (HB.out.trans (hb.mono HB.out.size))
 have HVa := Lib.hid (HV.out.low hb)
 obtain ⟨d0, d1, d2⟩ := Blk.three (v := ⟨vk, vn, vs⟩) HVa.out
 dsimp only at d0 d1 d2
 clear hb HB HV H1
 go_wp2_with fail
 refine (H2.out _ HBa.out).mono ?_
 rintro e wb ⟨rfl, hb⟩
 have hb2 := hb.drew
 have HB0 := Lib.hid (HBa.out.trans (hb2.mono HBa.out.size))
 have HV0 := Lib.hid (HVa.out.low hb2)
 have hs0 := Blk.three (v := ⟨vk, vn, vs⟩) HV0.out
 dsimp only at hs0
 clear hb hb2 d0 d1 d2 HBa HVa H2
 go_wp2_with fail
 refine wp_region_held_drew (S := (fun w' : World => w'.cell? ⟨w.heap.size, 0, none⟩ = some (.int .i64 vk) ∧ w'.cell? ⟨w.heap.size, 1, none⟩ = some (.int .i64 vn) ∧ w'.cell? ⟨w.heap.size, 2, none⟩ = some (.string vs))) (by kernel_rfl) (hs0) (fun hHeld0 => ?_)
 generalize wb.drew = w0 at *
 clear hs0
 refine tk 0 ?_ ‹_› ?_ ?_; rotate_left; focus (intro w0 hSw; obtain ⟨e0, e1, e2⟩ := hSw; go_simp; try with_reducible rfl)
 refine tk 1 ?_ ‹_› ?_ ?_; rotate_left; focus (intro w0 hSw; obtain ⟨e0, e1, e2⟩ := hSw; go_simp; try with_reducible rfl)
 refine tk 3 ?_ ‹_› ?_ ?_; rotate_left; focus (intro w0 hSw; obtain ⟨e0, e1, e2⟩ := hSw; go_simp; try with_reducible rfl)
 refine tk 4 ?_ ‹_› ?_ ?_; rotate_left; focus (intro w0 hSw; obtain ⟨e0, e1, e2⟩ := hSw; go_simp; try with_reducible rfl)
 try simp only [PT]
 refine wpAnyH_ready (rs := [2]) (by decide +kernel) (by simp) (AllReadyH.cons rfl (fun K hK => ?_) AllReadyH.nil)
 go_simp
 refine (H3.out _ HB0.out).mono ?_
 rintro e w1 ⟨rfl, hb⟩
 have HB1 := Lib.hid (HB0.out.trans (hb.mono HB0.out.size))
 have HV1 := Lib.hid (HV0.out.low hb)
 have hs1 := Blk.three (v := ⟨vk, vn, vs⟩) HV1.out
 dsimp only at hs1
 clear hb H3 HB0 HV0
 refine hK.out _ _ hs1 (fun hHeld1 => ?_)
 clear hK K hHeld0 
 try simp only [PT]
 refine wpAnyH_ready (rs := [5]) (by decide +kernel) (by simp) (AllReadyH.cons rfl (fun K hK => ?_) AllReadyH.nil)
 go_simp
 refine (H4.out _ HB1.out).mono ?_
 rintro e w2 ⟨rfl, hb⟩
 have HB2 := Lib.hid (HB1.out.trans (hb.mono HB1.out.size))
 have HV2 := Lib.hid (HV1.out.low hb)
 have hs2 := Blk.three (v := ⟨vk, vn, vs⟩) HV2.out
 dsimp only at hs2
 clear hb H4 HB1 HV1
 refine hK.out _ _ hs2 (fun hHeld2 => ?_)
 clear hK K hHeld1 
 try simp only [PT]
 refine tk 6 (.bool true) ‹_› ?_ ?_
 ·intro w0 hSw
  obtain ⟨e0, e1, e2⟩ := hSw
  have hcc := HCC.out.trans Q1
  go_simp
 try simp only [PT]
 refine tk 7 ?_ ‹_› ?_ ?_; rotate_left; focus (intro w0 hSw; obtain ⟨e0, e1, e2⟩ := hSw; go_simp; try with_reducible rfl)
 try simp only [PT]
 refine tk 8 ?_ ‹_› ?_ ?_; rotate_left; focus (intro w0 hSw; obtain ⟨e0, e1, e2⟩ := hSw; go_simp; try with_reducible rfl)
 refine tk 9 ?_ ‹_› ?_ ?_; rotate_left; focus (intro w0 hSw; obtain ⟨e0, e1, e2⟩ := hSw; go_simp; try with_reducible rfl)
 refine tk 11 ?_ ‹_› ?_ ?_; rotate_left; focus (intro w0 hSw; obtain ⟨e0, e1, e2⟩ := hSw; go_simp; try with_reducible rfl)
 refine tk 12 ?_ ‹_› ?_ ?_; rotate_left; focus (intro w0 hSw; obtain ⟨e0, e1, e2⟩ := hSw; go_simp; try with_reducible rfl)
 try simp only [PT]
 refine wpAnyH_ready (rs := [10]) (by decide +kernel) (by simp) (AllReadyH.cons rfl (fun K hK => ?_) AllReadyH.nil)
 go_simp
 refine (H5.out _ HB2.out).mono ?_
 rintro e w3 ⟨rfl, hb⟩
 have HB3 := Lib.hid (HB2.out.trans (hb.mono HB2.out.size))
 have HV3 := Lib.hid (HV2.out.low hb)
 have hs3 := Blk.three (v := ⟨vk, vn, vs⟩) HV3.out
 dsimp only at hs3
 clear hb H5 HB2 HV2
 refine hK.out _ _ hs3 (fun hHeld3 => ?_)
 clear hK K hHeld2 
 try simp only [PT]
 refine wpAnyH_ready (rs := [13]) (by decide +kernel) (by simp) (AllReadyH.cons rfl (fun K hK => ?_) AllReadyH.nil)
 go_simp
 refine (H6.out _ HB3.out).mono ?_
 rintro e w4 ⟨rfl, hb⟩
 have HB4 := Lib.hid (HB3.out.trans (hb.mono HB3.out.size))
 have HV4 := Lib.hid (HV3.out.low hb)
 have hs4 := Blk.three (v := ⟨vk, vn, vs⟩) HV4.out
 dsimp only at hs4
 clear hb H6 HB3 HV3
 refine hK.out _ _ hs4 (fun hHeld4 => ?_)
 clear hK K hHeld3 
 try simp only [PT]
 refine tk 14 (.bool true) ‹_› ?_ ?_
 ·intro w0 hSw
  obtain ⟨e0, e1, e2⟩ := hSw
  go_simp
 try simp only [PT]
 refine tk 15 ?_ ‹_› ?_ ?_; rotate_left; focus (intro w0 hSw; obtain ⟨e0, e1, e2⟩ := hSw; go_simp; try with_reducible rfl)
 refine tk 16 ?_ ‹_› ?_ ?_; rotate_left; focus (intro w0 hSw; obtain ⟨e0, e1, e2⟩ := hSw; go_simp; try with_reducible rfl)
 try simp only [PT]
 refine tk 17 ?_ ‹_› ?_ ?_; rotate_left; focus (intro w0 hSw; obtain ⟨e0, e1, e2⟩ := hSw; go_simp; try with_reducible rfl)
 refine tk 18 ?_ ‹_› ?_ ?_; rotate_left; focus (intro w0 hSw; obtain ⟨e0, e1, e2⟩ := hSw; go_simp; try with_reducible rfl)
 refine tk 20 ?_ ‹_› ?_ ?_; rotate_left; focus (intro w0 hSw; obtain ⟨e0, e1, e2⟩ := hSw; go_simp; try with_reducible rfl)
 refine tk 21 ?_ ‹_› ?_ ?_; rotate_left; focus (intro w0 hSw; obtain ⟨e0, e1, e2⟩ := hSw; go_simp; try with_reducible rfl)
 try simp only [PT]
 refine wpAnyH_ready (rs := [19]) (by decide +kernel) (by simp) (AllReadyH.cons rfl (fun K hK => ?_) AllReadyH.nil)
 go_simp
 refine (H7.out _ HB4.out).mono ?_
 rintro e w5 ⟨rfl, hb⟩
 have HB5 := Lib.hid (HB4.out.trans (hb.mono HB4.out.size))
 have HV5 := Lib.hid (HV4.out.low hb)
 have hs5 := Blk.three (v := ⟨vk, vn, vs⟩) HV5.out
 dsimp only at hs5
 clear hb H7 HB4 HV4
 refine hK.out _ _ hs5 (fun hHeld5 => ?_)
 clear hK K hHeld4 
 try simp only [PT]
 refine wpAnyH_ready (rs := [22]) (by decide +kernel) (by simp) (AllReadyH.cons rfl (fun K hK => ?_) AllReadyH.nil)
 go_simp
 refine (H8.out _ HB5.out).mono ?_
 rintro e w6 ⟨rfl, hb⟩
 have HB6 := Lib.hid (HB5.out.trans (hb.mono HB5.out.size))
 have HV6 := Lib.hid (HV5.out.low hb)
 have hs6 := Blk.three (v := ⟨vk, vn, vs⟩) HV6.out
 dsimp only at hs6
 clear hb H8 HB5 HV5
 refine hK.out _ _ hs6 (fun hHeld6 => ?_)
 clear hK K hHeld5 
 try simp only [PT]
 refine tk 23 (.bool true) ‹_› ?_ ?_
 ·intro w0 hSw
  obtain ⟨e0, e1, e2⟩ := hSw
  go_simp
 try simp only [PT]
 refine tk 24 ?_ ‹_› ?_ ?_; rotate_left; focus (intro w0 hSw; obtain ⟨e0, e1, e2⟩ := hSw; go_simp; try with_reducible rfl)
 refine tk 25 ?_ ‹_› ?_ ?_; rotate_left; focus (intro w0 hSw; obtain ⟨e0, e1, e2⟩ := hSw; go_simp; try with_reducible rfl)
 try simp only [PT]
 refine tk 26 ?_ ‹_› ?_ ?_; rotate_left; focus (intro w0 hSw; obtain ⟨e0, e1, e2⟩ := hSw; go_simp; try with_reducible rfl)
 refine tk 27 ?_ ‹_› ?_ ?_; rotate_left; focus (intro w0 hSw; obtain ⟨e0, e1, e2⟩ := hSw; go_simp; try with_reducible rfl)
 try simp only [PT]
 refine tk 28 (.bool true) ‹_› ?_ ?_
 ·intro w0 hSw
  obtain ⟨e0, e1, e2⟩ := hSw
  go_simp
 try simp only [PT]
 refine tk 29 ?_ ‹_› ?_ ?_; rotate_left; focus (intro w0 hSw; obtain ⟨e0, e1, e2⟩ := hSw; go_simp; try with_reducible rfl)
 refine tk 30 ?_ ‹_› ?_ ?_; rotate_left; focus (intro w0 hSw; obtain ⟨e0, e1, e2⟩ := hSw; go_simp; try with_reducible rfl)
 try simp only [PT]
 refine tk 31 ?_ ‹_› ?_ ?_; rotate_left; focus (intro w0 hSw; obtain ⟨e0, e1, e2⟩ := hSw; go_simp; try with_reducible rfl)
 refine tk 32 ?_ ‹_› ?_ ?_; rotate_left; focus (intro w0 hSw; obtain ⟨e0, e1, e2⟩ := hSw; go_simp; try with_reducible rfl)
 refine tk 33 ?_ ‹_› ?_ ?_; rotate_left; focus (intro w0 hSw; obtain ⟨e0, e1, e2⟩ := hSw; go_simp; try with_reducible rfl)
 refine tk 34 ?_ ‹_› ?_ ?_; rotate_left; focus (intro w0 hSw; obtain ⟨e0, e1, e2⟩ := hSw; go_simp; try with_reducible rfl)
 refine tk 35 ?_ ‹_› ?_ ?_; rotate_left; focus (intro w0 hSw; obtain ⟨e0, e1, e2⟩ := hSw; go_simp; try with_reducible rfl)
 try simp only [PT]
 refine wpAnyH_done (by kernel_rfl) ?_ _
 clear hHeld6 hs6
 go_wp2_with fail
 refine bodyPost_ret (results_tmp rfl _ _ _) rfl ⟨?_, HB6.out⟩
 rfl
set_option maxRecDepth 20000 in
set_option maxHeartbeats 4000000 in
theorem looks_gen (w : World) (A X : Nat) (v : Vl) (n m : Int) (is was op wop : Bool) (cls wcls : ByteArray) (pr wpr : Vl)
  (h1 : ∀ w1, Below w.heap.size w w1 → Calls Tryz.prog 29 #[pv A, v.v] w1 fun e w2 => e = .returned (.tuple #[.int .i64 n, .bool is]) ∧ Below w1.heap.size w1 w2)
  (h2 : ∀ w1, Below w.heap.size w w1 → Calls Tryz.prog 45 #[pv X, v.v] w1 fun e w2 => e = .returned (.tuple #[.int .i64 m, .bool was]) ∧ Below w1.heap.size w1 w2)
  (h3 : ∀ w1, Below w.heap.size w w1 → Calls Tryz.prog 19 #[pv A, v.v] w1 fun e w2 => e = .returned (.string cls) ∧ Below w1.heap.size w1 w2)
  (h4 : ∀ w1, Below w.heap.size w w1 → Calls Tryz.prog 46 #[pv X, v.v] w1 fun e w2 => e = .returned (.string wcls) ∧ Below w1.heap.size w1 w2)
  (h5 : ∀ w1, Below w.heap.size w w1 → Calls Tryz.prog 25 #[pv A, v.v] w1 fun e w2 => e = .returned (pr.v) ∧ Below w1.heap.size w1 w2)
  (h6 : ∀ w1, Below w.heap.size w w1 → Calls Tryz.prog 47 #[pv X, v.v] w1 fun e w2 => e = .returned (wpr.v) ∧ Below w1.heap.size w1 w2)
  (h7 : ∀ w1, Below w.heap.size w w1 → Calls Tryz.prog 21 #[pv A, v.v] w1 fun e w2 => e = .returned (.bool op) ∧ Below w1.heap.size w1 w2)
  (h8 : ∀ w1, Below w.heap.size w w1 → Calls Tryz.prog 48 #[pv X, v.v] w1 fun e w2 => e = .returned (.bool wop) ∧ Below w1.heap.size w1 w2) :
  Calls Tryz.prog 14 #[pv A, pv X, v.v] w (AnsB w (decide (cls = wcls) && (decide (pr = wpr) && ((op == wop) && (decide (n = m) && (is == was)))))) := by
 cases Q1 : decide (cls = wcls) with
 | false => exact looks_0 w A X v n m is was op wop cls wcls pr wpr h1 h2 h3 h4 h5 h6 h7 h8 Q1
 | true =>
  rw [Bool.true_and]
  cases Q2 : decide (pr = wpr) with
  | false => exact looks_1 w A X v n m is was op wop cls wcls pr wpr h1 h2 h3 h4 h5 h6 h7 h8 Q1 Q2
  | true =>
   rw [Bool.true_and]
   cases Q3 : (op == wop) with
   | false => exact looks_2 w A X v n m is was op wop cls wcls pr wpr h1 h2 h3 h4 h5 h6 h7 h8 Q1 Q2 Q3
   | true =>
    rw [Bool.true_and]
    cases Q4 : decide (n = m) with
    | false => exact looks_3 w A X v n m is was op wop cls wcls pr wpr h1 h2 h3 h4 h5 h6 h7 h8 Q1 Q2 Q3 Q4
    | true => exact looks_4 w A X v n m is was op wop cls wcls pr wpr h1 h2 h3 h4 h5 h6 h7 h8 Q1 Q2 Q3 Q4
set_option maxRecDepth 20000 in
set_option maxHeartbeats 4000000 in
theorem do6_f (w : World) (A X : Nat) (o : Op) (sl : Value) (e : o.d = 6) (ks ks' es es' : List ByteArray) (n1 : ks.length ≤ 100000000000) (n2 : ks'.length ≤ 100000000000) (n3 : es.length ≤ 100000000000) (n4 : es'.length ≤ 100000000000)
  (h1 : ∀ w1, Below w.heap.size w w1 → Calls Tryz.prog 20 #[pv A, o.v.v] w1 fun e w2 => ∃ r, e = .returned r ∧ Nm w2 r ks ∧ Below w1.heap.size w1 w2)
  (h2 : ∀ w1, Below w.heap.size w w1 → Calls Tryz.prog 15 #[pv X, o.v.v] w1 fun e w2 => ∃ r, e = .returned r ∧ Nm w2 r ks' ∧ Below w1.heap.size w1 w2)
  (h3 : ∀ w1, Below w.heap.size w w1 → Calls Tryz.prog 40 #[pv A, o.v.v] w1 fun e w2 => ∃ r, e = .returned r ∧ Nm w2 r es ∧ Below w1.heap.size w1 w2)
  (h4 : ∀ w1, Below w.heap.size w w1 → Calls Tryz.prog 41 #[pv X, o.v.v] w1 fun e w2 => ∃ r, e = .returned r ∧ Nm w2 r es' ∧ Below w1.heap.size w1 w2) (Q1 : decide (ks = ks') = false) :
  Calls Tryz.prog 11 #[pv A, pv X, opV o sl] w (AnsB w (false)) := by
 have hb0 := (below_new w (.cells (opC o sl).toArray 34)).drew
 have HB0 := Lib.hid hb0
 have HO0 := Lib.hid ((Blk.new w 34 (opC o sl)).fr (w' := (w.alloc (.cells (opC o sl).toArray 34)).drew) rfl)
 have hs0 := (op_cells HO0.out).1
 have H1 := Lib.hid h1
 have H2 := Lib.hid h2
 have H3 := Lib.hid h3
 have H4 := Lib.hid h4
 have M1 := Lib.hid n1
 have M2 := Lib.hid n2
 have M3 := Lib.hid n3
 have M4 := Lib.hid n4
 clear h1 h2 h3 h4 hb0 n1 n2 n3 n4
 obtain ⟨d, ⟨vk, vn, vs⟩, ⟨xk, xn, xs⟩, key, ⟨pk, ⟨pvk, pvn, pvs⟩, pw, pe, pf⟩, l⟩ := o
 dsimp only at e hs0
 subst e
 simp only [opV, Vl.v] at HB0 HO0 H1 H2 H3 H4 ⊢
 go_enter Tryz.func11, Tryz.ntmps11
 go_wp2_with fail
 refine wp_region_held_drew (S := (fun w' : World => w'.cell? ⟨w.heap.size, 1, none⟩ = some (.int .i64 vk) ∧ w'.cell? ⟨w.heap.size, 2, none⟩ = some (.int .i64 vn) ∧ w'.cell? ⟨w.heap.size, 3, none⟩ = some (.string vs))) (by kernel_rfl) (hs0) (fun hHeld0 => ?_)
 generalize World.drew _ = w0 at *
 clear hs0
 refine tk 0 ?_ ‹_› ?_ ?_; rotate_left; focus (intro w0 hSw; obtain ⟨e1, e2, e3⟩ := hSw; go_simp; try with_reducible rfl)
 try simp only [PT]
 refine tk 1 ?_ ‹_› ?_ ?_; rotate_left; focus (intro w0 hSw; obtain ⟨e1, e2, e3⟩ := hSw; go_simp; try with_reducible rfl)
 try simp only [PT]
 refine tk 2 ?_ ‹_› ?_ ?_; rotate_left; focus (intro w0 hSw; obtain ⟨e1, e2, e3⟩ := hSw; go_simp; try with_reducible rfl)
 try simp only [PT]
 refine tk 4 ?_ ‹_› ?_ ?_; rotate_left; focus (intro w0 hSw; obtain ⟨e1, e2, e3⟩ := hSw; go_simp; try with_reducible rfl)
 try simp only [PT]
 refine tk 5 ?_ ‹_› ?_ ?_; rotate_left; focus (intro w0 hSw; obtain ⟨e1, e2, e3⟩ := hSw; go_simp; try with_reducible rfl)
 try simp only [PT]
 refine tk 6 ?_ ‹_› ?_ ?_; rotate_left; focus (intro w0 hSw; obtain ⟨e1, e2, e3⟩ := hSw; go_simp; try with_reducible rfl)
 try simp only [PT]
 refine wpAnyH_ready (rs := [3]) (by decide +kernel) (by simp) (AllReadyH.cons rfl (fun K hK => ?_) AllReadyH.nil)
 go_simp
 refine (H1.out _ HB0.out).mono ?_
 rintro e w1 ⟨r, rfl, hnm, hb⟩
 have HB1 := Lib.hid (HB0.out.trans (hb.mono HB0.out.size))
 have HO1 := Lib.hid (HO0.out.low hb)
 have hs1 := (op_cells HO1.out).1
 dsimp only at hs1
 have Nr1 := Lib.hid hnm
 clear hb hnm H1 HB0 HO0 
 refine hK.out _ _ hs1 (fun hHeld1 => ?_)
 clear hK K hHeld0 
 try simp only [PT]
 refine wpAnyH_ready (rs := [7]) (by decide +kernel) (by simp) (AllReadyH.cons rfl (fun K hK => ?_) AllReadyH.nil)
 go_simp
 refine (H2.out _ HB1.out).mono ?_
 rintro e w2 ⟨s, rfl, hnm, hb⟩
 have HB2 := Lib.hid (HB1.out.trans (hb.mono HB1.out.size))
 have HO2 := Lib.hid (HO1.out.low hb)
 have hs2 := (op_cells HO2.out).1
 dsimp only at hs2
 have Nr2 := Lib.hid (Nr1.out.low hb)
 have Ns2 := Lib.hid hnm
 clear hb hnm H2 HB1 HO1 Nr1
 refine hK.out _ _ hs2 (fun hHeld2 => ?_)
 clear hK K hHeld1 
 try simp only [PT]
 refine wpAnyH_ready (rs := [8]) (by decide +kernel) (by simp) (AllReadyH.cons rfl (fun K hK => ?_) AllReadyH.nil)
 have HN := names_any ks ks' r s w2 Nr2.out Ns2.out M1.out M2.out
 rw [Q1] at HN
 go_simp
 refine HN.mono ?_
 rintro e w3 ⟨rfl, hb⟩
 have HB3 := Lib.hid (HB2.out.trans (hb.mono HB2.out.size))
 have HO3 := Lib.hid (HO2.out.low hb)
 have hs3 := (op_cells HO3.out).1
 dsimp only at hs3
 clear hb HN HB2 HO2 Nr2 Ns2
 refine hK.out _ _ hs3 (fun hHeld3 => ?_)
 clear hK K hHeld2 
 try simp only [PT]
 refine tk 9 ?_ ‹_› ?_ ?_; rotate_left; focus (intro w0 hSw; obtain ⟨e1, e2, e3⟩ := hSw; go_simp; try with_reducible rfl)
 try simp only [PT]
 refine sk 10 ‹_› ?_
 try simp only [PT]
 refine sk 11 ‹_› ?_
 try simp only [PT]
 refine sk 12 ‹_› ?_
 try simp only [PT]
 refine sk 13 ‹_› ?_
 try simp only [PT]
 refine sk 14 ‹_› ?_
 try simp only [PT]
 refine sk 15 ‹_› ?_
 try simp only [PT]
 refine sk 16 ‹_› ?_
 try simp only [PT]
 refine sk 17 ‹_› ?_
 try simp only [PT]
 refine sk 18 ‹_› ?_
 try simp only [PT]
 refine tk 19 ?_ ‹_› ?_ ?_; rotate_left; focus (intro w0 hSw; obtain ⟨e1, e2, e3⟩ := hSw; go_simp; try with_reducible rfl)
 try simp only [PT]
 refine tk 20 ?_ ‹_› ?_ ?_; rotate_left; focus (intro w0 hSw; obtain ⟨e1, e2, e3⟩ := hSw; go_simp; try with_reducible rfl)
 try simp only [PT]
 refine wpAnyH_done (by kernel_rfl) ?_ _
 clear hHeld3 hs3
 go_wp2_with fail
 refine bodyPost_ret (results_tmp rfl _ _ _) rfl ⟨rfl, HB3.out⟩
set_option maxRecDepth 20000 in
set_option maxHeartbeats 4000000 in
theorem do6_t (w : World) (A X : Nat) (o : Op) (sl : Value) (e : o.d = 6) (ks ks' es es' : List ByteArray) (n1 : ks.length ≤ 100000000000) (n2 : ks'.length ≤ 100000000000) (n3 : es.length ≤ 100000000000) (n4 : es'.length ≤ 100000000000)
  (h1 : ∀ w1, Below w.heap.size w w1 → Calls Tryz.prog 20 #[pv A, o.v.v] w1 fun e w2 => ∃ r, e = .returned r ∧ Nm w2 r ks ∧ Below w1.heap.size w1 w2)
  (h2 : ∀ w1, Below w.heap.size w w1 → Calls Tryz.prog 15 #[pv X, o.v.v] w1 fun e w2 => ∃ r, e = .returned r ∧ Nm w2 r ks' ∧ Below w1.heap.size w1 w2)
  (h3 : ∀ w1, Below w.heap.size w w1 → Calls Tryz.prog 40 #[pv A, o.v.v] w1 fun e w2 => ∃ r, e = .returned r ∧ Nm w2 r es ∧ Below w1.heap.size w1 w2)
  (h4 : ∀ w1, Below w.heap.size w w1 → Calls Tryz.prog 41 #[pv X, o.v.v] w1 fun e w2 => ∃ r, e = .returned r ∧ Nm w2 r es' ∧ Below w1.heap.size w1 w2) (Q1 : decide (ks = ks') = true) (b : Bool) (Q2 : decide (es = es') = b) :
  Calls Tryz.prog 11 #[pv A, pv X, opV o sl] w (AnsB w (b)) := by
 have hb0 := (below_new w (.cells (opC o sl).toArray 34)).drew
 have HB0 := Lib.hid hb0
 have HO0 := Lib.hid ((Blk.new w 34 (opC o sl)).fr (w' := (w.alloc (.cells (opC o sl).toArray 34)).drew) rfl)
 have hs0 := (op_cells HO0.out).1
 have H1 := Lib.hid h1
 have H2 := Lib.hid h2
 have H3 := Lib.hid h3
 have H4 := Lib.hid h4
 have M1 := Lib.hid n1
 have M2 := Lib.hid n2
 have M3 := Lib.hid n3
 have M4 := Lib.hid n4
 clear h1 h2 h3 h4 hb0 n1 n2 n3 n4
 obtain ⟨d, ⟨vk, vn, vs⟩, ⟨xk, xn, xs⟩, key, ⟨pk, ⟨pvk, pvn, pvs⟩, pw, pe, pf⟩, l⟩ := o
 dsimp only at e hs0
 subst e
 simp only [opV, Vl.v] at HB0 HO0 H1 H2 H3 H4 ⊢
 go_enter Tryz.func11, Tryz.ntmps11
 go_wp2_with fail
 refine wp_region_held_drew (S := (fun w' : World => w'.cell? ⟨w.heap.size, 1, none⟩ = some (.int .i64 vk) ∧ w'.cell? ⟨w.heap.size, 2, none⟩ = some (.int .i64 vn) ∧ w'.cell? ⟨w.heap.size, 3, none⟩ = some (.string vs))) (by kernel_rfl) (hs0) (fun hHeld0 => ?_)
 generalize World.drew _ = w0 at *
 clear hs0
 refine tk 0 ?_ ‹_› ?_ ?_; rotate_left; focus (intro w0 hSw; obtain ⟨e1, e2, e3⟩ := hSw; go_simp; try with_reducible rfl)
 try simp only [PT]
 refine tk 1 ?_ ‹_› ?_ ?_; rotate_left; focus (intro w0 hSw; obtain ⟨e1, e2, e3⟩ := hSw; go_simp; try with_reducible rfl)
 try simp only [PT]
 refine tk 2 ?_ ‹_› ?_ ?_; rotate_left; focus (intro w0 hSw; obtain ⟨e1, e2, e3⟩ := hSw; go_simp; try with_reducible rfl)
 try simp only [PT]
 refine tk 4 ?_ ‹_› ?_ ?_; rotate_left; focus (intro w0 hSw; obtain ⟨e1, e2, e3⟩ := hSw; go_simp; try with_reducible rfl)
 try simp only [PT]
 refine tk 5 ?_ ‹_› ?_ ?_; rotate_left; focus (intro w0 hSw; obtain ⟨e1, e2, e3⟩ := hSw; go_simp; try with_reducible rfl)
 try simp only [PT]
 refine tk 6 ?_ ‹_› ?_ ?_; rotate_left; focus (intro w0 hSw; obtain ⟨e1, e2, e3⟩ := hSw; go_simp; try with_reducible rfl)
 try simp only [PT]
 refine wpAnyH_ready (rs := [3]) (by decide +kernel) (by simp) (AllReadyH.cons rfl (fun K hK => ?_) AllReadyH.nil)
 go_simp
 refine (H1.out _ HB0.out).mono ?_
 rintro e w1 ⟨r, rfl, hnm, hb⟩
 have HB1 := Lib.hid (HB0.out.trans (hb.mono HB0.out.size))
 have HO1 := Lib.hid (HO0.out.low hb)
 have hs1 := (op_cells HO1.out).1
 dsimp only at hs1
 have Nr1 := Lib.hid hnm
 clear hb hnm H1 HB0 HO0 
 refine hK.out _ _ hs1 (fun hHeld1 => ?_)
 clear hK K hHeld0 
 try simp only [PT]
 refine wpAnyH_ready (rs := [7]) (by decide +kernel) (by simp) (AllReadyH.cons rfl (fun K hK => ?_) AllReadyH.nil)
 go_simp
 refine (H2.out _ HB1.out).mono ?_
 rintro e w2 ⟨s, rfl, hnm, hb⟩
 have HB2 := Lib.hid (HB1.out.trans (hb.mono HB1.out.size))
 have HO2 := Lib.hid (HO1.out.low hb)
 have hs2 := (op_cells HO2.out).1
 dsimp only at hs2
 have Nr2 := Lib.hid (Nr1.out.low hb)
 have Ns2 := Lib.hid hnm
 clear hb hnm H2 HB1 HO1 Nr1
 refine hK.out _ _ hs2 (fun hHeld2 => ?_)
 clear hK K hHeld1 
 try simp only [PT]
 refine wpAnyH_ready (rs := [8]) (by decide +kernel) (by simp) (AllReadyH.cons rfl (fun K hK => ?_) AllReadyH.nil)
 have HN := names_any ks ks' r s w2 Nr2.out Ns2.out M1.out M2.out
 rw [Q1] at HN
 go_simp
 refine HN.mono ?_
 rintro e w3 ⟨rfl, hb⟩
 have HB3 := Lib.hid (HB2.out.trans (hb.mono HB2.out.size))
 have HO3 := Lib.hid (HO2.out.low hb)
 have hs3 := (op_cells HO3.out).1
 dsimp only at hs3
 clear hb HN HB2 HO2 Nr2 Ns2
 refine hK.out _ _ hs3 (fun hHeld3 => ?_)
 clear hK K hHeld2 
 try simp only [PT]
 refine tk 9 ?_ ‹_› ?_ ?_; rotate_left; focus (intro w0 hSw; obtain ⟨e1, e2, e3⟩ := hSw; go_simp; try with_reducible rfl)
 try simp only [PT]
 refine tk 10 ?_ ‹_› ?_ ?_; rotate_left; focus (intro w0 hSw; obtain ⟨e1, e2, e3⟩ := hSw; go_simp; try with_reducible rfl)
 try simp only [PT]
 refine tk 11 ?_ ‹_› ?_ ?_; rotate_left; focus (intro w0 hSw; obtain ⟨e1, e2, e3⟩ := hSw; go_simp; try with_reducible rfl)
 try simp only [PT]
 refine tk 12 ?_ ‹_› ?_ ?_; rotate_left; focus (intro w0 hSw; obtain ⟨e1, e2, e3⟩ := hSw; go_simp; try with_reducible rfl)
 try simp only [PT]
 refine tk 14 ?_ ‹_› ?_ ?_; rotate_left; focus (intro w0 hSw; obtain ⟨e1, e2, e3⟩ := hSw; go_simp; try with_reducible rfl)
 try simp only [PT]
 refine tk 15 ?_ ‹_› ?_ ?_; rotate_left; focus (intro w0 hSw; obtain ⟨e1, e2, e3⟩ := hSw; go_simp; try with_reducible rfl)
 try simp only [PT]
 refine tk 16 ?_ ‹_› ?_ ?_; rotate_left; focus (intro w0 hSw; obtain ⟨e1, e2, e3⟩ := hSw; go_simp; try with_reducible rfl)
 try simp only [PT]
 refine wpAnyH_ready (rs := [13]) (by decide +kernel) (by simp) (AllReadyH.cons rfl (fun K hK => ?_) AllReadyH.nil)
 go_simp
 refine (H3.out _ HB3.out).mono ?_
 rintro e w4 ⟨p, rfl, hnm, hb⟩
 have HB4 := Lib.hid (HB3.out.trans (hb.mono HB3.out.size))
 have HO4 := Lib.hid (HO3.out.low hb)
 have hs4 := (op_cells HO4.out).1
 dsimp only at hs4
 have Np4 := Lib.hid hnm
 clear hb hnm H3 HB3 HO3 
 refine hK.out _ _ hs4 (fun hHeld4 => ?_)
 clear hK K hHeld3 
 try simp only [PT]
 refine wpAnyH_ready (rs := [17]) (by decide +kernel) (by simp) (AllReadyH.cons rfl (fun K hK => ?_) AllReadyH.nil)
 go_simp
 refine (H4.out _ HB4.out).mono ?_
 rintro e w5 ⟨q, rfl, hnm, hb⟩
 have HB5 := Lib.hid (HB4.out.trans (hb.mono HB4.out.size))
 have HO5 := Lib.hid (HO4.out.low hb)
 have hs5 := (op_cells HO5.out).1
 dsimp only at hs5
 have Np5 := Lib.hid (Np4.out.low hb)
 have Nq5 := Lib.hid hnm
 clear hb hnm H4 HB4 HO4 Np4
 refine hK.out _ _ hs5 (fun hHeld5 => ?_)
 clear hK K hHeld4 
 try simp only [PT]
 refine wpAnyH_ready (rs := [18]) (by decide +kernel) (by simp) (AllReadyH.cons rfl (fun K hK => ?_) AllReadyH.nil)
 have HN := names_any es es' p q w5 Np5.out Nq5.out M3.out M4.out
 rw [Q2] at HN
 go_simp
 refine HN.mono ?_
 rintro e w6 ⟨rfl, hb⟩
 have HB6 := Lib.hid (HB5.out.trans (hb.mono HB5.out.size))
 have HO6 := Lib.hid (HO5.out.low hb)
 have hs6 := (op_cells HO6.out).1
 dsimp only at hs6
 clear hb HN HB5 HO5 Np5 Nq5
 refine hK.out _ _ hs6 (fun hHeld6 => ?_)
 clear hK K hHeld5 
 try simp only [PT]
 refine tk 19 ?_ ‹_› ?_ ?_; rotate_left; focus (intro w0 hSw; obtain ⟨e1, e2, e3⟩ := hSw; go_simp; try with_reducible rfl)
 try simp only [PT]
 refine tk 20 ?_ ‹_› ?_ ?_; rotate_left; focus (intro w0 hSw; obtain ⟨e1, e2, e3⟩ := hSw; go_simp; try with_reducible rfl)
 try simp only [PT]
 refine wpAnyH_done (by kernel_rfl) ?_ _
 clear hHeld6 hs6
 go_wp2_with fail
 refine bodyPost_ret (results_tmp rfl _ _ _) rfl ⟨rfl, HB6.out⟩
theorem do6_gen (w : World) (A X : Nat) (o : Op) (sl : Value) (e : o.d = 6) (ks ks' es es' : List ByteArray) (n1 : ks.length ≤ 100000000000) (n2 : ks'.length ≤ 100000000000) (n3 : es.length ≤ 100000000000) (n4 : es'.length ≤ 100000000000)
  (h1 : ∀ w1, Below w.heap.size w w1 → Calls Tryz.prog 20 #[pv A, o.v.v] w1 fun e w2 => ∃ r, e = .returned r ∧ Nm w2 r ks ∧ Below w1.heap.size w1 w2)
  (h2 : ∀ w1, Below w.heap.size w w1 → Calls Tryz.prog 15 #[pv X, o.v.v] w1 fun e w2 => ∃ r, e = .returned r ∧ Nm w2 r ks' ∧ Below w1.heap.size w1 w2)
  (h3 : ∀ w1, Below w.heap.size w w1 → Calls Tryz.prog 40 #[pv A, o.v.v] w1 fun e w2 => ∃ r, e = .returned r ∧ Nm w2 r es ∧ Below w1.heap.size w1 w2)
  (h4 : ∀ w1, Below w.heap.size w w1 → Calls Tryz.prog 41 #[pv X, o.v.v] w1 fun e w2 => ∃ r, e = .returned r ∧ Nm w2 r es' ∧ Below w1.heap.size w1 w2) :
  Calls Tryz.prog 11 #[pv A, pv X, opV o sl] w (AnsB w (decide (ks = ks') && decide (es = es'))) := by
 cases Q1 : decide (ks = ks') with
 | false => exact do6_f w A X o sl e ks ks' es es' n1 n2 n3 n4 h1 h2 h3 h4 Q1
 | true => exact do6_t w A X o sl e ks ks' es es' n1 n2 n3 n4 h1 h2 h3 h4 Q1 _ rfl
end Go.Proofs.YtcahijpbkjplmaaGreatDoor.G
