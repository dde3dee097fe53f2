/-
  looks, given what both sides answer, whatever the world. (gen_fj.py)
  looks, given what both sides answer, whatever the world. (gen_fj.py)
  do of a call number 8 beside a reference where nothing is done, by contract. (gen_fa.py)
-/
import Derived.Test.YtcahijpbkjplmaaGreatDoorMFa
import Derived.Test.YtcahijpbkjplmaaGreatDoorMFj1
import Derived.Test.YtcahijpbkjplmaaGreatDoorMFj3
namespace Go.Proofs.YtcahijpbkjplmaaGreatDoor.G
open Go.RowKit Go.Shelf Go.Maps Go.Lib Go.Proofs.YtcahijpbkjplmaaGreatDoor

set_option linter.unusedSimpArgs false in
set_option maxRecDepth 20000 in
set_option maxHeartbeats 4000000 in
theorem looks_4 (w : World) (A X : Nat) (v : Vl) (n m : Int) (is was op wop : Bool) (cls wcls : ByteArray) (pr wpr : Vl)
    (h1 : ∀ w1, Below w.heap.size w w1 → Calls Tryz.prog 29 #[pv A, v.v] w1 fun e w2 => e = .returned (.tuple #[.int .i64 n, .bool is]) ∧ Below w1.heap.size w1 w2)
    (h2 : ∀ w1, Below w.heap.size w w1 → Calls Tryz.prog 45 #[pv X, v.v] w1 fun e w2 => e = .returned (.tuple #[.int .i64 m, .bool was]) ∧ Below w1.heap.size w1 w2)
    (h3 : ∀ w1, Below w.heap.size w w1 → Calls Tryz.prog 19 #[pv A, v.v] w1 fun e w2 => e = .returned (.string cls) ∧ Below w1.heap.size w1 w2)
    (h4 : ∀ w1, Below w.heap.size w w1 → Calls Tryz.prog 46 #[pv X, v.v] w1 fun e w2 => e = .returned (.string wcls) ∧ Below w1.heap.size w1 w2)
    (h5 : ∀ w1, Below w.heap.size w w1 → Calls Tryz.prog 25 #[pv A, v.v] w1 fun e w2 => e = .returned (pr.v) ∧ Below w1.heap.size w1 w2)
    (h6 : ∀ w1, Below w.heap.size w w1 → Calls Tryz.prog 47 #[pv X, v.v] w1 fun e w2 => e = .returned (wpr.v) ∧ Below w1.heap.size w1 w2)
    (h7 : ∀ w1, Below w.heap.size w w1 → Calls Tryz.prog 21 #[pv A, v.v] w1 fun e w2 => e = .returned (.bool op) ∧ Below w1.heap.size w1 w2)
    (h8 : ∀ w1, Below w.heap.size w w1 → Calls Tryz.prog 48 #[pv X, v.v] w1 fun e w2 => e = .returned (.bool wop) ∧ Below w1.heap.size w1 w2)
    (Q1 : decide (cls = wcls) = true) (Q2 : decide (pr = wpr) = true) (Q3 : (op == wop) = true) (Q4 : decide (n = m) = true) :
    Calls Tryz.prog 14 #[pv A, pv X, v.v] w (AnsB w (is == was)) := by
  obtain rfl := of_decide_eq_true Q2
  obtain rfl := eq_of_beq Q3
  obtain rfl := of_decide_eq_true Q4
  have hb0 := below_new w (.cells v.cs.toArray 29)
  have HB := Lib.hid hb0
  have HV := Lib.hid (Blk.new w 29 v.cs)
  have H1 := Lib.hid h1
  have H2 := Lib.hid h2
  have H3 := Lib.hid h3
  have H4 := Lib.hid h4
  have H5 := Lib.hid h5
  have H6 := Lib.hid h6
  have H7 := Lib.hid h7
  have H8 := Lib.hid h8
  clear h1 h2 h3 h4 h5 h6 h7 h8 hb0
  have HCC := Lib.hid (toList_eq_is cls wcls)
  obtain ⟨vk, vn, vs⟩ := v
  obtain ⟨ok, on, os⟩ := pr
  simp only [Vl.v, Vl.cs] at HB HV H1 H2 H3 H4 H5 H6 H7 H8 ⊢
  go_enter Tryz.func14, Tryz.ntmps14
  go_wp2_with fail
  refine (H1.out _ HB.out).mono ?_
  rintro e wa ⟨rfl, hb⟩
  have HBa := Lib.hid (HB.out.trans (hb.mono HB.out.size))
  have HVa := Lib.hid (HV.out.low hb)
  obtain ⟨d0, d1, d2⟩ := Blk.three (v := ⟨vk, vn, vs⟩) HVa.out
  dsimp only at d0 d1 d2
  clear hb HB HV H1
  go_wp2_with fail
  refine (H2.out _ HBa.out).mono ?_
  rintro e wb ⟨rfl, hb⟩
  have hb2 := hb.drew
  have HB0 := Lib.hid (HBa.out.trans (hb2.mono HBa.out.size))
  have HV0 := Lib.hid (HVa.out.low hb2)
  have hs0 := Blk.three (v := ⟨vk, vn, vs⟩) HV0.out
  dsimp only at hs0
  clear hb hb2 d0 d1 d2 HBa HVa H2
  go_wp2_with fail
  refine wp_region_held_drew (S := (fun w' : World => w'.cell? ⟨w.heap.size, 0, none⟩ = some (.int .i64 vk) ∧ w'.cell? ⟨w.heap.size, 1, none⟩ = some (.int .i64 vn) ∧ w'.cell? ⟨w.heap.size, 2, none⟩ = some (.string vs))) (by kernel_rfl) (hs0) (fun hHeld0 => ?_)
  generalize wb.drew = w0 at *
  clear hs0
  (refine wpAnyH_take (i := 0) (v := ?_) rfl (by kernel_rfl) (by decide +kernel) (by decide +kernel) (fun _ _ _ h => h) (Or.inl ⟨by rfl, ?_⟩) (by assumption) ?_; rotate_left; (focus (intro w0 hSw; obtain ⟨e0, e1, e2⟩ := hSw; go_simp; (try with_reducible rfl); done)))
  (refine wpAnyH_take (i := 1) (v := ?_) rfl (by kernel_rfl) (by decide +kernel) (by decide +kernel) (fun _ _ _ h => h) (Or.inl ⟨by rfl, ?_⟩) (by assumption) ?_; rotate_left; (focus (intro w0 hSw; obtain ⟨e0, e1, e2⟩ := hSw; go_simp; (try with_reducible rfl); done)))
  (refine wpAnyH_take (i := 3) (v := ?_) rfl (by kernel_rfl) (by decide +kernel) (by decide +kernel) (fun _ _ _ h => h) (Or.inl ⟨by rfl, ?_⟩) (by assumption) ?_; rotate_left; (focus (intro w0 hSw; obtain ⟨e0, e1, e2⟩ := hSw; go_simp; (try with_reducible rfl); done)))
  (refine wpAnyH_take (i := 4) (v := ?_) rfl (by kernel_rfl) (by decide +kernel) (by decide +kernel) (fun _ _ _ h => h) (Or.inl ⟨by rfl, ?_⟩) (by assumption) ?_; rotate_left; (focus (intro w0 hSw; obtain ⟨e0, e1, e2⟩ := hSw; go_simp; (try with_reducible rfl); done)))
  try simp only [List.getElem_toArray, List.getElem_cons_zero, List.getElem_cons_succ, Act.put, List.setIfInBounds_toArray, List.set_cons_zero, List.set_cons_succ]
  refine wpAnyH_ready (rs := [2]) (by decide +kernel) (by simp) (AllReadyH.cons rfl (fun K hK => ?_) AllReadyH.nil)
  go_simp
  refine (H3.out _ HB0.out).mono ?_
  rintro e w1 ⟨rfl, hb⟩
  have HB1 := Lib.hid (HB0.out.trans (hb.mono HB0.out.size))
  have HV1 := Lib.hid (HV0.out.low hb)
  have hs1 := Blk.three (v := ⟨vk, vn, vs⟩) HV1.out
  dsimp only at hs1
  clear hb H3 HB0 HV0
  refine hK.out _ _ hs1 (fun hHeld1 => ?_)
  clear hK K hHeld0 
  try simp only [List.getElem_toArray, List.getElem_cons_zero, List.getElem_cons_succ, Act.put, List.setIfInBounds_toArray, List.set_cons_zero, List.set_cons_succ]
  refine wpAnyH_ready (rs := [5]) (by decide +kernel) (by simp) (AllReadyH.cons rfl (fun K hK => ?_) AllReadyH.nil)
  go_simp
  refine (H4.out _ HB1.out).mono ?_
  rintro e w2 ⟨rfl, hb⟩
  have HB2 := Lib.hid (HB1.out.trans (hb.mono HB1.out.size))
  have HV2 := Lib.hid (HV1.out.low hb)
  have hs2 := Blk.three (v := ⟨vk, vn, vs⟩) HV2.out
  dsimp only at hs2
  clear hb H4 HB1 HV1
  refine hK.out _ _ hs2 (fun hHeld2 => ?_)
  clear hK K hHeld1 
  try simp only [List.getElem_toArray, List.getElem_cons_zero, List.getElem_cons_succ, Act.put, List.setIfInBounds_toArray, List.set_cons_zero, List.set_cons_succ]
  refine wpAnyH_take (i := 6) (v := .bool true) rfl (by kernel_rfl) (by decide +kernel) (by decide +kernel) (fun _ _ _ h => h) (Or.inl ⟨by rfl, ?_⟩) (by assumption) ?_
  · intro w0 hSw
    obtain ⟨e0, e1, e2⟩ := hSw
    have hcc := HCC.out.trans Q1
    go_simp
  try simp only [List.getElem_toArray, List.getElem_cons_zero, List.getElem_cons_succ, Act.put, List.setIfInBounds_toArray, List.set_cons_zero, List.set_cons_succ]
  (refine wpAnyH_take (i := 7) (v := ?_) rfl (by kernel_rfl) (by decide +kernel) (by decide +kernel) (fun _ _ _ h => h) (Or.inl ⟨by rfl, ?_⟩) (by assumption) ?_; rotate_left; (focus (intro w0 hSw; obtain ⟨e0, e1, e2⟩ := hSw; go_simp; (try with_reducible rfl); done)))
  try simp only [List.getElem_toArray, List.getElem_cons_zero, List.getElem_cons_succ, Act.put, List.setIfInBounds_toArray, List.set_cons_zero, List.set_cons_succ]
  (refine wpAnyH_take (i := 8) (v := ?_) rfl (by kernel_rfl) (by decide +kernel) (by decide +kernel) (fun _ _ _ h => h) (Or.inl ⟨by rfl, ?_⟩) (by assumption) ?_; rotate_left; (focus (intro w0 hSw; obtain ⟨e0, e1, e2⟩ := hSw; go_simp; (try with_reducible rfl); done)))
  (refine wpAnyH_take (i := 9) (v := ?_) rfl (by kernel_rfl) (by decide +kernel) (by decide +kernel) (fun _ _ _ h => h) (Or.inl ⟨by rfl, ?_⟩) (by assumption) ?_; rotate_left; (focus (intro w0 hSw; obtain ⟨e0, e1, e2⟩ := hSw; go_simp; (try with_reducible rfl); done)))
  (refine wpAnyH_take (i := 11) (v := ?_) rfl (by kernel_rfl) (by decide +kernel) (by decide +kernel) (fun _ _ _ h => h) (Or.inl ⟨by rfl, ?_⟩) (by assumption) ?_; rotate_left; (focus (intro w0 hSw; obtain ⟨e0, e1, e2⟩ := hSw; go_simp; (try with_reducible rfl); done)))
  (refine wpAnyH_take (i := 12) (v := ?_) rfl (by kernel_rfl) (by decide +kernel) (by decide +kernel) (fun _ _ _ h => h) (Or.inl ⟨by rfl, ?_⟩) (by assumption) ?_; rotate_left; (focus (intro w0 hSw; obtain ⟨e0, e1, e2⟩ := hSw; go_simp; (try with_reducible rfl); done)))
  try simp only [List.getElem_toArray, List.getElem_cons_zero, List.getElem_cons_succ, Act.put, List.setIfInBounds_toArray, List.set_cons_zero, List.set_cons_succ]
  refine wpAnyH_ready (rs := [10]) (by decide +kernel) (by simp) (AllReadyH.cons rfl (fun K hK => ?_) AllReadyH.nil)
  go_simp
  refine (H5.out _ HB2.out).mono ?_
  rintro e w3 ⟨rfl, hb⟩
  have HB3 := Lib.hid (HB2.out.trans (hb.mono HB2.out.size))
  have HV3 := Lib.hid (HV2.out.low hb)
  have hs3 := Blk.three (v := ⟨vk, vn, vs⟩) HV3.out
  dsimp only at hs3
  clear hb H5 HB2 HV2
  refine hK.out _ _ hs3 (fun hHeld3 => ?_)
  clear hK K hHeld2 
  try simp only [List.getElem_toArray, List.getElem_cons_zero, List.getElem_cons_succ, Act.put, List.setIfInBounds_toArray, List.set_cons_zero, List.set_cons_succ]
  refine wpAnyH_ready (rs := [13]) (by decide +kernel) (by simp) (AllReadyH.cons rfl (fun K hK => ?_) AllReadyH.nil)
  go_simp
  refine (H6.out _ HB3.out).mono ?_
  rintro e w4 ⟨rfl, hb⟩
  have HB4 := Lib.hid (HB3.out.trans (hb.mono HB3.out.size))
  have HV4 := Lib.hid (HV3.out.low hb)
  have hs4 := Blk.three (v := ⟨vk, vn, vs⟩) HV4.out
  dsimp only at hs4
  clear hb H6 HB3 HV3
  refine hK.out _ _ hs4 (fun hHeld4 => ?_)
  clear hK K hHeld3 
  try simp only [List.getElem_toArray, List.getElem_cons_zero, List.getElem_cons_succ, Act.put, List.setIfInBounds_toArray, List.set_cons_zero, List.set_cons_succ]
  refine wpAnyH_take (i := 14) (v := .bool true) rfl (by kernel_rfl) (by decide +kernel) (by decide +kernel) (fun _ _ _ h => h) (Or.inl ⟨by rfl, ?_⟩) (by assumption) ?_
  · intro w0 hSw
    obtain ⟨e0, e1, e2⟩ := hSw
    go_simp
  try simp only [List.getElem_toArray, List.getElem_cons_zero, List.getElem_cons_succ, Act.put, List.setIfInBounds_toArray, List.set_cons_zero, List.set_cons_succ]
  (refine wpAnyH_take (i := 15) (v := ?_) rfl (by kernel_rfl) (by decide +kernel) (by decide +kernel) (fun _ _ _ h => h) (Or.inl ⟨by rfl, ?_⟩) (by assumption) ?_; rotate_left; (focus (intro w0 hSw; obtain ⟨e0, e1, e2⟩ := hSw; go_simp; (try with_reducible rfl); done)))
  (refine wpAnyH_take (i := 16) (v := ?_) rfl (by kernel_rfl) (by decide +kernel) (by decide +kernel) (fun _ _ _ h => h) (Or.inl ⟨by rfl, ?_⟩) (by assumption) ?_; rotate_left; (focus (intro w0 hSw; obtain ⟨e0, e1, e2⟩ := hSw; go_simp; (try with_reducible rfl); done)))
  try simp only [List.getElem_toArray, List.getElem_cons_zero, List.getElem_cons_succ, Act.put, List.setIfInBounds_toArray, List.set_cons_zero, List.set_cons_succ]
  (refine wpAnyH_take (i := 17) (v := ?_) rfl (by kernel_rfl) (by decide +kernel) (by decide +kernel) (fun _ _ _ h => h) (Or.inl ⟨by rfl, ?_⟩) (by assumption) ?_; rotate_left; (focus (intro w0 hSw; obtain ⟨e0, e1, e2⟩ := hSw; go_simp; (try with_reducible rfl); done)))
  (refine wpAnyH_take (i := 18) (v := ?_) rfl (by kernel_rfl) (by decide +kernel) (by decide +kernel) (fun _ _ _ h => h) (Or.inl ⟨by rfl, ?_⟩) (by assumption) ?_; rotate_left; (focus (intro w0 hSw; obtain ⟨e0, e1, e2⟩ := hSw; go_simp; (try with_reducible rfl); done)))
  (refine wpAnyH_take (i := 20) (v := ?_) rfl (by kernel_rfl) (by decide +kernel) (by decide +kernel) (fun _ _ _ h => h) (Or.inl ⟨by rfl, ?_⟩) (by assumption) ?_; rotate_left; (focus (intro w0 hSw; obtain ⟨e0, e1, e2⟩ := hSw; go_simp; (try with_reducible rfl); done)))
  (refine wpAnyH_take (i := 21) (v := ?_) rfl (by kernel_rfl) (by decide +kernel) (by decide +kernel) (fun _ _ _ h => h) (Or.inl ⟨by rfl, ?_⟩) (by assumption) ?_; rotate_left; (focus (intro w0 hSw; obtain ⟨e0, e1, e2⟩ := hSw; go_simp; (try with_reducible rfl); done)))
  try simp only [List.getElem_toArray, List.getElem_cons_zero, List.getElem_cons_succ, Act.put, List.setIfInBounds_toArray, List.set_cons_zero, List.set_cons_succ]
  refine wpAnyH_ready (rs := [19]) (by decide +kernel) (by simp) (AllReadyH.cons rfl (fun K hK => ?_) AllReadyH.nil)
  go_simp
  refine (H7.out _ HB4.out).mono ?_
  rintro e w5 ⟨rfl, hb⟩
  have HB5 := Lib.hid (HB4.out.trans (hb.mono HB4.out.size))
  have HV5 := Lib.hid (HV4.out.low hb)
  have hs5 := Blk.three (v := ⟨vk, vn, vs⟩) HV5.out
  dsimp only at hs5
  clear hb H7 HB4 HV4
  refine hK.out _ _ hs5 (fun hHeld5 => ?_)
  clear hK K hHeld4 
  try simp only [List.getElem_toArray, List.getElem_cons_zero, List.getElem_cons_succ, Act.put, List.setIfInBounds_toArray, List.set_cons_zero, List.set_cons_succ]
  refine wpAnyH_ready (rs := [22]) (by decide +kernel) (by simp) (AllReadyH.cons rfl (fun K hK => ?_) AllReadyH.nil)
  go_simp
  refine (H8.out _ HB5.out).mono ?_
  rintro e w6 ⟨rfl, hb⟩
  have HB6 := Lib.hid (HB5.out.trans (hb.mono HB5.out.size))
  have HV6 := Lib.hid (HV5.out.low hb)
  have hs6 := Blk.three (v := ⟨vk, vn, vs⟩) HV6.out
  dsimp only at hs6
  clear hb H8 HB5 HV5
  refine hK.out _ _ hs6 (fun hHeld6 => ?_)
  clear hK K hHeld5 
  try simp only [List.getElem_toArray, List.getElem_cons_zero, List.getElem_cons_succ, Act.put, List.setIfInBounds_toArray, List.set_cons_zero, List.set_cons_succ]
  refine wpAnyH_take (i := 23) (v := .bool true) rfl (by kernel_rfl) (by decide +kernel) (by decide +kernel) (fun _ _ _ h => h) (Or.inl ⟨by rfl, ?_⟩) (by assumption) ?_
  · intro w0 hSw
    obtain ⟨e0, e1, e2⟩ := hSw
    go_simp
  try simp only [List.getElem_toArray, List.getElem_cons_zero, List.getElem_cons_succ, Act.put, List.setIfInBounds_toArray, List.set_cons_zero, List.set_cons_succ]
  (refine wpAnyH_take (i := 24) (v := ?_) rfl (by kernel_rfl) (by decide +kernel) (by decide +kernel) (fun _ _ _ h => h) (Or.inl ⟨by rfl, ?_⟩) (by assumption) ?_; rotate_left; (focus (intro w0 hSw; obtain ⟨e0, e1, e2⟩ := hSw; go_simp; (try with_reducible rfl); done)))
  (refine wpAnyH_take (i := 25) (v := ?_) rfl (by kernel_rfl) (by decide +kernel) (by decide +kernel) (fun _ _ _ h => h) (Or.inl ⟨by rfl, ?_⟩) (by assumption) ?_; rotate_left; (focus (intro w0 hSw; obtain ⟨e0, e1, e2⟩ := hSw; go_simp; (try with_reducible rfl); done)))
  try simp only [List.getElem_toArray, List.getElem_cons_zero, List.getElem_cons_succ, Act.put, List.setIfInBounds_toArray, List.set_cons_zero, List.set_cons_succ]
  (refine wpAnyH_take (i := 26) (v := ?_) rfl (by kernel_rfl) (by decide +kernel) (by decide +kernel) (fun _ _ _ h => h) (Or.inl ⟨by rfl, ?_⟩) (by assumption) ?_; rotate_left; (focus (intro w0 hSw; obtain ⟨e0, e1, e2⟩ := hSw; go_simp; (try with_reducible rfl); done)))
  (refine wpAnyH_take (i := 27) (v := ?_) rfl (by kernel_rfl) (by decide +kernel) (by decide +kernel) (fun _ _ _ h => h) (Or.inl ⟨by rfl, ?_⟩) (by assumption) ?_; rotate_left; (focus (intro w0 hSw; obtain ⟨e0, e1, e2⟩ := hSw; go_simp; (try with_reducible rfl); done)))
  try simp only [List.getElem_toArray, List.getElem_cons_zero, List.getElem_cons_succ, Act.put, List.setIfInBounds_toArray, List.set_cons_zero, List.set_cons_succ]
  refine wpAnyH_take (i := 28) (v := .bool true) rfl (by kernel_rfl) (by decide +kernel) (by decide +kernel) (fun _ _ _ h => h) (Or.inl ⟨by rfl, ?_⟩) (by assumption) ?_
  · intro w0 hSw
    obtain ⟨e0, e1, e2⟩ := hSw
    go_simp
  try simp only [List.getElem_toArray, List.getElem_cons_zero, List.getElem_cons_succ, Act.put, List.setIfInBounds_toArray, List.set_cons_zero, List.set_cons_succ]
  (refine wpAnyH_take (i := 29) (v := ?_) rfl (by kernel_rfl) (by decide +kernel) (by decide +kernel) (fun _ _ _ h => h) (Or.inl ⟨by rfl, ?_⟩) (by assumption) ?_; rotate_left; (focus (intro w0 hSw; obtain ⟨e0, e1, e2⟩ := hSw; go_simp; (try with_reducible rfl); done)))
  (refine wpAnyH_take (i := 30) (v := ?_) rfl (by kernel_rfl) (by decide +kernel) (by decide +kernel) (fun _ _ _ h => h) (Or.inl ⟨by rfl, ?_⟩) (by assumption) ?_; rotate_left; (focus (intro w0 hSw; obtain ⟨e0, e1, e2⟩ := hSw; go_simp; (try with_reducible rfl); done)))
  try simp only [List.getElem_toArray, List.getElem_cons_zero, List.getElem_cons_succ, Act.put, List.setIfInBounds_toArray, List.set_cons_zero, List.set_cons_succ]
  (refine wpAnyH_take (i := 31) (v := ?_) rfl (by kernel_rfl) (by decide +kernel) (by decide +kernel) (fun _ _ _ h => h) (Or.inl ⟨by rfl, ?_⟩) (by assumption) ?_; rotate_left; (focus (intro w0 hSw; obtain ⟨e0, e1, e2⟩ := hSw; go_simp; (try with_reducible rfl); done)))
  (refine wpAnyH_take (i := 32) (v := ?_) rfl (by kernel_rfl) (by decide +kernel) (by decide +kernel) (fun _ _ _ h => h) (Or.inl ⟨by rfl, ?_⟩) (by assumption) ?_; rotate_left; (focus (intro w0 hSw; obtain ⟨e0, e1, e2⟩ := hSw; go_simp; (try with_reducible rfl); done)))
  (refine wpAnyH_take (i := 33) (v := ?_) rfl (by kernel_rfl) (by decide +kernel) (by decide +kernel) (fun _ _ _ h => h) (Or.inl ⟨by rfl, ?_⟩) (by assumption) ?_; rotate_left; (focus (intro w0 hSw; obtain ⟨e0, e1, e2⟩ := hSw; go_simp; (try with_reducible rfl); done)))
  (refine wpAnyH_take (i := 34) (v := ?_) rfl (by kernel_rfl) (by decide +kernel) (by decide +kernel) (fun _ _ _ h => h) (Or.inl ⟨by rfl, ?_⟩) (by assumption) ?_; rotate_left; (focus (intro w0 hSw; obtain ⟨e0, e1, e2⟩ := hSw; go_simp; (try with_reducible rfl); done)))
  (refine wpAnyH_take (i := 35) (v := ?_) rfl (by kernel_rfl) (by decide +kernel) (by decide +kernel) (fun _ _ _ h => h) (Or.inl ⟨by rfl, ?_⟩) (by assumption) ?_; rotate_left; (focus (intro w0 hSw; obtain ⟨e0, e1, e2⟩ := hSw; go_simp; (try with_reducible rfl); done)))
  try simp only [List.getElem_toArray, List.getElem_cons_zero, List.getElem_cons_succ, Act.put, List.setIfInBounds_toArray, List.set_cons_zero, List.set_cons_succ]
  refine wpAnyH_done (by kernel_rfl) ?_ _
  clear hHeld6 hs6
  go_wp2_with fail
  refine bodyPost_ret (results_tmp rfl _ _ _) rfl ⟨?_, HB6.out⟩
  rfl
end Go.Proofs.YtcahijpbkjplmaaGreatDoor.G
namespace Go.Proofs.YtcahijpbkjplmaaGreatDoor.G
open Go.RowKit Go.Shelf Go.Maps Go.Lib Go.Proofs.YtcahijpbkjplmaaGreatDoor

set_option linter.unusedSimpArgs false in
set_option maxRecDepth 20000 in
set_option maxHeartbeats 4000000 in
theorem looks_gen (w : World) (A X : Nat) (v : Vl) (n m : Int) (is was op wop : Bool) (cls wcls : ByteArray) (pr wpr : Vl)
    (h1 : ∀ w1, Below w.heap.size w w1 → Calls Tryz.prog 29 #[pv A, v.v] w1 fun e w2 => e = .returned (.tuple #[.int .i64 n, .bool is]) ∧ Below w1.heap.size w1 w2)
    (h2 : ∀ w1, Below w.heap.size w w1 → Calls Tryz.prog 45 #[pv X, v.v] w1 fun e w2 => e = .returned (.tuple #[.int .i64 m, .bool was]) ∧ Below w1.heap.size w1 w2)
    (h3 : ∀ w1, Below w.heap.size w w1 → Calls Tryz.prog 19 #[pv A, v.v] w1 fun e w2 => e = .returned (.string cls) ∧ Below w1.heap.size w1 w2)
    (h4 : ∀ w1, Below w.heap.size w w1 → Calls Tryz.prog 46 #[pv X, v.v] w1 fun e w2 => e = .returned (.string wcls) ∧ Below w1.heap.size w1 w2)
    (h5 : ∀ w1, Below w.heap.size w w1 → Calls Tryz.prog 25 #[pv A, v.v] w1 fun e w2 => e = .returned (pr.v) ∧ Below w1.heap.size w1 w2)
    (h6 : ∀ w1, Below w.heap.size w w1 → Calls Tryz.prog 47 #[pv X, v.v] w1 fun e w2 => e = .returned (wpr.v) ∧ Below w1.heap.size w1 w2)
    (h7 : ∀ w1, Below w.heap.size w w1 → Calls Tryz.prog 21 #[pv A, v.v] w1 fun e w2 => e = .returned (.bool op) ∧ Below w1.heap.size w1 w2)
    (h8 : ∀ w1, Below w.heap.size w w1 → Calls Tryz.prog 48 #[pv X, v.v] w1 fun e w2 => e = .returned (.bool wop) ∧ Below w1.heap.size w1 w2) :
    Calls Tryz.prog 14 #[pv A, pv X, v.v] w (AnsB w (decide (cls = wcls) && (decide (pr = wpr) && ((op == wop) && (decide (n = m) && (is == was)))))) := by
  cases Q1 : decide (cls = wcls) with
  | false => exact looks_0 w A X v n m is was op wop cls wcls pr wpr h1 h2 h3 h4 h5 h6 h7 h8 Q1
  | true =>
    rw [Bool.true_and]
    cases Q2 : decide (pr = wpr) with
    | false => exact looks_1 w A X v n m is was op wop cls wcls pr wpr h1 h2 h3 h4 h5 h6 h7 h8 Q1 Q2
    | true =>
      rw [Bool.true_and]
      cases Q3 : (op == wop) with
      | false => exact looks_2 w A X v n m is was op wop cls wcls pr wpr h1 h2 h3 h4 h5 h6 h7 h8 Q1 Q2 Q3
      | true =>
        rw [Bool.true_and]
        cases Q4 : decide (n = m) with
        | false => exact looks_3 w A X v n m is was op wop cls wcls pr wpr h1 h2 h3 h4 h5 h6 h7 h8 Q1 Q2 Q3 Q4
        | true => exact looks_4 w A X v n m is was op wop cls wcls pr wpr h1 h2 h3 h4 h5 h6 h7 h8 Q1 Q2 Q3 Q4
end Go.Proofs.YtcahijpbkjplmaaGreatDoor.G
namespace Go.Proofs.YtcahijpbkjplmaaGreatDoor.G
open Go.RowKit Go.Shelf Go.Maps Go.Lib Go.Proofs.YtcahijpbkjplmaaGreatDoor

theorem lenR_is (q : Option Ob) : ∃ (n : Int) (b : Bool), lenR q = .tuple #[.int .i64 n, .bool b] := by
  unfold lenR
  split
  · split
    · exact ⟨_, _, rfl⟩
    · exact ⟨_, _, rfl⟩
  · exact ⟨_, _, rfl⟩
section
variable {w : World} {ow : Nat → Option Nat} {A X : Nat} {H : Hs} {L : List OL}
set_option linter.unusedSimpArgs false in
set_option maxRecDepth 20000 in
set_option maxHeartbeats 2000000 in
theorem do_8 (h : PH w A H ow L) (g : Gd H) (hd : Dr w X ow) (o : Op) (_ : So o) {sl : Value} {bk : Nat} (hv : Vls w sl o.l bk) (hk : bk < w.heap.size ∧ ow bk = none) (hT : Tab w) (hTo : ow 0 = none) (_ : o.l.length ≤ 4194304) (e : o.d = 8) :
    Calls Tryz.prog 11 #[pv A, pv X, opV o sl] w (DoR w A ow L (H.step ix dx LK AR o)) := by
  have hstep : Hid (H.step ix dx LK AR o = H) := by show Hs.step ix dx LK AR H o = _; unfold Hs.step; rw [e]; rfl
  rw [hstep.out]
  clear hstep
  have S0 := Lib.hid (DoS.new (X := X) (o := o) h hd hv hk hT hTo)
  clear hv hk hT hTo hd h
  obtain ⟨n, is, hlen⟩ := lenR_is (H.obj o.v)
  have HLK : Hid (∃ b, Calls Tryz.prog 14 #[pv A, pv X, o.v.v] (w.alloc (.cells (opC o sl).toArray 34)) (AnsB (w.alloc (.cells (opC o sl).toArray 34)) b)) := by
    obtain ⟨owx, R, hr, -⟩ := S0.out.dr
    have h8 : (Hs.new 0).obj o.v = none := obj_none (new0_at _)
    have c1 := fun w1 hb => rclass_any (hr.low (w' := w1) hb) o.v (by decide)
    have c2 := fun w1 hb => rproto_any (hr.low (w' := w1) hb) o.v (by decide)
    have c3 := fun w1 hb => rIsOpen_any (hr.low (w' := w1) hb) o.v (by decide)
    have c4 := fun w1 hb => len_any (S0.out.ch.ph.low (w' := w1) hb) g o.v
    rw [hlen] at c4
    exact ⟨_, looks_gen _ A X o.v n 0 is false _ _ _ _ _ _ c4 (fun w1 hb => rlen_none (hr.low hb) o.v (by decide) (new0_at _)) (fun w1 hb => class_any (S0.out.ch.ph.low hb) g o.v) c1 (fun w1 hb => proto_any (S0.out.ch.ph.low hb) g o.v) c2 (fun w1 hb => isopen_any (S0.out.ch.ph.low hb) g o.v) c3⟩
  obtain ⟨b, hm⟩ := HLK
  have HM := Lib.hid hm
  clear hm hlen g
  obtain ⟨d, ⟨vk, vn, vs⟩, ⟨xk, xn, xs⟩, key, ⟨pk, ⟨pvk, pvn, pvs⟩, pw, pe, pf⟩, l⟩ := o
  dsimp only at e
  subst e
  simp only [opV, Vl.v] at S0 HM ⊢
  go_enter Tryz.func11, Tryz.ntmps11
  go_wp2_with fail
  refine HM.out.mono ?_
  rintro e w1 ⟨rfl, hb⟩
  go_wp2_with fail
  refine bodyPost_ret (results_tmp rfl _ _ _) rfl ?_
  exact ⟨_, rfl, ow, L, (S0.out.low hb).ch⟩
end
end Go.Proofs.YtcahijpbkjplmaaGreatDoor.G
