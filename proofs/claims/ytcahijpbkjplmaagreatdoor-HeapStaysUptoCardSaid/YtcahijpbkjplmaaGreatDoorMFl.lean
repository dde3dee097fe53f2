/-
  do of Keys and Enum, given what both sides answer, whatever the world. (gen_fl.py)
-/
import Derived.Test.YtcahijpbkjplmaaGreatDoorMFa
namespace Go.Proofs.YtcahijpbkjplmaaGreatDoor.G
open Go.RowKit Go.Shelf Go.Maps Go.Lib Go.Proofs.YtcahijpbkjplmaaGreatDoor

set_option linter.unusedSimpArgs false in
set_option maxRecDepth 20000 in
set_option maxHeartbeats 4000000 in
theorem do6_f (w : World) (A X : Nat) (o : Op) (sl : Value) (e : o.d = 6) (ks ks' es es' : List ByteArray) (n1 : ks.length ≤ 100000000000) (n2 : ks'.length ≤ 100000000000) (n3 : es.length ≤ 100000000000) (n4 : es'.length ≤ 100000000000)
    (h1 : ∀ w1, Below w.heap.size w w1 → Calls Tryz.prog 20 #[pv A, o.v.v] w1 fun e w2 => ∃ r, e = .returned r ∧ Nm w2 r ks ∧ Below w1.heap.size w1 w2)
    (h2 : ∀ w1, Below w.heap.size w w1 → Calls Tryz.prog 15 #[pv X, o.v.v] w1 fun e w2 => ∃ r, e = .returned r ∧ Nm w2 r ks' ∧ Below w1.heap.size w1 w2)
    (h3 : ∀ w1, Below w.heap.size w w1 → Calls Tryz.prog 40 #[pv A, o.v.v] w1 fun e w2 => ∃ r, e = .returned r ∧ Nm w2 r es ∧ Below w1.heap.size w1 w2)
    (h4 : ∀ w1, Below w.heap.size w w1 → Calls Tryz.prog 41 #[pv X, o.v.v] w1 fun e w2 => ∃ r, e = .returned r ∧ Nm w2 r es' ∧ Below w1.heap.size w1 w2) (Q1 : decide (ks = ks') = false) :
    Calls Tryz.prog 11 #[pv A, pv X, opV o sl] w (AnsB w (false)) := by
  have hb0 := (below_new w (.cells (opC o sl).toArray 34)).drew
  have HB0 := Lib.hid hb0
  have HO0 := Lib.hid ((Blk.new w 34 (opC o sl)).fr (w' := (w.alloc (.cells (opC o sl).toArray 34)).drew) rfl)
  have hs0 := (op_cells HO0.out).1
  have H1 := Lib.hid h1
  have H2 := Lib.hid h2
  have H3 := Lib.hid h3
  have H4 := Lib.hid h4
  have M1 := Lib.hid n1
  have M2 := Lib.hid n2
  have M3 := Lib.hid n3
  have M4 := Lib.hid n4
  clear h1 h2 h3 h4 hb0 n1 n2 n3 n4
  obtain ⟨d, ⟨vk, vn, vs⟩, ⟨xk, xn, xs⟩, key, ⟨pk, ⟨pvk, pvn, pvs⟩, pw, pe, pf⟩, l⟩ := o
  dsimp only at e hs0
  subst e
  simp only [opV, Vl.v] at HB0 HO0 H1 H2 H3 H4 ⊢
  go_enter Tryz.func11, Tryz.ntmps11
  go_wp2_with fail
  refine wp_region_held_drew (S := (fun w' : World => w'.cell? ⟨w.heap.size, 1, none⟩ = some (.int .i64 vk) ∧ w'.cell? ⟨w.heap.size, 2, none⟩ = some (.int .i64 vn) ∧ w'.cell? ⟨w.heap.size, 3, none⟩ = some (.string vs))) (by kernel_rfl) (hs0) (fun hHeld0 => ?_)
  generalize World.drew _ = w0 at *
  clear hs0
  (refine wpAnyH_take (i := 0) (v := ?_) rfl (by kernel_rfl) (by decide +kernel) (by decide +kernel) (fun _ _ _ h => h) (Or.inl ⟨by rfl, ?_⟩) (by assumption) ?_; rotate_left; (focus (intro w0 hSw; obtain ⟨e1, e2, e3⟩ := hSw; go_simp; (try with_reducible rfl); done)))
  try simp only [List.getElem_toArray, List.getElem_cons_zero, List.getElem_cons_succ, Act.put, List.setIfInBounds_toArray, List.set_cons_zero, List.set_cons_succ]
  (refine wpAnyH_take (i := 1) (v := ?_) rfl (by kernel_rfl) (by decide +kernel) (by decide +kernel) (fun _ _ _ h => h) (Or.inl ⟨by rfl, ?_⟩) (by assumption) ?_; rotate_left; (focus (intro w0 hSw; obtain ⟨e1, e2, e3⟩ := hSw; go_simp; (try with_reducible rfl); done)))
  try simp only [List.getElem_toArray, List.getElem_cons_zero, List.getElem_cons_succ, Act.put, List.setIfInBounds_toArray, List.set_cons_zero, List.set_cons_succ]
  (refine wpAnyH_take (i := 2) (v := ?_) rfl (by kernel_rfl) (by decide +kernel) (by decide +kernel) (fun _ _ _ h => h) (Or.inl ⟨by rfl, ?_⟩) (by assumption) ?_; rotate_left; (focus (intro w0 hSw; obtain ⟨e1, e2, e3⟩ := hSw; go_simp; (try with_reducible rfl); done)))
  try simp only [List.getElem_toArray, List.getElem_cons_zero, List.getElem_cons_succ, Act.put, List.setIfInBounds_toArray, List.set_cons_zero, List.set_cons_succ]
  (refine wpAnyH_take (i := 4) (v := ?_) rfl (by kernel_rfl) (by decide +kernel) (by decide +kernel) (fun _ _ _ h => h) (Or.inl ⟨by rfl, ?_⟩) (by assumption) ?_; rotate_left; (focus (intro w0 hSw; obtain ⟨e1, e2, e3⟩ := hSw; go_simp; (try with_reducible rfl); done)))
  try simp only [List.getElem_toArray, List.getElem_cons_zero, List.getElem_cons_succ, Act.put, List.setIfInBounds_toArray, List.set_cons_zero, List.set_cons_succ]
  (refine wpAnyH_take (i := 5) (v := ?_) rfl (by kernel_rfl) (by decide +kernel) (by decide +kernel) (fun _ _ _ h => h) (Or.inl ⟨by rfl, ?_⟩) (by assumption) ?_; rotate_left; (focus (intro w0 hSw; obtain ⟨e1, e2, e3⟩ := hSw; go_simp; (try with_reducible rfl); done)))
  try simp only [List.getElem_toArray, List.getElem_cons_zero, List.getElem_cons_succ, Act.put, List.setIfInBounds_toArray, List.set_cons_zero, List.set_cons_succ]
  (refine wpAnyH_take (i := 6) (v := ?_) rfl (by kernel_rfl) (by decide +kernel) (by decide +kernel) (fun _ _ _ h => h) (Or.inl ⟨by rfl, ?_⟩) (by assumption) ?_; rotate_left; (focus (intro w0 hSw; obtain ⟨e1, e2, e3⟩ := hSw; go_simp; (try with_reducible rfl); done)))
  try simp only [List.getElem_toArray, List.getElem_cons_zero, List.getElem_cons_succ, Act.put, List.setIfInBounds_toArray, List.set_cons_zero, List.set_cons_succ]
  refine wpAnyH_ready (rs := [3]) (by decide +kernel) (by simp) (AllReadyH.cons rfl (fun K hK => ?_) AllReadyH.nil)
  go_simp
  refine (H1.out _ HB0.out).mono ?_
  rintro e w1 ⟨r, rfl, hnm, hb⟩
  have HB1 := Lib.hid (HB0.out.trans (hb.mono HB0.out.size))
  have HO1 := Lib.hid (HO0.out.low hb)
  have hs1 := (op_cells HO1.out).1
  dsimp only at hs1
  have Nr1 := Lib.hid hnm
  clear hb hnm H1 HB0 HO0 
  refine hK.out _ _ hs1 (fun hHeld1 => ?_)
  clear hK K hHeld0 
  try simp only [List.getElem_toArray, List.getElem_cons_zero, List.getElem_cons_succ, Act.put, List.setIfInBounds_toArray, List.set_cons_zero, List.set_cons_succ]
  refine wpAnyH_ready (rs := [7]) (by decide +kernel) (by simp) (AllReadyH.cons rfl (fun K hK => ?_) AllReadyH.nil)
  go_simp
  refine (H2.out _ HB1.out).mono ?_
  rintro e w2 ⟨s, rfl, hnm, hb⟩
  have HB2 := Lib.hid (HB1.out.trans (hb.mono HB1.out.size))
  have HO2 := Lib.hid (HO1.out.low hb)
  have hs2 := (op_cells HO2.out).1
  dsimp only at hs2
  have Nr2 := Lib.hid (Nr1.out.low hb)
  have Ns2 := Lib.hid hnm
  clear hb hnm H2 HB1 HO1 Nr1
  refine hK.out _ _ hs2 (fun hHeld2 => ?_)
  clear hK K hHeld1 
  try simp only [List.getElem_toArray, List.getElem_cons_zero, List.getElem_cons_succ, Act.put, List.setIfInBounds_toArray, List.set_cons_zero, List.set_cons_succ]
  refine wpAnyH_ready (rs := [8]) (by decide +kernel) (by simp) (AllReadyH.cons rfl (fun K hK => ?_) AllReadyH.nil)
  have HN := names_any ks ks' r s w2 Nr2.out Ns2.out M1.out M2.out
  rw [Q1] at HN
  go_simp
  refine HN.mono ?_
  rintro e w3 ⟨rfl, hb⟩
  have HB3 := Lib.hid (HB2.out.trans (hb.mono HB2.out.size))
  have HO3 := Lib.hid (HO2.out.low hb)
  have hs3 := (op_cells HO3.out).1
  dsimp only at hs3
  clear hb HN HB2 HO2 Nr2 Ns2
  refine hK.out _ _ hs3 (fun hHeld3 => ?_)
  clear hK K hHeld2 
  try simp only [List.getElem_toArray, List.getElem_cons_zero, List.getElem_cons_succ, Act.put, List.setIfInBounds_toArray, List.set_cons_zero, List.set_cons_succ]
  (refine wpAnyH_take (i := 9) (v := ?_) rfl (by kernel_rfl) (by decide +kernel) (by decide +kernel) (fun _ _ _ h => h) (Or.inl ⟨by rfl, ?_⟩) (by assumption) ?_; rotate_left; (focus (intro w0 hSw; obtain ⟨e1, e2, e3⟩ := hSw; go_simp; (try with_reducible rfl); done)))
  try simp only [List.getElem_toArray, List.getElem_cons_zero, List.getElem_cons_succ, Act.put, List.setIfInBounds_toArray, List.set_cons_zero, List.set_cons_succ]
  (refine wpAnyH_take (i := 10) (v := undef) rfl (by kernel_rfl) (by decide +kernel) (by decide +kernel) (fun _ _ _ h => h) (Or.inr ⟨by rfl, rfl⟩) (by assumption) ?_)
  try simp only [List.getElem_toArray, List.getElem_cons_zero, List.getElem_cons_succ, Act.put, List.setIfInBounds_toArray, List.set_cons_zero, List.set_cons_succ]
  (refine wpAnyH_take (i := 11) (v := undef) rfl (by kernel_rfl) (by decide +kernel) (by decide +kernel) (fun _ _ _ h => h) (Or.inr ⟨by rfl, rfl⟩) (by assumption) ?_)
  try simp only [List.getElem_toArray, List.getElem_cons_zero, List.getElem_cons_succ, Act.put, List.setIfInBounds_toArray, List.set_cons_zero, List.set_cons_succ]
  (refine wpAnyH_take (i := 12) (v := undef) rfl (by kernel_rfl) (by decide +kernel) (by decide +kernel) (fun _ _ _ h => h) (Or.inr ⟨by rfl, rfl⟩) (by assumption) ?_)
  try simp only [List.getElem_toArray, List.getElem_cons_zero, List.getElem_cons_succ, Act.put, List.setIfInBounds_toArray, List.set_cons_zero, List.set_cons_succ]
  (refine wpAnyH_take (i := 13) (v := undef) rfl (by kernel_rfl) (by decide +kernel) (by decide +kernel) (fun _ _ _ h => h) (Or.inr ⟨by rfl, rfl⟩) (by assumption) ?_)
  try simp only [List.getElem_toArray, List.getElem_cons_zero, List.getElem_cons_succ, Act.put, List.setIfInBounds_toArray, List.set_cons_zero, List.set_cons_succ]
  (refine wpAnyH_take (i := 14) (v := undef) rfl (by kernel_rfl) (by decide +kernel) (by decide +kernel) (fun _ _ _ h => h) (Or.inr ⟨by rfl, rfl⟩) (by assumption) ?_)
  try simp only [List.getElem_toArray, List.getElem_cons_zero, List.getElem_cons_succ, Act.put, List.setIfInBounds_toArray, List.set_cons_zero, List.set_cons_succ]
  (refine wpAnyH_take (i := 15) (v := undef) rfl (by kernel_rfl) (by decide +kernel) (by decide +kernel) (fun _ _ _ h => h) (Or.inr ⟨by rfl, rfl⟩) (by assumption) ?_)
  try simp only [List.getElem_toArray, List.getElem_cons_zero, List.getElem_cons_succ, Act.put, List.setIfInBounds_toArray, List.set_cons_zero, List.set_cons_succ]
  (refine wpAnyH_take (i := 16) (v := undef) rfl (by kernel_rfl) (by decide +kernel) (by decide +kernel) (fun _ _ _ h => h) (Or.inr ⟨by rfl, rfl⟩) (by assumption) ?_)
  try simp only [List.getElem_toArray, List.getElem_cons_zero, List.getElem_cons_succ, Act.put, List.setIfInBounds_toArray, List.set_cons_zero, List.set_cons_succ]
  (refine wpAnyH_take (i := 17) (v := undef) rfl (by kernel_rfl) (by decide +kernel) (by decide +kernel) (fun _ _ _ h => h) (Or.inr ⟨by rfl, rfl⟩) (by assumption) ?_)
  try simp only [List.getElem_toArray, List.getElem_cons_zero, List.getElem_cons_succ, Act.put, List.setIfInBounds_toArray, List.set_cons_zero, List.set_cons_succ]
  (refine wpAnyH_take (i := 18) (v := undef) rfl (by kernel_rfl) (by decide +kernel) (by decide +kernel) (fun _ _ _ h => h) (Or.inr ⟨by rfl, rfl⟩) (by assumption) ?_)
  try simp only [List.getElem_toArray, List.getElem_cons_zero, List.getElem_cons_succ, Act.put, List.setIfInBounds_toArray, List.set_cons_zero, List.set_cons_succ]
  (refine wpAnyH_take (i := 19) (v := ?_) rfl (by kernel_rfl) (by decide +kernel) (by decide +kernel) (fun _ _ _ h => h) (Or.inl ⟨by rfl, ?_⟩) (by assumption) ?_; rotate_left; (focus (intro w0 hSw; obtain ⟨e1, e2, e3⟩ := hSw; go_simp; (try with_reducible rfl); done)))
  try simp only [List.getElem_toArray, List.getElem_cons_zero, List.getElem_cons_succ, Act.put, List.setIfInBounds_toArray, List.set_cons_zero, List.set_cons_succ]
  (refine wpAnyH_take (i := 20) (v := ?_) rfl (by kernel_rfl) (by decide +kernel) (by decide +kernel) (fun _ _ _ h => h) (Or.inl ⟨by rfl, ?_⟩) (by assumption) ?_; rotate_left; (focus (intro w0 hSw; obtain ⟨e1, e2, e3⟩ := hSw; go_simp; (try with_reducible rfl); done)))
  try simp only [List.getElem_toArray, List.getElem_cons_zero, List.getElem_cons_succ, Act.put, List.setIfInBounds_toArray, List.set_cons_zero, List.set_cons_succ]
  refine wpAnyH_done (by kernel_rfl) ?_ _
  clear hHeld3 hs3
  go_wp2_with fail
  refine bodyPost_ret (results_tmp rfl _ _ _) rfl ⟨rfl, HB3.out⟩
set_option linter.unusedSimpArgs false in
set_option maxRecDepth 20000 in
set_option maxHeartbeats 4000000 in
theorem do6_t (w : World) (A X : Nat) (o : Op) (sl : Value) (e : o.d = 6) (ks ks' es es' : List ByteArray) (n1 : ks.length ≤ 100000000000) (n2 : ks'.length ≤ 100000000000) (n3 : es.length ≤ 100000000000) (n4 : es'.length ≤ 100000000000)
    (h1 : ∀ w1, Below w.heap.size w w1 → Calls Tryz.prog 20 #[pv A, o.v.v] w1 fun e w2 => ∃ r, e = .returned r ∧ Nm w2 r ks ∧ Below w1.heap.size w1 w2)
    (h2 : ∀ w1, Below w.heap.size w w1 → Calls Tryz.prog 15 #[pv X, o.v.v] w1 fun e w2 => ∃ r, e = .returned r ∧ Nm w2 r ks' ∧ Below w1.heap.size w1 w2)
    (h3 : ∀ w1, Below w.heap.size w w1 → Calls Tryz.prog 40 #[pv A, o.v.v] w1 fun e w2 => ∃ r, e = .returned r ∧ Nm w2 r es ∧ Below w1.heap.size w1 w2)
    (h4 : ∀ w1, Below w.heap.size w w1 → Calls Tryz.prog 41 #[pv X, o.v.v] w1 fun e w2 => ∃ r, e = .returned r ∧ Nm w2 r es' ∧ Below w1.heap.size w1 w2) (Q1 : decide (ks = ks') = true) (b : Bool) (Q2 : decide (es = es') = b) :
    Calls Tryz.prog 11 #[pv A, pv X, opV o sl] w (AnsB w (b)) := by
  have hb0 := (below_new w (.cells (opC o sl).toArray 34)).drew
  have HB0 := Lib.hid hb0
  have HO0 := Lib.hid ((Blk.new w 34 (opC o sl)).fr (w' := (w.alloc (.cells (opC o sl).toArray 34)).drew) rfl)
  have hs0 := (op_cells HO0.out).1
  have H1 := Lib.hid h1
  have H2 := Lib.hid h2
  have H3 := Lib.hid h3
  have H4 := Lib.hid h4
  have M1 := Lib.hid n1
  have M2 := Lib.hid n2
  have M3 := Lib.hid n3
  have M4 := Lib.hid n4
  clear h1 h2 h3 h4 hb0 n1 n2 n3 n4
  obtain ⟨d, ⟨vk, vn, vs⟩, ⟨xk, xn, xs⟩, key, ⟨pk, ⟨pvk, pvn, pvs⟩, pw, pe, pf⟩, l⟩ := o
  dsimp only at e hs0
  subst e
  simp only [opV, Vl.v] at HB0 HO0 H1 H2 H3 H4 ⊢
  go_enter Tryz.func11, Tryz.ntmps11
  go_wp2_with fail
  refine wp_region_held_drew (S := (fun w' : World => w'.cell? ⟨w.heap.size, 1, none⟩ = some (.int .i64 vk) ∧ w'.cell? ⟨w.heap.size, 2, none⟩ = some (.int .i64 vn) ∧ w'.cell? ⟨w.heap.size, 3, none⟩ = some (.string vs))) (by kernel_rfl) (hs0) (fun hHeld0 => ?_)
  generalize World.drew _ = w0 at *
  clear hs0
  (refine wpAnyH_take (i := 0) (v := ?_) rfl (by kernel_rfl) (by decide +kernel) (by decide +kernel) (fun _ _ _ h => h) (Or.inl ⟨by rfl, ?_⟩) (by assumption) ?_; rotate_left; (focus (intro w0 hSw; obtain ⟨e1, e2, e3⟩ := hSw; go_simp; (try with_reducible rfl); done)))
  try simp only [List.getElem_toArray, List.getElem_cons_zero, List.getElem_cons_succ, Act.put, List.setIfInBounds_toArray, List.set_cons_zero, List.set_cons_succ]
  (refine wpAnyH_take (i := 1) (v := ?_) rfl (by kernel_rfl) (by decide +kernel) (by decide +kernel) (fun _ _ _ h => h) (Or.inl ⟨by rfl, ?_⟩) (by assumption) ?_; rotate_left; (focus (intro w0 hSw; obtain ⟨e1, e2, e3⟩ := hSw; go_simp; (try with_reducible rfl); done)))
  try simp only [List.getElem_toArray, List.getElem_cons_zero, List.getElem_cons_succ, Act.put, List.setIfInBounds_toArray, List.set_cons_zero, List.set_cons_succ]
  (refine wpAnyH_take (i := 2) (v := ?_) rfl (by kernel_rfl) (by decide +kernel) (by decide +kernel) (fun _ _ _ h => h) (Or.inl ⟨by rfl, ?_⟩) (by assumption) ?_; rotate_left; (focus (intro w0 hSw; obtain ⟨e1, e2, e3⟩ := hSw; go_simp; (try with_reducible rfl); done)))
  try simp only [List.getElem_toArray, List.getElem_cons_zero, List.getElem_cons_succ, Act.put, List.setIfInBounds_toArray, List.set_cons_zero, List.set_cons_succ]
  (refine wpAnyH_take (i := 4) (v := ?_) rfl (by kernel_rfl) (by decide +kernel) (by decide +kernel) (fun _ _ _ h => h) (Or.inl ⟨by rfl, ?_⟩) (by assumption) ?_; rotate_left; (focus (intro w0 hSw; obtain ⟨e1, e2, e3⟩ := hSw; go_simp; (try with_reducible rfl); done)))
  try simp only [List.getElem_toArray, List.getElem_cons_zero, List.getElem_cons_succ, Act.put, List.setIfInBounds_toArray, List.set_cons_zero, List.set_cons_succ]
  (refine wpAnyH_take (i := 5) (v := ?_) rfl (by kernel_rfl) (by decide +kernel) (by decide +kernel) (fun _ _ _ h => h) (Or.inl ⟨by rfl, ?_⟩) (by assumption) ?_; rotate_left; (focus (intro w0 hSw; obtain ⟨e1, e2, e3⟩ := hSw; go_simp; (try with_reducible rfl); done)))
  try simp only [List.getElem_toArray, List.getElem_cons_zero, List.getElem_cons_succ, Act.put, List.setIfInBounds_toArray, List.set_cons_zero, List.set_cons_succ]
  (refine wpAnyH_take (i := 6) (v := ?_) rfl (by kernel_rfl) (by decide +kernel) (by decide +kernel) (fun _ _ _ h => h) (Or.inl ⟨by rfl, ?_⟩) (by assumption) ?_; rotate_left; (focus (intro w0 hSw; obtain ⟨e1, e2, e3⟩ := hSw; go_simp; (try with_reducible rfl); done)))
  try simp only [List.getElem_toArray, List.getElem_cons_zero, List.getElem_cons_succ, Act.put, List.setIfInBounds_toArray, List.set_cons_zero, List.set_cons_succ]
  refine wpAnyH_ready (rs := [3]) (by decide +kernel) (by simp) (AllReadyH.cons rfl (fun K hK => ?_) AllReadyH.nil)
  go_simp
  refine (H1.out _ HB0.out).mono ?_
  rintro e w1 ⟨r, rfl, hnm, hb⟩
  have HB1 := Lib.hid (HB0.out.trans (hb.mono HB0.out.size))
  have HO1 := Lib.hid (HO0.out.low hb)
  have hs1 := (op_cells HO1.out).1
  dsimp only at hs1
  have Nr1 := Lib.hid hnm
  clear hb hnm H1 HB0 HO0 
  refine hK.out _ _ hs1 (fun hHeld1 => ?_)
  clear hK K hHeld0 
  try simp only [List.getElem_toArray, List.getElem_cons_zero, List.getElem_cons_succ, Act.put, List.setIfInBounds_toArray, List.set_cons_zero, List.set_cons_succ]
  refine wpAnyH_ready (rs := [7]) (by decide +kernel) (by simp) (AllReadyH.cons rfl (fun K hK => ?_) AllReadyH.nil)
  go_simp
  refine (H2.out _ HB1.out).mono ?_
  rintro e w2 ⟨s, rfl, hnm, hb⟩
  have HB2 := Lib.hid (HB1.out.trans (hb.mono HB1.out.size))
  have HO2 := Lib.hid (HO1.out.low hb)
  have hs2 := (op_cells HO2.out).1
  dsimp only at hs2
  have Nr2 := Lib.hid (Nr1.out.low hb)
  have Ns2 := Lib.hid hnm
  clear hb hnm H2 HB1 HO1 Nr1
  refine hK.out _ _ hs2 (fun hHeld2 => ?_)
  clear hK K hHeld1 
  try simp only [List.getElem_toArray, List.getElem_cons_zero, List.getElem_cons_succ, Act.put, List.setIfInBounds_toArray, List.set_cons_zero, List.set_cons_succ]
  refine wpAnyH_ready (rs := [8]) (by decide +kernel) (by simp) (AllReadyH.cons rfl (fun K hK => ?_) AllReadyH.nil)
  have HN := names_any ks ks' r s w2 Nr2.out Ns2.out M1.out M2.out
  rw [Q1] at HN
  go_simp
  refine HN.mono ?_
  rintro e w3 ⟨rfl, hb⟩
  have HB3 := Lib.hid (HB2.out.trans (hb.mono HB2.out.size))
  have HO3 := Lib.hid (HO2.out.low hb)
  have hs3 := (op_cells HO3.out).1
  dsimp only at hs3
  clear hb HN HB2 HO2 Nr2 Ns2
  refine hK.out _ _ hs3 (fun hHeld3 => ?_)
  clear hK K hHeld2 
  try simp only [List.getElem_toArray, List.getElem_cons_zero, List.getElem_cons_succ, Act.put, List.setIfInBounds_toArray, List.set_cons_zero, List.set_cons_succ]
  (refine wpAnyH_take (i := 9) (v := ?_) rfl (by kernel_rfl) (by decide +kernel) (by decide +kernel) (fun _ _ _ h => h) (Or.inl ⟨by rfl, ?_⟩) (by assumption) ?_; rotate_left; (focus (intro w0 hSw; obtain ⟨e1, e2, e3⟩ := hSw; go_simp; (try with_reducible rfl); done)))
  try simp only [List.getElem_toArray, List.getElem_cons_zero, List.getElem_cons_succ, Act.put, List.setIfInBounds_toArray, List.set_cons_zero, List.set_cons_succ]
  (refine wpAnyH_take (i := 10) (v := ?_) rfl (by kernel_rfl) (by decide +kernel) (by decide +kernel) (fun _ _ _ h => h) (Or.inl ⟨by rfl, ?_⟩) (by assumption) ?_; rotate_left; (focus (intro w0 hSw; obtain ⟨e1, e2, e3⟩ := hSw; go_simp; (try with_reducible rfl); done)))
  try simp only [List.getElem_toArray, List.getElem_cons_zero, List.getElem_cons_succ, Act.put, List.setIfInBounds_toArray, List.set_cons_zero, List.set_cons_succ]
  (refine wpAnyH_take (i := 11) (v := ?_) rfl (by kernel_rfl) (by decide +kernel) (by decide +kernel) (fun _ _ _ h => h) (Or.inl ⟨by rfl, ?_⟩) (by assumption) ?_; rotate_left; (focus (intro w0 hSw; obtain ⟨e1, e2, e3⟩ := hSw; go_simp; (try with_reducible rfl); done)))
  try simp only [List.getElem_toArray, List.getElem_cons_zero, List.getElem_cons_succ, Act.put, List.setIfInBounds_toArray, List.set_cons_zero, List.set_cons_succ]
  (refine wpAnyH_take (i := 12) (v := ?_) rfl (by kernel_rfl) (by decide +kernel) (by decide +kernel) (fun _ _ _ h => h) (Or.inl ⟨by rfl, ?_⟩) (by assumption) ?_; rotate_left; (focus (intro w0 hSw; obtain ⟨e1, e2, e3⟩ := hSw; go_simp; (try with_reducible rfl); done)))
  try simp only [List.getElem_toArray, List.getElem_cons_zero, List.getElem_cons_succ, Act.put, List.setIfInBounds_toArray, List.set_cons_zero, List.set_cons_succ]
  (refine wpAnyH_take (i := 14) (v := ?_) rfl (by kernel_rfl) (by decide +kernel) (by decide +kernel) (fun _ _ _ h => h) (Or.inl ⟨by rfl, ?_⟩) (by assumption) ?_; rotate_left; (focus (intro w0 hSw; obtain ⟨e1, e2, e3⟩ := hSw; go_simp; (try with_reducible rfl); done)))
  try simp only [List.getElem_toArray, List.getElem_cons_zero, List.getElem_cons_succ, Act.put, List.setIfInBounds_toArray, List.set_cons_zero, List.set_cons_succ]
  (refine wpAnyH_take (i := 15) (v := ?_) rfl (by kernel_rfl) (by decide +kernel) (by decide +kernel) (fun _ _ _ h => h) (Or.inl ⟨by rfl, ?_⟩) (by assumption) ?_; rotate_left; (focus (intro w0 hSw; obtain ⟨e1, e2, e3⟩ := hSw; go_simp; (try with_reducible rfl); done)))
  try simp only [List.getElem_toArray, List.getElem_cons_zero, List.getElem_cons_succ, Act.put, List.setIfInBounds_toArray, List.set_cons_zero, List.set_cons_succ]
  (refine wpAnyH_take (i := 16) (v := ?_) rfl (by kernel_rfl) (by decide +kernel) (by decide +kernel) (fun _ _ _ h => h) (Or.inl ⟨by rfl, ?_⟩) (by assumption) ?_; rotate_left; (focus (intro w0 hSw; obtain ⟨e1, e2, e3⟩ := hSw; go_simp; (try with_reducible rfl); done)))
  try simp only [List.getElem_toArray, List.getElem_cons_zero, List.getElem_cons_succ, Act.put, List.setIfInBounds_toArray, List.set_cons_zero, List.set_cons_succ]
  refine wpAnyH_ready (rs := [13]) (by decide +kernel) (by simp) (AllReadyH.cons rfl (fun K hK => ?_) AllReadyH.nil)
  go_simp
  refine (H3.out _ HB3.out).mono ?_
  rintro e w4 ⟨p, rfl, hnm, hb⟩
  have HB4 := Lib.hid (HB3.out.trans (hb.mono HB3.out.size))
  have HO4 := Lib.hid (HO3.out.low hb)
  have hs4 := (op_cells HO4.out).1
  dsimp only at hs4
  have Np4 := Lib.hid hnm
  clear hb hnm H3 HB3 HO3 
  refine hK.out _ _ hs4 (fun hHeld4 => ?_)
  clear hK K hHeld3 
  try simp only [List.getElem_toArray, List.getElem_cons_zero, List.getElem_cons_succ, Act.put, List.setIfInBounds_toArray, List.set_cons_zero, List.set_cons_succ]
  refine wpAnyH_ready (rs := [17]) (by decide +kernel) (by simp) (AllReadyH.cons rfl (fun K hK => ?_) AllReadyH.nil)
  go_simp
  refine (H4.out _ HB4.out).mono ?_
  rintro e w5 ⟨q, rfl, hnm, hb⟩
  have HB5 := Lib.hid (HB4.out.trans (hb.mono HB4.out.size))
  have HO5 := Lib.hid (HO4.out.low hb)
  have hs5 := (op_cells HO5.out).1
  dsimp only at hs5
  have Np5 := Lib.hid (Np4.out.low hb)
  have Nq5 := Lib.hid hnm
  clear hb hnm H4 HB4 HO4 Np4
  refine hK.out _ _ hs5 (fun hHeld5 => ?_)
  clear hK K hHeld4 
  try simp only [List.getElem_toArray, List.getElem_cons_zero, List.getElem_cons_succ, Act.put, List.setIfInBounds_toArray, List.set_cons_zero, List.set_cons_succ]
  refine wpAnyH_ready (rs := [18]) (by decide +kernel) (by simp) (AllReadyH.cons rfl (fun K hK => ?_) AllReadyH.nil)
  have HN := names_any es es' p q w5 Np5.out Nq5.out M3.out M4.out
  rw [Q2] at HN
  go_simp
  refine HN.mono ?_
  rintro e w6 ⟨rfl, hb⟩
  have HB6 := Lib.hid (HB5.out.trans (hb.mono HB5.out.size))
  have HO6 := Lib.hid (HO5.out.low hb)
  have hs6 := (op_cells HO6.out).1
  dsimp only at hs6
  clear hb HN HB5 HO5 Np5 Nq5
  refine hK.out _ _ hs6 (fun hHeld6 => ?_)
  clear hK K hHeld5 
  try simp only [List.getElem_toArray, List.getElem_cons_zero, List.getElem_cons_succ, Act.put, List.setIfInBounds_toArray, List.set_cons_zero, List.set_cons_succ]
  (refine wpAnyH_take (i := 19) (v := ?_) rfl (by kernel_rfl) (by decide +kernel) (by decide +kernel) (fun _ _ _ h => h) (Or.inl ⟨by rfl, ?_⟩) (by assumption) ?_; rotate_left; (focus (intro w0 hSw; obtain ⟨e1, e2, e3⟩ := hSw; go_simp; (try with_reducible rfl); done)))
  try simp only [List.getElem_toArray, List.getElem_cons_zero, List.getElem_cons_succ, Act.put, List.setIfInBounds_toArray, List.set_cons_zero, List.set_cons_succ]
  (refine wpAnyH_take (i := 20) (v := ?_) rfl (by kernel_rfl) (by decide +kernel) (by decide +kernel) (fun _ _ _ h => h) (Or.inl ⟨by rfl, ?_⟩) (by assumption) ?_; rotate_left; (focus (intro w0 hSw; obtain ⟨e1, e2, e3⟩ := hSw; go_simp; (try with_reducible rfl); done)))
  try simp only [List.getElem_toArray, List.getElem_cons_zero, List.getElem_cons_succ, Act.put, List.setIfInBounds_toArray, List.set_cons_zero, List.set_cons_succ]
  refine wpAnyH_done (by kernel_rfl) ?_ _
  clear hHeld6 hs6
  go_wp2_with fail
  refine bodyPost_ret (results_tmp rfl _ _ _) rfl ⟨rfl, HB6.out⟩
theorem do6_gen (w : World) (A X : Nat) (o : Op) (sl : Value) (e : o.d = 6) (ks ks' es es' : List ByteArray) (n1 : ks.length ≤ 100000000000) (n2 : ks'.length ≤ 100000000000) (n3 : es.length ≤ 100000000000) (n4 : es'.length ≤ 100000000000)
    (h1 : ∀ w1, Below w.heap.size w w1 → Calls Tryz.prog 20 #[pv A, o.v.v] w1 fun e w2 => ∃ r, e = .returned r ∧ Nm w2 r ks ∧ Below w1.heap.size w1 w2)
    (h2 : ∀ w1, Below w.heap.size w w1 → Calls Tryz.prog 15 #[pv X, o.v.v] w1 fun e w2 => ∃ r, e = .returned r ∧ Nm w2 r ks' ∧ Below w1.heap.size w1 w2)
    (h3 : ∀ w1, Below w.heap.size w w1 → Calls Tryz.prog 40 #[pv A, o.v.v] w1 fun e w2 => ∃ r, e = .returned r ∧ Nm w2 r es ∧ Below w1.heap.size w1 w2)
    (h4 : ∀ w1, Below w.heap.size w w1 → Calls Tryz.prog 41 #[pv X, o.v.v] w1 fun e w2 => ∃ r, e = .returned r ∧ Nm w2 r es' ∧ Below w1.heap.size w1 w2) :
    Calls Tryz.prog 11 #[pv A, pv X, opV o sl] w (AnsB w (decide (ks = ks') && decide (es = es'))) := by
  cases Q1 : decide (ks = ks') with
  | false => exact do6_f w A X o sl e ks ks' es es' n1 n2 n3 n4 h1 h2 h3 h4 Q1
  | true => exact do6_t w A X o sl e ks ks' es es' n1 n2 n3 n4 h1 h2 h3 h4 Q1 _ rfl
end Go.Proofs.YtcahijpbkjplmaaGreatDoor.G
