/-
  ScopeFinds, walked. (gen_fg.py)
-/
import Derived.Test.YtgehgccgologpaaFf
import Derived.Test.YtgehgccgologpaaSr
import Derived.Test.YtgehgccgologpaaZu
namespace Go.Proofs.Ytgehgccgologpaa.Z
open Go.RowKit Go.Shelf Go.Proofs.Ytgehgccgologpaa Go.Proofs.Ytgehgccgologpaa.R Go.Proofs.Ytgehgccgologpaa.T

theorem same_refl (v : V) : V.same v v = true := (same_iff v v).2 rfl
theorem vars_cc (l : List V) (A : Option Addr) (n c : Nat) (w : World) (hrow : Row w A l) (hn : n = l.length) (hlc : n ≤ c) (hb : V.bulks l ≤ 4194304) :
    Calls Try.prog 16 #[.slice A n c] w fun e w2 => ∃ A2 c2, e = .returned (.slice A2 (vars l).length c2) ∧ Strs w2 A2 (vars l) ∧ Below w.heap.size w w2 := by
  subst hn
  refine (vars_any l A c w hrow hlc hb).mono fun e w2 ⟨nv, h1, h2, h3⟩ => ?_
  obtain ⟨A2, c2, rfl, -, h4⟩ := h2.form
  exact ⟨A2, c2, h1, h4, h3⟩
theorem vars_ll (l : List V) (hb : V.bulks l ≤ 4194304) : (vars l).length ≤ 4194304 := by
  refine Nat.le_trans (unq_len _) (Nat.le_trans ?_ (Nat.le_trans (sizes_le_bulks l) hb))
  rw [← nms_wi [] l]
  unfold nms
  rw [List.length_map]
  exact Nat.le_trans (List.length_filter_le _ _) (len_wi [] l)
theorem fcs_one : (fcs [leaf 39 e0 0]).length = 1 := by kernel_rfl
set_option maxRecDepth 20000 in
set_option maxHeartbeats 4000000 in
theorem finds_law (l : List V) (A : Option Addr) (c : Nat) (w : World) (hrow : Row w A l) (hlc : l.length ≤ c) (hb : V.bulks l ≤ 4194304) : Calls Try.prog 4 #[.slice A l.length c] w (AnsB w true) := by
  have HR := Lib.hid hrow
  have HLC := Lib.hid hlc
  have HBL := Lib.hid hb
  have hfl : (fcs l).length ≤ 4194304 := Nat.le_trans (List.length_filter_le _ _) (Nat.le_trans (length_le_bulks l) hb)
  have hfI : ((fcs l).length : Int) ≤ 4194304 := by omega
  have HFB : Hid (∀ u ∈ fcs l, u.bulk ≤ 4194304) := fun u hu => Nat.le_trans (bulk_le_of_mem (List.mem_filter.1 hu).1) hb
  have HVL := Lib.hid (vars_ll l hb)
  clear hrow hlc hb hfl
  go_enter Try.func4, Try.ntmps4
  go_wp2_with fail
  refine (funcs_any l A _ c w rfl HR.out HBL.out).mono ?_
  rintro e w1 ⟨A1, c1, rfl, -, hr1, hb1⟩
  have HR1 := Lib.hid hr1
  have HB1 := Lib.hid hb1
  clear hr1 hb1
  go_wp2_with fail
  refine (rfuncs_any l A _ c w1 rfl (RowB.below HR.out HB1.out) HBL.out).mono ?_
  rintro e w2 ⟨A2, c2, rfl, -, hr2, hb2⟩
  have HR2 := Lib.hid hr2
  have HR12 := Lib.hid (RowB.below HR1.out hb2)
  have HB2 := Lib.hid (HB1.out.trans (hb2.mono HB1.out.size))
  clear hr2 hb2
  have HFB2 := HFB
  generalize fcs l = fs at *
  go_wp2_with fail
  go_loopw [17] (fun i wr => ∃ k : Nat, k ≤ fs.length ∧ i = .int .i64 k ∧ Hid (Below w2.heap.size w2 wr)) (fun i _ => fs.length - (intOf i).toNat)
  case atStart => exact ⟨0, Nat.zero_le _, rfl, Lib.hid (Below.refl _ _)⟩
  case round =>
    obtain ⟨k, hk, rfl, HB⟩ := hrel
    by_cases hlt : k < fs.length
    · obtain ⟨g1, o1, rfl, hg1, y1, hat1, hy1⟩ := (RowB.below HR12.out HB.out).at_ hlt
      obtain ⟨g2, o2, rfl, hg2, y2, hat2, hy2⟩ := (RowB.below HR2.out HB.out).at_ hlt
      have hub := HFB2.out _ (List.getElem_mem hlt)
      have HC := Lib.hid fun w' (h : Below wr.heap.size wr w') => R.refSame_any fs[k] fs[k] y1 y2 w' (Is.below h _ _ hy1) (Is.below h _ _ hy2) hub
      have HSR := Lib.hid (same_refl fs[k])
      have HEL1 := Lib.hid fun w' (h : Below wr.heap.size wr w') => hat1.below hg1 h
      have HEL2 := Lib.hid fun w' (h : Below wr.heap.size wr w') => hat2.below hg2 h
      rw [HSR.out] at HC
      generalize fs[k] = u at *
      obtain ⟨xka, xkc, xla, xlc, rfl, -, -, -, -⟩ := hy1.open
      obtain ⟨yka, ykc, yla, ylc, rfl, -, -, -, -⟩ := hy2.open
      have hkI : (k : Int) < (fs.length : Int) := by omega
      have hS := (Below.refl wr.heap.size wr).drew
      simp only [X.v] at HC
      clear hat1 hat2 hy1 hy2 hg1 hg2 hub HSR
      go_upto_region 8 with (fail)
      refine wp_region_held_drew (S := fun w' => Below wr.heap.size wr w') (by kernel_rfl) (by exact hS) (fun hHeld => ?_)
      (refine wpAnyH_take (i := 0) (v := ?_) rfl (by kernel_rfl) (by decide +kernel) (by decide +kernel) (fun _ _ _ h => h) (Or.inl ⟨by rfl, ?_⟩) (by assumption) ?_; rotate_left; (focus (intro w0 hSw; have q1 := HEL1.out w0 hSw; have q2 := HEL2.out w0 hSw; obtain ⟨c0, c1, c2, c3, c4, c5⟩ := q1; obtain ⟨d0, d1, d2, d3, d4, d5⟩ := q2; dsimp only at c0 c1 c2 c3 c4 c5 d0 d1 d2 d3 d4 d5; go_simp; (try with_reducible rfl); done)))
      (refine wpAnyH_take (i := 1) (v := ?_) rfl (by kernel_rfl) (by decide +kernel) (by decide +kernel) (fun _ _ _ h => h) (Or.inl ⟨by rfl, ?_⟩) (by assumption) ?_; rotate_left; (focus (intro w0 hSw; have q1 := HEL1.out w0 hSw; have q2 := HEL2.out w0 hSw; obtain ⟨c0, c1, c2, c3, c4, c5⟩ := q1; obtain ⟨d0, d1, d2, d3, d4, d5⟩ := q2; dsimp only at c0 c1 c2 c3 c4 c5 d0 d1 d2 d3 d4 d5; go_simp; (try with_reducible rfl); done)))
      (refine wpAnyH_take (i := 2) (v := ?_) rfl (by kernel_rfl) (by decide +kernel) (by decide +kernel) (fun _ _ _ h => h) (Or.inl ⟨by rfl, ?_⟩) (by assumption) ?_; rotate_left; (focus (intro w0 hSw; have q1 := HEL1.out w0 hSw; have q2 := HEL2.out w0 hSw; obtain ⟨c0, c1, c2, c3, c4, c5⟩ := q1; obtain ⟨d0, d1, d2, d3, d4, d5⟩ := q2; dsimp only at c0 c1 c2 c3 c4 c5 d0 d1 d2 d3 d4 d5; go_simp; (try with_reducible rfl); done)))
      (refine wpAnyH_take (i := 3) (v := ?_) rfl (by kernel_rfl) (by decide +kernel) (by decide +kernel) (fun _ _ _ h => h) (Or.inl ⟨by rfl, ?_⟩) (by assumption) ?_; rotate_left; (focus (intro w0 hSw; have q1 := HEL1.out w0 hSw; have q2 := HEL2.out w0 hSw; obtain ⟨c0, c1, c2, c3, c4, c5⟩ := q1; obtain ⟨d0, d1, d2, d3, d4, d5⟩ := q2; dsimp only at c0 c1 c2 c3 c4 c5 d0 d1 d2 d3 d4 d5; go_simp; (try with_reducible rfl); done)))
      (refine wpAnyH_take (i := 4) (v := ?_) rfl (by kernel_rfl) (by decide +kernel) (by decide +kernel) (fun _ _ _ h => h) (Or.inl ⟨by rfl, ?_⟩) (by assumption) ?_; rotate_left; (focus (intro w0 hSw; have q1 := HEL1.out w0 hSw; have q2 := HEL2.out w0 hSw; obtain ⟨c0, c1, c2, c3, c4, c5⟩ := q1; obtain ⟨d0, d1, d2, d3, d4, d5⟩ := q2; dsimp only at c0 c1 c2 c3 c4 c5 d0 d1 d2 d3 d4 d5; go_simp; (try with_reducible rfl); done)))
      (refine wpAnyH_take (i := 5) (v := ?_) rfl (by kernel_rfl) (by decide +kernel) (by decide +kernel) (fun _ _ _ h => h) (Or.inl ⟨by rfl, ?_⟩) (by assumption) ?_; rotate_left; (focus (intro w0 hSw; have q1 := HEL1.out w0 hSw; have q2 := HEL2.out w0 hSw; obtain ⟨c0, c1, c2, c3, c4, c5⟩ := q1; obtain ⟨d0, d1, d2, d3, d4, d5⟩ := q2; dsimp only at c0 c1 c2 c3 c4 c5 d0 d1 d2 d3 d4 d5; go_simp; (try with_reducible rfl); done)))
      (refine wpAnyH_take (i := 6) (v := ?_) rfl (by kernel_rfl) (by decide +kernel) (by decide +kernel) (fun _ _ _ h => h) (Or.inl ⟨by rfl, ?_⟩) (by assumption) ?_; rotate_left; (focus (intro w0 hSw; have q1 := HEL1.out w0 hSw; have q2 := HEL2.out w0 hSw; obtain ⟨c0, c1, c2, c3, c4, c5⟩ := q1; obtain ⟨d0, d1, d2, d3, d4, d5⟩ := q2; dsimp only at c0 c1 c2 c3 c4 c5 d0 d1 d2 d3 d4 d5; go_simp; (try with_reducible rfl); done)))
      (refine wpAnyH_take (i := 7) (v := ?_) rfl (by kernel_rfl) (by decide +kernel) (by decide +kernel) (fun _ _ _ h => h) (Or.inl ⟨by rfl, ?_⟩) (by assumption) ?_; rotate_left; (focus (intro w0 hSw; have q1 := HEL1.out w0 hSw; have q2 := HEL2.out w0 hSw; obtain ⟨c0, c1, c2, c3, c4, c5⟩ := q1; obtain ⟨d0, d1, d2, d3, d4, d5⟩ := q2; dsimp only at c0 c1 c2 c3 c4 c5 d0 d1 d2 d3 d4 d5; go_simp; (try with_reducible rfl); done)))
      try simp only [List.getElem_toArray, List.getElem_cons_zero, List.getElem_cons_succ, Act.put, List.setIfInBounds_toArray, List.set_cons_zero, List.set_cons_succ]
      generalize wr.drew = v0 at *
      have HX0 := Lib.hid hS
      refine wpAnyH_ready (rs := [8]) (by decide +kernel) (by simp) (AllReadyH.cons rfl (fun K hK => ?_) AllReadyH.nil)
      go_simp
      refine ((HC.out _ hS)).mono ?_
      rintro ee v1 ⟨rfl, hbb⟩
      have HX1 := Lib.hid (HX0.out.trans (hbb.mono HX0.out.size))
      refine hK.out _ _ HX1.out (fun hHeld1 => ?_)
      clear hK K hbb
      try simp only [List.getElem_toArray, List.getElem_cons_zero, List.getElem_cons_succ, Act.put, List.setIfInBounds_toArray, List.set_cons_zero, List.set_cons_succ]
      (refine wpAnyH_take (i := 9) (v := ?_) rfl (by kernel_rfl) (by decide +kernel) (by decide +kernel) (fun _ _ _ h => h) (Or.inl ⟨by rfl, ?_⟩) (by assumption) ?_; rotate_left; (focus (intro w0 hSw; go_simp; (try with_reducible rfl); done)))
      try simp only [List.getElem_toArray, List.getElem_cons_zero, List.getElem_cons_succ, Act.put, List.setIfInBounds_toArray, List.set_cons_zero, List.set_cons_succ]
      refine wpAnyH_done (by kernel_rfl) ?_ _
      have HBN := Lib.hid (HB.out.trans (HX1.out.mono HB.out.size))
      clear HX0 HX1 hHeld hHeld1 hS HC HEL1 HEL2 HB
      go_wp2_with fail
      go_roundw
      case rel => exact ⟨k + 1, hlt, by go_num, HBN⟩
      case measure => simp [intOf]; omega
    · obtain rfl : k = fs.length := by omega
      have HB3 := Lib.hid (HB2.out.trans (HB.out.mono HB2.out.size))
      clear hk hlt HB HR1 HR2 HR12
      go_wp2_with fail
      refine (live_any _).mono ?_
      rintro e w3 ⟨rfl, hb3⟩
      have HB4 := Lib.hid (HB3.out.trans (hb3.mono HB3.out.size))
      clear hb3
      go_wp2_with fail
      refine (vars_cc l A _ c w3 (RowB.below HR.out HB4.out) rfl HLC.out HBL.out).mono ?_
      rintro e w4 ⟨A4, c4, rfl, hs4, hb4⟩
      have HB5 := Lib.hid (HB4.out.trans (hb4.mono HB4.out.size))
      have HS4 := Lib.hid hs4
      clear hs4 hb4
      go_wp2_with fail
      refine (rvars_any l A _ c w4 rfl (RowB.below HR.out HB5.out) HBL.out).mono ?_
      rintro e w5 ⟨A5, c5, rfl, hs5, hb5⟩
      have HB6 := Lib.hid (HB5.out.trans (hb5.mono HB5.out.size))
      have HS5 := Lib.hid hs5
      have HS45 := Lib.hid (HS4.out.below hb5)
      clear hs5 hb5
      go_wp2_with fail
      refine (same_any (vars l) (vars l) A4 A5 c4 c5 w5 HS45.out HS5.out HVL.out).mono ?_
      rintro e w6 ⟨rfl, hb6⟩
      have HB7 := Lib.hid (HB6.out.trans (hb6.mono HB6.out.size))
      rw [decide_eq_true rfl]
      clear hb6
      have HR8 := Lib.hid (row_one w6 w6.heap.size (v := leaf 39 e0 0) (x := ⟨39, e0, 0, e0, none, 0, 0, none, 0, 0⟩) (leaf_is _ _ _ _ _) (Nat.le_refl _))
      have hb8 := below_alloc w6 (.cells (X.cells ⟨39, e0, 0, e0, none, 0, 0, none, 0, 0⟩) 25)
      have HB8 := Lib.hid (HB7.out.trans (hb8.mono HB7.out.size))
      have HZ8 : Hid ((w6.alloc (.cells (X.cells ⟨39, e0, 0, e0, none, 0, 0, none, 0, 0⟩) 25)).heap.size = w6.heap.size + 1) := by show _ = _; simp
      dsimp only [X.cells] at HR8 HB8 HZ8
      clear hb8
      go_wp2_with fail
      refine (funcs_any [leaf 39 e0 0] (some ⟨w6.heap.size, 0, none⟩) 1 1 _ rfl (by rw [Row, HZ8.out]; exact HR8.out) (by decide +kernel)).mono ?_
      rintro e w9 ⟨A9, c9, rfl, -, -, hb9⟩
      have HB9 := Lib.hid (HB8.out.trans (hb9.mono HB8.out.size))
      rw [fcs_one]
      clear hb9
      go_wp2_with fail
      go_ret
      exact ⟨rfl, HB9.out⟩
end Go.Proofs.Ytgehgccgologpaa.Z
