/-
  ScopeBlock, walked. (gen_gb.py)
-/
import Derived.Test.YtgehgccgologpaaGp
import Derived.Test.YtgehgccgologpaaZu
import Derived.Test.YtgehgccgologpaaVv
import Derived.Deep.RegionHeld3
namespace Go.Proofs.Ytgehgccgologpaa.Z
open Go.RowKit Go.Shelf Go.Proofs.Ytgehgccgologpaa Go.Proofs.Ytgehgccgologpaa.R Go.Proofs.Ytgehgccgologpaa.T

theorem vars_c (l : List V) (A : Option Addr) (n c : Nat) (w : World) (hrow : Row w A l) (hn : n = l.length) (hlc : n ≤ c) (hb : V.bulks l ≤ 4194304) :
    Calls Try.prog 16 #[.slice A n c] w fun e w2 => ∃ A2 c2, e = .returned (.slice A2 (vars l).length c2) ∧ Strs w2 A2 (vars l) ∧ Below w.heap.size w w2 := by
  subst hn
  refine (vars_any l A c w hrow hlc hb).mono fun e w2 ⟨nv, h1, h2, h3⟩ => ?_
  obtain ⟨A2, c2, rfl, -, h4⟩ := h2.form
  exact ⟨A2, c2, h1, h4, h3⟩
theorem vars_l (l : List V) (hb : V.bulks l ≤ 4194304) : (vars l).length ≤ 4194304 := by
  refine Nat.le_trans (unq_len _) (Nat.le_trans ?_ (Nat.le_trans (sizes_le_bulks l) hb))
  rw [← nms_wi [] l]
  unfold nms
  rw [List.length_map]
  exact Nat.le_trans (List.length_filter_le _ _) (len_wi [] l)
/-- a block and a program around a row, laid out new -/
theorem blk_new (w : World) {v : V} {xla : Option Addr} {xlc : Nat} (hrow : Row w xla v.l) (hlc : v.l.length ≤ xlc) : ∃ W, (w.alloc (.cells #[.int .i64 25, .string ⟨#[]⟩, .int .i64 0, .string ⟨#[]⟩, .slice none 0 0, .slice xla v.l.length xlc] 25)).alloc (.cells #[.int .i64 41, .string ⟨#[]⟩, .int .i64 0, .string ⟨#[]⟩, .slice none 0 0, .slice (some ⟨w.heap.size, 0, none⟩) 1 1] 25) = W ∧
    Below w.heap.size w W ∧ Is W (prgV [blkV v.l]) ⟨41, ⟨#[]⟩, 0, ⟨#[]⟩, none, 0, 0, some ⟨w.heap.size, 0, none⟩, 1, 1⟩ ∧ At W (w.heap.size + 1) 0 ⟨41, ⟨#[]⟩, 0, ⟨#[]⟩, none, 0, 0, some ⟨w.heap.size, 0, none⟩, 1, 1⟩ ∧ w.heap.size + 1 < W.heap.size := by
  refine ⟨_, rfl, ?_, ?_, ?_, by simp⟩
  · exact (below_alloc w _).trans ((below_alloc _ _).mono (by simp))
  · have h1 := row_one w w.heap.size (v := blkV v.l) (x := ⟨25, ⟨#[]⟩, 0, ⟨#[]⟩, none, 0, 0, xla, v.l.length, xlc⟩) (row_is rfl hlc hrow) (Nat.le_refl _)
    refine row_is rfl (Nat.le_refl _) ?_
    exact h1.to ((below_alloc _ _).mono (by simp)) (by simp)
  · exact at_row (hp_new (by simp)) rfl rfl rfl rfl rfl rfl
set_option maxRecDepth 20000 in
set_option maxHeartbeats 4000000 in
theorem block_law (v : V) (x : X) (w : World) (hx : Is w v x) (hb : v.bulk ≤ 1048576) : Calls Try.prog 5 #[x.v] w (AnsB w true) := by
  obtain ⟨W0, hW0⟩ : ∃ W0, w.alloc (.cells x.cells 25) = W0 := ⟨_, rfl⟩
  have hbw : Below w.heap.size w W0 := by rw [← hW0]; exact below_alloc _ _
  have hlt : w.heap.size < W0.heap.size := by rw [← hW0]; simp
  have hat : At W0 w.heap.size 0 x := by rw [← hW0]; exact at_new w x
  have HBW := Lib.hid hbw
  have hbg := bulk_ge v
  have hbb := bulk_blk v
  have HIS := Lib.hid fun w' (h : Below w.heap.size w w') => Is.below h _ _ hx
  have HC1 := Lib.hid fun w' (h : Is w' v x) => scheck_any v x w' h (by omega)
  have HC2 := Lib.hid fun (z : X) w' (h : Is w' (prgV [blkV v.l]) z) => scheck_any (prgV [blkV v.l]) z w' h (by omega)
  have HR1 := Lib.hid fun w' (h : Is w' v x) => R.refCheck_any v x w' h (by omega)
  have HR2 := Lib.hid fun (z : X) w' (h : Is w' (prgV [blkV v.l]) z) => R.refCheck_any (prgV [blkV v.l]) z w' h (by omega)
  have HCE := Lib.hid fun h1 h2 h3 => chs_blk v h1 h2 h3
  have HVE := Lib.hid (vars_blk v.l)
  have hvl := vars_l v.l (by omega)
  have HVL := Lib.hid hvl
  have HBL : Hid (V.bulks v.l ≤ 4194304) := by show _ ≤ _; omega
  have HBL2 : Hid (V.bulks [blkV v.l] ≤ 4194304) := by
    show V.bulks [blkV v.l] ≤ 4194304
    have h0 : (⟨#[]⟩ : ByteArray).size = 0 := rfl
    simp only [V.bulk, V.bulks, keysBulk]
    omega
  have hfl : (fcs v.l).length ≤ 4194304 := by
    have h1 : (fcs v.l).length ≤ v.l.length := List.length_filter_le _ _
    have h2 := length_le_bulks v.l
    omega
  have hfI : ((fcs v.l).length : Int) ≤ 4194304 := by omega
  obtain ⟨xka, xkc, xla, xlc, rfl, -, hlc, -, hrow⟩ := hx.open
  have HRW := Lib.hid fun w' (h : Below w.heap.size w w') => RowB.below hrow h
  have HLC := Lib.hid hlc
  have HAT := Lib.hid fun w' (h : Below W0.heap.size W0 w') => hat.below hlt h
  have HNB := Lib.hid fun w' (h : Below w.heap.size w w') => blk_new w' (RowB.below hrow h) hlc
  have HW0 := Lib.hid hW0
  generalize chs v = c1v at *
  generalize chs (prgV [blkV v.l]) = c2v at *
  generalize v.chk = r1 at *
  generalize (prgV [blkV v.l]).chk = r2 at *
  simp only [X.v, X.cells] at HC1 HC2 HR1 HR2 HW0 ⊢
  clear hx hb hW0 hbw hlt hat hbg hbb hrow hlc hvl hfl
  go_enter Try.func5, Try.ntmps5
  go_wp2_with fail
  rw [HW0.out]
  refine (live_any _).mono ?_
  rintro e w1 ⟨rfl, hb1⟩
  have HB1 := Lib.hid (HBW.out.trans (hb1.mono HBW.out.size))
  obtain ⟨c0, c1, c2, c3, c4, c5⟩ := (HAT.out w1 hb1).six
  have HAT1 := Lib.hid fun w' (h : Below w1.heap.size w1 w') => HAT.out w' (hb1.trans (h.mono hb1.size))
  clear hb1 HAT HW0
  go_upto_region 3 with (fail)
  obtain ⟨W2, hW2, hb2, hi2, ha2, hl2⟩ := HNB.out w1 HB1.out
  rw [hW2]
  have HF : Hid (∀ w', Below W2.heap.size W2 w' → At w' w.heap.size 0 ⟨v.k, v.nm, v.n, v.s, xka, v.ks.length, xkc, xla, v.l.length, xlc⟩ ∧ At w' (w1.heap.size + 1) 0 ⟨41, ⟨#[]⟩, 0, ⟨#[]⟩, none, 0, 0, some ⟨w1.heap.size, 0, none⟩, 1, 1⟩) := fun w' h => ⟨HAT1.out w' (hb2.trans (h.mono hb2.size)), ha2.below hl2 h⟩
  have HI2 := Lib.hid fun w' (h : Below W2.heap.size W2 w') => Is.below h _ _ hi2
  have HB2 := Lib.hid (HB1.out.trans (hb2.mono HB1.out.size))
  clear hW2 hb2 hi2 ha2 hl2 HNB HAT1 HB1 c0 c1 c2 c3 c4 c5
  obtain ⟨⟨c0, c1, c2, c3, c4, c5⟩, ⟨d0, d1, d2, d3, d4, d5⟩⟩ := HF.out W2 (Below.refl _ _)
  dsimp only at c0 c1 c2 c3 c4 c5 d0 d1 d2 d3 d4 d5
  by_cases hk : v.k = 41
  · rw [hk] at c0
    have HCE2 := Lib.hid fun h2 h3 => HCE.out hk h2 h3
    have HK := Lib.hid hk
    clear HCE hk
    go_wp2_with fail
    refine (funcs_any v.l xla _ xlc W2 rfl (HRW.out _ HB2.out) HBL.out).mono ?_
    rintro e w3 ⟨A3, c3', rfl, -, -, hb3⟩
    have HB3 := Lib.hid hb3
    clear hb3 c0 c1 c2 c3 c4 c5 d0 d1 d2 d3 d4 d5
    obtain ⟨⟨c0, c1, c2, c3, c4, c5⟩, ⟨d0, d1, d2, d3, d4, d5⟩⟩ := HF.out w3 HB3.out
    dsimp only at c0 c1 c2 c3 c4 c5 d0 d1 d2 d3 d4 d5
    by_cases hf0 : 0 < (fcs v.l).length
    · have hfz : (0 : Int) < ((fcs v.l).length : Int) := by omega
      have HE := Lib.hid (HB2.out.trans (HB3.out.mono HB2.out.size))
      clear hf0
      generalize (fcs v.l).length = fl at *
      go_wp2_with fail
      go_ret
      exact ⟨rfl, HE.out⟩
    · have hfz : ((fcs v.l).length : Int) = 0 := by omega
      generalize (fcs v.l).length = fl at *
      obtain rfl : fl = 0 := by omega
      clear hfz hf0 hfI
      go_wp2_with fail
      refine (HR1.out _ (HIS.out _ (HB2.out.trans (HB3.out.mono HB2.out.size)))).mono ?_
      rintro e w4 ⟨rfl, hb4⟩
      have HB4 := Lib.hid (HB3.out.trans (hb4.mono HB3.out.size))
      clear hb4 c0 c1 c2 c3 c4 c5 d0 d1 d2 d3 d4 d5
      obtain ⟨⟨c0, c1, c2, c3, c4, c5⟩, ⟨d0, d1, d2, d3, d4, d5⟩⟩ := HF.out w4 HB4.out
      dsimp only at c0 c1 c2 c3 c4 c5 d0 d1 d2 d3 d4 d5
      by_cases h1 : r1 = 0
      · have HCE3 := Lib.hid fun h3 => HCE2.out h1 h3
        subst h1
        clear HCE2 HR1
        go_wp2_with fail
        refine (HR2.out _ _ (HI2.out _ HB4.out)).mono ?_
        rintro e w5 ⟨rfl, hb5⟩
        have HB5 := Lib.hid (HB4.out.trans (hb5.mono HB4.out.size))
        clear hb5 c0 c1 c2 c3 c4 c5 d0 d1 d2 d3 d4 d5
        by_cases h2 : r2 = 0
        · have HQ := Lib.hid (HCE3.out h2)
          have hq := HCE3.out h2
          subst h2
          subst hq
          clear HCE3 HR2 HQ
          have hS5 := HB5.out.drew
          go_wp2_with fail
          refine wp_region_held_drew (S := fun w' => Below W2.heap.size W2 w') (by kernel_rfl) (by exact hS5) (fun hHeld => ?_)
          (refine wpAnyH_take (i := 0) (v := ?_) rfl (by kernel_rfl) (by decide +kernel) (by decide +kernel) (fun _ _ _ h => h) (Or.inl ⟨by rfl, ?_⟩) (by assumption) ?_; rotate_left; (focus (intro w0 hSw; obtain ⟨⟨c0, c1, c2, c3, c4, c5⟩, ⟨d0, d1, d2, d3, d4, d5⟩⟩ := HF.out w0 hSw; dsimp only at c0 c1 c2 c3 c4 c5 d0 d1 d2 d3 d4 d5; go_simp; (try with_reducible rfl); done)))
          (refine wpAnyH_take (i := 1) (v := ?_) rfl (by kernel_rfl) (by decide +kernel) (by decide +kernel) (fun _ _ _ h => h) (Or.inl ⟨by rfl, ?_⟩) (by assumption) ?_; rotate_left; (focus (intro w0 hSw; obtain ⟨⟨c0, c1, c2, c3, c4, c5⟩, ⟨d0, d1, d2, d3, d4, d5⟩⟩ := HF.out w0 hSw; dsimp only at c0 c1 c2 c3 c4 c5 d0 d1 d2 d3 d4 d5; go_simp; (try with_reducible rfl); done)))
          (refine wpAnyH_take (i := 2) (v := ?_) rfl (by kernel_rfl) (by decide +kernel) (by decide +kernel) (fun _ _ _ h => h) (Or.inl ⟨by rfl, ?_⟩) (by assumption) ?_; rotate_left; (focus (intro w0 hSw; obtain ⟨⟨c0, c1, c2, c3, c4, c5⟩, ⟨d0, d1, d2, d3, d4, d5⟩⟩ := HF.out w0 hSw; dsimp only at c0 c1 c2 c3 c4 c5 d0 d1 d2 d3 d4 d5; go_simp; (try with_reducible rfl); done)))
          (refine wpAnyH_take (i := 4) (v := ?_) rfl (by kernel_rfl) (by decide +kernel) (by decide +kernel) (fun _ _ _ h => h) (Or.inl ⟨by rfl, ?_⟩) (by assumption) ?_; rotate_left; (focus (intro w0 hSw; obtain ⟨⟨c0, c1, c2, c3, c4, c5⟩, ⟨d0, d1, d2, d3, d4, d5⟩⟩ := HF.out w0 hSw; dsimp only at c0 c1 c2 c3 c4 c5 d0 d1 d2 d3 d4 d5; go_simp; (try with_reducible rfl); done)))
          try simp only [List.getElem_toArray, List.getElem_cons_zero, List.getElem_cons_succ, Act.put, List.setIfInBounds_toArray, List.set_cons_zero, List.set_cons_succ]
          generalize w5.drew = v0 at *
          have HX0 := Lib.hid hS5
          refine wpAnyH_ready (rs := [3]) (by decide +kernel) (by simp) (AllReadyH.cons rfl (fun K hK => ?_) AllReadyH.nil)
          go_simp
          refine ((HC1.out _ (HIS.out _ (HB2.out.trans (HX0.out.mono HB2.out.size))))).mono ?_
          rintro ee v1 ⟨rfl, hbb⟩
          have HX1 := Lib.hid (HX0.out.trans (hbb.mono HX0.out.size))
          refine hK.out _ _ HX1.out (fun hHeld1 => ?_)
          clear hK K hbb
          try simp only [List.getElem_toArray, List.getElem_cons_zero, List.getElem_cons_succ, Act.put, List.setIfInBounds_toArray, List.set_cons_zero, List.set_cons_succ]
          refine wpAnyH_ready (rs := [5]) (by decide +kernel) (by simp) (AllReadyH.cons rfl (fun K hK => ?_) AllReadyH.nil)
          go_simp
          refine ((HC2.out _ _ (HI2.out _ HX1.out))).mono ?_
          rintro ee v2 ⟨rfl, hbb⟩
          have HX2 := Lib.hid (HX1.out.trans (hbb.mono HX1.out.size))
          refine hK.out _ _ HX2.out (fun hHeld2 => ?_)
          clear hK K hbb
          try simp only [List.getElem_toArray, List.getElem_cons_zero, List.getElem_cons_succ, Act.put, List.setIfInBounds_toArray, List.set_cons_zero, List.set_cons_succ]
          (refine wpAnyH_take (i := 6) (v := ?_) rfl (by kernel_rfl) (by decide +kernel) (by decide +kernel) (fun _ _ _ h => h) (Or.inl ⟨by rfl, ?_⟩) (by assumption) ?_; rotate_left; (focus (intro w0 hSw; obtain ⟨⟨c0, c1, c2, c3, c4, c5⟩, ⟨d0, d1, d2, d3, d4, d5⟩⟩ := HF.out w0 hSw; dsimp only at c0 c1 c2 c3 c4 c5 d0 d1 d2 d3 d4 d5; go_simp; (try with_reducible rfl); done)))
          (refine wpAnyH_take (i := 7) (v := ?_) rfl (by kernel_rfl) (by decide +kernel) (by decide +kernel) (fun _ _ _ h => h) (Or.inl ⟨by rfl, ?_⟩) (by assumption) ?_; rotate_left; (focus (intro w0 hSw; obtain ⟨⟨c0, c1, c2, c3, c4, c5⟩, ⟨d0, d1, d2, d3, d4, d5⟩⟩ := HF.out w0 hSw; dsimp only at c0 c1 c2 c3 c4 c5 d0 d1 d2 d3 d4 d5; go_simp; (try with_reducible rfl); done)))
          (refine wpAnyH_take (i := 8) (v := ?_) rfl (by kernel_rfl) (by decide +kernel) (by decide +kernel) (fun _ _ _ h => h) (Or.inl ⟨by rfl, ?_⟩) (by assumption) ?_; rotate_left; (focus (intro w0 hSw; obtain ⟨⟨c0, c1, c2, c3, c4, c5⟩, ⟨d0, d1, d2, d3, d4, d5⟩⟩ := HF.out w0 hSw; dsimp only at c0 c1 c2 c3 c4 c5 d0 d1 d2 d3 d4 d5; go_simp; (try with_reducible rfl); done)))
          (refine wpAnyH_take (i := 9) (v := ?_) rfl (by kernel_rfl) (by decide +kernel) (by decide +kernel) (fun _ _ _ h => h) (Or.inl ⟨by rfl, ?_⟩) (by assumption) ?_; rotate_left; (focus (intro w0 hSw; obtain ⟨⟨c0, c1, c2, c3, c4, c5⟩, ⟨d0, d1, d2, d3, d4, d5⟩⟩ := HF.out w0 hSw; dsimp only at c0 c1 c2 c3 c4 c5 d0 d1 d2 d3 d4 d5; go_simp; (try with_reducible rfl); done)))
          (refine wpAnyH_take (i := 10) (v := ?_) rfl (by kernel_rfl) (by decide +kernel) (by decide +kernel) (fun _ _ _ h => h) (Or.inl ⟨by rfl, ?_⟩) (by assumption) ?_; rotate_left; (focus (intro w0 hSw; obtain ⟨⟨c0, c1, c2, c3, c4, c5⟩, ⟨d0, d1, d2, d3, d4, d5⟩⟩ := HF.out w0 hSw; dsimp only at c0 c1 c2 c3 c4 c5 d0 d1 d2 d3 d4 d5; go_simp; (try with_reducible rfl); done)))
          (refine wpAnyH_take (i := 12) (v := ?_) rfl (by kernel_rfl) (by decide +kernel) (by decide +kernel) (fun _ _ _ h => h) (Or.inl ⟨by rfl, ?_⟩) (by assumption) ?_; rotate_left; (focus (intro w0 hSw; obtain ⟨⟨c0, c1, c2, c3, c4, c5⟩, ⟨d0, d1, d2, d3, d4, d5⟩⟩ := HF.out w0 hSw; dsimp only at c0 c1 c2 c3 c4 c5 d0 d1 d2 d3 d4 d5; go_simp; (try with_reducible rfl); done)))
          (refine wpAnyH_take (i := 13) (v := ?_) rfl (by kernel_rfl) (by decide +kernel) (by decide +kernel) (fun _ _ _ h => h) (Or.inl ⟨by rfl, ?_⟩) (by assumption) ?_; rotate_left; (focus (intro w0 hSw; obtain ⟨⟨c0, c1, c2, c3, c4, c5⟩, ⟨d0, d1, d2, d3, d4, d5⟩⟩ := HF.out w0 hSw; dsimp only at c0 c1 c2 c3 c4 c5 d0 d1 d2 d3 d4 d5; go_simp; (try with_reducible rfl); done)))
          try simp only [List.getElem_toArray, List.getElem_cons_zero, List.getElem_cons_succ, Act.put, List.setIfInBounds_toArray, List.set_cons_zero, List.set_cons_succ]
          refine wpAnyH_ready (rs := [11]) (by decide +kernel) (by simp) (AllReadyH.cons rfl (fun K hK => ?_) AllReadyH.nil)
          go_simp
          refine ((vars_c v.l xla _ xlc _ (HRW.out _ (HB2.out.trans (HX2.out.mono HB2.out.size))) rfl HLC.out HBL.out)).mono ?_
          rintro ee v3 ⟨A6, c6, rfl, hst6, hbb⟩
          have HX3 := Lib.hid (HX2.out.trans (hbb.mono HX2.out.size))
          have HST6 := Lib.hid hst6
          clear hst6
          refine hK.out _ _ HX3.out (fun hHeld3 => ?_)
          clear hK K hbb
          try simp only [List.getElem_toArray, List.getElem_cons_zero, List.getElem_cons_succ, Act.put, List.setIfInBounds_toArray, List.set_cons_zero, List.set_cons_succ]
          refine wpAnyH_ready (rs := [14]) (by decide +kernel) (by simp) (AllReadyH.cons rfl (fun K hK => ?_) AllReadyH.nil)
          go_simp
          refine ((vars_c [blkV v.l] _ _ _ _ (by have := (HI2.out _ HX3.out); rw [is_iff] at this; exact this.2.2.2.2) rfl (Nat.le_refl _) HBL2.out)).mono ?_
          rintro ee v4 ⟨A7, c7, rfl, hst7, hbb⟩
          have HX4 := Lib.hid (HX3.out.trans (hbb.mono HX3.out.size))
          have HST7 : Hid (Strs v4 A7 (vars v.l)) := by rw [HVE.out] at hst7; exact Lib.hid hst7
          have HST8 := Lib.hid (HST6.out.below hbb)
          clear hst7
          rw [HVE.out]
          refine hK.out _ _ HX4.out (fun hHeld4 => ?_)
          clear hK K hbb
          try simp only [List.getElem_toArray, List.getElem_cons_zero, List.getElem_cons_succ, Act.put, List.setIfInBounds_toArray, List.set_cons_zero, List.set_cons_succ]
          refine wpAnyH_ready (rs := [15]) (by decide +kernel) (by simp) (AllReadyH.cons rfl (fun K hK => ?_) AllReadyH.nil)
          go_simp
          refine ((same_any (vars v.l) (vars v.l) A6 A7 c6 c7 _ HST8.out HST7.out HVL.out)).mono ?_
          rintro ee v5 ⟨rfl, hbb⟩
          have HX5 := Lib.hid (HX4.out.trans (hbb.mono HX4.out.size))
          rw [decide_eq_true rfl]
          refine hK.out _ _ HX5.out (fun hHeld5 => ?_)
          clear hK K hbb
          try simp only [List.getElem_toArray, List.getElem_cons_zero, List.getElem_cons_succ, Act.put, List.setIfInBounds_toArray, List.set_cons_zero, List.set_cons_succ]
          (refine wpAnyH_take (i := 16) (v := ?_) rfl (by kernel_rfl) (by decide +kernel) (by decide +kernel) (fun _ _ _ h => h) (Or.inl ⟨by rfl, ?_⟩) (by assumption) ?_; rotate_left; (focus (intro w0 hSw; obtain ⟨⟨c0, c1, c2, c3, c4, c5⟩, ⟨d0, d1, d2, d3, d4, d5⟩⟩ := HF.out w0 hSw; dsimp only at c0 c1 c2 c3 c4 c5 d0 d1 d2 d3 d4 d5; go_simp; (try with_reducible rfl); done)))
          try simp only [List.getElem_toArray, List.getElem_cons_zero, List.getElem_cons_succ, Act.put, List.setIfInBounds_toArray, List.set_cons_zero, List.set_cons_succ]
          refine wpAnyH_ready (rs := [17]) (by decide +kernel) (by simp) (AllReadyH.cons rfl (fun K hK => ?_) AllReadyH.nil)
          go_simp
          refine hK.out _ _ (by assumption) (fun hHeldz => ?_)
          clear hK K
          try simp only [List.getElem_toArray, List.getElem_cons_zero, List.getElem_cons_succ, Act.put, List.setIfInBounds_toArray, List.set_cons_zero, List.set_cons_succ]
          refine wpAnyH_done (by kernel_rfl) ?_ _
          have HE := Lib.hid (HB2.out.trans (HX5.out.mono HB2.out.size))
          go_wp2_with fail
          go_ret
          exact ⟨rfl, HE.out⟩
        · have hne : (r2 != 0) = true := bne_iff_ne.2 h2
          have HE := Lib.hid (HB2.out.trans (HB5.out.mono HB2.out.size))
          clear h2 HCE3 HR2 HC1 HC2
          go_wp2_with fail
          go_ret
          exact ⟨rfl, HE.out⟩
      · have hne : (r1 != 0) = true := bne_iff_ne.2 h1
        have HE := Lib.hid (HB2.out.trans (HB4.out.mono HB2.out.size))
        clear h1 HCE2 HR1 HR2 HC1 HC2
        go_wp2_with fail
        go_ret
        exact ⟨rfl, HE.out⟩
  · have hne : (v.k != 41) = true := bne_iff_ne.2 hk
    clear hk HCE HR1 HR2 HC1 HC2
    go_wp2_with fail
    go_ret
    exact ⟨rfl, HB2.out⟩
end Go.Proofs.Ytgehgccgologpaa.Z
