/-
  ScopeJoins, walked. (gen_gk.py)
-/
import Derived.Test.YtgehgccgologpaaGj
namespace Go.Proofs.Ytgehgccgologpaa.Z
open Go.RowKit Go.Shelf Go.Maps Go.Proofs.Ytgehgccgologpaa Go.Proofs.Ytgehgccgologpaa.R Go.Proofs.Ytgehgccgologpaa.T

set_option maxRecDepth 20000 in
set_option maxHeartbeats 8000000 in
theorem joins_law (a b : V) (x y : X) (w : World) (hx : Is w a x) (hy : Is w b y) (ha : a.bulk ≤ 1048576) (hb : b.bulk ≤ 1048576) : Calls Try.prog 6 #[x.v, y.v] w (AnsB w true) := by
  have hag := bulk_ge a
  have hbg := bulk_ge b
  have hjb : V.bulks (a.l ++ b.l) ≤ 4194300 := by rw [bulks_app a.l b.l]; omega
  have hjb2 : (prgV (a.l ++ b.l)).bulk ≤ 4194304 := by
    simp only [V.bulk, keysBulk]
    have h0 : (⟨#[]⟩ : ByteArray).size = 0 := rfl
    omega
  have HISA := Lib.hid fun w' (h : Below w.heap.size w w') => Is.below h _ _ hx
  have HISB := Lib.hid fun w' (h : Below w.heap.size w w') => Is.below h _ _ hy
  have HCA := Lib.hid fun w' (h : Is w' a x) => scheck_any a x w' h (by omega)
  have HCB := Lib.hid fun w' (h : Is w' b y) => scheck_any b y w' h (by omega)
  have HCJ := Lib.hid fun (z : X) w' (h : Is w' (prgV (a.l ++ b.l)) z) => scheck_any _ z w' h hjb2
  have HCE := Lib.hid fun h1 h2 => chs_join a b h1 h2
  have hal : a.l.length ≤ 4194304 := by have := length_le_bulks a.l; omega
  have hbl : b.l.length ≤ 4194304 := by have := length_le_bulks b.l; omega
  have HBA : Hid (V.bulks a.l ≤ 4194304) := by show _ ≤ _; omega
  have HBB : Hid (V.bulks b.l ≤ 4194304) := by show _ ≤ _; omega
  have HBJ : Hid (V.bulks (a.l ++ b.l) ≤ 4194304) := by show _ ≤ _; omega
  have HSZA : Hid (∀ s ∈ vars a.l, s.size ≤ 4194304) := fun s hs => Nat.le_trans (vars_sz hs) HBA.out
  have HSZB : Hid (∀ s ∈ vars b.l, s.size ≤ 4194304) := fun s hs => Nat.le_trans (vars_sz hs) HBB.out
  have HSZJ : Hid (∀ s ∈ vars (a.l ++ b.l), s.size ≤ 4194304) := fun s hs => Nat.le_trans (vars_sz hs) HBJ.out
  have hva := vars_l a.l HBA.out
  have hvb := vars_l b.l HBB.out
  have hvj := vars_l (a.l ++ b.l) HBJ.out
  have hvaI : ((vars a.l).length : Int) ≤ 4194304 := by omega
  have hvbI : ((vars b.l).length : Int) ≤ 4194304 := by omega
  have hvjI : ((vars (a.l ++ b.l)).length : Int) ≤ 4194304 := by omega
  have HMEM : Hid (∀ s ∈ vars (a.l ++ b.l), s ∈ vars a.l ++ vars b.l) := fun s hs => by
    rw [vars_app, mem_unq] at hs
    exact hs
  have HSIZE : Hid (Maps.size (setT (vars a.l ++ vars b.l)) = (vars (a.l ++ b.l)).length) := by show _ = _; rw [setT_size, vars_app]
  have hfa : (fcs a.l).length ≤ 4194304 := Nat.le_trans (List.length_filter_le _ _) hal
  have hfb : (fcs b.l).length ≤ 4194304 := Nat.le_trans (List.length_filter_le _ _) hbl
  have hfaI : ((fcs a.l).length : Int) ≤ 4194304 := by omega
  have hfbI : ((fcs b.l).length : Int) ≤ 4194304 := by omega
  have HFJ : Hid ((fcs (a.l ++ b.l)).length = (fcs a.l).length + (fcs b.l).length) := by show _ = _; rw [fcs_append, List.length_append]
  have HQQ : Hid ((((fcs (a.l ++ b.l)).length : Int) == IntKind.i64.wrap (((fcs a.l).length : Int) + ((fcs b.l).length : Int))) = true) := by
    show _ = true
    rw [IntWalk.i64_in _ (by omega), HFJ.out, beq_iff_eq]
    omega
  obtain ⟨xka, xkc, xla, xlc, rfl, -, hlca, -, hrx⟩ := hx.open
  obtain ⟨yka, ykc, yla, ylc, rfl, -, hlcb, -, hry⟩ := hy.open
  have HRA := Lib.hid fun w' (h : Below w.heap.size w w') => RowB.to hrx h (Nat.le_refl _)
  have HRB := Lib.hid fun w' (h : Below w.heap.size w w') => RowB.to hry h (Nat.le_refl _)
  have HLA := Lib.hid hlca
  have HLB := Lib.hid hlcb
  have HAL := Lib.hid hal
  have HBL := Lib.hid hbl
  obtain ⟨W0, hW0⟩ : ∃ W0, (w.alloc (.cells #[.int .i64 a.k, .string a.nm, .int .i64 a.n, .string a.s, .slice xka a.ks.length xkc, .slice xla a.l.length xlc] 25)).alloc (.cells #[.int .i64 b.k, .string b.nm, .int .i64 b.n, .string b.s, .slice yka b.ks.length ykc, .slice yla b.l.length ylc] 25) = W0 := ⟨_, rfl⟩
  have HB0 : Hid (Below w.heap.size w W0) := by
    rw [← hW0]
    exact (below_alloc w _).trans ((below_alloc _ _).mono (by simp))
  have HF : Hid (∀ w', Below W0.heap.size W0 w' → At w' w.heap.size 0 ⟨a.k, a.nm, a.n, a.s, xka, a.ks.length, xkc, xla, a.l.length, xlc⟩ ∧ At w' (w.heap.size + 1) 0 ⟨b.k, b.nm, b.n, b.s, yka, b.ks.length, ykc, yla, b.l.length, ylc⟩) := fun w' hb => by
    have h0 : At W0 w.heap.size 0 ⟨a.k, a.nm, a.n, a.s, xka, a.ks.length, xkc, xla, a.l.length, xlc⟩ := by rw [← hW0]; exact at_row (hp_alloc (hp_new rfl)) rfl rfl rfl rfl rfl rfl
    have h1 : At W0 (w.heap.size + 1) 0 ⟨b.k, b.nm, b.n, b.s, yka, b.ks.length, ykc, yla, b.l.length, ylc⟩ := by rw [← hW0]; exact at_row (hp_new (by simp)) rfl rfl rfl rfl rfl rfl
    exact ⟨h0.below (B := W0.heap.size) (by rw [← hW0]; simp; omega) hb, h1.below (B := W0.heap.size) (by rw [← hW0]; simp) hb⟩
  have HW0 := Lib.hid hW0
  simp only [X.v] at HCA HCB ⊢
  generalize chs a = ca at *
  generalize chs b = cb at *
  generalize hr : a.l ++ b.l = r at *
  have HRR := Lib.hid hr
  clear hr
  have hmm := @run_makeMap Try.prog
  have hz0 : ∀ w : World, (zeroValue 4).run Try.prog w = .ok (.bool false) w := fun w => by kernel_rfl
  clear hx hy ha hb hag hbg hjb hjb2 hrx hry hlca hlcb hW0 hal hbl hfa hfb
  go_enter Try.func6, Try.ntmps6
  go_wp2_with fail
  rw [HW0.out]
  clear HW0
  refine (live_any _).mono ?_
  rintro e w1 ⟨rfl, hb1⟩
  have HX1 := Lib.hid hb1
  clear hb1
  obtain ⟨⟨c0, c1, c2, c3, c4, c5⟩, ⟨d0, d1, d2, d3, d4, d5⟩⟩ := HF.out w1 HX1.out
  dsimp only at c0 c1 c2 c3 c4 c5 d0 d1 d2 d3 d4 d5
  go_wp2_with fail
  refine (HCA.out _ (HISA.out _ (HB0.out.trans (HX1.out.mono HB0.out.size)))).mono ?_
  rintro e w2 ⟨rfl, hb2⟩
  have HX2 := Lib.hid (HX1.out.trans (hb2.mono HX1.out.size))
  clear hb2 c0 c1 c2 c3 c4 c5 d0 d1 d2 d3 d4 d5
  obtain ⟨⟨c0, c1, c2, c3, c4, c5⟩, ⟨d0, d1, d2, d3, d4, d5⟩⟩ := HF.out w2 HX2.out
  dsimp only at c0 c1 c2 c3 c4 c5 d0 d1 d2 d3 d4 d5
  by_cases hca : ca = 0
  · have HCE2 := Lib.hid (HCE.out hca)
    subst hca
    clear HCA HCE
    go_wp2_with fail
    refine (HCB.out _ (HISB.out _ (HB0.out.trans (HX2.out.mono HB0.out.size)))).mono ?_
    rintro e w3 ⟨rfl, hb3⟩
    have HX3 := Lib.hid (HX2.out.trans (hb3.mono HX2.out.size))
    clear hb3 c0 c1 c2 c3 c4 c5 d0 d1 d2 d3 d4 d5
    by_cases hcb : cb = 0
    · have HCE3 := Lib.hid (HCE2.out hcb)
      subst hcb
      clear HCB HCE2 HX1 HX2
      have hS3 := HX3.out.drew
      have hba := HB0.out.trans (hS3.mono HB0.out.size)
      obtain ⟨xs, hxs, hxa⟩ := row_xs (HRA.out _ hba)
      have HYS := Lib.hid fun w' (h : Below w.heap.size w w') => row_xs (HRB.out w' h)
      have hxl : xs.length ≤ 4194304 := by rw [hxs.1]; exact HAL.out
      go_wp2_with fail
      refine wp_region_held_drew (S := fun w' => Below W0.heap.size W0 w') (by kernel_rfl) (by exact hS3) (fun hHeld => ?_)
      (refine wpAnyH_take (i := 0) (v := ?_) rfl (by kernel_rfl) (by decide +kernel) (by decide +kernel) (fun _ _ _ h => h) (Or.inl ⟨by rfl, ?_⟩) (by assumption) ?_; rotate_left; (focus (intro w0 hSw; obtain ⟨⟨c0, c1, c2, c3, c4, c5⟩, ⟨d0, d1, d2, d3, d4, d5⟩⟩ := HF.out w0 hSw; dsimp only at c0 c1 c2 c3 c4 c5 d0 d1 d2 d3 d4 d5; go_simp; (try with_reducible rfl); done)))
      (refine wpAnyH_take (i := 1) (v := ?_) rfl (by kernel_rfl) (by decide +kernel) (by decide +kernel) (fun _ _ _ h => h) (Or.inl ⟨by rfl, ?_⟩) (by assumption) ?_; rotate_left; (focus (intro w0 hSw; obtain ⟨⟨c0, c1, c2, c3, c4, c5⟩, ⟨d0, d1, d2, d3, d4, d5⟩⟩ := HF.out w0 hSw; dsimp only at c0 c1 c2 c3 c4 c5 d0 d1 d2 d3 d4 d5; go_simp; (try with_reducible rfl); done)))
      (refine wpAnyH_take (i := 3) (v := ?_) rfl (by kernel_rfl) (by decide +kernel) (by decide +kernel) (fun _ _ _ h => h) (Or.inl ⟨by rfl, ?_⟩) (by assumption) ?_; rotate_left; (focus (intro w0 hSw; obtain ⟨⟨c0, c1, c2, c3, c4, c5⟩, ⟨d0, d1, d2, d3, d4, d5⟩⟩ := HF.out w0 hSw; dsimp only at c0 c1 c2 c3 c4 c5 d0 d1 d2 d3 d4 d5; go_simp; (try with_reducible rfl); done)))
      (refine wpAnyH_take (i := 4) (v := ?_) rfl (by kernel_rfl) (by decide +kernel) (by decide +kernel) (fun _ _ _ h => h) (Or.inl ⟨by rfl, ?_⟩) (by assumption) ?_; rotate_left; (focus (intro w0 hSw; obtain ⟨⟨c0, c1, c2, c3, c4, c5⟩, ⟨d0, d1, d2, d3, d4, d5⟩⟩ := HF.out w0 hSw; dsimp only at c0 c1 c2 c3 c4 c5 d0 d1 d2 d3 d4 d5; go_simp; (try with_reducible rfl); done)))
      try simp only [List.getElem_toArray, List.getElem_cons_zero, List.getElem_cons_succ, Act.put, List.setIfInBounds_toArray, List.set_cons_zero, List.set_cons_succ]
      generalize w3.drew = v0 at *
      refine wpAnyH_ready (rs := [2]) (by decide +kernel) (by simp) (AllReadyH.cons rfl (fun K hK => ?_) AllReadyH.nil)
      refine step_X rfl (.const (.slice none 0 0)) (.tmp 25) rfl v0.heap.size (.slice none 0 0) [] rfl (ownX_nil _ _) xla _ xlc xs rfl hxs.1.symm hxa (Nat.zero_le _) hxl (Nat.le_refl _) ?_
      intro nv1 v1 ho1 hg1
      have hb1 : Below v0.heap.size v0 v1 := grownN hg1 (Nat.le_refl _) fun _ hk => by cases hk
      have hS1 := hS3.trans (hb1.mono hS3.size)
      refine hK.out _ _ hS1 (fun hHeld1 => ?_)
      clear hK K hHeld hg1
      try simp only [List.getElem_toArray, List.getElem_cons_zero, List.getElem_cons_succ, Act.put, List.setIfInBounds_toArray, List.set_cons_zero, List.set_cons_succ]
      refine wpAnyH_ready (rs := [5]) (by decide +kernel) (by simp) (AllReadyH.cons rfl (fun K hK => ?_) AllReadyH.nil)
      obtain ⟨ys, hys, hya⟩ := HYS.out v1 (HB0.out.trans (hS1.mono HB0.out.size))
      have hyl : ys.length ≤ 4194304 := by rw [hys.1]; exact HBL.out
      refine step_X rfl (.tmp 26) (.tmp 28) rfl v0.heap.size nv1 ([] ++ xs) rfl ho1 yla _ ylc ys rfl hys.1.symm hya (by rw [List.nil_append]; exact hxl) hyl hb1.size ?_
      intro nv2 v2 ho2 hg2
      have hb2 : Below v0.heap.size v0 v2 := hb1.trans (grownN hg2 hb1.size fun k hk => (World.ownsRow.lt ho1 k hk).1)
      have hS2 := hS3.trans (hb2.mono hS3.size)
      refine hK.out _ _ hS2 (fun hHeld2 => ?_)
      clear hK K hHeld1
      try simp only [List.getElem_toArray, List.getElem_cons_zero, List.getElem_cons_succ, Act.put, List.setIfInBounds_toArray, List.set_cons_zero, List.set_cons_succ]
      refine wpAnyH_ready (rs := [6]) (by decide +kernel) (by simp) (AllReadyH.cons rfl (fun K hK => ?_) AllReadyH.nil)
      go_simp
      refine hK.out _ _ (by assumption) (fun hHeldz => ?_)
      clear hK K
      try simp only [List.getElem_toArray, List.getElem_cons_zero, List.getElem_cons_succ, Act.put, List.setIfInBounds_toArray, List.set_cons_zero, List.set_cons_succ]
      refine wpAnyH_done (by kernel_rfl) ?_ _
      have HROW : Hid (∃ A' c', nv2 = .slice A' (r).length c' ∧ (r).length ≤ c' ∧ Row v2 A' (r)) := by
        rw [List.nil_append] at ho2
        have hbv0 : Below w.heap.size w v0 := HB0.out.trans (hS3.mono HB0.out.size)
        have hx2 : XsIs v2 w.heap.size (xs ++ ys) r := by
          rw [← HRR.out]
          exact XsIs.app (hxs.low (hb2.mono hbv0.size)) (hys.low (show Below w.heap.size v1 v2 from grownN hg2 (Nat.le_trans hbv0.size hb1.size) fun k hk => Nat.le_trans hbv0.size (World.ownsRow.lt ho1 k hk).1))
        have hon : OwnN v2 v0.heap.size w.heap.size nv2 (r) := ⟨xs ++ ys, hx2, by rw [← hx2.1]; exact ho2⟩
        exact hon.row (Nat.le_trans hbv0.size hb2.size)
      have HX4 := Lib.hid hS2
      clear hS3 hba hxs hxa HYS hxl ho1 hb1 hS1 hys hya hyl ho2 hg2 hb2 hS2 hHeldz hHeld2 HX3
      obtain ⟨A4, c4', rfl, hl4, hr4⟩ := HROW.out
      have HL4 := Lib.hid hl4
      have HR4 := Lib.hid hr4
      clear HROW hl4 hr4
      have HB4 := Lib.hid (HB0.out.trans (HX4.out.mono HB0.out.size))
      -- the map
      have HOM : Hid ((v2.alloc (.map #[] 0)).ownsMap Try.prog 9 (plainElem (H := Unit) Try.prog 4) v2.heap.size 0 (setT [])) := World.ownsMap_made _ _ _ _
      have hbm := below_alloc v2 (.map #[] 0)
      have HBM := Lib.hid hbm
      have HZM : Hid (v2.heap.size < (v2.alloc (.map #[] 0)).heap.size) := by show _ < _; simp
      clear hbm
      go_upto_region 6 with (fail)
      obtain ⟨w5, hw5⟩ : ∃ w5, v2.alloc (.map #[] 0) = w5 := ⟨_, rfl⟩
      rw [hw5] at HOM HBM HZM ⊢
      clear hw5
      obtain ⟨⟨c0, c1, c2, c3, c4, c5⟩, ⟨d0, d1, d2, d3, d4, d5⟩⟩ := HF.out w5 (HX4.out.trans (HBM.out.mono HX4.out.size))
      dsimp only at c0 c1 c2 c3 c4 c5 d0 d1 d2 d3 d4 d5
      go_wp2_with fail
      refine (vars_o a.l xla _ xlc w5 ((HRA.out _ (HB4.out.trans (HBM.out.mono HB4.out.size))).to (Below.refl _ _) (Nat.le_trans HB4.out.size HBM.out.size)) rfl HLA.out HBA.out).mono ?_
      rintro e w6 ⟨A6, c6, rfl, ho6, hb6⟩
      have HO6 := Lib.hid ho6
      have HOM6 := Lib.hid (ownsMap_lowT HOM.out hb6)
      have HS56 := Lib.hid hb6.size
      have HB6 := Lib.hid (HBM.out.trans (hb6.mono HBM.out.size))
      clear ho6 hb6 HOM c0 c1 c2 c3 c4 c5 d0 d1 d2 d3 d4 d5
      have HOM := HOM6
      have HSZ := HSZA
      clear HOM6
      go_wp2_with fail
      go_loopw [35] (fun i wr => ∃ k : Nat, k ≤ (vars a.l).length ∧ i = .int .i64 k ∧ Hid (wr.ownsMap Try.prog 9 (plainElem Try.prog 4) v2.heap.size (0 + k) (setT ([] ++ (vars a.l).take k))) ∧ Hid (w6.grownBy wr (some v2.heap.size))) (fun i _ => (vars a.l).length - (intOf i).toNat)
      case atStart => exact ⟨0, Nat.zero_le _, rfl, Lib.hid (by rw [List.take_zero, List.append_nil]; exact HOM.out), Lib.hid (World.grownBy.refl _ _)⟩
      case round =>
        clear HOM
        obtain ⟨k, hk, rfl, HOM, HG⟩ := hrel
        by_cases hlt : k < (vars a.l).length
        · have ho := ownT_grown HO6.out HG.out HZM.out
          obtain ⟨g, rfl⟩ : ∃ g, A6 = some ⟨g, 0, none⟩ := by
            rcases (own_addr ho).2.2 with ⟨_, h⟩ | h
            · omega
            · exact h
          have d1 := OwnT.cell ho k hlt
          have hmem := List.getElem_mem hlt
          have hkey := key_of (vars a.l)[k] (HSZ.out _ hmem)
          have HNX : Hid (setT (([] ++ (vars a.l).take k) ++ [(vars a.l)[k]]) = setT ([] ++ (vars a.l).take (k + 1))) := by show _ = _; rw [List.take_succ_eq_append_getElem hlt, List.append_assoc]
          generalize (vars a.l)[k] = s at *
          clear ho hmem
          go_wp2_with (first
            | (at_mapUpdate; refine wpList_mapUpdate_own _ rfl _ _ _ 35 rfl 9 4 lawS Try.underlying35 (plainElem Try.prog 4) v2.heap.size (0 + k) _ rfl HOM.out (by unfold maxLen; omega) _ _ _ rfl rfl hkey trueD [] (plainElem_bool Try.underlying4 true) ?_; intro wm hom2 hgm)
            | fail)
          rw [setT_put, HNX.out] at hom2
          have HOM2 := Lib.hid hom2
          have HG2 := Lib.hid (grown_trans HG.out hgm)
          clear hom2 hgm HOM HG HNX
          go_roundw
          case rel => exact ⟨k + 1, hlt, by go_num, HOM2, HG2⟩
          case measure => simp [intOf]; omega
        · obtain rfl : k = (vars a.l).length := by omega
          rw [List.take_length, List.nil_append, Nat.zero_add] at HOM
          have HB7 := Lib.hid (HB6.out.trans (grownN (n := v2.heap.size) HG.out HB6.out.size fun _ hk => by cases hk; exact Nat.le_refl _))
          have HZ7 : Hid (v2.heap.size < wr.heap.size) := Nat.lt_of_lt_of_le (Nat.lt_of_lt_of_le HZM.out HS56.out) HG.out.size
          obtain ⟨w7, rfl⟩ : ∃ w7 : World, w7 = wr := ⟨_, rfl⟩
          clear hk hlt HG
          obtain ⟨⟨c0, c1, c2, c3, c4, c5⟩, ⟨d0, d1, d2, d3, d4, d5⟩⟩ := HF.out w7 (HX4.out.trans (HB7.out.mono HX4.out.size))
          dsimp only at c0 c1 c2 c3 c4 c5 d0 d1 d2 d3 d4 d5
          go_wp2_with fail
          refine (vars_o b.l yla _ ylc w7 ((HRB.out _ (HB4.out.trans (HB7.out.mono HB4.out.size))).to (Below.refl _ _) (Nat.le_trans HB4.out.size HB7.out.size)) rfl HLB.out HBB.out).mono ?_
          rintro e w8 ⟨A8, c8, rfl, ho8, hb8⟩
          have HO8 := Lib.hid ho8
          have HOM8 := Lib.hid (ownsMap_lowT HOM.out hb8)
          have HS78 := Lib.hid hb8.size
          have HB8 := Lib.hid (HB7.out.trans (hb8.mono HB7.out.size))
          clear ho8 hb8 HOM HSZ c0 c1 c2 c3 c4 c5 d0 d1 d2 d3 d4 d5
          have HOM := HOM8
          have HSZ := HSZB
          clear HOM8
          go_wp2_with fail
          go_loopw [46] (fun i wr => ∃ k : Nat, k ≤ (vars b.l).length ∧ i = .int .i64 k ∧ Hid (wr.ownsMap Try.prog 9 (plainElem Try.prog 4) v2.heap.size ((vars a.l).length + k) (setT (vars a.l ++ (vars b.l).take k))) ∧ Hid (w8.grownBy wr (some v2.heap.size))) (fun i _ => (vars b.l).length - (intOf i).toNat)
          case atStart => exact ⟨0, Nat.zero_le _, rfl, Lib.hid (by rw [List.take_zero, List.append_nil]; exact HOM.out), Lib.hid (World.grownBy.refl _ _)⟩
          case round =>
            clear HOM
            obtain ⟨k, hk, rfl, HOM, HG⟩ := hrel
            by_cases hlt : k < (vars b.l).length
            · have ho := ownT_grown HO8.out HG.out HZ7.out
              obtain ⟨g, rfl⟩ : ∃ g, A8 = some ⟨g, 0, none⟩ := by
                rcases (own_addr ho).2.2 with ⟨_, h⟩ | h
                · omega
                · exact h
              have d1 := OwnT.cell ho k hlt
              have hmem := List.getElem_mem hlt
              have hkey := key_of (vars b.l)[k] (HSZ.out _ hmem)
              have HNX : Hid (setT ((vars a.l ++ (vars b.l).take k) ++ [(vars b.l)[k]]) = setT (vars a.l ++ (vars b.l).take (k + 1))) := by show _ = _; rw [List.take_succ_eq_append_getElem hlt, List.append_assoc]
              generalize (vars b.l)[k] = s at *
              clear ho hmem
              go_wp2_with (first
                | (at_mapUpdate; refine wpList_mapUpdate_own _ rfl _ _ _ 35 rfl 9 4 lawS Try.underlying35 (plainElem Try.prog 4) v2.heap.size ((vars a.l).length + k) _ rfl HOM.out (by unfold maxLen; omega) _ _ _ rfl rfl hkey trueD [] (plainElem_bool Try.underlying4 true) ?_; intro wm hom2 hgm)
                | fail)
              rw [setT_put, HNX.out] at hom2
              have HOM2 := Lib.hid hom2
              have HG2 := Lib.hid (grown_trans HG.out hgm)
              clear hom2 hgm HOM HG HNX
              go_roundw
              case rel => exact ⟨k + 1, hlt, by go_num, HOM2, HG2⟩
              case measure => simp [intOf]; omega
            · obtain rfl : k = (vars b.l).length := by omega
              rw [List.take_length] at HOM
              have HB9 := Lib.hid (HB8.out.trans (grownN (n := v2.heap.size) HG.out HB8.out.size fun _ hk => by cases hk; exact Nat.le_refl _))
              obtain ⟨w9, rfl⟩ : ∃ w9 : World, w9 = wr := ⟨_, rfl⟩
              clear hk hlt HG HSZ
              go_wp2_with fail
              refine (vars_o (r) A4 _ c4' w9 (RowB.below HR4.out HB9.out) rfl HL4.out HBJ.out).mono ?_
              rintro e w10 ⟨A10, c10, rfl, ho10, hb10⟩
              have HO10 := Lib.hid ho10
              have HOM10 := Lib.hid (ownsMap_lowT HOM.out hb10)
              have HB10 := Lib.hid (HB9.out.trans (hb10.mono HB9.out.size))
              clear ho10 hb10 HOM
              go_wp2_with fail
              go_loopw [56] (fun i wr => ∃ k : Nat, k ≤ (vars (r)).length ∧ i = .int .i64 k ∧ Hid (wr = w10)) (fun i _ => (vars (r)).length - (intOf i).toNat)
              case atStart => exact ⟨0, Nat.zero_le _, rfl, Lib.hid rfl⟩
              case round =>
                obtain ⟨k, hk, rfl, hw⟩ := hrel
                have hw := hw.out
                subst hw
                obtain ⟨w10, rfl⟩ : ∃ w10 : World, w10 = wr := ⟨_, rfl⟩
                by_cases hlt : k < (vars (r)).length
                · obtain ⟨g, rfl⟩ : ∃ g, A10 = some ⟨g, 0, none⟩ := by
                    rcases (own_addr HO10.out).2.2 with ⟨_, h⟩ | h
                    · omega
                    · exact h
                  have d1 := OwnT.cell HO10.out k hlt
                  have hmem := List.getElem_mem hlt
                  have hkey := key_of (vars (r))[k] (HSZJ.out _ hmem)
                  have hat := setT_at _ (HMEM.out _ hmem)
                  generalize (vars (r))[k] = s at *
                  clear hmem
                  go_wp2_with (first
                    | (at_lookup; refine look_true _ rfl _ _ 35 rfl 9 4 lawS Try.underlying35 Try.underlying4 (hz0 _) v2.heap.size _ _ rfl HOM10.out _ _ rfl hkey hat ?_)
                    | fail)
                  go_roundw
                  case rel => exact ⟨k + 1, hlt, by go_num, trivial⟩
                  case measure => simp [intOf]; omega
                · obtain rfl : k = (vars (r)).length := by omega
                  rw [HCE3.out] at HCJ
                  have hS10 := (Below.refl w10.heap.size w10).drew
                  have HF10 : Hid (∀ w', Below w10.heap.size w10 w' → At w' w.heap.size 0 ⟨a.k, a.nm, a.n, a.s, xka, a.ks.length, xkc, xla, a.l.length, xlc⟩ ∧ At w' (w.heap.size + 1) 0 ⟨b.k, b.nm, b.n, b.s, yka, b.ks.length, ykc, yla, b.l.length, ylc⟩) := fun w' h => HF.out w' (HX4.out.trans ((HB10.out.trans (h.mono HB10.out.size)).mono HX4.out.size))
                  have HRJ := Lib.hid fun w' (h : Below w10.heap.size w10 w') => RowB.below HR4.out (HB10.out.trans (h.mono HB10.out.size))
                  have HRA2 := Lib.hid fun w' (h : Below w10.heap.size w10 w') => (HRA.out w' (HB4.out.trans ((HB10.out.trans (h.mono HB10.out.size)).mono HB4.out.size))).to (Below.refl _ w') (Nat.le_trans HB4.out.size (Nat.le_trans HB10.out.size h.size))
                  have HRB2 := Lib.hid fun w' (h : Below w10.heap.size w10 w') => (HRB.out w' (HB4.out.trans ((HB10.out.trans (h.mono HB10.out.size)).mono HB4.out.size))).to (Below.refl _ w') (Nat.le_trans HB4.out.size (Nat.le_trans HB10.out.size h.size))
                  have HE10 := Lib.hid (HB4.out.trans (HB10.out.mono HB4.out.size))
                  clear hk hlt HF HRA HRB HX4 HBM HB6 HB7 HB8 HB9 HO6 HO8 HO10 HZM HZ7 HS56 HS78
                  go_wp2_with fail
                  refine wp_region_held_drew (S := fun w' => Below w10.heap.size w10 w') (by kernel_rfl) (by exact hS10) (fun hHeld => ?_)
                  (refine wpAnyH_take (i := 0) (v := ?_) rfl (by kernel_rfl) (by decide +kernel) (by decide +kernel) (fun _ _ _ h => h) (Or.inl ⟨by rfl, ?_⟩) (by assumption) ?_; rotate_left; (focus (intro w0 hSw; go_simp; (try with_reducible rfl); done)))
                  (refine wpAnyH_take (i := 1) (v := ?_) rfl (by kernel_rfl) (by decide +kernel) (by decide +kernel) (fun _ _ _ h => h) (Or.inl ⟨by rfl, ?_⟩) (by assumption) ?_; rotate_left; (focus (intro w0 hSw; go_simp; (try with_reducible rfl); done)))
                  (refine wpAnyH_take (i := 2) (v := ?_) rfl (by kernel_rfl) (by decide +kernel) (by decide +kernel) (fun _ _ _ h => h) (Or.inl ⟨by rfl, ?_⟩) (by assumption) ?_; rotate_left; (focus (intro w0 hSw; go_simp; (try with_reducible rfl); done)))
                  (refine wpAnyH_take (i := 3) (v := ?_) rfl (by kernel_rfl) (by decide +kernel) (by decide +kernel) (fun _ _ _ h => h) (Or.inl ⟨by rfl, ?_⟩) (by assumption) ?_; rotate_left; (focus (intro w0 hSw; go_simp; (try with_reducible rfl); done)))
                  try simp only [List.getElem_toArray, List.getElem_cons_zero, List.getElem_cons_succ, Act.put, List.setIfInBounds_toArray, List.set_cons_zero, List.set_cons_succ]
                  generalize w10.drew = v0' at *
                  have HX0 := Lib.hid hS10
                  refine wpAnyH_ready (rs := [4]) (by decide +kernel) (by simp) (AllReadyH.cons rfl (fun K hK => ?_) AllReadyH.nil)
                  go_simp
                  refine ((HCJ.out ⟨41, ⟨#[]⟩, 0, ⟨#[]⟩, none, 0, 0, A4, r.length, c4'⟩ _ (row_is rfl HL4.out (HRJ.out _ hS10)))).mono ?_
                  rintro ee v1 ⟨rfl, hbb⟩
                  have HX1 := Lib.hid (HX0.out.trans (hbb.mono HX0.out.size))
                  refine hK.out _ _ HX1.out (fun hHeld1 => ?_)
                  clear hK K hbb
                  try simp only [List.getElem_toArray, List.getElem_cons_zero, List.getElem_cons_succ, Act.put, List.setIfInBounds_toArray, List.set_cons_zero, List.set_cons_succ]
                  (refine wpAnyH_take (i := 5) (v := ?_) rfl (by kernel_rfl) (by decide +kernel) (by decide +kernel) (fun _ _ _ h => h) (Or.inl ⟨by rfl, ?_⟩) (by assumption) ?_; rotate_left; (focus (intro w0 hSw; go_simp; (try with_reducible rfl); done)))
                  (refine wpAnyH_take (i := 6) (v := ?_) rfl (by kernel_rfl) (by decide +kernel) (by decide +kernel) (fun _ _ _ h => h) (Or.inl ⟨by rfl, ?_⟩) (by assumption) ?_; rotate_left; (focus (intro w0 hSw; go_simp; (try with_reducible rfl); done)))
                  (refine wpAnyH_take (i := 7) (v := ?_) rfl (by kernel_rfl) (by decide +kernel) (by decide +kernel) (fun _ _ _ h => h) (Or.inl ⟨by rfl, ?_⟩) (by assumption) ?_; rotate_left; (focus (intro w0 hSw; go_simp; (try with_reducible rfl); done)))
                  (refine wpAnyH_take (i := 8) (v := ?_) rfl (by kernel_rfl) (by decide +kernel) (by decide +kernel) (fun _ _ _ h => h) (Or.inl ⟨by rfl, ?_⟩) (by assumption) ?_; rotate_left; (focus (intro w0 hSw; go_simp; (try with_reducible rfl); done)))
                  (refine wpAnyH_take (i := 11) (v := ?_) rfl (by kernel_rfl) (by decide +kernel) (by decide +kernel) (fun _ _ _ h => h) (Or.inl ⟨by rfl, ?_⟩) (by assumption) ?_; rotate_left; (focus (intro w0 hSw; go_simp; (try with_reducible rfl); done)))
                  try simp only [List.getElem_toArray, List.getElem_cons_zero, List.getElem_cons_succ, Act.put, List.setIfInBounds_toArray, List.set_cons_zero, List.set_cons_succ]
                  refine wpAnyH_ready (rs := [9]) (by decide +kernel) (by simp) (AllReadyH.cons rfl (fun K hK => ?_) AllReadyH.nil)
                  go_simp
                  refine ((vars_c r A4 _ c4' _ (HRJ.out _ HX1.out) rfl HL4.out HBJ.out)).mono ?_
                  rintro ee v2 ⟨A11, c11, rfl, -, hbb⟩
                  have HX2 := Lib.hid (HX1.out.trans (hbb.mono HX1.out.size))
                  refine hK.out _ _ HX2.out (fun hHeld2 => ?_)
                  clear hK K hbb
                  try simp only [List.getElem_toArray, List.getElem_cons_zero, List.getElem_cons_succ, Act.put, List.setIfInBounds_toArray, List.set_cons_zero, List.set_cons_succ]
                  (refine wpAnyH_take (i := 10) (v := ?_) rfl (by kernel_rfl) (by decide +kernel) (by decide +kernel) (fun _ _ _ h => h) (Or.inl ⟨by rfl, ?_⟩) (by assumption) ?_; rotate_left; (focus (intro w0 hSw; go_simp; (try with_reducible rfl); done)))
                  try simp only [List.getElem_toArray, List.getElem_cons_zero, List.getElem_cons_succ, Act.put, List.setIfInBounds_toArray, List.set_cons_zero, List.set_cons_succ]
                  (refine wpAnyH_take (i := 12) (v := ?_) rfl (by kernel_rfl) (by decide +kernel) (by decide +kernel) (fun _ _ _ h => h) (Or.inl ⟨by rfl, ?_⟩) (by assumption) ?_; rotate_left; (focus (intro w0 hSw; have hln := (ownsMap_lowT HOM10.out hSw).len (t := 35) (e := 4) Try.underlying35 3; rw [HSIZE.out] at hln; go_simp; (try with_reducible rfl); done)))
                  try simp only [List.getElem_toArray, List.getElem_cons_zero, List.getElem_cons_succ, Act.put, List.setIfInBounds_toArray, List.set_cons_zero, List.set_cons_succ]
                  (refine wpAnyH_take (i := 13) (v := ?_) rfl (by kernel_rfl) (by decide +kernel) (by decide +kernel) (fun _ _ _ h => h) (Or.inl ⟨by rfl, ?_⟩) (by assumption) ?_; rotate_left; (focus (intro w0 hSw; obtain ⟨⟨c0, c1, c2, c3, c4, c5⟩, ⟨d0, d1, d2, d3, d4, d5⟩⟩ := HF10.out w0 hSw; dsimp only at c0 c1 c2 c3 c4 c5 d0 d1 d2 d3 d4 d5; go_simp; (try with_reducible rfl); done)))
                  (refine wpAnyH_take (i := 14) (v := ?_) rfl (by kernel_rfl) (by decide +kernel) (by decide +kernel) (fun _ _ _ h => h) (Or.inl ⟨by rfl, ?_⟩) (by assumption) ?_; rotate_left; (focus (intro w0 hSw; obtain ⟨⟨c0, c1, c2, c3, c4, c5⟩, ⟨d0, d1, d2, d3, d4, d5⟩⟩ := HF10.out w0 hSw; dsimp only at c0 c1 c2 c3 c4 c5 d0 d1 d2 d3 d4 d5; go_simp; (try with_reducible rfl); done)))
                  (refine wpAnyH_take (i := 15) (v := ?_) rfl (by kernel_rfl) (by decide +kernel) (by decide +kernel) (fun _ _ _ h => h) (Or.inl ⟨by rfl, ?_⟩) (by assumption) ?_; rotate_left; (focus (intro w0 hSw; obtain ⟨⟨c0, c1, c2, c3, c4, c5⟩, ⟨d0, d1, d2, d3, d4, d5⟩⟩ := HF10.out w0 hSw; dsimp only at c0 c1 c2 c3 c4 c5 d0 d1 d2 d3 d4 d5; go_simp; (try with_reducible rfl); done)))
                  (refine wpAnyH_take (i := 16) (v := ?_) rfl (by kernel_rfl) (by decide +kernel) (by decide +kernel) (fun _ _ _ h => h) (Or.inl ⟨by rfl, ?_⟩) (by assumption) ?_; rotate_left; (focus (intro w0 hSw; obtain ⟨⟨c0, c1, c2, c3, c4, c5⟩, ⟨d0, d1, d2, d3, d4, d5⟩⟩ := HF10.out w0 hSw; dsimp only at c0 c1 c2 c3 c4 c5 d0 d1 d2 d3 d4 d5; go_simp; (try with_reducible rfl); done)))
                  (refine wpAnyH_take (i := 19) (v := ?_) rfl (by kernel_rfl) (by decide +kernel) (by decide +kernel) (fun _ _ _ h => h) (Or.inl ⟨by rfl, ?_⟩) (by assumption) ?_; rotate_left; (focus (intro w0 hSw; obtain ⟨⟨c0, c1, c2, c3, c4, c5⟩, ⟨d0, d1, d2, d3, d4, d5⟩⟩ := HF10.out w0 hSw; dsimp only at c0 c1 c2 c3 c4 c5 d0 d1 d2 d3 d4 d5; go_simp; (try with_reducible rfl); done)))
                  (refine wpAnyH_take (i := 20) (v := ?_) rfl (by kernel_rfl) (by decide +kernel) (by decide +kernel) (fun _ _ _ h => h) (Or.inl ⟨by rfl, ?_⟩) (by assumption) ?_; rotate_left; (focus (intro w0 hSw; obtain ⟨⟨c0, c1, c2, c3, c4, c5⟩, ⟨d0, d1, d2, d3, d4, d5⟩⟩ := HF10.out w0 hSw; dsimp only at c0 c1 c2 c3 c4 c5 d0 d1 d2 d3 d4 d5; go_simp; (try with_reducible rfl); done)))
                  (refine wpAnyH_take (i := 23) (v := ?_) rfl (by kernel_rfl) (by decide +kernel) (by decide +kernel) (fun _ _ _ h => h) (Or.inl ⟨by rfl, ?_⟩) (by assumption) ?_; rotate_left; (focus (intro w0 hSw; obtain ⟨⟨c0, c1, c2, c3, c4, c5⟩, ⟨d0, d1, d2, d3, d4, d5⟩⟩ := HF10.out w0 hSw; dsimp only at c0 c1 c2 c3 c4 c5 d0 d1 d2 d3 d4 d5; go_simp; (try with_reducible rfl); done)))
                  (refine wpAnyH_take (i := 24) (v := ?_) rfl (by kernel_rfl) (by decide +kernel) (by decide +kernel) (fun _ _ _ h => h) (Or.inl ⟨by rfl, ?_⟩) (by assumption) ?_; rotate_left; (focus (intro w0 hSw; obtain ⟨⟨c0, c1, c2, c3, c4, c5⟩, ⟨d0, d1, d2, d3, d4, d5⟩⟩ := HF10.out w0 hSw; dsimp only at c0 c1 c2 c3 c4 c5 d0 d1 d2 d3 d4 d5; go_simp; (try with_reducible rfl); done)))
                  try simp only [List.getElem_toArray, List.getElem_cons_zero, List.getElem_cons_succ, Act.put, List.setIfInBounds_toArray, List.set_cons_zero, List.set_cons_succ]
                  refine wpAnyH_ready (rs := [17]) (by decide +kernel) (by simp) (AllReadyH.cons rfl (fun K hK => ?_) AllReadyH.nil)
                  go_simp
                  refine ((funcs_any r A4 _ c4' _ rfl (HRJ.out _ HX2.out) HBJ.out)).mono ?_
                  rintro ee v3 ⟨A12, c12, rfl, -, -, hbb⟩
                  have HX3 := Lib.hid (HX2.out.trans (hbb.mono HX2.out.size))
                  refine hK.out _ _ HX3.out (fun hHeld3 => ?_)
                  clear hK K hbb
                  try simp only [List.getElem_toArray, List.getElem_cons_zero, List.getElem_cons_succ, Act.put, List.setIfInBounds_toArray, List.set_cons_zero, List.set_cons_succ]
                  (refine wpAnyH_take (i := 18) (v := ?_) rfl (by kernel_rfl) (by decide +kernel) (by decide +kernel) (fun _ _ _ h => h) (Or.inl ⟨by rfl, ?_⟩) (by assumption) ?_; rotate_left; (focus (intro w0 hSw; go_simp; (try with_reducible rfl); done)))
                  try simp only [List.getElem_toArray, List.getElem_cons_zero, List.getElem_cons_succ, Act.put, List.setIfInBounds_toArray, List.set_cons_zero, List.set_cons_succ]
                  refine wpAnyH_ready (rs := [21]) (by decide +kernel) (by simp) (AllReadyH.cons rfl (fun K hK => ?_) AllReadyH.nil)
                  go_simp
                  refine ((funcs_any a.l xla _ xlc _ rfl (HRA2.out _ HX3.out) HBA.out)).mono ?_
                  rintro ee v4 ⟨A13, c13, rfl, -, -, hbb⟩
                  have HX4 := Lib.hid (HX3.out.trans (hbb.mono HX3.out.size))
                  refine hK.out _ _ HX4.out (fun hHeld4 => ?_)
                  clear hK K hbb
                  try simp only [List.getElem_toArray, List.getElem_cons_zero, List.getElem_cons_succ, Act.put, List.setIfInBounds_toArray, List.set_cons_zero, List.set_cons_succ]
                  (refine wpAnyH_take (i := 22) (v := ?_) rfl (by kernel_rfl) (by decide +kernel) (by decide +kernel) (fun _ _ _ h => h) (Or.inl ⟨by rfl, ?_⟩) (by assumption) ?_; rotate_left; (focus (intro w0 hSw; go_simp; (try with_reducible rfl); done)))
                  try simp only [List.getElem_toArray, List.getElem_cons_zero, List.getElem_cons_succ, Act.put, List.setIfInBounds_toArray, List.set_cons_zero, List.set_cons_succ]
                  refine wpAnyH_ready (rs := [25]) (by decide +kernel) (by simp) (AllReadyH.cons rfl (fun K hK => ?_) AllReadyH.nil)
                  go_simp
                  refine ((funcs_any b.l yla _ ylc _ rfl (HRB2.out _ HX4.out) HBB.out)).mono ?_
                  rintro ee v5 ⟨A14, c14, rfl, -, -, hbb⟩
                  have HX5 := Lib.hid (HX4.out.trans (hbb.mono HX4.out.size))
                  refine hK.out _ _ HX5.out (fun hHeld5 => ?_)
                  clear hK K hbb
                  try simp only [List.getElem_toArray, List.getElem_cons_zero, List.getElem_cons_succ, Act.put, List.setIfInBounds_toArray, List.set_cons_zero, List.set_cons_succ]
                  (refine wpAnyH_take (i := 26) (v := ?_) rfl (by kernel_rfl) (by decide +kernel) (by decide +kernel) (fun _ _ _ h => h) (Or.inl ⟨by rfl, ?_⟩) (by assumption) ?_; rotate_left; (focus (intro w0 hSw; go_simp; (try with_reducible rfl); done)))
                  (refine wpAnyH_take (i := 27) (v := ?_) rfl (by kernel_rfl) (by decide +kernel) (by decide +kernel) (fun _ _ _ h => h) (Or.inl ⟨by rfl, ?_⟩) (by assumption) ?_; rotate_left; (focus (intro w0 hSw; go_simp; (try with_reducible rfl); done)))
                  try simp only [List.getElem_toArray, List.getElem_cons_zero, List.getElem_cons_succ, Act.put, List.setIfInBounds_toArray, List.set_cons_zero, List.set_cons_succ]
                  (refine wpAnyH_take (i := 28) (v := ?_) rfl (by kernel_rfl) (by decide +kernel) (by decide +kernel) (fun _ _ _ h => h) (Or.inl ⟨by rfl, ?_⟩) (by assumption) ?_; rotate_left; (focus (intro w0 hSw; have hqq := HQQ.out; go_simp; (try with_reducible rfl); done)))
                  try simp only [List.getElem_toArray, List.getElem_cons_zero, List.getElem_cons_succ, Act.put, List.setIfInBounds_toArray, List.set_cons_zero, List.set_cons_succ]
                  (refine wpAnyH_take (i := 29) (v := ?_) rfl (by kernel_rfl) (by decide +kernel) (by decide +kernel) (fun _ _ _ h => h) (Or.inl ⟨by rfl, ?_⟩) (by assumption) ?_; rotate_left; (focus (intro w0 hSw; go_simp; (try with_reducible rfl); done)))
                  try simp only [List.getElem_toArray, List.getElem_cons_zero, List.getElem_cons_succ, Act.put, List.setIfInBounds_toArray, List.set_cons_zero, List.set_cons_succ]
                  refine wpAnyH_ready (rs := [30]) (by decide +kernel) (by simp) (AllReadyH.cons rfl (fun K hK => ?_) AllReadyH.nil)
                  go_simp
                  refine hK.out _ _ (by assumption) (fun hHeldz => ?_)
                  clear hK K
                  try simp only [List.getElem_toArray, List.getElem_cons_zero, List.getElem_cons_succ, Act.put, List.setIfInBounds_toArray, List.set_cons_zero, List.set_cons_succ]
                  refine wpAnyH_done (by kernel_rfl) ?_ _
                  have HE := Lib.hid (HE10.out.trans (HX5.out.mono HE10.out.size))
                  go_wp2_with fail
                  go_ret
                  exact ⟨rfl, HE.out⟩
    · have hne : (cb != 0) = true := bne_iff_ne.2 hcb
      have HE := Lib.hid (HB0.out.trans (HX3.out.mono HB0.out.size))
      clear hcb HCB HCE2 HCJ
      go_wp2_with fail
      go_ret
      exact ⟨rfl, HE.out⟩
  · have hne : (ca != 0) = true := bne_iff_ne.2 hca
    have HE := Lib.hid (HB0.out.trans (HX2.out.mono HB0.out.size))
    clear hca HCA HCB HCE HCJ
    go_wp2_with fail
    go_ret
    exact ⟨rfl, HE.out⟩
end Go.Proofs.Ytgehgccgologpaa.Z
