/-
  TreeJoins, walked.
-/
import Derived.Test.YtllpgoaanbiodaaGreatDoorMLf
import Derived.Deep.RegionHeld
namespace Go.Proofs.YtllpgoaanbiodaaGreatDoor.R
open Go.RowKit Go.Proofs.YtllpgoaanbiodaaGreatDoor Go.Proofs.YtllpgoaanbiodaaGreatDoor.T

set_option maxRecDepth 20000 in
set_option maxHeartbeats 4000000 in
theorem joins_law (a b : V) (x y : X) (w : World) (hx : Is w a x) (hy : Is w b y) (ha : a.bulk ≤ 1048576) (hb : b.bulk ≤ 1048576) (hT : Tab w) :
    Calls Tryz.prog 7 #[x.v, y.v] w fun e w' => e = .returned (.bool true) ∧ Below w.heap.size w w' := by
  have HLV := Lib.hid fun w' (h : Below w.heap.size w w') => live_any w' (hT.below h)
  have HTA := Lib.hid fun w' (h2 : Below w.heap.size w w') => text_any a x w' (Is.below h2 _ _ hx) (by omega) (hT.below h2)
  have HTB := Lib.hid fun w' (h2 : Below w.heap.size w w') => text_any b y w' (Is.below h2 _ _ hy) (by omega) (hT.below h2)
  have hjb : (prgV (a.l ++ b.l)).bulk ≤ 4194304 := by have := prg_bulk a b; omega
  have HTJ := Lib.hid fun (z : X) w' (h : Is w' (prgV (a.l ++ b.l)) z) (h2 : Below w.heap.size w w') => text_any _ z w' h hjb (hT.below h2)
  rw [tres_eq] at HTA HTB HTJ
  have HJ := Lib.hid fun h1 h2 h3 h4 => join_te (a := a) (b := b) h1 h2 h3 h4
  have HSA := Lib.hid fun h => tx_size (v := a) h
  have HSB := Lib.hid fun h => tx_size (v := b) h
  have hal : a.l.length ≤ 4194304 := by have := length_le_bulks a.l; have := bulk_ge a; omega
  have hbl : b.l.length ≤ 4194304 := by have := length_le_bulks b.l; have := bulk_ge b; omega
  obtain ⟨xka, xkc, xla, xlc, rfl, -, -, -, hrx⟩ := hx.open
  obtain ⟨yka, ykc, yla, ylc, rfl, -, -, -, hry⟩ := hy.open
  have HRA : Hid (∀ w', Below w.heap.size w w' → RowB w' w.heap.size xla a.l) := fun w' h => RowB.to hrx h (Nat.le_refl _)
  have HRB : Hid (∀ w', Below w.heap.size w w' → RowB w' w.heap.size yla b.l) := fun w' h => RowB.to hry h (Nat.le_refl _)
  have HAL := Lib.hid hal
  have HBL := Lib.hid hbl
  obtain ⟨W0, hW0⟩ : ∃ W0, (w.alloc (.cells #[.int .i64 a.k, .string a.nm, .int .i64 a.n, .string a.s, .slice xka a.ks.length xkc, .slice xla a.l.length xlc] 25)).alloc (.cells #[.int .i64 b.k, .string b.nm, .int .i64 b.n, .string b.s, .slice yka b.ks.length ykc, .slice yla b.l.length ylc] 25) = W0 := ⟨_, rfl⟩
  have HB0 : Hid (Below w.heap.size w W0) := by rw [← hW0]; exact two_below w _ _
  have HF : Hid (∀ w', Below W0.heap.size W0 w' → At w' w.heap.size 0 ⟨a.k, a.nm, a.n, a.s, xka, a.ks.length, xkc, xla, a.l.length, xlc⟩ ∧ At w' (w.heap.size + 1) 0 ⟨b.k, b.nm, b.n, b.s, yka, b.ks.length, ykc, yla, b.l.length, ylc⟩) := fun w' hb => by
    have h0 : At W0 w.heap.size 0 ⟨a.k, a.nm, a.n, a.s, xka, a.ks.length, xkc, xla, a.l.length, xlc⟩ := by rw [← hW0]; exact at_row (hp_alloc (hp_new rfl)) rfl rfl rfl rfl rfl rfl
    have h1 : At W0 (w.heap.size + 1) 0 ⟨b.k, b.nm, b.n, b.s, yka, b.ks.length, ykc, yla, b.l.length, ylc⟩ := by rw [← hW0]; exact at_row (hp_new (by simp)) rfl rfl rfl rfl rfl rfl
    exact ⟨h0.below (B := W0.heap.size) (by rw [← hW0]; simp; omega) hb, h1.below (B := W0.heap.size) (by rw [← hW0]; simp) hb⟩
  have HW0 := Lib.hid hW0
  simp only [X.v] at HTA HTB HTJ ⊢
  clear hx hy ha hb hT hW0 hrx hry hjb hal hbl
  generalize a.te = ea at *
  generalize b.te = eb at *
  generalize a.tx = ta at *
  generalize b.tx = tb at *
  generalize hr : a.l ++ b.l = r at *
  have HR := Lib.hid hr
  clear hr
  generalize (prgV r).te = ej at *
  generalize (prgV r).tx = tj at *
  go_enter Tryz.func7, Tryz.ntmps7
  go_wp2_with fail
  rw [HW0.out]
  clear HW0
  refine (HLV.out _ HB0.out).mono ?_
  rintro e w1 ⟨rfl, hb1⟩
  have HB1 := Lib.hid hb1
  clear hb1
  obtain ⟨⟨c0, c1, c2, c3, c4, c5⟩, ⟨d0, d1, d2, d3, d4, d5⟩⟩ := HF.out _ HB1.out
  dsimp only at c0 c1 c2 c3 c4 c5 d0 d1 d2 d3 d4 d5
  go_wp2_with fail
  refine (HTA.out _ (HB0.out.trans (HB1.out.mono HB0.out.size))).mono ?_
  rintro e w2 ⟨rfl, hb2⟩
  have HB2 := Lib.hid (HB1.out.trans (hb2.mono HB1.out.size))
  clear hb2 HB1 c0 c1 c2 c3 c4 c5 d0 d1 d2 d3 d4 d5
  obtain ⟨⟨c0, c1, c2, c3, c4, c5⟩, ⟨d0, d1, d2, d3, d4, d5⟩⟩ := HF.out _ HB2.out
  dsimp only at c0 c1 c2 c3 c4 c5 d0 d1 d2 d3 d4 d5
  go_wp2_with fail
  refine (HTB.out _ (HB0.out.trans (HB2.out.mono HB0.out.size))).mono ?_
  rintro e w3 ⟨rfl, hb3⟩
  have HB3 := Lib.hid (HB2.out.trans (hb3.mono HB2.out.size))
  have HBW := Lib.hid (HB0.out.trans (HB3.out.mono HB0.out.size))
  clear hb3 HB2 c0 c1 c2 c3 c4 c5 d0 d1 d2 d3 d4 d5
  have HRA3 : Hid (∀ w', Below w3.heap.size w3 w' → RowB w' w.heap.size xla a.l) := fun w' h => HRA.out w' (HBW.out.trans (h.mono HBW.out.size))
  have HRB3 : Hid (∀ w', Below w3.heap.size w3 w' → RowB w' w.heap.size yla b.l) := fun w' h => HRB.out w' (HBW.out.trans (h.mono HBW.out.size))
  have HC3 : Hid (∀ w', Below w3.heap.size w3 w' → w'.cell? ⟨w.heap.size, 0 + 5, none⟩ = some (.slice xla a.l.length xlc) ∧ w'.cell? ⟨w.heap.size + 1, 0 + 5, none⟩ = some (.slice yla b.l.length ylc)) := fun w' h => by
    obtain ⟨⟨_, _, _, _, _, c5⟩, ⟨_, _, _, _, _, d5⟩⟩ := HF.out _ (HB3.out.trans (h.mono HB3.out.size))
    exact ⟨c5, d5⟩
  have HDR : Hid (Below w3.heap.size w3 w3.drew) := (Below.refl _ _).drew
  obtain ⟨c5, d5⟩ := HC3.out _ (Below.refl _ _)
  have HN : Hid (w.heap.size ≤ w3.heap.size) := HBW.out.size
  clear HTA HTB HLV HRA HRB
  go_wp2_with fail
  refine wp_region_held_drew (S := fun w' => w'.cell? ⟨w.heap.size, 5, none⟩ = some (.slice xla a.l.length xlc) ∧ w'.cell? ⟨w.heap.size + 1, 5, none⟩ = some (.slice yla b.l.length ylc)) (by kernel_rfl) (by (try dsimp only); exact HC3.out _ HDR.out) (fun hHeld => ?_)
  iterate 4
    (first
      | (refine wpAnyH_take (i := 0) (v := ?_) rfl (by kernel_rfl) (by decide +kernel) (by decide +kernel) (fun _ _ _ h => h) (Or.inl ⟨by rfl, ?_⟩) (by assumption) ?_; rotate_left; (focus (intro w0 hSw; (try dsimp only at hSw); go_simp; (try with_reducible rfl); done)))
      | (refine wpAnyH_take (i := 1) (v := ?_) rfl (by kernel_rfl) (by decide +kernel) (by decide +kernel) (fun _ _ _ h => h) (Or.inl ⟨by rfl, ?_⟩) (by assumption) ?_; rotate_left; (focus (intro w0 hSw; (try dsimp only at hSw); go_simp; (try with_reducible rfl); done)))
      | (refine wpAnyH_take (i := 3) (v := ?_) rfl (by kernel_rfl) (by decide +kernel) (by decide +kernel) (fun _ _ _ h => h) (Or.inl ⟨by rfl, ?_⟩) (by assumption) ?_; rotate_left; (focus (intro w0 hSw; (try dsimp only at hSw); go_simp; (try with_reducible rfl); done)))
      | (refine wpAnyH_take (i := 4) (v := ?_) rfl (by kernel_rfl) (by decide +kernel) (by decide +kernel) (fun _ _ _ h => h) (Or.inl ⟨by rfl, ?_⟩) (by assumption) ?_; rotate_left; (focus (intro w0 hSw; (try dsimp only at hSw); go_simp; (try with_reducible rfl); done)))
      )
  try simp only [List.getElem_toArray, List.getElem_cons_zero, List.getElem_cons_succ, Act.put, List.setIfInBounds_toArray, List.set_cons_zero, List.set_cons_succ]
  refine wpAnyH_ready (rs := [2, 7]) (by decide +kernel) (by simp) (AllReadyH.cons rfl (fun K hK => ?_) (AllReadyH.cons rfl (fun K hK => ?_) AllReadyH.nil))
  ·
    refine step_nodes (l := []) (m := a.l) (r := a.l) rfl (.const (.slice none 0 0)) (.tmp 25) rfl w3.heap.size w.heap.size (.slice none 0 0) rfl (ownN_nil _ _ _) xla xlc rfl (HRA3.out _ HDR.out) rfl HN.out (Nat.le_refl _) (Nat.zero_le _) HAL.out ?_
    intro A1 k1 v1 ho1 hg1 hat1 hb1
    have HO1 := Lib.hid ho1; have HG1 := Lib.hid hg1; have HAT1 := Lib.hid hat1; have HV1 := Lib.hid (HDR.out.trans hb1)
    clear ho1 hg1 hat1 hb1
    refine hK.out _ _ (HC3.out _ HV1.out) (fun hHeld2 => ?_)
    clear hK K hHeld
    try simp only [List.getElem_toArray, List.getElem_cons_zero, List.getElem_cons_succ, Act.put, List.setIfInBounds_toArray, List.set_cons_zero, List.set_cons_succ]
    refine wpAnyH_ready (rs := [5, 7]) (by decide +kernel) (by simp) (AllReadyH.cons rfl (fun K hK => ?_) (AllReadyH.cons rfl (fun K hK => ?_) AllReadyH.nil))
    ·
      refine step_nodes (l := a.l) (m := b.l) (r := r) rfl (.tmp 26) (.tmp 28) rfl w3.heap.size w.heap.size (.slice A1 a.l.length k1) rfl HO1.out yla ylc rfl (HRB3.out _ HV1.out) HR.out HN.out HV1.out.size HAL.out HBL.out ?_
      intro A2 k2 v2 ho2 hg2 hat2 hb2
      have HO2 := Lib.hid ho2; have HG2 := Lib.hid hg2; have HAT2 := Lib.hid hat2; have HV2 := Lib.hid (HV1.out.trans hb2)
      clear ho2 hg2 hat2 hb2
      refine hK.out _ _ (HC3.out _ HV2.out) (fun hHeld3 => ?_)
      clear hK K hHeld2
      try simp only [List.getElem_toArray, List.getElem_cons_zero, List.getElem_cons_succ, Act.put, List.setIfInBounds_toArray, List.set_cons_zero, List.set_cons_succ]
      refine wpAnyH_take (i := 6) (v := ?_) rfl (by kernel_rfl) (by decide +kernel) (by decide +kernel) (fun _ _ _ h => h) (Or.inl ⟨by rfl, ?_⟩) (by assumption) ?_; rotate_left; (focus (intro w0 hSw; (try dsimp only at hSw); go_simp; (try with_reducible rfl); done))
      try simp only [List.getElem_toArray, List.getElem_cons_zero, List.getElem_cons_succ, Act.put, List.setIfInBounds_toArray, List.set_cons_zero, List.set_cons_succ]
      refine wpAnyH_ready (rs := [7]) (by decide +kernel) (by simp) (AllReadyH.cons rfl (fun K hK => ?_) AllReadyH.nil)
      refine step_alloc rfl rfl ?_
      have HZ := Lib.hid (HV2.out.alloc HV2.out.size zN)
      refine hK.out _ _ (HC3.out _ HZ.out) (fun hHeld4 => ?_)
      clear hK K hHeld3
      try simp only [List.getElem_toArray, List.getElem_cons_zero, List.getElem_cons_succ, Act.put, List.setIfInBounds_toArray, List.set_cons_zero, List.set_cons_succ]
      refine wpAnyH_ready (rs := [8]) (by decide +kernel) (by simp) (AllReadyH.cons rfl (fun K hK => ?_) AllReadyH.nil)
      have HE := Lib.hid (join_end (HO2.out.push ((below_alloc v2 zN).mono (Nat.le_trans HN.out HV2.out.size)) fun k hk => Below.heap_alloc v2 zN k (HO2.out.lt k hk).2) (hp_new rfl) (fun k hk => Nat.ne_of_lt (HO2.out.lt k hk).2) HV2.out.size HN.out)
      refine step_store rfl (.tmp 10) (.tmp 30) rfl v2.heap.size #[.int .i64 41, .string ⟨#[]⟩, .int .i64 0, .string ⟨#[]⟩, .slice none 0 0, .slice A2 r.length k2] #[.int .i64 0, .string ⟨#[]⟩, .int .i64 0, .string ⟨#[]⟩, .slice none 0 0, .slice none 0 0] rfl rfl (hp_new rfl) rfl rfl rfl ?_
      have HV := Lib.hid (HZ.out.trans HE.out.2.2.1)
      refine hK.out _ _ (HC3.out _ HV.out) (fun hHeld5 => ?_)
      clear hK K
      try simp only [List.getElem_toArray, List.getElem_cons_zero, List.getElem_cons_succ, Act.put]
      refine wpAnyH_done (by kernel_rfl) ?_ _
      obtain ⟨q1, q2, q3, q4⟩ := HE.out
      clear HE q3
      have HBW6 := Lib.hid (HBW.out.trans (HV.out.mono HBW.out.size))
      clear HV q4 HRA3 HRB3 HC3 HDR HN HB3 HAL HBL HB0 HF HR hHeld5
      clear HZ HO1 HG1 HAT1 HV1 HO2 HG2 HAT2 HV2 hHeld4
      generalize ((v2.alloc zN).setRow v2.heap.size #[.int .i64 41, .string ⟨#[]⟩, .int .i64 0, .string ⟨#[]⟩, .slice none 0 0, .slice A2 r.length k2]) = W6 at *
      obtain ⟨e0, e1, e2, e3, e4, e5⟩ := q2
      dsimp only at e0 e1 e2 e3 e4 e5
      go_wp2_with fail
      refine (HTJ.out _ _ q1 HBW6.out).mono ?_
      rintro e w7 ⟨rfl, hb7⟩
      have HB7 := Lib.hid (HBW6.out.trans (hb7.mono HBW6.out.size))
      clear hb7 HTJ q1 HBW6 HBW e0 e1 e2 e3 e4 e5
      by_cases hea : ea = 0
      · have hsa := HSA.out hea
        by_cases heb : eb = 0
        · have hsb := HSB.out heb
          have HJ1 := Lib.hid (HJ.out hea heb)
          clear HJ HSA HSB
          subst hea heb
          by_cases hna : ta = ⟨#[]⟩
          · clear HJ1
            subst hna
            go_wp2_with fail
            go_ret
            exact ⟨rfl, HB7.out⟩
          · obtain ⟨z1, z2⟩ := str_some (fun h => hna (Ps.ba_nil h))
            by_cases hnb : tb = ⟨#[]⟩
            · clear HJ1 hna
              subst hnb
              go_wp2_with fail
              go_ret
              exact ⟨rfl, HB7.out⟩
            · obtain ⟨z3, z4⟩ := str_some (fun h => hnb (Ps.ba_nil h))
              obtain ⟨j1, j2⟩ := HJ1.out hna hnb
              clear HJ1 hna hnb
              by_cases hbig : 4096 < ta.size + 1 + tb.size
              · obtain rfl := j1 hbig
                clear j1 j2
                go_wp2_with fail
                go_ret
                exact ⟨rfl, HB7.out⟩
              · obtain ⟨rfl, rfl⟩ := j2 hbig
                clear j1 j2
                go_wp2_with fail
                go_ret
                exact ⟨rfl, HB7.out⟩
        · have hne : (eb == 0) = false := by rw [beq_eq_false_iff_ne]; exact heb
          clear HJ HSA HSB hsa
          subst hea
          go_wp2_with fail
          go_ret
          exact ⟨rfl, HB7.out⟩
      · have hne : (ea == 0) = false := by rw [beq_eq_false_iff_ne]; exact hea
        clear HJ HSA HSB
        go_wp2_with fail
        go_ret
        exact ⟨rfl, HB7.out⟩
    ·
      refine step_alloc rfl rfl ?_
      have HZ := Lib.hid (HV1.out.alloc HV1.out.size zN)
      refine hK.out _ _ (HC3.out _ HZ.out) (fun hHeld4 => ?_)
      clear hK K hHeld2
      try simp only [List.getElem_toArray, List.getElem_cons_zero, List.getElem_cons_succ, Act.put, List.setIfInBounds_toArray, List.set_cons_zero, List.set_cons_succ]
      refine wpAnyH_ready (rs := [5]) (by decide +kernel) (by simp) (AllReadyH.cons rfl (fun K hK => ?_) AllReadyH.nil)
      refine step_nodes (l := a.l) (m := b.l) (r := r) rfl (.tmp 26) (.tmp 28) rfl w3.heap.size w.heap.size (.slice A1 a.l.length k1) rfl (HO1.out.push ((below_alloc v1 zN).mono (Nat.le_trans HN.out HV1.out.size)) fun k hk => Below.heap_alloc v1 zN k (HO1.out.lt k hk).2) yla ylc rfl (HRB3.out _ HZ.out) HR.out HN.out HZ.out.size HAL.out HBL.out ?_
      intro A2 k2 v2 ho2 hg2 hat2 hb2
      have HO2 := Lib.hid ho2; have HG2 := Lib.hid hg2; have HAT2 := Lib.hid hat2; have HV2 := Lib.hid (HZ.out.trans hb2)
      clear ho2 hg2 hat2 hb2
      refine hK.out _ _ (HC3.out _ HV2.out) (fun hHeld3 => ?_)
      clear hK K hHeld4
      try simp only [List.getElem_toArray, List.getElem_cons_zero, List.getElem_cons_succ, Act.put, List.setIfInBounds_toArray, List.set_cons_zero, List.set_cons_succ]
      refine wpAnyH_take (i := 6) (v := ?_) rfl (by kernel_rfl) (by decide +kernel) (by decide +kernel) (fun _ _ _ h => h) (Or.inl ⟨by rfl, ?_⟩) (by assumption) ?_; rotate_left; (focus (intro w0 hSw; (try dsimp only at hSw); go_simp; (try with_reducible rfl); done))
      try simp only [List.getElem_toArray, List.getElem_cons_zero, List.getElem_cons_succ, Act.put, List.setIfInBounds_toArray, List.set_cons_zero, List.set_cons_succ]
      refine wpAnyH_ready (rs := [8]) (by decide +kernel) (by simp) (AllReadyH.cons rfl (fun K hK => ?_) AllReadyH.nil)
      have HE := Lib.hid (join_end HO2.out ((HG2.out.block v1.heap.size (by simp) (fun e => Nat.lt_irrefl _ (HO1.out.lt _ e.symm).2)).trans (World.alloc_heap_new v1 _)) (fun k hk e => by
        subst e
        rcases HAT2.out with h | h
        · exact Nat.lt_irrefl _ (HO1.out.lt _ (h.symm.trans hk)).2
        · rw [h] at hk
          simp at hk) HV1.out.size HN.out)
      refine step_store rfl (.tmp 10) (.tmp 30) rfl v1.heap.size #[.int .i64 41, .string ⟨#[]⟩, .int .i64 0, .string ⟨#[]⟩, .slice none 0 0, .slice A2 r.length k2] #[.int .i64 0, .string ⟨#[]⟩, .int .i64 0, .string ⟨#[]⟩, .slice none 0 0, .slice none 0 0] rfl rfl ((HG2.out.block v1.heap.size (by simp) (fun e => Nat.lt_irrefl _ (HO1.out.lt _ e.symm).2)).trans (World.alloc_heap_new v1 _)) rfl rfl rfl ?_
      have HV := Lib.hid (HV2.out.trans HE.out.2.2.1)
      refine hK.out _ _ (HC3.out _ HV.out) (fun hHeld5 => ?_)
      clear hK K
      try simp only [List.getElem_toArray, List.getElem_cons_zero, List.getElem_cons_succ, Act.put]
      refine wpAnyH_done (by kernel_rfl) ?_ _
      obtain ⟨q1, q2, q3, q4⟩ := HE.out
      clear HE q3
      have HBW6 := Lib.hid (HBW.out.trans (HV.out.mono HBW.out.size))
      clear HV q4 HRA3 HRB3 HC3 HDR HN HB3 HAL HBL HB0 HF HR hHeld5
      clear HZ HO1 HG1 HAT1 HV1 HO2 HG2 HAT2 HV2 hHeld3
      generalize (v2.setRow v1.heap.size #[.int .i64 41, .string ⟨#[]⟩, .int .i64 0, .string ⟨#[]⟩, .slice none 0 0, .slice A2 r.length k2]) = W6 at *
      obtain ⟨e0, e1, e2, e3, e4, e5⟩ := q2
      dsimp only at e0 e1 e2 e3 e4 e5
      go_wp2_with fail
      refine (HTJ.out _ _ q1 HBW6.out).mono ?_
      rintro e w7 ⟨rfl, hb7⟩
      have HB7 := Lib.hid (HBW6.out.trans (hb7.mono HBW6.out.size))
      clear hb7 HTJ q1 HBW6 HBW e0 e1 e2 e3 e4 e5
      by_cases hea : ea = 0
      · have hsa := HSA.out hea
        by_cases heb : eb = 0
        · have hsb := HSB.out heb
          have HJ1 := Lib.hid (HJ.out hea heb)
          clear HJ HSA HSB
          subst hea heb
          by_cases hna : ta = ⟨#[]⟩
          · clear HJ1
            subst hna
            go_wp2_with fail
            go_ret
            exact ⟨rfl, HB7.out⟩
          · obtain ⟨z1, z2⟩ := str_some (fun h => hna (Ps.ba_nil h))
            by_cases hnb : tb = ⟨#[]⟩
            · clear HJ1 hna
              subst hnb
              go_wp2_with fail
              go_ret
              exact ⟨rfl, HB7.out⟩
            · obtain ⟨z3, z4⟩ := str_some (fun h => hnb (Ps.ba_nil h))
              obtain ⟨j1, j2⟩ := HJ1.out hna hnb
              clear HJ1 hna hnb
              by_cases hbig : 4096 < ta.size + 1 + tb.size
              · obtain rfl := j1 hbig
                clear j1 j2
                go_wp2_with fail
                go_ret
                exact ⟨rfl, HB7.out⟩
              · obtain ⟨rfl, rfl⟩ := j2 hbig
                clear j1 j2
                go_wp2_with fail
                go_ret
                exact ⟨rfl, HB7.out⟩
        · have hne : (eb == 0) = false := by rw [beq_eq_false_iff_ne]; exact heb
          clear HJ HSA HSB hsa
          subst hea
          go_wp2_with fail
          go_ret
          exact ⟨rfl, HB7.out⟩
      · have hne : (ea == 0) = false := by rw [beq_eq_false_iff_ne]; exact hea
        clear HJ HSA HSB
        go_wp2_with fail
        go_ret
        exact ⟨rfl, HB7.out⟩
  ·
    refine step_alloc rfl rfl ?_
    have HZ := Lib.hid (HDR.out.alloc (Nat.le_refl _) zN)
    refine hK.out _ _ (HC3.out _ HZ.out) (fun hHeld4 => ?_)
    clear hK K hHeld
    try simp only [List.getElem_toArray, List.getElem_cons_zero, List.getElem_cons_succ, Act.put, List.setIfInBounds_toArray, List.set_cons_zero, List.set_cons_succ]
    refine wpAnyH_ready (rs := [2]) (by decide +kernel) (by simp) (AllReadyH.cons rfl (fun K hK => ?_) AllReadyH.nil)
    refine step_nodes (l := []) (m := a.l) (r := a.l) rfl (.const (.slice none 0 0)) (.tmp 25) rfl w3.heap.size w.heap.size (.slice none 0 0) rfl (ownN_nil _ _ _) xla xlc rfl (HRA3.out _ HZ.out) rfl HN.out HZ.out.size (Nat.zero_le _) HAL.out ?_
    intro A1 k1 v1 ho1 hg1 hat1 hb1
    have HO1 := Lib.hid ho1; have HG1 := Lib.hid hg1; have HAT1 := Lib.hid hat1; have HV1 := Lib.hid (HZ.out.trans hb1)
    clear ho1 hg1 hat1 hb1
    refine hK.out _ _ (HC3.out _ HV1.out) (fun hHeld2 => ?_)
    clear hK K hHeld4
    try simp only [List.getElem_toArray, List.getElem_cons_zero, List.getElem_cons_succ, Act.put, List.setIfInBounds_toArray, List.set_cons_zero, List.set_cons_succ]
    have HNE : Hid (∀ k, (Value.slice A1 a.l.length k1).ownBlock = some k → k ≠ w3.heap.size) := fun k hk e => by
      subst e
      rcases HAT1.out with h | h
      · rw [h] at hk
        simp [Value.ownBlock] at hk
      · rw [h] at hk
        simp at hk
    refine wpAnyH_ready (rs := [5]) (by decide +kernel) (by simp) (AllReadyH.cons rfl (fun K hK => ?_) AllReadyH.nil)
    refine step_nodes (l := a.l) (m := b.l) (r := r) rfl (.tmp 26) (.tmp 28) rfl w3.heap.size w.heap.size (.slice A1 a.l.length k1) rfl HO1.out yla ylc rfl (HRB3.out _ HV1.out) HR.out HN.out HV1.out.size HAL.out HBL.out ?_
    intro A2 k2 v2 ho2 hg2 hat2 hb2
    have HO2 := Lib.hid ho2; have HG2 := Lib.hid hg2; have HAT2 := Lib.hid hat2; have HV2 := Lib.hid (HV1.out.trans hb2)
    clear ho2 hg2 hat2 hb2
    refine hK.out _ _ (HC3.out _ HV2.out) (fun hHeld3 => ?_)
    clear hK K hHeld2
    try simp only [List.getElem_toArray, List.getElem_cons_zero, List.getElem_cons_succ, Act.put, List.setIfInBounds_toArray, List.set_cons_zero, List.set_cons_succ]
    refine wpAnyH_take (i := 6) (v := ?_) rfl (by kernel_rfl) (by decide +kernel) (by decide +kernel) (fun _ _ _ h => h) (Or.inl ⟨by rfl, ?_⟩) (by assumption) ?_; rotate_left; (focus (intro w0 hSw; (try dsimp only at hSw); go_simp; (try with_reducible rfl); done))
    try simp only [List.getElem_toArray, List.getElem_cons_zero, List.getElem_cons_succ, Act.put, List.setIfInBounds_toArray, List.set_cons_zero, List.set_cons_succ]
    refine wpAnyH_ready (rs := [8]) (by decide +kernel) (by simp) (AllReadyH.cons rfl (fun K hK => ?_) AllReadyH.nil)
    have HE := Lib.hid (join_end HO2.out ((HG2.out.block w3.heap.size (Nat.lt_of_lt_of_le (by show _ < _; simp) HG1.out.size) (fun e => HNE.out _ e.symm rfl)).trans ((HG1.out.block w3.heap.size (by show _ < _; simp) (by simp [Value.ownBlock])).trans (World.alloc_heap_new w3.drew _))) (fun k hk e => by
      subst e
      rcases HAT2.out with h | h
      · exact HNE.out _ (h.symm.trans hk) rfl
      · rw [h] at hk
        have := HZ.out.size
        have := HG1.out.size
        simp at hk
        simp at this
        omega) (Nat.le_refl _) HN.out)
    refine step_store rfl (.tmp 10) (.tmp 30) rfl w3.heap.size #[.int .i64 41, .string ⟨#[]⟩, .int .i64 0, .string ⟨#[]⟩, .slice none 0 0, .slice A2 r.length k2] #[.int .i64 0, .string ⟨#[]⟩, .int .i64 0, .string ⟨#[]⟩, .slice none 0 0, .slice none 0 0] rfl rfl ((HG2.out.block w3.heap.size (Nat.lt_of_lt_of_le (by show _ < _; simp) HG1.out.size) (fun e => HNE.out _ e.symm rfl)).trans ((HG1.out.block w3.heap.size (by show _ < _; simp) (by simp [Value.ownBlock])).trans (World.alloc_heap_new w3.drew _))) rfl rfl rfl ?_
    have HV := Lib.hid (HV2.out.trans HE.out.2.2.1)
    refine hK.out _ _ (HC3.out _ HV.out) (fun hHeld5 => ?_)
    clear hK K
    try simp only [List.getElem_toArray, List.getElem_cons_zero, List.getElem_cons_succ, Act.put]
    refine wpAnyH_done (by kernel_rfl) ?_ _
    obtain ⟨q1, q2, q3, q4⟩ := HE.out
    clear HE q3
    have HBW6 := Lib.hid (HBW.out.trans (HV.out.mono HBW.out.size))
    clear HV q4 HRA3 HRB3 HC3 HDR HN HB3 HAL HBL HB0 HF HR hHeld5
    clear HZ HO1 HG1 HAT1 HV1 HO2 HG2 HAT2 HV2 HNE hHeld3
    generalize (v2.setRow w3.heap.size #[.int .i64 41, .string ⟨#[]⟩, .int .i64 0, .string ⟨#[]⟩, .slice none 0 0, .slice A2 r.length k2]) = W6 at *
    obtain ⟨e0, e1, e2, e3, e4, e5⟩ := q2
    dsimp only at e0 e1 e2 e3 e4 e5
    go_wp2_with fail
    refine (HTJ.out _ _ q1 HBW6.out).mono ?_
    rintro e w7 ⟨rfl, hb7⟩
    have HB7 := Lib.hid (HBW6.out.trans (hb7.mono HBW6.out.size))
    clear hb7 HTJ q1 HBW6 HBW e0 e1 e2 e3 e4 e5
    by_cases hea : ea = 0
    · have hsa := HSA.out hea
      by_cases heb : eb = 0
      · have hsb := HSB.out heb
        have HJ1 := Lib.hid (HJ.out hea heb)
        clear HJ HSA HSB
        subst hea heb
        by_cases hna : ta = ⟨#[]⟩
        · clear HJ1
          subst hna
          go_wp2_with fail
          go_ret
          exact ⟨rfl, HB7.out⟩
        · obtain ⟨z1, z2⟩ := str_some (fun h => hna (Ps.ba_nil h))
          by_cases hnb : tb = ⟨#[]⟩
          · clear HJ1 hna
            subst hnb
            go_wp2_with fail
            go_ret
            exact ⟨rfl, HB7.out⟩
          · obtain ⟨z3, z4⟩ := str_some (fun h => hnb (Ps.ba_nil h))
            obtain ⟨j1, j2⟩ := HJ1.out hna hnb
            clear HJ1 hna hnb
            by_cases hbig : 4096 < ta.size + 1 + tb.size
            · obtain rfl := j1 hbig
              clear j1 j2
              go_wp2_with fail
              go_ret
              exact ⟨rfl, HB7.out⟩
            · obtain ⟨rfl, rfl⟩ := j2 hbig
              clear j1 j2
              go_wp2_with fail
              go_ret
              exact ⟨rfl, HB7.out⟩
      · have hne : (eb == 0) = false := by rw [beq_eq_false_iff_ne]; exact heb
        clear HJ HSA HSB hsa
        subst hea
        go_wp2_with fail
        go_ret
        exact ⟨rfl, HB7.out⟩
    · have hne : (ea == 0) = false := by rw [beq_eq_false_iff_ne]; exact hea
      clear HJ HSA HSB
      go_wp2_with fail
      go_ret
      exact ⟨rfl, HB7.out⟩
end Go.Proofs.YtllpgoaanbiodaaGreatDoor.R
