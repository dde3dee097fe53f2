/-
  Laid by wip/scope/lay.py out of wip/tree: Sr.
  The reference's Same.
-/
import Derived.Test.YtgehgccgologpaaSc
import Derived.Deep.RegionHeld3
import Derived.Deep.LoopGhost
namespace Go.Proofs.Ytgehgccgologpaa.R
open Go.RowKit Go.Proofs.Ytgehgccgologpaa Go.Proofs.Ytgehgccgologpaa.T
theorem sames_step (l m : List V) (j : Nat) (h1 : j < l.length) (h2 : j < m.length) : V.sames (l.drop j) (m.drop j) = (V.same l[j] m[j] && V.sames (l.drop (j + 1)) (m.drop (j + 1))) := by
  rw [List.drop_eq_getElem_cons h1, List.drop_eq_getElem_cons h2, V.sames]
theorem sames_len (l m : List V) (h : ¬ l.length = m.length) : V.sames l m = false := by
  rw [Bool.eq_false_iff]
  intro e
  exact h (by rw [(sames_iff l m).1 e])
set_option maxRecDepth 20000 in
set_option maxHeartbeats 2000000 in
theorem refSame_step (a b : V) (x y : X) (w : World) (hx : Is w a x) (hy : Is w b y) (hb : a.bulk ≤ 4194304)
    (ih : ∀ u ∈ a.l, ∀ (v : V) (p q : X) (w' : World), Is w' u p → Is w' v q → Calls Try.prog 14 #[p.v, q.v] w' fun e w'' => e = .returned (.bool (V.same u v)) ∧ Below w'.heap.size w' w'') :
    Calls Try.prog 14 #[x.v, y.v] w fun e w' => e = .returned (.bool (V.same a b)) ∧ Below w.heap.size w w' := by
  obtain ⟨r, hr⟩ : ∃ r, V.same a b = r := ⟨_, rfl⟩
  rw [hr]
  rw [same_eq] at hr
  have HR := Lib.hid hr
  have HIH := Lib.hid ih
  have hlk : a.ks.length ≤ 4194304 ∧ a.l.length ≤ 4194304 := by
    have h1 := length_le_keysBulk a.ks
    have h2 := length_le_bulks a.l
    have h3 : a.bulk = 1 + a.nm.size + a.s.size + keysBulk a.ks + V.bulks a.l := by cases a; rfl
    omega
  obtain ⟨xka, xkc, xla, xlc, rfl, -, -, hk1, hr1⟩ := hx.open
  obtain ⟨yka, ykc, yla, ylc, rfl, -, -, hk2, hr2⟩ := hy.open
  have HK1 := Lib.hid hk1
  have HK2 := Lib.hid hk2
  have HR1 := Lib.hid hr1
  have HR2 := Lib.hid hr2
  have HZ := Lib.hid (two_below w)
  have hkl : (a.ks.length : Int) ≤ 4194304 := by omega
  have hll : (a.l.length : Int) ≤ 4194304 := by omega
  have HLK := Lib.hid hlk
  simp only [X.v]
  clear hx hy hr ih hk1 hk2 hr1 hr2 hlk hb
  unfold alk at HR
  generalize a.k = xk at *
  generalize b.k = yk at *
  generalize a.nm = xnm at *
  generalize b.nm = ynm at *
  generalize a.n = xn at *
  generalize b.n = yn at *
  generalize a.s = xs at *
  generalize b.s = ys at *
  by_cases hk : xk = yk
  rotate_left
  · have h' : (xk == yk) = false := by rw [beq_eq_false_iff_ne]; exact hk
    have HV : Hid (r = false) := by show r = false; rw [← HR.out, decide_eq_false (fun h => hk h.1)]; rfl
    go_enter Try.func14, Try.ntmps14
    go_wp2_with fail
    go_ret
    exact ⟨by rw [HV.out]; rfl, HZ.out _ _⟩
  subst hk
  by_cases hnm : xnm = ynm
  rotate_left
  · have h' := str_ne hnm
    have h2 := beq_eq_false_iff_ne.1 h'
    have HV : Hid (r = false) := by show r = false; rw [← HR.out, decide_eq_false (fun h => hnm h.2.1)]; rfl
    clear hnm
    go_enter Try.func14, Try.ntmps14
    go_wp2_with fail
    go_ret
    exact ⟨by rw [HV.out]; rfl, HZ.out _ _⟩
  subst hnm
  by_cases hn : xn = yn
  rotate_left
  · have h' : (xn == yn) = false := by rw [beq_eq_false_iff_ne]; exact hn
    have HV : Hid (r = false) := by show r = false; rw [← HR.out, decide_eq_false (fun h => hn h.2.2.1)]; rfl
    go_enter Try.func14, Try.ntmps14
    go_wp2_with fail
    go_ret
    exact ⟨by rw [HV.out]; rfl, HZ.out _ _⟩
  subst hn
  by_cases hs : xs = ys
  rotate_left
  · have h' := str_ne hs
    have h2 := beq_eq_false_iff_ne.1 h'
    have HV : Hid (r = false) := by show r = false; rw [← HR.out, decide_eq_false (fun h => hs h.2.2.2.1)]; rfl
    clear hs
    go_enter Try.func14, Try.ntmps14
    go_wp2_with fail
    go_ret
    exact ⟨by rw [HV.out]; rfl, HZ.out _ _⟩
  subst hs
  by_cases hkn : a.ks.length = b.ks.length
  rotate_left
  · have h' : ((a.ks.length : Int) == (b.ks.length : Int)) = false := by rw [beq_eq_false_iff_ne]; omega
    have h2 := beq_eq_false_iff_ne.1 h'
    have HV : Hid (r = false) := by show r = false; rw [← HR.out, decide_eq_false (fun h => hkn (by rw [h.2.2.2.2]))]; rfl
    clear hkn HLK
    generalize a.ks.length = n1 at *
    generalize b.ks.length = n2 at *
    go_enter Try.func14, Try.ntmps14
    go_wp2_with fail
    go_ret
    exact ⟨by rw [HV.out]; rfl, HZ.out _ _⟩
  rw [← hkn]
  have HKN := Lib.hid hkn
  clear hkn
  by_cases hln : a.l.length = b.l.length
  rotate_left
  · have h' : ((a.l.length : Int) == (b.l.length : Int)) = false := by rw [beq_eq_false_iff_ne]; omega
    have h2 := beq_eq_false_iff_ne.1 h'
    have HV : Hid (r = false) := by show r = false; rw [← HR.out, sames_len _ _ hln, Bool.and_false]
    clear hln HLK
    generalize a.l.length = n1 at *
    generalize b.l.length = n2 at *
    generalize a.ks.length = n3 at *
    go_enter Try.func14, Try.ntmps14
    go_wp2_with fail
    go_ret
    exact ⟨by rw [HV.out]; rfl, HZ.out _ _⟩
  rw [← hln]
  have HLN := Lib.hid hln
  clear hln
  have HRK : Hid (r = (decide (a.ks = b.ks) && V.sames a.l b.l)) := by
    show r = _
    rw [← HR.out]
    congr 1
    simp
  clear HR
  obtain ⟨xkn, hxkn⟩ : ∃ t, a.ks.length = t := ⟨_, rfl⟩
  obtain ⟨xln, hxln⟩ : ∃ t, a.l.length = t := ⟨_, rfl⟩
  rw [hxkn] at hkl ⊢
  rw [hxln] at hll ⊢
  have HXKN := Lib.hid hxkn
  have HXLN := Lib.hid hxln
  clear hxkn hxln
  go_enter Try.func14, Try.ntmps14
  go_wp2_with fail
  obtain ⟨W0, hW0⟩ : ∃ W0, (w.alloc (.cells #[.int .i64 xk, .string xnm, .int .i64 xn, .string xs, .slice xka xkn xkc, .slice xla xln xlc] 25)).alloc (.cells #[.int .i64 xk, .string xnm, .int .i64 xn, .string xs, .slice yka xkn ykc, .slice yla xln ylc] 25) = W0 := ⟨_, rfl⟩
  have HB0 : Hid (Below w.heap.size w W0) := by rw [← hW0]; exact HZ.out _ _
  have HF : Hid (∀ w', Below W0.heap.size W0 w' → At w' w.heap.size 0 ⟨xk, xnm, xn, xs, xka, xkn, xkc, xla, xln, xlc⟩ ∧ At w' (w.heap.size + 1) 0 ⟨xk, xnm, xn, xs, yka, xkn, ykc, yla, xln, ylc⟩) := fun w' hb => by
    have h0 : At W0 w.heap.size 0 ⟨xk, xnm, xn, xs, xka, xkn, xkc, xla, xln, xlc⟩ := by rw [← hW0]; constructor <;> simp
    have h1 : At W0 (w.heap.size + 1) 0 ⟨xk, xnm, xn, xs, yka, xkn, ykc, yla, xln, ylc⟩ := by rw [← hW0]; constructor <;> simp
    exact ⟨h0.below (B := W0.heap.size) (by rw [← hW0]; simp; omega) hb, h1.below (B := W0.heap.size) (by rw [← hW0]; simp) hb⟩
  rw [hW0]
  clear hW0
  go_loopw [54] (fun i wr => ∃ j : Nat, j ≤ xkn ∧ i = .int .i64 j ∧ Hid (∀ i, i < j → (h1 : i < a.ks.length) → (h2 : i < b.ks.length) → a.ks[i] = b.ks[i]) ∧ Hid (Below W0.heap.size W0 wr))
    (fun i _ => xkn - (intOf i).toNat)
  case atStart => exact ⟨0, Nat.zero_le _, rfl, Lib.hid fun i h => absurd h (Nat.not_lt_zero _), Lib.hid (Below.refl _ _)⟩
  case round =>
    obtain ⟨j, hj, rfl, hh, hbr⟩ := hrel
    obtain ⟨⟨c0, c1, c2, c3, c4, c5⟩, ⟨d0, d1, d2, d3, d4, d5⟩⟩ := HF.out _ hbr.out
    dsimp only at c0 c1 c2 c3 c4 c5 d0 d1 d2 d3 d4 d5
    by_cases hlt : j < xkn
    · have hl1 : j < a.ks.length := by have := HXKN.out; omega
      have hl2 : j < b.ks.length := by have := HKN.out; omega
      obtain ⟨g, o, hA, hg, hc⟩ := HK1.out.at_ hl1
      obtain ⟨g2, o2, hB, hg2, hd⟩ := HK2.out.at_ hl2
      have hbw := HB0.out.trans (hbr.out.mono HB0.out.size)
      have e0 := (hbw.cell (p := ⟨g, o + j, none⟩) hg).trans hc
      have f0 := (hbw.cell (p := ⟨g2, o2 + j, none⟩) hg2).trans hd
      have HNE : Hid (¬ a.ks[j] = b.ks[j] → r = false) := fun hne => by
        rw [HRK.out, decide_eq_false (fun e => hne (by simp [e]))]
        rfl
      have HEQ : Hid (a.ks[j] = b.ks[j] → ∀ i, i < j + 1 → (h1 : i < a.ks.length) → (h2 : i < b.ks.length) → a.ks[i] = b.ks[i]) := fun e i hi h1 h2 => by
        rcases Nat.lt_succ_iff_lt_or_eq.1 hi with hi | rfl
        · exact hh.out i hi h1 h2
        · exact e
      have HBW := Lib.hid hbw
      rw [hA] at c4
      rw [hB] at d4
      have hj0 : (0 : Int) ≤ (j : Int) := by omega
      have hj1 : (j : Int) < (xkn : Int) := by omega
      clear hc hd hg hg2 hbw hA hB hh
      generalize a.ks[j] = p at *
      generalize b.ks[j] = q at *
      clear hl1 hl2
      by_cases hpq : p = q
      · subst hpq
        have HE2 := Lib.hid (HEQ.out rfl)
        clear HEQ HNE
        go_wp2_with fail
        go_quiet (fail)
        go_wp2_with fail
        go_roundw
        case rel => exact ⟨j + 1, by omega, by go_num, HE2, Lib.hid (hbr.out.trans (below_drewN _ _ _))⟩
        case measure => simp [intOf]; omega
      · have hne := str_ne hpq
        have HV := Lib.hid (HNE.out hpq)
        clear HEQ HNE hpq
        go_wp2_with fail
        go_quiet (fail)
        go_wp2_with fail
        go_ret
        exact ⟨by rw [HV.out]; rfl, HBW.out.trans (below_drewN _ _ _)⟩
    · obtain rfl : j = xkn := by omega
      have HRL : Hid (r = V.sames (a.l.drop 0) (b.l.drop 0)) := by
        show r = V.sames a.l b.l
        rw [HRK.out, decide_eq_true (List.ext_getElem HKN.out fun i h1 h2 => hh.out i (by have := HXKN.out; omega) h1 h2), Bool.true_and]
      clear hh HRK
      go_wp2_with fail
      have HBR := Lib.hid hbr.out
      clear c0 c1 c2 c3 c4 c5 d0 d1 d2 d3 d4 d5 hbr
      go_loopw [72] (fun i w2 => ∃ j : Nat, j ≤ xln ∧ i = .int .i64 j ∧ Hid (r = V.sames (a.l.drop j) (b.l.drop j)) ∧ Hid (Below W0.heap.size W0 w2))
        (fun i _ => xln - (intOf i).toNat)
      case atStart => exact ⟨0, Nat.zero_le _, rfl, HRL, HBR⟩
      case round =>
        obtain ⟨j, hj, rfl, hh, hbr⟩ := hrel
        obtain ⟨⟨c0, c1, c2, c3, c4, c5⟩, ⟨d0, d1, d2, d3, d4, d5⟩⟩ := HF.out _ hbr.out
        dsimp only at c0 c1 c2 c3 c4 c5 d0 d1 d2 d3 d4 d5
        by_cases hlt : j < xln
        · have hl1 : j < a.l.length := by have := HXLN.out; omega
          have hl2 : j < b.l.length := by have := HLN.out; omega
          obtain ⟨g, o, hA, hg, u, hu, hua⟩ := HR1.out.at_ hl1
          obtain ⟨g2, o2, hB, hg2, v, hv, hvb⟩ := HR2.out.at_ hl2
          have hbw := HB0.out.trans (hbr.out.mono HB0.out.size)
          have HQ := Lib.hid fun w' (hb : Below wr.heap.size wr w') => HIH.out _ (List.getElem_mem hl1) b.l[j] u v w' (IsB.to (hbw.trans (hb.mono hbw.size)) (Nat.le_trans hbw.size hb.size) _ _ hua) (IsB.to (hbw.trans (hb.mono hbw.size)) (Nat.le_trans hbw.size hb.size) _ _ hvb)
          have HST : Hid (r = (V.same a.l[j] b.l[j] && V.sames (a.l.drop (j + 1)) (b.l.drop (j + 1)))) := hh.out.trans (sames_step a.l b.l j hl1 hl2)
          have HBW := Lib.hid hbw
          rw [hA] at c5
          rw [hB] at d5
          have hu2 := hu.below hg hbw
          have hv2 := hv.below hg2 hbw
          obtain ⟨uk, unm, un, us, uka, ukn, ukc, ula, uln, ulc⟩ := u
          obtain ⟨vk, vnm, vn, vs, vka, vkn, vkc, vla, vln, vlc⟩ := v
          obtain ⟨e0, e1, e2, e3, e4, e5⟩ := hu2
          obtain ⟨f0, f1, f2, f3, f4, f5⟩ := hv2
          dsimp only at e0 e1 e2 e3 e4 e5 f0 f1 f2 f3 f4 f5
          simp only [X.v] at HQ
          have hgw : g < wr.heap.size := Nat.lt_of_lt_of_le hg hbw.size
          have hgw2 : g2 < wr.heap.size := Nat.lt_of_lt_of_le hg2 hbw.size
          have hww : w.heap.size < wr.heap.size ∧ w.heap.size + 1 < wr.heap.size := by
            obtain ⟨o1, ho1, _⟩ := cells_of_cell d5
            have := (Array.getElem?_eq_some_iff.1 ho1).1
            dsimp only at this
            omega
          have HSS : Hid (∀ w' : World, Below wr.heap.size wr w' → w'.cell? ⟨w.heap.size, 5, none⟩ = some (.slice (some ⟨g, o, none⟩) xln xlc) ∧ w'.cell? ⟨w.heap.size + 1, 5, none⟩ = some (.slice (some ⟨g2, o2, none⟩) xln ylc) ∧ w'.cell? ⟨g, o + j * 6, none⟩ = some (.int .i64 uk) ∧ w'.cell? ⟨g, o + j * 6 + 1, none⟩ = some (.string unm) ∧ w'.cell? ⟨g, o + j * 6 + 2, none⟩ = some (.int .i64 un) ∧ w'.cell? ⟨g, o + j * 6 + 3, none⟩ = some (.string us) ∧ w'.cell? ⟨g, o + j * 6 + 4, none⟩ = some (.slice uka ukn ukc) ∧ w'.cell? ⟨g, o + j * 6 + 5, none⟩ = some (.slice ula uln ulc) ∧ w'.cell? ⟨g2, o2 + j * 6, none⟩ = some (.int .i64 vk) ∧ w'.cell? ⟨g2, o2 + j * 6 + 1, none⟩ = some (.string vnm) ∧ w'.cell? ⟨g2, o2 + j * 6 + 2, none⟩ = some (.int .i64 vn) ∧ w'.cell? ⟨g2, o2 + j * 6 + 3, none⟩ = some (.string vs) ∧ w'.cell? ⟨g2, o2 + j * 6 + 4, none⟩ = some (.slice vka vkn vkc) ∧ w'.cell? ⟨g2, o2 + j * 6 + 5, none⟩ = some (.slice vla vln vlc)) := fun w' hb => by
            refine ⟨(hb.cell (p := ⟨w.heap.size, 5, none⟩) hww.1).trans c5, (hb.cell (p := ⟨w.heap.size + 1, 5, none⟩) hww.2).trans d5, ?_, ?_, ?_, ?_, ?_, ?_, ?_, ?_, ?_, ?_, ?_, ?_⟩
            · exact (hb.cell (p := ⟨g, o + j * 6, none⟩) hgw).trans e0
            · exact (hb.cell (p := ⟨g, o + j * 6 + 1, none⟩) hgw).trans e1
            · exact (hb.cell (p := ⟨g, o + j * 6 + 2, none⟩) hgw).trans e2
            · exact (hb.cell (p := ⟨g, o + j * 6 + 3, none⟩) hgw).trans e3
            · exact (hb.cell (p := ⟨g, o + j * 6 + 4, none⟩) hgw).trans e4
            · exact (hb.cell (p := ⟨g, o + j * 6 + 5, none⟩) hgw).trans e5
            · exact (hb.cell (p := ⟨g2, o2 + j * 6, none⟩) hgw2).trans f0
            · exact (hb.cell (p := ⟨g2, o2 + j * 6 + 1, none⟩) hgw2).trans f1
            · exact (hb.cell (p := ⟨g2, o2 + j * 6 + 2, none⟩) hgw2).trans f2
            · exact (hb.cell (p := ⟨g2, o2 + j * 6 + 3, none⟩) hgw2).trans f3
            · exact (hb.cell (p := ⟨g2, o2 + j * 6 + 4, none⟩) hgw2).trans f4
            · exact (hb.cell (p := ⟨g2, o2 + j * 6 + 5, none⟩) hgw2).trans f5
          have hj0 : (0 : Int) ≤ (j : Int) := by omega
          have hj1 : (j : Int) < (xln : Int) := by omega
          clear hu hv hua hvb hg hg2 hbw hA hB hh hgw hgw2 hww
          generalize V.same a.l[j] b.l[j] = sb at *
          clear hl1 hl2
          cases sb
          · go_wp2_with fail
            go_region_held3 (fun w' => w'.cell? ⟨w.heap.size, 5, none⟩ = some (.slice (some ⟨g, o, none⟩) xln xlc) ∧ w'.cell? ⟨w.heap.size + 1, 5, none⟩ = some (.slice (some ⟨g2, o2, none⟩) xln ylc) ∧ w'.cell? ⟨g, o + j * 6, none⟩ = some (.int .i64 uk) ∧ w'.cell? ⟨g, o + j * 6 + 1, none⟩ = some (.string unm) ∧ w'.cell? ⟨g, o + j * 6 + 2, none⟩ = some (.int .i64 un) ∧ w'.cell? ⟨g, o + j * 6 + 3, none⟩ = some (.string us) ∧ w'.cell? ⟨g, o + j * 6 + 4, none⟩ = some (.slice uka ukn ukc) ∧ w'.cell? ⟨g, o + j * 6 + 5, none⟩ = some (.slice ula uln ulc) ∧ w'.cell? ⟨g2, o2 + j * 6, none⟩ = some (.int .i64 vk) ∧ w'.cell? ⟨g2, o2 + j * 6 + 1, none⟩ = some (.string vnm) ∧ w'.cell? ⟨g2, o2 + j * 6 + 2, none⟩ = some (.int .i64 vn) ∧ w'.cell? ⟨g2, o2 + j * 6 + 3, none⟩ = some (.string vs) ∧ w'.cell? ⟨g2, o2 + j * 6 + 4, none⟩ = some (.slice vka vkn vkc) ∧ w'.cell? ⟨g2, o2 + j * 6 + 5, none⟩ = some (.slice vla vln vlc)) (first | go_keep)
              ((first | (go_at_call 14; refine (HQ.out _ (Below.refl _ wr).drew).mono ?_; rintro e w3 ⟨rfl, hb3⟩; have s3 := HSS.out _ ((Below.refl wr.heap.size wr).drew.trans hb3); have HB3 := Lib.hid hb3; clear hb3)))
            go_wp2_with fail
            go_ret
            exact ⟨by rw [HST.out]; rfl, HBW.out.trans ((Below.refl wr.heap.size wr).drew.trans HB3.out |>.mono HBW.out.size)⟩
          · go_wp2_with fail
            go_region_held3 (fun w' => w'.cell? ⟨w.heap.size, 5, none⟩ = some (.slice (some ⟨g, o, none⟩) xln xlc) ∧ w'.cell? ⟨w.heap.size + 1, 5, none⟩ = some (.slice (some ⟨g2, o2, none⟩) xln ylc) ∧ w'.cell? ⟨g, o + j * 6, none⟩ = some (.int .i64 uk) ∧ w'.cell? ⟨g, o + j * 6 + 1, none⟩ = some (.string unm) ∧ w'.cell? ⟨g, o + j * 6 + 2, none⟩ = some (.int .i64 un) ∧ w'.cell? ⟨g, o + j * 6 + 3, none⟩ = some (.string us) ∧ w'.cell? ⟨g, o + j * 6 + 4, none⟩ = some (.slice uka ukn ukc) ∧ w'.cell? ⟨g, o + j * 6 + 5, none⟩ = some (.slice ula uln ulc) ∧ w'.cell? ⟨g2, o2 + j * 6, none⟩ = some (.int .i64 vk) ∧ w'.cell? ⟨g2, o2 + j * 6 + 1, none⟩ = some (.string vnm) ∧ w'.cell? ⟨g2, o2 + j * 6 + 2, none⟩ = some (.int .i64 vn) ∧ w'.cell? ⟨g2, o2 + j * 6 + 3, none⟩ = some (.string vs) ∧ w'.cell? ⟨g2, o2 + j * 6 + 4, none⟩ = some (.slice vka vkn vkc) ∧ w'.cell? ⟨g2, o2 + j * 6 + 5, none⟩ = some (.slice vla vln vlc)) (first | go_keep)
              ((first | (go_at_call 14; refine (HQ.out _ (Below.refl _ wr).drew).mono ?_; rintro e w3 ⟨rfl, hb3⟩; have s3 := HSS.out _ ((Below.refl wr.heap.size wr).drew.trans hb3); have HB3 := Lib.hid hb3; clear hb3)))
            go_wp2_with fail
            go_roundw
            case rel => exact ⟨j + 1, by omega, by go_num, by have := HST.out; rw [Bool.true_and] at this; exact this, Lib.hid (hbr.out.trans (((Below.refl wr.heap.size wr).drew.trans HB3.out).mono hbr.out.size))⟩
            case measure => simp [intOf]; omega
        · obtain rfl : j = xln := by omega
          have HV : Hid (r = true) := by
            show r = true
            rw [hh.out]
            have e1 : a.l.drop j = [] := by rw [← HXLN.out]; exact List.drop_length
            have e2 : b.l.drop j = [] := by rw [← HXLN.out, HLN.out]; exact List.drop_length
            rw [e1, e2]
            rfl
          have HBW := Lib.hid (HB0.out.trans (hbr.out.mono HB0.out.size))
          clear hh
          go_wp2_with fail
          go_ret
          exact ⟨by rw [HV.out]; rfl, HBW.out⟩
theorem refSame_all : ∀ (n : Nat) (a b : V) (x y : X) (w : World), a.size ≤ n → Is w a x → Is w b y → a.bulk ≤ 4194304 → Calls Try.prog 14 #[x.v, y.v] w fun e w' => e = .returned (.bool (V.same a b)) ∧ Below w.heap.size w w'
  | 0, a, _, _, _, _, h, _, _, _ => by have := size_pos a; omega
  | n + 1, a, b, x, y, w, h, hx, hy, hb => refSame_step a b x y w hx hy hb fun u hu v p q w' hp hq => refSame_all n u v p q w' (by have := size_kid hu; omega) hp hq (by
      have h1 := bulk_le_of_mem hu
      have h2 := bulk_ge a
      omega)
theorem refSame_any (a b : V) (x y : X) (w : World) (hx : Is w a x) (hy : Is w b y) (hb : a.bulk ≤ 4194304) : Calls Try.prog 14 #[x.v, y.v] w fun e w' => e = .returned (.bool (V.same a b)) ∧ Below w.heap.size w w' := refSame_all a.size a b x y w (Nat.le_refl _) hx hy hb
end Go.Proofs.Ytgehgccgologpaa.R
