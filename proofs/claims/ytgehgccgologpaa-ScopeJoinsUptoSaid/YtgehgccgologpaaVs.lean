/-
  Laid by wip/scope/lay.py out of wip/tree: Vs.
  The reference's expr of an EObject; expr and stmt of any other kind. (gen_vp.py)
-/
import Derived.Test.YtgehgccgologpaaVp
namespace Go.Proofs.Ytgehgccgologpaa.R
open Go.RowKit Go.Proofs.Ytgehgccgologpaa Go.Proofs.Ytgehgccgologpaa.T
set_option maxRecDepth 8000 in
set_option maxHeartbeats 4000000 in
theorem rexpr_other (v : V) (hb : v.bulk ≤ 4194304) (hk : ∀ m ∈ ([1, 2, 3, 4, 5, 6, 7, 8, 10, 11, 12, 13, 14, 15, 16, 17, 18, 19, 20, 21] : List Int), ¬ v.k = m) : Tells 79 v false := by
  intro x w h
  have HO := Lib.hid fun w' (hb' : Below w.heap.size w w') => own_any v x w' (Is.below hb' _ _ h) hb
  obtain ⟨xka, xkc, xla, xlc, rfl, -, -, -, hrow⟩ := h.open
  obtain ⟨W0, hW0⟩ : ∃ W0, w.alloc (.cells #[.int .i64 v.k, .string v.nm, .int .i64 v.n, .string v.s, .slice xka v.ks.length xkc, .slice xla v.l.length xlc] 25) = W0 := ⟨_, rfl⟩
  have HB0 : Hid (Below w.heap.size w W0) := by rw [← hW0]; exact below_alloc _ _
  have HF : Hid (∀ w', Below W0.heap.size W0 w' → At w' w.heap.size 0 ⟨v.k, v.nm, v.n, v.s, xka, v.ks.length, xkc, xla, v.l.length, xlc⟩) := fun w' hb => by
    have h0 : At W0 w.heap.size 0 ⟨v.k, v.nm, v.n, v.s, xka, v.ks.length, xkc, xla, v.l.length, xlc⟩ := by rw [← hW0]; exact at_row (hp_new rfl) rfl rfl rfl rfl rfl rfl
    exact h0.below (B := W0.heap.size) (by rw [← hW0]; simp) hb
  have HW0 := Lib.hid hW0
  have hq1 : (v.k == 1) = false := by rw [beq_eq_false_iff_ne]; exact hk 1 (by decide)
  have hq2 : (v.k == 2) = false := by rw [beq_eq_false_iff_ne]; exact hk 2 (by decide)
  have hq3 : (v.k == 3) = false := by rw [beq_eq_false_iff_ne]; exact hk 3 (by decide)
  have hq4 : (v.k == 4) = false := by rw [beq_eq_false_iff_ne]; exact hk 4 (by decide)
  have hq5 : (v.k == 5) = false := by rw [beq_eq_false_iff_ne]; exact hk 5 (by decide)
  have hq6 : (v.k == 6) = false := by rw [beq_eq_false_iff_ne]; exact hk 6 (by decide)
  have hq7 : (v.k == 7) = false := by rw [beq_eq_false_iff_ne]; exact hk 7 (by decide)
  have hq8 : (v.k == 8) = false := by rw [beq_eq_false_iff_ne]; exact hk 8 (by decide)
  have hq10 : (v.k == 10) = false := by rw [beq_eq_false_iff_ne]; exact hk 10 (by decide)
  have hq11 : (v.k == 11) = false := by rw [beq_eq_false_iff_ne]; exact hk 11 (by decide)
  have hq12 : (v.k == 12) = false := by rw [beq_eq_false_iff_ne]; exact hk 12 (by decide)
  have hq13 : (v.k == 13) = false := by rw [beq_eq_false_iff_ne]; exact hk 13 (by decide)
  have hq14 : (v.k == 14) = false := by rw [beq_eq_false_iff_ne]; exact hk 14 (by decide)
  have hq15 : (v.k == 15) = false := by rw [beq_eq_false_iff_ne]; exact hk 15 (by decide)
  have hq16 : (v.k == 16) = false := by rw [beq_eq_false_iff_ne]; exact hk 16 (by decide)
  have hq17 : (v.k == 17) = false := by rw [beq_eq_false_iff_ne]; exact hk 17 (by decide)
  have hq18 : (v.k == 18) = false := by rw [beq_eq_false_iff_ne]; exact hk 18 (by decide)
  have hq19 : (v.k == 19) = false := by rw [beq_eq_false_iff_ne]; exact hk 19 (by decide)
  have hq20 : (v.k == 20) = false := by rw [beq_eq_false_iff_ne]; exact hk 20 (by decide)
  have hq21 : (v.k == 21) = false := by rw [beq_eq_false_iff_ne]; exact hk 21 (by decide)
  simp only [X.v] at HO ⊢
  clear h hb hW0 hk hrow
  generalize fields (ctch3 v) v = bo at *
  generalize v.nm = nm at *
  generalize v.n = n at *
  generalize v.s = s at *
  generalize v.ks.length = kn at *
  generalize v.l.length = ln at *
  generalize v.k = k at *
  go_enter Try.func79, Try.ntmps79
  go_wp2_with fail
  rw [HW0.out]
  clear HW0
  refine (HO.out _ HB0.out).mono ?_
  rintro e w1 ⟨rfl, hb1⟩
  obtain ⟨d0, d1, d2, d3, d4, d5⟩ := HF.out _ hb1
  dsimp only at d0 d1 d2 d3 d4 d5
  have HB1 := Lib.hid (HB0.out.trans (hb1.mono HB0.out.size))
  clear hb1
  cases bo
  · go_wp2_with fail
    go_ret
    exact ⟨rfl, HB1.out⟩
  go_wp2_with fail
  go_ret
  exact ⟨rfl, HB1.out⟩
set_option maxRecDepth 8000 in
set_option maxHeartbeats 4000000 in
theorem rstmt_other (v : V) (hb : v.bulk ≤ 4194304) (hk : ∀ m ∈ ([22, 24, 25, 26, 27, 28, 29, 30, 31, 32, 33, 34, 35, 36, 38, 40] : List Int), ¬ v.k = m) : Tells 62 v false := by
  intro x w h
  have HO := Lib.hid fun w' (hb' : Below w.heap.size w w') => own_any v x w' (Is.below hb' _ _ h) hb
  obtain ⟨xka, xkc, xla, xlc, rfl, -, -, -, hrow⟩ := h.open
  obtain ⟨W0, hW0⟩ : ∃ W0, w.alloc (.cells #[.int .i64 v.k, .string v.nm, .int .i64 v.n, .string v.s, .slice xka v.ks.length xkc, .slice xla v.l.length xlc] 25) = W0 := ⟨_, rfl⟩
  have HB0 : Hid (Below w.heap.size w W0) := by rw [← hW0]; exact below_alloc _ _
  have HF : Hid (∀ w', Below W0.heap.size W0 w' → At w' w.heap.size 0 ⟨v.k, v.nm, v.n, v.s, xka, v.ks.length, xkc, xla, v.l.length, xlc⟩) := fun w' hb => by
    have h0 : At W0 w.heap.size 0 ⟨v.k, v.nm, v.n, v.s, xka, v.ks.length, xkc, xla, v.l.length, xlc⟩ := by rw [← hW0]; exact at_row (hp_new rfl) rfl rfl rfl rfl rfl rfl
    exact h0.below (B := W0.heap.size) (by rw [← hW0]; simp) hb
  have HW0 := Lib.hid hW0
  have hq22 : (v.k == 22) = false := by rw [beq_eq_false_iff_ne]; exact hk 22 (by decide)
  have hq24 : (v.k == 24) = false := by rw [beq_eq_false_iff_ne]; exact hk 24 (by decide)
  have hq25 : (v.k == 25) = false := by rw [beq_eq_false_iff_ne]; exact hk 25 (by decide)
  have hq26 : (v.k == 26) = false := by rw [beq_eq_false_iff_ne]; exact hk 26 (by decide)
  have hq27 : (v.k == 27) = false := by rw [beq_eq_false_iff_ne]; exact hk 27 (by decide)
  have hq28 : (v.k == 28) = false := by rw [beq_eq_false_iff_ne]; exact hk 28 (by decide)
  have hq29 : (v.k == 29) = false := by rw [beq_eq_false_iff_ne]; exact hk 29 (by decide)
  have hq30 : (v.k == 30) = false := by rw [beq_eq_false_iff_ne]; exact hk 30 (by decide)
  have hq31 : (v.k == 31) = false := by rw [beq_eq_false_iff_ne]; exact hk 31 (by decide)
  have hq32 : (v.k == 32) = false := by rw [beq_eq_false_iff_ne]; exact hk 32 (by decide)
  have hq33 : (v.k == 33) = false := by rw [beq_eq_false_iff_ne]; exact hk 33 (by decide)
  have hq34 : (v.k == 34) = false := by rw [beq_eq_false_iff_ne]; exact hk 34 (by decide)
  have hq35 : (v.k == 35) = false := by rw [beq_eq_false_iff_ne]; exact hk 35 (by decide)
  have hq36 : (v.k == 36) = false := by rw [beq_eq_false_iff_ne]; exact hk 36 (by decide)
  have hq38 : (v.k == 38) = false := by rw [beq_eq_false_iff_ne]; exact hk 38 (by decide)
  have hq40 : (v.k == 40) = false := by rw [beq_eq_false_iff_ne]; exact hk 40 (by decide)
  simp only [X.v] at HO ⊢
  clear h hb hW0 hk hrow
  generalize fields (ctch3 v) v = bo at *
  generalize v.nm = nm at *
  generalize v.n = n at *
  generalize v.s = s at *
  generalize v.ks.length = kn at *
  generalize v.l.length = ln at *
  generalize v.k = k at *
  go_enter Try.func62, Try.ntmps62
  go_wp2_with fail
  rw [HW0.out]
  clear HW0
  refine (HO.out _ HB0.out).mono ?_
  rintro e w1 ⟨rfl, hb1⟩
  obtain ⟨d0, d1, d2, d3, d4, d5⟩ := HF.out _ hb1
  dsimp only at d0 d1 d2 d3 d4 d5
  have HB1 := Lib.hid (HB0.out.trans (hb1.mono HB0.out.size))
  clear hb1
  cases bo
  · go_wp2_with fail
    go_ret
    exact ⟨rfl, HB1.out⟩
  go_wp2_with fail
  go_ret
  exact ⟨rfl, HB1.out⟩
/-- the first child -/
def fst0 (e : V → Bool) (u : V) : Bool := match u.l with | x :: _ => e x | [] => false
/-- a property that may be -/
def propV (e : V → Bool) (u : V) : Bool := isK 9 u && (fields (ctch3 u) u && (decide (u.l.length = 1) && fst0 e u))
set_option maxRecDepth 20000 in
set_option maxHeartbeats 2000000 in
theorem expr_8 (v : V) (e : V → Bool) (hb : v.bulk ≤ 4194304) (hk : v.k = 8) (H : ∀ u ∈ v.l, ∀ x ∈ u.l, Tells 79 x (e x)) : Tells 79 v (fields (ctch3 v) v && v.l.all (propV e)) := by
  intro x w h
  have HO := Lib.hid fun w' (hb' : Below w.heap.size w w') => own_any v x w' (Is.below hb' _ _ h) hb
  have hln : v.l.length ≤ 4194304 := by have := length_le_bulks v.l; have := bulk_ge v; omega
  have hll : (v.l.length : Int) ≤ 4194304 := by omega
  have HBK : Hid (∀ u ∈ v.l, u.bulk ≤ 4194304) := fun u hu => by have := bulk_le_of_mem hu; have := bulk_ge v; omega
  have HXX := Lib.hid H
  obtain ⟨xka, xkc, xla, xlc, rfl, -, -, -, hrow⟩ := h.open
  have HR := Lib.hid hrow
  obtain ⟨W0, hW0⟩ : ∃ W0, w.alloc (.cells #[.int .i64 v.k, .string v.nm, .int .i64 v.n, .string v.s, .slice xka v.ks.length xkc, .slice xla v.l.length xlc] 25) = W0 := ⟨_, rfl⟩
  have HB0 : Hid (Below w.heap.size w W0) := by rw [← hW0]; exact below_alloc _ _
  have HF : Hid (∀ w', Below W0.heap.size W0 w' → At w' w.heap.size 0 ⟨v.k, v.nm, v.n, v.s, xka, v.ks.length, xkc, xla, v.l.length, xlc⟩) := fun w' hb => by
    have h0 : At W0 w.heap.size 0 ⟨v.k, v.nm, v.n, v.s, xka, v.ks.length, xkc, xla, v.l.length, xlc⟩ := by rw [← hW0]; exact at_row (hp_new rfl) rfl rfl rfl rfl rfl rfl
    exact h0.below (B := W0.heap.size) (by rw [← hW0]; simp) hb
  have HW0 := Lib.hid hW0
  simp only [X.v] at HO ⊢
  rw [hk] at HO HF HW0 ⊢
  clear h hb hW0 H hrow hk
  generalize fields (ctch3 v) v = bo at *
  generalize v.nm = nm at *
  generalize v.n = n at *
  generalize v.s = s at *
  generalize v.ks.length = kn at *
  generalize v.l = l at *
  go_enter Try.func79, Try.ntmps79
  go_wp2_with fail
  rw [HW0.out]
  clear HW0
  refine (HO.out _ HB0.out).mono ?_
  rintro e' w1 ⟨rfl, hb1⟩
  have HB1 := Lib.hid hb1
  have HBW := Lib.hid (HB0.out.trans (hb1.mono HB0.out.size))
  obtain ⟨c0, c1, c2, c3, c4, c5⟩ := HF.out _ hb1
  dsimp only at c0 c1 c2 c3 c4 c5
  clear hb1 HO
  cases bo
  · go_wp2_with fail
    go_ret
    exact ⟨rfl, HBW.out⟩
  obtain ⟨r, hr0⟩ : ∃ r, l.all (propV e) = r := ⟨_, rfl⟩
  have HV := Lib.hid hr0
  have HVV : Hid ((true && l.all (propV e)) = r) := by
    show _ = _
    rw [hr0, Bool.true_and]
  clear hr0
  go_wp2_with fail
  go_loopw [33] (fun i wr => ∃ j : Nat, j ≤ l.length ∧ i = .int .i64 j ∧ Hid ((l.take j).all (propV e) = true) ∧ Below w1.heap.size w1 wr)
    (fun i _ => l.length - (intOf i).toNat)
  case atStart => exact ⟨0, Nat.zero_le _, rfl, Lib.hid rfl, Below.refl _ _⟩
  case round =>
    obtain ⟨j, hj, rfl, hh, hbr⟩ := hrel
    have hb := HBW.out.trans (hbr.mono HBW.out.size)
    have HBRR := Lib.hid hbr
    clear hbr c0 c1 c2 c3 c4 c5
    by_cases hlt : j < l.length
    · obtain ⟨g, o, rfl, hg, y, hy, hv⟩ := HR.out.at_ hlt
      obtain ⟨c0, c1, c2, c3, c4, c5⟩ := hy.below hg hb
      have HM : Hid (l[j] ∈ l) := Lib.hid (List.getElem_mem hlt)
      have hyk : y.k = l[j].k := ((isB_iff _ _ _ _).1 hv).1.1
      have hyl : y.ln = l[j].l.length := ((isB_iff _ _ _ _).1 hv).2.2.1
      have hyr : RowB w w.heap.size y.la l[j].l := ((isB_iff _ _ _ _).1 hv).2.2.2.2
      have hyn : (y.ln : Int) ≤ 4194304 := by
        have := HBK.out _ HM.out
        have := length_le_bulks l[j].l
        have := bulk_ge l[j]
        omega
      have HO := Lib.hid fun w' (hb' : Below w.heap.size w w') => own_any l[j] y w' (Is.below hb' _ _ hv) (HBK.out _ HM.out)
      have HEJ := Lib.hid (HXX.out l[j] HM.out)
      have HY : Hid (propV e l[j] = true → (l.take (j + 1)).all (propV e) = true) := fun e1 => all_take_snoc _ l j hlt hh.out e1
      have HN : Hid (propV e l[j] = false → r = false) := fun e1 => by rw [← HV.out]; exact all_no _ l j hlt e1
      have HQ : Hid (propV e l[j] = (decide (y.k = 9) && (fields (ctch3 l[j]) l[j] && (decide (y.ln = 1) && fst0 e l[j])))) := by
        show _ = _
        rw [hyk, hyl]
        rfl
      have HAT := Lib.hid fun w' (hb' : Below (wr.heap.size + 1) (wr.alloc (.cells y.cells 25)) w') => (at_alloc wr y).below (Nat.lt_succ_self _) hb'
      have HBA : Hid (Below w.heap.size w (wr.alloc (.cells y.cells 25))) := Lib.hid (hb.alloc (by have := hb.size; omega) _)
      have HBS : Hid (w.heap.size ≤ wr.heap.size + 1) := Lib.hid (by have := hb.size; omega)
      have HRJ := Lib.hid hyr
      have HYL := Lib.hid hyl
      obtain ⟨yk, ynm, yn, ys, yka, ykn, ykc, yla, yln, ylc⟩ := y
      simp only [X.v, X.cells] at HO HAT HBA HQ
      dsimp only at c0 c1 c2 c3 c4 c5 hyn HRJ HYL
      generalize propV e l[j] = q at *
      generalize l[j] = u at *
      generalize fields (ctch3 u) u = bo at *
      clear hv hy hh hyk hyl hyr
      by_cases hk : yk = 9
      rotate_left
      · have hq : (yk == 9) = false := by rw [beq_eq_false_iff_ne]; exact hk
        have hq2 : (yk != 9) = true := bne_iff_ne.2 hk
        have HQR : Hid (r = false) := HN.out (by rw [HQ.out, decide_eq_false hk]; rfl)
        clear hk HQ
        go_wp2_with fail
        go_ret
        exact ⟨by rw [HVV.out, HQR.out]; rfl, HBA.out⟩
      rw [decide_eq_true hk, Bool.true_and] at HQ
      subst hk
      go_wp2_with fail
      refine (HO.out _ HBA.out).mono ?_
      rintro e' w2 ⟨rfl, hb1⟩
      have HB2 := Lib.hid (HBA.out.trans (hb1.mono (by have := HBS.out; simp; omega)))
      obtain ⟨d0, d1, d2, d3, d4, d5⟩ := HAT.out w2 (hb1.mono (by simp))
      dsimp only at d0 d1 d2 d3 d4 d5
      have HB1w : Hid (Below w1.heap.size w1 w2) := (HBRR.out.alloc HBRR.out.size _).trans (hb1.mono (by have := HBRR.out.size; simp; omega))
      clear hb1 c0 c1 c2 c3 c4 c5
      cases bo
      · have HQR : Hid (r = false) := HN.out (by rw [HQ.out]; rfl)
        go_wp2_with fail
        go_ret
        exact ⟨by rw [HVV.out, HQR.out]; rfl, HB2.out⟩
      rw [Bool.true_and] at HQ
      by_cases h1 : yln = 1
      rotate_left
      · have HQR : Hid (r = false) := HN.out (by rw [HQ.out, decide_eq_false h1]; rfl)
        have h1i : ((yln : Int) == 1) = false := by rw [beq_eq_false_iff_ne]; omega
        have h2i : ((yln : Int) != 1) = true := by rw [bne_iff_ne]; omega
        go_wp2_with fail
        go_ret
        exact ⟨by rw [HVV.out, HQR.out]; rfl, HB2.out⟩
      rw [decide_eq_true h1, Bool.true_and] at HQ
      have hz1 : u.l.length = 1 := by rw [← HYL.out]; exact h1
      obtain ⟨g2, o2, y2, hya, hg2, hy2⟩ := kid_at HRJ.out 0 (by omega)
      have hzz : ∃ z, u.l = [z] := by
        rcases hu : u.l with _ | ⟨a, _ | ⟨b, s⟩⟩
        · rw [hu] at hz1; cases hz1
        · exact ⟨a, rfl⟩
        · rw [hu] at hz1; simp at hz1
      obtain ⟨z, hz⟩ := hzz
      have hzm : z ∈ u.l := by rw [hz]; exact List.mem_cons_self
      have HYZ : Hid (∀ w', Below w.heap.size w w' → At w' g2 o2 y2) := fun w' hb => by have := (hy2 w' hb).1; rwa [Nat.zero_mul, Nat.add_zero] at this
      have HEX : Hid (∀ w', Below w.heap.size w w' → Calls Try.prog 79 #[y2.v] w' fun e' w'' => e' = .returned (.bool (e z)) ∧ Below w'.heap.size w' w'') := fun w' hb => HEJ.out z hzm y2 w' (by have := (hy2 w' hb).2; simp only [hz, List.getElem_cons_zero] at this; exact this)
      have HF0 : Hid (fst0 e u = e z) := by
        show _ = _
        unfold fst0
        rw [hz]
      rw [HF0.out] at HQ
      clear HF0 HEJ hy2 hz hzm hz1 HRJ HYL hg2
      subst h1 hya
      obtain ⟨zk, znm, zn, zs, zka, zkn, zkc, zla, zln, zlc⟩ := y2
      simp only [X.v] at HEX
      generalize e z = be at *
      obtain ⟨e0, e1, e2, e3, e4, e5⟩ := HYZ.out w2 HB2.out
      dsimp only at e0 e1 e2 e3 e4 e5
      go_wp2_with fail
      refine (HEX.out _ HB2.out).mono ?_
      rintro e' w3 ⟨rfl, hb2⟩
      have HB3 := Lib.hid (HB2.out.trans (hb2.mono HB2.out.size))
      have HB3w := Lib.hid (HB1w.out.trans (hb2.mono HB1w.out.size))
      clear hb2 d0 d1 d2 d3 d4 d5 e0 e1 e2 e3 e4 e5 hb
      cases be
      · have HQR : Hid (r = false) := HN.out HQ.out
        go_wp2_with fail
        go_ret
        exact ⟨by rw [HVV.out, HQR.out]; rfl, HB3.out⟩
      · have HQR := Lib.hid (HY.out HQ.out)
        go_wp2_with fail
        go_roundw
        case rel => exact ⟨j + 1, by omega, by go_num, HQR, HB3w.out⟩
        case measure => simp [intOf]; omega
    · obtain rfl : j = l.length := by omega
      have HQ : Hid (r = true) := by
        show _ = _
        rw [← HV.out, ← hh.out, List.take_length]
      clear hh
      go_wp2_with fail
      go_ret
      exact ⟨by rw [HVV.out, HQ.out]; rfl, hb⟩
/-- a call of cases on what stands behind a node's first child -/
def TellsC (v : V) (b : Bool) : Prop := ∀ (A : Option Addr) (c : Nat) (w : World), Row w A v.l.tail → Calls Try.prog 84 #[.slice A (v.l.length - 1) c] w fun e w' => e = .returned (.bool b) ∧ Below w.heap.size w w'
set_option maxRecDepth 8000 in
set_option maxHeartbeats 4000000 in
theorem rst_36 (v a : V) (r : List V) (p q : Bool) (hb : v.bulk ≤ 4194304) (hk : v.k = 36) (hl : v.l = a :: r) (H1 : Tells 79 a p) (H2 : TellsC v q) :
    Tells 62 v (fields (ctch3 v) v && (p && q)) := by
  intro x w h
  have HO := Lib.hid fun w' (hb' : Below w.heap.size w w') => own_any v x w' (Is.below hb' _ _ h) hb
  have hll : (v.l.length : Int) ≤ 4194304 := by have := length_le_bulks v.l; have := bulk_ge v; omega
  have hpos : 0 < v.l.length := by rw [hl]; simp
  have hposi : (0 : Int) < (v.l.length : Int) := by omega
  have hge : (1 : Int) ≤ (v.l.length : Int) := by omega
  obtain ⟨xka, xkc, xla, xlc, rfl, -, hlc, -, hrow⟩ := h.open
  obtain ⟨W0, hW0⟩ : ∃ W0, w.alloc (.cells #[.int .i64 v.k, .string v.nm, .int .i64 v.n, .string v.s, .slice xka v.ks.length xkc, .slice xla v.l.length xlc] 25) = W0 := ⟨_, rfl⟩
  have HB0 : Hid (Below w.heap.size w W0) := by rw [← hW0]; exact below_alloc _ _
  have HF : Hid (∀ w', Below W0.heap.size W0 w' → At w' w.heap.size 0 ⟨v.k, v.nm, v.n, v.s, xka, v.ks.length, xkc, xla, v.l.length, xlc⟩) := fun w' hb => by
    have h0 : At W0 w.heap.size 0 ⟨v.k, v.nm, v.n, v.s, xka, v.ks.length, xkc, xla, v.l.length, xlc⟩ := by rw [← hW0]; exact at_row (hp_new rfl) rfl rfl rfl rfl rfl rfl
    exact h0.below (B := W0.heap.size) (by rw [← hW0]; simp) hb
  have HW0 := Lib.hid hW0
  have hsl := fun w' => run_tail xla v.l.length xlc hpos w'
  have TH2 := Lib.hid fun w' c' (hb' : Below w.heap.size w w') => H2 (tailA xla xlc) c' w' (row_tail (RowB.below hrow hb') hlc)
  obtain ⟨g, o, y0, hxla, hg, hy0⟩ := kid_at hrow 0 hpos
  have e0 : v.l[0]'hpos = a := by simp [hl]
  have HY0 : Hid (∀ w', Below w.heap.size w w' → At w' g (o) y0) := fun w' hb => (hy0 w' hb).1
  have HI0 : Hid (∀ w', Below w.heap.size w w' → Is w' a y0) := fun w' hb => by have := (hy0 w' hb).2; rwa [e0] at this
  have TH1 : Hid (∀ w', Below w.heap.size w w' → Calls Try.prog 79 #[y0.v] w' fun e w'' => e = .returned (.bool p) ∧ Below w'.heap.size w' w'') := fun w' hb => H1 y0 w' (HI0.out w' hb)
  generalize tailA xla xlc = tA at *
  subst hxla
  simp only [X.v] at HO TH1 ⊢
  rw [hk] at HO HF HW0 ⊢
  clear h hb hrow hW0 hk e0 hy0 HI0 H1 H2 hlc hg hpos hl
  obtain ⟨yk0, ynm0, yn0, ys0, yka0, ykn0, ykc0, yla0, yln0, ylc0⟩ := y0
  generalize fields (ctch3 v) v = bo at *
  generalize v.nm = nm at *
  generalize v.n = n at *
  generalize v.s = s at *
  generalize v.ks.length = kn at *
  generalize v.l.length = ln at *
  go_enter Try.func62, Try.ntmps62
  go_wp2_with fail
  rw [HW0.out]
  clear HW0
  refine (HO.out _ HB0.out).mono ?_
  rintro e w1 ⟨rfl, hb1⟩
  obtain ⟨d0, d1, d2, d3, d4, d5⟩ := HF.out _ hb1
  dsimp only at d0 d1 d2 d3 d4 d5
  have HB1 := Lib.hid (HB0.out.trans (hb1.mono HB0.out.size))
  clear hb1
  cases bo
  · go_wp2_with fail
    go_ret
    exact ⟨rfl, HB1.out⟩
  obtain ⟨c00, c01, c02, c03, c04, c05⟩ := HY0.out _ HB1.out
  dsimp only at c00 c01 c02 c03 c04 c05
  go_wp2_with fail
  clear d0 d1 d2 d3 d4 d5 c00 c01 c02 c03 c04 c05
  refine (TH1.out _ HB1.out).mono ?_
  rintro e w2 ⟨rfl, hb2⟩
  have HB2 := Lib.hid (HB1.out.trans (hb2.mono HB1.out.size))
  clear hb2
  cases p
  · go_wp2_with fail
    go_ret
    exact ⟨rfl, HB2.out⟩
  · go_wp2_with fail
    refine (TH2.out _ _ HB2.out).mono ?_
    rintro e w3 ⟨rfl, hb3⟩
    have HB3 := Lib.hid (HB2.out.trans (hb3.mono HB2.out.size))
    clear hb3
    go_wp2_with fail
    go_ret
    exact ⟨rfl, HB3.out⟩
end Go.Proofs.Ytgehgccgologpaa.R
