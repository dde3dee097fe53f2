/-
  Laid by wip/scope/lay.py out of wip/tree: Vd Ve Vf Vg Vi Vj Vk.
  The reference's exprs and empty, given what an expression answers.
  The reference's stmts, given what a statement answers; empty.
  The reference's empty and block.
  The reference's decls, given what exprs answers of a declaration's children.
  A row's tail by slicing.
  The reference's cases, given what expr and stmts answer. (gen_vj.py)
  The reference's loop, kinds SWhile and SDo. (gen_vk.py)
-/
import Derived.Test.YtgehgccgologpaaVc
namespace Go.Proofs.Ytgehgccgologpaa.R
open Go.RowKit Go.Proofs.Ytgehgccgologpaa Go.Proofs.Ytgehgccgologpaa.T
/-- a function of one node that answers so of v -/
def Tells (f : Nat) (v : V) (b : Bool) : Prop := ∀ (x : X) (w : World), Is w v x → Calls Try.prog f #[x.v] w fun e w' => e = .returned (.bool b) ∧ Below w.heap.size w w'
theorem all_take_snoc (p : V → Bool) (l : List V) (j : Nat) (h : j < l.length) (h1 : (l.take j).all p = true) (h2 : p l[j] = true) : (l.take (j + 1)).all p = true := by
  rw [snoc_get l j h, List.all_append, h1]
  simpa using h2
theorem all_no (p : V → Bool) (l : List V) (j : Nat) (h : j < l.length) (h2 : p l[j] = false) : l.all p = false := by
  rw [Bool.eq_false_iff]
  intro e
  rw [List.all_eq_true.1 e _ (List.getElem_mem h)] at h2
  cases h2
set_option maxRecDepth 8000 in
set_option maxHeartbeats 1000000 in
theorem refExprs_of (p : V → Bool) (l : List V) (A : Option Addr) (c : Nat) (w : World) (hr : Row w A l) (hll : l.length ≤ 4194304) (H : ∀ u ∈ l, Tells 79 u (p u)) :
    Calls Try.prog 82 #[.slice A l.length c] w fun e w' => e = .returned (.bool (l.all p)) ∧ Below w.heap.size w w' := by
  have HH := Lib.hid H
  have HR := Lib.hid hr
  obtain ⟨r, hr0⟩ : ∃ r, l.all p = r := ⟨_, rfl⟩
  rw [hr0]
  have HV := Lib.hid hr0
  clear H hr hr0
  go_enter Try.func82, Try.ntmps82
  go_wp2_with fail
  go_loopw [7] (fun i wr => ∃ j : Nat, j ≤ l.length ∧ i = .int .i64 j ∧ Hid ((l.take j).all p = true) ∧ Below w.heap.size w wr)
    (fun i _ => l.length - (intOf i).toNat)
  case atStart => exact ⟨0, Nat.zero_le _, rfl, Lib.hid rfl, Below.refl _ _⟩
  case round =>
    obtain ⟨j, hj, rfl, hh, hb⟩ := hrel
    by_cases hlt : j < l.length
    · obtain ⟨g, o, rfl, hg, y, hy, hv⟩ := HR.out.at_ hlt
      obtain ⟨c0, c1, c2, c3, c4, c5⟩ := hy.below hg hb
      have hq := Lib.hid fun w' (hb' : Below w.heap.size w w') => HH.out l[j] (List.getElem_mem hlt) y w' (Is.below hb' _ _ hv)
      have HY : Hid (p l[j] = true → (l.take (j + 1)).all p = true) := fun e => all_take_snoc p l j hlt hh.out e
      have HN : Hid (p l[j] = false → r = false) := fun e => by rw [← HV.out]; exact all_no p l j hlt e
      obtain ⟨yk, ynm, yn, ys, yka, ykn, ykc, yla, yln, ylc⟩ := y
      simp only [X.v] at hq
      dsimp only at c0 c1 c2 c3 c4 c5
      generalize p l[j] = q at *
      clear hv hy hh
      go_wp2_with fail
      refine (hq.out _ (hb.alloc (by have := hb.size; omega) _)).mono ?_
      rintro e w1 ⟨rfl, hb1⟩
      have HB2 := Lib.hid ((hb.alloc (B := w.heap.size) (by have := hb.size; omega) (.cells #[.int .i64 yk, .string ynm, .int .i64 yn, .string ys, .slice yka ykn ykc, .slice yla yln ylc] 25)).trans (hb1.mono (by have := hb.size; simp; omega)))
      clear c0 c1 c2 c3 c4 c5 hb1 hb
      cases q
      · have HQ := Lib.hid (HN.out rfl)
        clear HN HY
        go_wp2_with fail
        go_ret
        exact ⟨by rw [HQ.out]; rfl, HB2.out⟩
      · have HQ := Lib.hid (HY.out rfl)
        clear HN HY
        go_wp2_with fail
        go_roundw
        case rel => exact ⟨j + 1, by omega, by go_num, HQ, HB2.out⟩
        case measure => simp [intOf]; omega
    · obtain rfl : j = l.length := by omega
      have HQ : Hid (r = true) := by
        show _ = _
        rw [← HV.out, ← hh.out, List.take_length]
      clear hh
      go_wp2_with fail
      go_ret
      exact ⟨by rw [HQ.out]; rfl, hb⟩
end Go.Proofs.Ytgehgccgologpaa.R
namespace Go.Proofs.Ytgehgccgologpaa.R
open Go.RowKit Go.Proofs.Ytgehgccgologpaa Go.Proofs.Ytgehgccgologpaa.T
/-- a call of stmts on a node's children -/
def TellsL (v : V) (b : Bool) : Prop := ∀ (A : Option Addr) (c : Nat) (w : World), Row w A v.l → Calls Try.prog 35 #[.slice A v.l.length c, .bool true] w fun e w' => e = .returned (.bool b) ∧ Below w.heap.size w w'
theorem at_alloc (w : World) (y : X) : At (w.alloc (.cells y.cells 25)) w.heap.size 0 y := at_row (hp_new rfl) rfl rfl rfl rfl rfl rfl
set_option maxRecDepth 8000 in
set_option maxHeartbeats 2000000 in
theorem refStmts_of (f : Bool) (s t p : V → Bool) (l : List V) (A : Option Addr) (c : Nat) (w : World) (hr : Row w A l) (hll : l.length ≤ 4194304) (hbk : ∀ u ∈ l, u.bulk ≤ 4194304)
    (HS : ∀ u ∈ l, u.k = 39 → TellsL u (s u)) (HT : ∀ u ∈ l, ¬ u.k = 39 → Tells 62 u (t u))
    (hp1 : ∀ u ∈ l, u.k = 39 → p u = (f && (fields (ctch3 u) u && s u))) (hp2 : ∀ u ∈ l, ¬ u.k = 39 → p u = t u) :
    Calls Try.prog 35 #[.slice A l.length c, .bool f] w fun e w' => e = .returned (.bool (l.all p)) ∧ Below w.heap.size w w' := by
  have HSS := Lib.hid HS
  have HTT := Lib.hid HT
  have HP1 := Lib.hid hp1
  have HP2 := Lib.hid hp2
  have HBK := Lib.hid hbk
  have HR := Lib.hid hr
  obtain ⟨r, hr0⟩ : ∃ r, l.all p = r := ⟨_, rfl⟩
  rw [hr0]
  have HV := Lib.hid hr0
  clear HS HT hp1 hp2 hbk hr hr0
  go_enter Try.func35, Try.ntmps35
  go_wp2_with fail
  go_loopw [9] (fun i wr => ∃ j : Nat, j ≤ l.length ∧ i = .int .i64 j ∧ Hid ((l.take j).all p = true) ∧ Below w.heap.size w wr)
    (fun i _ => l.length - (intOf i).toNat)
  case atStart => exact ⟨0, Nat.zero_le _, rfl, Lib.hid rfl, Below.refl _ _⟩
  case round =>
    obtain ⟨j, hj, rfl, hh, hb⟩ := hrel
    by_cases hlt : j < l.length
    · obtain ⟨g, o, rfl, hg, y, hy, hv⟩ := HR.out.at_ hlt
      obtain ⟨c0, c1, c2, c3, c4, c5⟩ := hy.below hg hb
      have HM : Hid (l[j] ∈ l) := Lib.hid (List.getElem_mem hlt)
      have hyk : y.k = l[j].k := ((isB_iff _ _ _ _).1 hv).1.1
      have hyl : y.ln = l[j].l.length := ((isB_iff _ _ _ _).1 hv).2.2.1
      have hyr : RowB w w.heap.size y.la l[j].l := ((isB_iff _ _ _ _).1 hv).2.2.2.2
      have HI := Lib.hid fun w' (hb' : Below w.heap.size w w') => (Is.below hb' _ _ hv : Is w' l[j] y)
      have HO := Lib.hid fun w' (hb' : Below w.heap.size w w') => own_any l[j] y w' (Is.below hb' _ _ hv) (HBK.out _ HM.out)
      have HL := Lib.hid fun (e : l[j].k = 39) w' c (hb' : Below w.heap.size w w') => HSS.out l[j] HM.out e y.la c w' (RowB.below hyr hb')
      have HY : Hid (p l[j] = true → (l.take (j + 1)).all p = true) := fun e => all_take_snoc p l j hlt hh.out e
      have HN : Hid (p l[j] = false → r = false) := fun e => by rw [← HV.out]; exact all_no p l j hlt e
      have HQ1 := Lib.hid (HP1.out l[j] HM.out)
      have HQ2 := Lib.hid (HP2.out l[j] HM.out)
      have HTJ := Lib.hid (HTT.out l[j] HM.out)
      rw [← hyl] at HL
      rw [← hyk] at HL HQ1 HQ2 HTJ
      have HAT := Lib.hid fun w' (hb' : Below (wr.heap.size + 1) (wr.alloc (.cells y.cells 25)) w') => (at_alloc wr y).below (Nat.lt_succ_self _) hb'
      have HBA : Hid (Below w.heap.size w (wr.alloc (.cells y.cells 25))) := Lib.hid (hb.alloc (by have := hb.size; omega) _)
      have HBS : Hid (w.heap.size ≤ wr.heap.size + 1) := Lib.hid (by have := hb.size; omega)
      obtain ⟨yk, ynm, yn, ys, yka, ykn, ykc, yla, yln, ylc⟩ := y
      simp only [X.v, X.cells] at HO HAT HBA HL HQ1 HQ2 HTJ
      dsimp only at c0 c1 c2 c3 c4 c5
      generalize p l[j] = q at *
      generalize fields (ctch3 l[j]) l[j] = bo at *
      generalize s l[j] = bs at *
      generalize t l[j] = bt at *
      clear hv hy hh hyk hyl hyr
      by_cases hk : yk = 39
      · have HQ := Lib.hid (HQ1.out hk)
        have HLL := Lib.hid (HL.out hk)
        clear HQ1 HQ2 HL HTJ
        subst hk
        cases f
        · have HQR : Hid (r = false) := HN.out (by rw [HQ.out]; rfl)
          go_wp2_with fail
          go_ret
          exact ⟨by rw [HQR.out]; rfl, HBA.out⟩
        · cases bo
          · have HQR : Hid (r = false) := HN.out (by rw [HQ.out]; rfl)
            go_wp2_with fail
            refine (HO.out _ HBA.out).mono ?_
            rintro e w1 ⟨rfl, hb1⟩
            have HB1 := Lib.hid (HBA.out.trans (hb1.mono (by have := HBS.out; simp; omega)))
            clear hb1
            go_wp2_with fail
            go_ret
            exact ⟨by rw [HQR.out]; rfl, HB1.out⟩
          · go_wp2_with fail
            refine (HO.out _ HBA.out).mono ?_
            rintro e w1 ⟨rfl, hb1⟩
            have HB1 := Lib.hid (HBA.out.trans (hb1.mono (by have := HBS.out; simp; omega)))
            obtain ⟨d0, d1, d2, d3, d4, d5⟩ := HAT.out w1 (hb1.mono (by simp))
            dsimp only at d0 d1 d2 d3 d4 d5
            clear hb1 c0 c1 c2 c3 c4 c5
            go_wp2_with fail
            refine (HLL.out _ _ HB1.out).mono ?_
            rintro e w2 ⟨rfl, hb2⟩
            have HB2 := Lib.hid (HB1.out.trans (hb2.mono HB1.out.size))
            clear hb2 d0 d1 d2 d3 d4 d5 hb
            cases bs
            · have HQR : Hid (r = false) := HN.out (by rw [HQ.out]; rfl)
              go_wp2_with fail
              go_ret
              exact ⟨by rw [HQR.out]; rfl, HB2.out⟩
            · have HQR := Lib.hid (HY.out (by rw [HQ.out]; rfl))
              go_wp2_with fail
              go_roundw
              case rel => exact ⟨j + 1, by omega, by go_num, HQR, HB2.out⟩
              case measure => simp [intOf]; omega
      · have HQ := Lib.hid (HQ2.out hk)
        have hq := Lib.hid fun w' (hb' : Below w.heap.size w w') => HTJ.out hk _ w' (HI.out w' hb')
        have hkb : (yk == 39) = false := by rw [beq_eq_false_iff_ne]; exact hk
        simp only [X.v] at hq
        clear HQ1 HQ2 HL HTJ hk
        go_wp2_with fail
        refine (hq.out _ HBA.out).mono ?_
        rintro e w1 ⟨rfl, hb1⟩
        have HB2 := Lib.hid (HBA.out.trans (hb1.mono (by have := HBS.out; simp; omega)))
        clear c0 c1 c2 c3 c4 c5 hb1 hb
        cases bt
        · have HQR := Lib.hid (HN.out HQ.out)
          clear HN HY
          go_wp2_with fail
          go_ret
          exact ⟨by rw [HQR.out]; rfl, HB2.out⟩
        · have HQR := Lib.hid (HY.out HQ.out)
          clear HN HY
          go_wp2_with fail
          go_roundw
          case rel => exact ⟨j + 1, by omega, by go_num, HQR, HB2.out⟩
          case measure => simp [intOf]; omega
    · obtain rfl : j = l.length := by omega
      have HQ : Hid (r = true) := by
        show _ = _
        rw [← HV.out, ← hh.out, List.take_length]
      clear hh
      go_wp2_with fail
      go_ret
      exact ⟨by rw [HQ.out]; rfl, hb⟩
end Go.Proofs.Ytgehgccgologpaa.R
namespace Go.Proofs.Ytgehgccgologpaa.R
open Go.RowKit Go.Proofs.Ytgehgccgologpaa Go.Proofs.Ytgehgccgologpaa.T
def TellsF (v : V) (b : Bool) : Prop := ∀ (A : Option Addr) (c : Nat) (w : World), Row w A v.l → Calls Try.prog 35 #[.slice A v.l.length c, .bool false] w fun e w' => e = .returned (.bool b) ∧ Below w.heap.size w w'
set_option maxRecDepth 8000 in
set_option maxHeartbeats 1000000 in
theorem refEmpty_any (v : V) (hb : v.bulk ≤ 4194304) : Tells 83 v (isK 42 v && (fields (ctch3 v) v && v.l.isEmpty)) := by
  intro x w h
  have HO := Lib.hid fun w' (hb' : Below w.heap.size w w') => own_any v x w' (Is.below hb' _ _ h) hb
  have hll : (v.l.length : Int) ≤ 4194304 := by have := length_le_bulks v.l; have := bulk_ge v; omega
  have HE : Hid (v.l.isEmpty = ((v.l.length : Int) == 0)) := Lib.hid (by
    cases v.l
    · rfl
    · rename_i a r
      show false = _
      symm
      rw [beq_eq_false_iff_ne, List.length_cons]
      omega)
  obtain ⟨xka, xkc, xla, xlc, rfl, -, -, -, -⟩ := h.open
  obtain ⟨W0, hW0⟩ : ∃ W0, w.alloc (.cells #[.int .i64 v.k, .string v.nm, .int .i64 v.n, .string v.s, .slice xka v.ks.length xkc, .slice xla v.l.length xlc] 25) = W0 := ⟨_, rfl⟩
  have HB0 : Hid (Below w.heap.size w W0) := by rw [← hW0]; exact below_alloc _ _
  have HF : Hid (∀ w', Below W0.heap.size W0 w' → At w' w.heap.size 0 ⟨v.k, v.nm, v.n, v.s, xka, v.ks.length, xkc, xla, v.l.length, xlc⟩) := fun w' hb => by
    have h0 : At W0 w.heap.size 0 ⟨v.k, v.nm, v.n, v.s, xka, v.ks.length, xkc, xla, v.l.length, xlc⟩ := by rw [← hW0]; exact at_row (hp_new rfl) rfl rfl rfl rfl rfl rfl
    exact h0.below (B := W0.heap.size) (by rw [← hW0]; simp) hb
  have HBX := Lib.hid (below_alloc w)
  have HW0 := Lib.hid hW0
  have HK : Hid (isK 42 v = decide (v.k = 42)) := Lib.hid rfl
  rw [HK.out]
  simp only [X.v] at HO ⊢
  clear h hb hW0
  rw [HE.out]
  clear HE HK
  generalize fields (ctch3 v) v = bo at *
  generalize v.nm = nm at *
  generalize v.n = n at *
  generalize v.s = s at *
  generalize v.ks.length = kn at *
  generalize v.l.length = ln at *
  generalize v.k = k at *
  by_cases hk : k = 42
  · rw [decide_eq_true hk, Bool.true_and]
    subst hk
    go_enter Try.func83, Try.ntmps83
    go_wp2_with fail
    rw [HW0.out]
    clear HW0
    refine (HO.out _ HB0.out).mono ?_
    rintro e w1 ⟨rfl, hb1⟩
    obtain ⟨c0, c1, c2, c3, c4, c5⟩ := HF.out _ hb1
    dsimp only at c0 c1 c2 c3 c4 c5
    have HBW := Lib.hid (HB0.out.trans (hb1.mono HB0.out.size))
    clear hb1
    cases bo
    · go_wp2_with fail
      go_ret
      exact ⟨rfl, HBW.out⟩
    · go_wp2_with fail
      go_ret
      exact ⟨rfl, HBW.out⟩
  · rw [decide_eq_false hk, Bool.false_and]
    have hq : (k == 42) = false := by rw [beq_eq_false_iff_ne]; exact hk
    clear hk
    go_enter Try.func83, Try.ntmps83
    go_wp2_with fail
    go_ret
    exact ⟨rfl, HBX.out _⟩
set_option maxRecDepth 8000 in
set_option maxHeartbeats 1000000 in
theorem refBlock_of (v : V) (bs : Bool) (hb : v.bulk ≤ 4194304) (H : v.k = 25 → TellsF v bs) : Tells 80 v (isK 25 v && (fields (ctch3 v) v && bs)) := by
  intro x w h
  have HO := Lib.hid fun w' (hb' : Below w.heap.size w w') => own_any v x w' (Is.below hb' _ _ h) hb
  obtain ⟨xka, xkc, xla, xlc, rfl, -, -, -, hrow⟩ := h.open
  have HS := Lib.hid fun (e : v.k = 25) w' (hb' : Below w.heap.size w w') => H e xla xlc w' (RowB.below hrow hb')
  obtain ⟨W0, hW0⟩ : ∃ W0, w.alloc (.cells #[.int .i64 v.k, .string v.nm, .int .i64 v.n, .string v.s, .slice xka v.ks.length xkc, .slice xla v.l.length xlc] 25) = W0 := ⟨_, rfl⟩
  have HB0 : Hid (Below w.heap.size w W0) := by rw [← hW0]; exact below_alloc _ _
  have HF : Hid (∀ w', Below W0.heap.size W0 w' → At w' w.heap.size 0 ⟨v.k, v.nm, v.n, v.s, xka, v.ks.length, xkc, xla, v.l.length, xlc⟩) := fun w' hb => by
    have h0 : At W0 w.heap.size 0 ⟨v.k, v.nm, v.n, v.s, xka, v.ks.length, xkc, xla, v.l.length, xlc⟩ := by rw [← hW0]; exact at_row (hp_new rfl) rfl rfl rfl rfl rfl rfl
    exact h0.below (B := W0.heap.size) (by rw [← hW0]; simp) hb
  have HBX := Lib.hid (below_alloc w)
  have HW0 := Lib.hid hW0
  have HK : Hid (isK 25 v = decide (v.k = 25)) := Lib.hid rfl
  rw [HK.out]
  simp only [X.v] at HO ⊢
  clear h hb hW0 HK H hrow
  generalize fields (ctch3 v) v = bo at *
  generalize v.nm = nm at *
  generalize v.n = n at *
  generalize v.s = s at *
  generalize v.ks.length = kn at *
  generalize v.l.length = ln at *
  generalize v.k = k at *
  by_cases hk : k = 25
  · rw [decide_eq_true hk, Bool.true_and]
    have HT := Lib.hid (HS.out hk)
    clear HS
    subst hk
    go_enter Try.func80, Try.ntmps80
    go_wp2_with fail
    rw [HW0.out]
    clear HW0
    refine (HO.out _ HB0.out).mono ?_
    rintro e w1 ⟨rfl, hb1⟩
    obtain ⟨c0, c1, c2, c3, c4, c5⟩ := HF.out _ hb1
    dsimp only at c0 c1 c2 c3 c4 c5
    have HBW := Lib.hid (HB0.out.trans (hb1.mono HB0.out.size))
    clear hb1
    cases bo
    · go_wp2_with fail
      go_ret
      exact ⟨rfl, HBW.out⟩
    · go_wp2_with fail
      refine (HT.out _ HBW.out).mono ?_
      rintro e w2 ⟨rfl, hb2⟩
      have HB2 := Lib.hid (HBW.out.trans (hb2.mono HBW.out.size))
      clear hb2
      go_wp2_with fail
      go_ret
      exact ⟨rfl, HB2.out⟩
  · rw [decide_eq_false hk, Bool.false_and]
    have hq : (k == 25) = false := by rw [beq_eq_false_iff_ne]; exact hk
    clear hk
    go_enter Try.func80, Try.ntmps80
    go_wp2_with fail
    go_ret
    exact ⟨rfl, HBX.out _⟩
end Go.Proofs.Ytgehgccgologpaa.R
namespace Go.Proofs.Ytgehgccgologpaa.R
open Go.RowKit Go.Proofs.Ytgehgccgologpaa Go.Proofs.Ytgehgccgologpaa.T
/-- a call of exprs on a node's children -/
def TellsX (v : V) (b : Bool) : Prop := ∀ (A : Option Addr) (c : Nat) (w : World), Row w A v.l → Calls Try.prog 82 #[.slice A v.l.length c] w fun e w' => e = .returned (.bool b) ∧ Below w.heap.size w w'
/-- a declaration that may be -/
def declV (e : V → Bool) (u : V) : Bool := isK 23 u && (fields (ctch3 u) u && (decide (u.l.length ≤ 1) && e u))
set_option maxRecDepth 20000 in
set_option maxHeartbeats 2000000 in
theorem refDecls_of (v : V) (e : V → Bool) (hb : v.bulk ≤ 4194304) (H : ∀ u ∈ v.l, TellsX u (e u)) : Tells 78 v (isK 22 v && (fields (ctch3 v) v && (!v.l.isEmpty && v.l.all (declV e)))) := by
  intro x w h
  have HO := Lib.hid fun w' (hb' : Below w.heap.size w w') => own_any v x w' (Is.below hb' _ _ h) hb
  have hln : v.l.length ≤ 4194304 := by have := length_le_bulks v.l; have := bulk_ge v; omega
  have hll : (v.l.length : Int) ≤ 4194304 := by omega
  have HBK : Hid (∀ u ∈ v.l, u.bulk ≤ 4194304) := fun u hu => by have := bulk_le_of_mem hu; have := bulk_ge v; omega
  have HXX := Lib.hid H
  obtain ⟨xka, xkc, xla, xlc, rfl, -, -, -, hrow⟩ := h.open
  have HR := Lib.hid hrow
  obtain ⟨W0, hW0⟩ : ∃ W0, w.alloc (.cells #[.int .i64 v.k, .string v.nm, .int .i64 v.n, .string v.s, .slice xka v.ks.length xkc, .slice xla v.l.length xlc] 25) = W0 := ⟨_, rfl⟩
  have HB0 : Hid (Below w.heap.size w W0) := by rw [← hW0]; exact below_alloc _ _
  have HF : Hid (∀ w', Below W0.heap.size W0 w' → At w' w.heap.size 0 ⟨v.k, v.nm, v.n, v.s, xka, v.ks.length, xkc, xla, v.l.length, xlc⟩) := fun w' hb => by
    have h0 : At W0 w.heap.size 0 ⟨v.k, v.nm, v.n, v.s, xka, v.ks.length, xkc, xla, v.l.length, xlc⟩ := by rw [← hW0]; exact at_row (hp_new rfl) rfl rfl rfl rfl rfl rfl
    exact h0.below (B := W0.heap.size) (by rw [← hW0]; simp) hb
  have HBX := Lib.hid (below_alloc w)
  have HW0 := Lib.hid hW0
  have HK : Hid (isK 22 v = decide (v.k = 22)) := Lib.hid rfl
  rw [HK.out]
  simp only [X.v] at HO ⊢
  clear h hb hW0 HK H hrow
  generalize fields (ctch3 v) v = bo at *
  generalize v.nm = nm at *
  generalize v.n = n at *
  generalize v.s = s at *
  generalize v.ks.length = kn at *
  generalize v.l = l at *
  generalize v.k = k at *
  by_cases hk : k = 22
  rotate_left
  · rw [decide_eq_false hk, Bool.false_and]
    have hq : (k == 22) = false := by rw [beq_eq_false_iff_ne]; exact hk
    have hq2 : (k != 22) = true := bne_iff_ne.2 hk
    clear hk
    go_enter Try.func78, Try.ntmps78
    go_wp2_with fail
    go_ret
    exact ⟨rfl, HBX.out _⟩
  rw [decide_eq_true hk, Bool.true_and]
  subst hk
  go_enter Try.func78, Try.ntmps78
  go_wp2_with fail
  rw [HW0.out]
  clear HW0
  refine (HO.out _ HB0.out).mono ?_
  rintro e' w1 ⟨rfl, hb1⟩
  have HB1 := Lib.hid hb1
  have HBW := Lib.hid (HB0.out.trans (hb1.mono HB0.out.size))
  obtain ⟨c0, c1, c2, c3, c4, c5⟩ := HF.out _ hb1
  dsimp only at c0 c1 c2 c3 c4 c5
  clear hb1 HO
  cases bo
  · go_wp2_with fail
    go_ret
    exact ⟨rfl, HBW.out⟩
  by_cases hl : l = []
  · subst hl
    go_wp2_with fail
    go_ret
    exact ⟨rfl, HBW.out⟩
  have hpos : (0 : Int) < (l.length : Int) := by
    have := List.length_pos_iff.2 hl
    omega
  have hz : ((l.length : Int) == 0) = false := by rw [beq_eq_false_iff_ne]; omega
  obtain ⟨r, hr0⟩ : ∃ r, l.all (declV e) = r := ⟨_, rfl⟩
  have HV := Lib.hid hr0
  have HVV : Hid ((true && (!l.isEmpty && l.all (declV e))) = r) := by
    show _ = _
    rw [hr0]
    cases l
    · exact absurd rfl hl
    · rfl
  clear hr0 hl
  go_wp2_with fail
  go_loopw [22] (fun i wr => ∃ j : Nat, j ≤ l.length ∧ i = .int .i64 j ∧ Hid ((l.take j).all (declV e) = true) ∧ Below w1.heap.size w1 wr)
    (fun i _ => l.length - (intOf i).toNat)
  case atStart => exact ⟨0, Nat.zero_le _, rfl, Lib.hid rfl, Below.refl _ _⟩
  case round =>
    obtain ⟨j, hj, rfl, hh, hbr⟩ := hrel
    have hb := HBW.out.trans (hbr.mono HBW.out.size)
    have HBRR := Lib.hid hbr
    clear hbr c0 c1 c2 c3 c4 c5
    by_cases hlt : j < l.length
    · obtain ⟨g, o, rfl, hg, y, hy, hv⟩ := HR.out.at_ hlt
      obtain ⟨c0, c1, c2, c3, c4, c5⟩ := hy.below hg hb
      have HM : Hid (l[j] ∈ l) := Lib.hid (List.getElem_mem hlt)
      have hyk : y.k = l[j].k := ((isB_iff _ _ _ _).1 hv).1.1
      have hyl : y.ln = l[j].l.length := ((isB_iff _ _ _ _).1 hv).2.2.1
      have hyr : RowB w w.heap.size y.la l[j].l := ((isB_iff _ _ _ _).1 hv).2.2.2.2
      have hyn : (y.ln : Int) ≤ 4194304 := by
        have := HBK.out _ HM.out
        have := length_le_bulks l[j].l
        have := bulk_ge l[j]
        omega
      have HO := Lib.hid fun w' (hb' : Below w.heap.size w w') => own_any l[j] y w' (Is.below hb' _ _ hv) (HBK.out _ HM.out)
      have HL := Lib.hid fun w' c (hb' : Below w.heap.size w w') => HXX.out l[j] HM.out y.la c w' (RowB.below hyr hb')
      have HY : Hid (declV e l[j] = true → (l.take (j + 1)).all (declV e) = true) := fun e1 => all_take_snoc _ l j hlt hh.out e1
      have HN : Hid (declV e l[j] = false → r = false) := fun e1 => by rw [← HV.out]; exact all_no _ l j hlt e1
      have HQ : Hid (declV e l[j] = (decide (y.k = 23) && (fields (ctch3 l[j]) l[j] && (decide (y.ln ≤ 1) && e l[j])))) := by
        show _ = _
        rw [hyk, hyl]
        rfl
      rw [← hyl] at HL
      have HAT := Lib.hid fun w' (hb' : Below (wr.heap.size + 1) (wr.alloc (.cells y.cells 25)) w') => (at_alloc wr y).below (Nat.lt_succ_self _) hb'
      have HBA : Hid (Below w.heap.size w (wr.alloc (.cells y.cells 25))) := Lib.hid (hb.alloc (by have := hb.size; omega) _)
      have HBS : Hid (w.heap.size ≤ wr.heap.size + 1) := Lib.hid (by have := hb.size; omega)
      have HBL : Hid (∀ w', Below w.heap.size w w' → True) := fun _ _ => trivial
      obtain ⟨yk, ynm, yn, ys, yka, ykn, ykc, yla, yln, ylc⟩ := y
      simp only [X.v, X.cells] at HO HAT HBA HL HQ
      dsimp only at c0 c1 c2 c3 c4 c5 hyn
      generalize declV e l[j] = q at *
      generalize fields (ctch3 l[j]) l[j] = bo at *
      generalize e l[j] = be at *
      clear hv hy hh hyk hyl hyr HBL
      by_cases hk : yk = 23
      rotate_left
      · have hq : (yk == 23) = false := by rw [beq_eq_false_iff_ne]; exact hk
        have hq2 : (yk != 23) = true := bne_iff_ne.2 hk
        have HQR : Hid (r = false) := HN.out (by rw [HQ.out, decide_eq_false hk]; rfl)
        clear hk HQ
        go_wp2_with fail
        go_ret
        exact ⟨by rw [HVV.out, HQR.out]; rfl, HBA.out⟩
      rw [decide_eq_true hk, Bool.true_and] at HQ
      subst hk
      go_wp2_with fail
      refine (HO.out _ HBA.out).mono ?_
      rintro e' w2 ⟨rfl, hb1⟩
      have HB1 := Lib.hid (HBA.out.trans (hb1.mono (by have := HBS.out; simp; omega)))
      obtain ⟨d0, d1, d2, d3, d4, d5⟩ := HAT.out w2 (hb1.mono (by simp))
      dsimp only at d0 d1 d2 d3 d4 d5
      have HB1w : Hid (Below w1.heap.size w1 w2) := (HBRR.out.alloc HBRR.out.size _).trans (hb1.mono (by have := HBRR.out.size; simp; omega))
      clear hb1 c0 c1 c2 c3 c4 c5
      cases bo
      · have HQR : Hid (r = false) := HN.out (by rw [HQ.out]; rfl)
        go_wp2_with fail
        go_ret
        exact ⟨by rw [HVV.out, HQR.out]; rfl, HB1.out⟩
      rw [Bool.true_and] at HQ
      by_cases h1 : yln ≤ 1
      rotate_left
      · have HQR : Hid (r = false) := HN.out (by rw [HQ.out, decide_eq_false h1]; rfl)
        have h1i : (1 : Int) < (yln : Int) := by omega
        go_wp2_with fail
        go_ret
        exact ⟨by rw [HVV.out, HQR.out]; rfl, HB1.out⟩
      rw [decide_eq_true h1, Bool.true_and] at HQ
      have h1i : (yln : Int) ≤ 1 := by omega
      go_wp2_with fail
      refine (HL.out _ _ HB1.out).mono ?_
      rintro e' w3 ⟨rfl, hb2⟩
      have HB2 := Lib.hid (HB1.out.trans (hb2.mono HB1.out.size))
      have HB2w := Lib.hid (HB1w.out.trans (hb2.mono HB1w.out.size))
      clear hb2 d0 d1 d2 d3 d4 d5 hb
      cases be
      · have HQR : Hid (r = false) := HN.out HQ.out
        go_wp2_with fail
        go_ret
        exact ⟨by rw [HVV.out, HQR.out]; rfl, HB2.out⟩
      · have HQR := Lib.hid (HY.out HQ.out)
        go_wp2_with fail
        go_roundw
        case rel => exact ⟨j + 1, by omega, by go_num, HQR, HB2w.out⟩
        case measure => simp [intOf]; omega
    · obtain rfl : j = l.length := by omega
      have HQ : Hid (r = true) := by
        show _ = _
        rw [← HV.out, ← hh.out, List.take_length]
      clear hh
      go_wp2_with fail
      go_ret
      exact ⟨by rw [HVV.out, HQ.out]; rfl, hb⟩
end Go.Proofs.Ytgehgccgologpaa.R
namespace Go.Proofs.Ytgehgccgologpaa.R
open Go.RowKit Go.Proofs.Ytgehgccgologpaa Go.Proofs.Ytgehgccgologpaa.T
/-- where the tail lies -/
def tailA (A : Option Addr) (c : Nat) : Option Addr := if c = 1 then A else A.map (·.add 6)
theorem run_tail (A : Option Addr) (n c : Nat) (hn : 0 < n) (w : World) :
    (Instr.slice 23 (.slice A n c) (some (.int .i64 1)) none none).run Try.prog w = .ok (.slice (tailA A c) (n - 1) (c - 1)) w := by
  obtain ⟨i0, hi0, hz0, hz1, hz2⟩ := info_parts infoNode
  have hu : Try.prog.underlying 23 = some (.slice 25) := by kernel_rfl
  have h1 : (1 : Int) ≤ (n : Int) := by omega
  simp [Instr.slice, Instr.sliceBounds, run_underlying hu, run_sliceBound w .i64 1 n _ (by omega) h1, sizeOf, typeInfo, hi0, hz1, tailA]
theorem row_tail {w : World} {B : Nat} {A : Option Addr} {l : List V} {c : Nat} (h : RowB w B A l) (hc : l.length ≤ c) : RowB w B (tailA A c) l.tail := by
  rcases l with _ | ⟨a, l⟩
  · exact .inl rfl
  rcases l with _ | ⟨b, l⟩
  · exact .inl rfl
  rcases h with h | ⟨g, o, rfl, hg, h⟩
  · cases h
  · refine .inr ⟨g, o + 6, ?_, hg, ?_⟩
    · simp only [List.length_cons] at hc
      unfold tailA
      rw [if_neg (by omega)]
      rfl
    · rw [IsAllB] at h
      exact h.2
end Go.Proofs.Ytgehgccgologpaa.R
namespace Go.Proofs.Ytgehgccgologpaa.R
open Go.RowKit Go.Proofs.Ytgehgccgologpaa Go.Proofs.Ytgehgccgologpaa.T
/-- a call of stmts on what stands behind a case's first child -/
def TellsT (v : V) (b : Bool) : Prop := ∀ (A : Option Addr) (c : Nat) (w : World), Row w A v.l.tail → Calls Try.prog 35 #[.slice A (v.l.length - 1) c, .bool false] w fun e w' => e = .returned (.bool b) ∧ Below w.heap.size w w'
def empV (u : V) : Bool := isK 42 u && (fields (ctch3 u) u && u.l.isEmpty)
def dfV (c : V) : Bool := match c.l with | x :: _ => empV x | [] => false
def hdV (ex : V → Bool) (c : V) : Bool := match c.l with | x :: _ => empV x || ex x | [] => false
def caseV (ex st : V → Bool) (c : V) : Bool := isK 37 c && (fields (ctch3 c) c && (hdV ex c && st c))
theorem head_at {l : List V} (h : ¬ l = []) : ∃ x r, l = x :: r := by
  rcases l with _ | ⟨a, r⟩
  · exact absurd rfl h
  · exact ⟨a, r, rfl⟩
theorem count_snoc (p : V → Bool) (l : List V) (j : Nat) (h : j < l.length) : (l.take (j + 1)).countP p = (l.take j).countP p + if p l[j] = true then 1 else 0 := by
  rw [snoc_get l j h, List.countP_append, List.countP_singleton]
set_option maxRecDepth 20000 in
set_option maxHeartbeats 2000000 in
theorem refCases_of (ex st : V → Bool) (l : List V) (A : Option Addr) (c : Nat) (w : World) (hr : Row w A l) (hll : l.length ≤ 4194304) (hbk : ∀ u ∈ l, u.bulk ≤ 4194304)
    (HE : ∀ u ∈ l, ∀ x ∈ u.l, Tells 79 x (ex x)) (HT : ∀ u ∈ l, TellsT u (st u)) :
    Calls Try.prog 84 #[.slice A l.length c] w fun e w' => e = .returned (.bool (l.all (caseV ex st) && decide (l.countP dfV ≤ 1))) ∧ Below w.heap.size w w' := by
  have HEE := Lib.hid HE
  have HTT := Lib.hid HT
  have HBK := Lib.hid hbk
  have HR := Lib.hid hr
  obtain ⟨r, hr0⟩ : ∃ r, (l.all (caseV ex st) && decide (l.countP dfV ≤ 1)) = r := ⟨_, rfl⟩
  rw [hr0]
  have HV := Lib.hid hr0
  clear HE HT hbk hr hr0
  go_enter Try.func84, Try.ntmps84
  go_wp2_with fail
  go_loopw [3, 8] (fun t i wr => ∃ j m : Nat, j ≤ l.length ∧ m ≤ j ∧ t = .int .i64 m ∧ i = .int .i64 j ∧ Hid ((l.take j).all (caseV ex st) = true ∧ (l.take j).countP dfV = m) ∧ Below w.heap.size w wr)
    (fun _ i _ => l.length - (intOf i).toNat)
  case atStart => exact ⟨0, 0, Nat.zero_le _, Nat.le_refl _, rfl, rfl, Lib.hid ⟨rfl, rfl⟩, Below.refl _ _⟩
  case round =>
    obtain ⟨j, m, hj, hm, rfl, rfl, hh, hb⟩ := hrel
    by_cases hlt : j < l.length
    · obtain ⟨g, o, rfl, hg, y, hy, hv⟩ := HR.out.at_ hlt
      obtain ⟨c0, c1, c2, c3, c4, c5⟩ := hy.below hg hb
      have HM : Hid (l[j] ∈ l) := Lib.hid (List.getElem_mem hlt)
      have HN : Hid (caseV ex st l[j] = false → r = false) := fun e1 => by rw [← HV.out, all_no _ l j hlt e1]; rfl
      have HY : Hid (∀ m', caseV ex st l[j] = true → m' = m + (if dfV l[j] = true then 1 else 0) → (l.take (j + 1)).all (caseV ex st) = true ∧ (l.take (j + 1)).countP dfV = m') := fun m' e1 e2 => ⟨all_take_snoc _ l j hlt hh.out.1 e1, by rw [count_snoc _ l j hlt, hh.out.2, e2]⟩
      have HCV : Hid (caseV ex st l[j] = (isK 37 l[j] && (fields (ctch3 l[j]) l[j] && (hdV ex l[j] && st l[j])))) := Lib.hid rfl
      have HO := Lib.hid fun w' (hb' : Below w.heap.size w w') => own_any l[j] y w' (Is.below hb' _ _ hv) (HBK.out _ HM.out)
      have HTJ := Lib.hid (HTT.out l[j] HM.out)
      have HEJ := Lib.hid (HEE.out l[j] HM.out)
      have HBJ := Lib.hid (HBK.out l[j] HM.out)
      have hbx := Lib.hid fun o => (hb.alloc (B := w.heap.size) (by have := hb.size; omega) o : Below w.heap.size w (wr.alloc o))
      generalize l[j] = u at *
      obtain ⟨yka, ykc, yla, ylc, rfl, -, hlc, -, hrow⟩ := hv.open
      have HRW := Lib.hid hrow
      have HLC := Lib.hid hlc
      have hun : (u.l.length : Int) ≤ 4194304 := by have := HBJ.out; have := length_le_bulks u.l; have := bulk_ge u; omega
      obtain ⟨Wa, hWa⟩ : ∃ Wa, wr.alloc (.cells #[.int .i64 u.k, .string u.nm, .int .i64 u.n, .string u.s, .slice yka u.ks.length ykc, .slice yla u.l.length ylc] 25) = Wa := ⟨_, rfl⟩
      have HBA : Hid (Below w.heap.size w Wa) := by rw [← hWa]; exact hbx.out _
      have HAT : Hid (∀ w', Below Wa.heap.size Wa w' → At w' wr.heap.size 0 ⟨u.k, u.nm, u.n, u.s, yka, u.ks.length, ykc, yla, u.l.length, ylc⟩) := fun w' hb => by
        have h0 : At Wa wr.heap.size 0 ⟨u.k, u.nm, u.n, u.s, yka, u.ks.length, ykc, yla, u.l.length, ylc⟩ := by rw [← hWa]; exact at_row (hp_new rfl) rfl rfl rfl rfl rfl rfl
        exact h0.below (B := Wa.heap.size) (by rw [← hWa]; simp) hb
      have HWa := Lib.hid hWa
      simp only [X.v] at HO
      dsimp only at c0 c1 c2 c3 c4 c5
      clear hv hy hh hrow hlc hWa
      by_cases hk : u.k = 37
      rotate_left
      · have hq : (u.k == 37) = false := by rw [beq_eq_false_iff_ne]; exact hk
        have hq2 : (u.k != 37) = true := bne_iff_ne.2 hk
        have HQR : Hid (r = false) := HN.out (by rw [HCV.out, show isK 37 u = false from decide_eq_false hk]; rfl)
        clear hk HCV HN HY
        go_wp2_with fail
        go_ret
        exact ⟨by rw [HQR.out]; rfl, hbx.out _⟩
      rw [show isK 37 u = true from decide_eq_true hk, Bool.true_and] at HCV
      rw [hk] at HO HAT HWa c0
      clear hk
      go_wp2_with fail
      rw [HWa.out]
      clear HWa hbx c0 c1 c2 c3 c4 c5 hb
      refine (HO.out _ HBA.out).mono ?_
      rintro e' w2 ⟨rfl, hb2⟩
      have HC2 := Lib.hid hb2
      have HB2 := Lib.hid (HBA.out.trans (hb2.mono HBA.out.size))
      clear hb2 HO
      obtain ⟨d0, d1, d2, d3, d4, d5⟩ := HAT.out w2 HC2.out
      dsimp only at d0 d1 d2 d3 d4 d5
      generalize fields (ctch3 u) u = bo at *
      cases bo
      · have HQR : Hid (r = false) := HN.out (by rw [HCV.out]; rfl)
        clear HCV HN HY
        go_wp2_with fail
        go_ret
        exact ⟨by rw [HQR.out]; rfl, HB2.out⟩
      rw [Bool.true_and] at HCV
      by_cases hl : u.l = []
      · have HQR : Hid (r = false) := HN.out (by rw [HCV.out]; unfold hdV; rw [hl]; rfl)
        have hz : u.l.length = 0 := by rw [hl]; rfl
        rw [hz] at d5
        clear HCV HN HY hl hz
        go_wp2_with fail
        go_ret
        exact ⟨by rw [HQR.out]; rfl, HB2.out⟩
      obtain ⟨z, zr, hzl⟩ := head_at hl
      have hzm : z ∈ u.l := by rw [hzl]; exact List.mem_cons_self
      have hpos : 0 < u.l.length := List.length_pos_iff.2 hl
      have hposi : (0 : Int) < (u.l.length : Int) := by omega
      have hzne : ((u.l.length : Int) == 0) = false := by rw [beq_eq_false_iff_ne]; omega
      obtain ⟨g2, o2, hya, hg2, y2, hy2, hv2⟩ := HRW.out.at_ hpos
      have hz : u.l[0] = z := by simp [hzl]
      rw [hz] at hv2
      rw [Nat.zero_mul, Nat.add_zero] at hy2
      have hzb : z.bulk ≤ 4194304 := by have := bulk_le_of_mem hzm; have := bulk_ge u; have := HBJ.out; omega
      have HZ : Hid (∀ w', Below w.heap.size w w' → At w' g2 o2 y2) := fun w' hb => hy2.below hg2 hb
      have HEM : Hid (∀ w', Below w.heap.size w w' → Calls Try.prog 83 #[y2.v] w' fun e w'' => e = .returned (.bool (empV z)) ∧ Below w'.heap.size w' w'') := fun w' hb' => refEmpty_any z hzb y2 w' (Is.below hb' _ _ hv2)
      have HEX := Lib.hid fun w' (hb' : Below w.heap.size w w') => HEJ.out z hzm y2 w' (Is.below hb' _ _ hv2)
      have HST := Lib.hid fun w' c' (hb' : Below w.heap.size w w') => HTJ.out (tailA yla ylc) c' w' (row_tail (RowB.below HRW.out hb') HLC.out)
      have hsl := fun w' => run_tail yla u.l.length ylc hpos w'
      have HH1 : Hid (hdV ex u = (empV z || ex z)) := by show _ = _; unfold hdV; rw [hzl]
      have HH2 : Hid (dfV u = empV z) := by show _ = _; unfold dfV; rw [hzl]
      rw [HH1.out] at HCV
      rw [HH2.out] at HY
      clear HH1 HH2 hzl hl hz hzm hy2 hv2 hzb HEJ HTJ HRW HLC HBJ hg2
      generalize tailA yla ylc = tA at *
      subst hya
      have hmi : (m : Int) ≤ 4194304 := by omega
      generalize empV z = em at *
      generalize ex z = exz at *
      generalize st u = stu at *
      generalize caseV ex st u = q at *
      obtain ⟨zk, znm, zn, zs, zka, zkn, zkc, zla, zln, zlc⟩ := y2
      simp only [X.v] at HEM HEX
      obtain ⟨e0, e1, e2, e3, e4, e5⟩ := HZ.out w2 HB2.out
      dsimp only at e0 e1 e2 e3 e4 e5
      go_wp2_with fail
      refine (HEM.out _ HB2.out).mono ?_
      rintro e' w3 ⟨rfl, hb3⟩
      have HC3 := Lib.hid (HC2.out.trans (hb3.mono HC2.out.size))
      have HB3 := Lib.hid (HBA.out.trans (HC3.out.mono HBA.out.size))
      clear hb3 d0 d1 d2 d3 d4 d5 e0 e1 e2 e3 e4 e5
      obtain ⟨d0, d1, d2, d3, d4, d5⟩ := HAT.out w3 HC3.out
      obtain ⟨e0, e1, e2, e3, e4, e5⟩ := HZ.out w3 HB3.out
      dsimp only at d0 d1 d2 d3 d4 d5 e0 e1 e2 e3 e4 e5
      cases em
      · go_wp2_with fail
        refine (HEX.out _ HB3.out).mono ?_
        rintro e' w4 ⟨rfl, hb4⟩
        have HC4 := Lib.hid (HC3.out.trans (hb4.mono HC3.out.size))
        have HB4 := Lib.hid (HBA.out.trans (HC4.out.mono HBA.out.size))
        clear hb4 d0 d1 d2 d3 d4 d5 e0 e1 e2 e3 e4 e5
        obtain ⟨d0, d1, d2, d3, d4, d5⟩ := HAT.out w4 HC4.out
        obtain ⟨e0, e1, e2, e3, e4, e5⟩ := HZ.out w4 HB4.out
        dsimp only at d0 d1 d2 d3 d4 d5 e0 e1 e2 e3 e4 e5
        cases exz
        · clear HST HEX HEM
          have HQR : Hid (r = false) := HN.out (by rw [HCV.out]; rfl)
          clear HCV HN HY
          go_wp2_with fail
          go_ret
          exact ⟨by rw [HQR.out]; rfl, HB4.out⟩
        go_wp2_with fail
        refine (HST.out _ _ HB4.out).mono ?_
        rintro e' w5 ⟨rfl, hb5⟩
        have HC5 := Lib.hid (HC4.out.trans (hb5.mono HC4.out.size))
        have HB5 := Lib.hid (HBA.out.trans (HC5.out.mono HBA.out.size))
        clear hb5 d0 d1 d2 d3 d4 d5 e0 e1 e2 e3 e4 e5
        obtain ⟨d0, d1, d2, d3, d4, d5⟩ := HAT.out w5 HC5.out
        obtain ⟨e0, e1, e2, e3, e4, e5⟩ := HZ.out w5 HB5.out
        dsimp only at d0 d1 d2 d3 d4 d5 e0 e1 e2 e3 e4 e5
        cases stu
        · clear HST HEM
          have HQR : Hid (r = false) := HN.out (by rw [HCV.out]; rfl)
          clear HCV HN HY
          go_wp2_with fail
          go_ret
          exact ⟨by rw [HQR.out]; rfl, HB5.out⟩
        have HQR := Lib.hid (HY.out (m + 0) (by rw [HCV.out]; rfl) rfl)
        clear HCV HN HY
        go_wp2_with fail
        refine (HEM.out _ HB5.out).mono ?_
        rintro e' w6 ⟨rfl, hb6⟩
        have HC6 := Lib.hid (HC5.out.trans (hb6.mono HC5.out.size))
        have HB6 := Lib.hid (HBA.out.trans (HC6.out.mono HBA.out.size))
        clear hb6 d0 d1 d2 d3 d4 d5 e0 e1 e2 e3 e4 e5
        obtain ⟨d0, d1, d2, d3, d4, d5⟩ := HAT.out w6 HC6.out
        obtain ⟨e0, e1, e2, e3, e4, e5⟩ := HZ.out w6 HB6.out
        dsimp only at d0 d1 d2 d3 d4 d5 e0 e1 e2 e3 e4 e5
        go_wp2_with fail
        go_roundw
        case rel => exact ⟨j + 1, m, by omega, by omega, rfl, by go_num, HQR, HB6.out⟩
        case measure => simp [intOf]; omega
      · clear HEX
        go_wp2_with fail
        refine (HST.out _ _ HB3.out).mono ?_
        rintro e' w5 ⟨rfl, hb5⟩
        have HC5 := Lib.hid (HC3.out.trans (hb5.mono HC3.out.size))
        have HB5 := Lib.hid (HBA.out.trans (HC5.out.mono HBA.out.size))
        clear hb5 d0 d1 d2 d3 d4 d5 e0 e1 e2 e3 e4 e5
        obtain ⟨d0, d1, d2, d3, d4, d5⟩ := HAT.out w5 HC5.out
        obtain ⟨e0, e1, e2, e3, e4, e5⟩ := HZ.out w5 HB5.out
        dsimp only at d0 d1 d2 d3 d4 d5 e0 e1 e2 e3 e4 e5
        cases stu
        · clear HST HEM
          have HQR : Hid (r = false) := HN.out (by rw [HCV.out]; rfl)
          clear HCV HN HY
          go_wp2_with fail
          go_ret
          exact ⟨by rw [HQR.out]; rfl, HB5.out⟩
        have HQR := Lib.hid (HY.out (m + 1) (by rw [HCV.out]; rfl) rfl)
        clear HCV HN HY
        go_wp2_with fail
        refine (HEM.out _ HB5.out).mono ?_
        rintro e' w6 ⟨rfl, hb6⟩
        have HC6 := Lib.hid (HC5.out.trans (hb6.mono HC5.out.size))
        have HB6 := Lib.hid (HBA.out.trans (HC6.out.mono HBA.out.size))
        clear hb6 d0 d1 d2 d3 d4 d5 e0 e1 e2 e3 e4 e5
        obtain ⟨d0, d1, d2, d3, d4, d5⟩ := HAT.out w6 HC6.out
        obtain ⟨e0, e1, e2, e3, e4, e5⟩ := HZ.out w6 HB6.out
        dsimp only at d0 d1 d2 d3 d4 d5 e0 e1 e2 e3 e4 e5
        go_wp2_with fail
        go_roundw
        case rel => exact ⟨j + 1, m + 1, by omega, by omega, by go_num, by go_num, HQR, HB6.out⟩
        case measure => simp [intOf]; omega
    · obtain rfl : j = l.length := by omega
      have HQ : Hid (r = decide (m ≤ 1)) := by
        show _ = _
        have h1 := hh.out
        rw [List.take_length] at h1
        rw [← HV.out, h1.1, h1.2]
        rfl
      have HM : Hid (decide (m ≤ 1) = decide ((m : Int) ≤ 1)) := by
        show _ = _
        rw [Bool.eq_iff_iff, decide_eq_true_eq, decide_eq_true_eq]
        omega
      clear hh
      go_wp2_with fail
      go_ret
      exact ⟨by rw [HQ.out, HM.out]; rfl, hb⟩
end Go.Proofs.Ytgehgccgologpaa.R
namespace Go.Proofs.Ytgehgccgologpaa.R
open Go.RowKit Go.Proofs.Ytgehgccgologpaa Go.Proofs.Ytgehgccgologpaa.T
/-- a child of a node's row, in every later world -/
theorem kid_at {w : World} {A : Option Addr} {l : List V} (h : Row w A l) (i : Nat) (hi : i < l.length) : ∃ g o y, A = some ⟨g, o, none⟩ ∧ g < w.heap.size ∧ ∀ w', Below w.heap.size w w' → At w' g (o + i * 6) y ∧ Is w' l[i] y := by
  obtain ⟨g, o, e, hg, y, hy, hv⟩ := h.at_ hi
  exact ⟨g, o, y, e, hg, fun w' hb => ⟨hy.below hg hb, Is.below hb _ _ hv⟩⟩
set_option maxRecDepth 8000 in
set_option maxHeartbeats 1000000 in
theorem loop_27 (v a b : V) (p q : Bool) (hk : v.k = 27) (hl : v.l = [a, b]) (H1 : Tells 79 a p) (H2 : Tells 80 b q) : Tells 81 v (p && q) := by
  intro x w h
  obtain ⟨xka, xkc, xla, xlc, rfl, -, -, -, hrow⟩ := h.open
  obtain ⟨W0, hW0⟩ : ∃ W0, w.alloc (.cells #[.int .i64 v.k, .string v.nm, .int .i64 v.n, .string v.s, .slice xka v.ks.length xkc, .slice xla v.l.length xlc] 25) = W0 := ⟨_, rfl⟩
  have HB0 : Hid (Below w.heap.size w W0) := by rw [← hW0]; exact below_alloc _ _
  have HBX := Lib.hid (below_alloc w)
  have HW0 := Lib.hid hW0
  obtain ⟨g, o, y, rfl, hg, hy⟩ := kid_at hrow 0 (by rw [hl]; simp)
  obtain ⟨g', o', z, e, -, hz⟩ := kid_at hrow 1 (by rw [hl]; simp)
  injection e with e
  injection e with e1 e2
  subst e1 e2
  have ea : v.l[0]'(by rw [hl]; simp) = a := by simp [hl]
  have eb : v.l[1]'(by rw [hl]; simp) = b := by simp [hl]
  have hlen : v.l.length = 2 := by rw [hl]; rfl
  have HY : Hid (∀ w', Below w.heap.size w w' → At w' g o y) := fun w' hb => by have := (hy w' hb).1; rwa [Nat.zero_mul, Nat.add_zero] at this
  have HZ : Hid (∀ w', Below w.heap.size w w' → At w' g (o + 6) z) := fun w' hb => by have := (hz w' hb).1; rwa [Nat.one_mul] at this
  have HP : Hid (∀ w', Below w.heap.size w w' → Calls Try.prog 79 #[y.v] w' fun e w'' => e = .returned (.bool p) ∧ Below w'.heap.size w' w'') := fun w' hb => H1 y w' (by have := (hy w' hb).2; rwa [ea] at this)
  have HQ : Hid (∀ w', Below w.heap.size w w' → Calls Try.prog 80 #[z.v] w' fun e w'' => e = .returned (.bool q) ∧ Below w'.heap.size w' w'') := fun w' hb => H2 z w' (by have := (hz w' hb).2; rwa [eb] at this)
  simp only [X.v] at HP HQ ⊢
  rw [hk, hlen] at HW0 ⊢
  clear h hrow hW0 hk hlen ea eb hy hz hl H1 H2 hg
  obtain ⟨yk, ynm, yn, ys, yka, ykn, ykc, yla, yln, ylc⟩ := y
  obtain ⟨zk, znm, zn, zs, zka, zkn, zkc, zla, zln, zlc⟩ := z
  have HY0 := HY.out _ (HBX.out (.cells #[.int .i64 27, .string v.nm, .int .i64 v.n, .string v.s, .slice xka v.ks.length xkc, .slice (some ⟨g, o, none⟩) 2 xlc] 25))
  obtain ⟨c0, c1, c2, c3, c4, c5⟩ := HY0
  dsimp only at c0 c1 c2 c3 c4 c5
  go_enter Try.func81, Try.ntmps81
  go_wp2_with fail
  clear c0 c1 c2 c3 c4 c5
  rw [HW0.out]
  refine (HP.out _ HB0.out).mono ?_
  rintro e w1 ⟨rfl, hb1⟩
  have HB1 := Lib.hid (HB0.out.trans (hb1.mono HB0.out.size))
  clear hb1
  cases p
  · go_wp2_with fail
    go_ret
    exact ⟨rfl, HB1.out⟩
  · obtain ⟨c0, c1, c2, c3, c4, c5⟩ := HZ.out _ HB1.out
    dsimp only at c0 c1 c2 c3 c4 c5
    go_wp2_with fail
    refine (HQ.out _ HB1.out).mono ?_
    rintro e w2 ⟨rfl, hb2⟩
    have HB2 := Lib.hid (HB1.out.trans (hb2.mono HB1.out.size))
    clear hb2
    go_wp2_with fail
    go_ret
    exact ⟨rfl, HB2.out⟩
set_option maxRecDepth 8000 in
set_option maxHeartbeats 1000000 in
theorem loop_27n (v : V) (hk : v.k = 27) (hl : ¬ v.l.length = 2) : Tells 81 v false := by
  intro x w h
  obtain ⟨xka, xkc, xla, xlc, rfl, -, -, -, -⟩ := h.open
  have HBX := Lib.hid (below_alloc w)
  have hq : ((v.l.length : Int) == 2) = false := by rw [beq_eq_false_iff_ne]; omega
  simp only [X.v]
  rw [hk]
  clear h hk hl
  generalize v.l.length = ln at *
  generalize v.ks.length = kn at *
  go_enter Try.func81, Try.ntmps81
  go_wp2_with fail
  go_ret
  exact ⟨rfl, HBX.out _⟩
set_option maxRecDepth 8000 in
set_option maxHeartbeats 1000000 in
theorem loop_28 (v a b : V) (p q : Bool) (hk : v.k = 28) (hl : v.l = [a, b]) (H1 : Tells 80 a p) (H2 : Tells 79 b q) : Tells 81 v (p && q) := by
  intro x w h
  obtain ⟨xka, xkc, xla, xlc, rfl, -, -, -, hrow⟩ := h.open
  obtain ⟨W0, hW0⟩ : ∃ W0, w.alloc (.cells #[.int .i64 v.k, .string v.nm, .int .i64 v.n, .string v.s, .slice xka v.ks.length xkc, .slice xla v.l.length xlc] 25) = W0 := ⟨_, rfl⟩
  have HB0 : Hid (Below w.heap.size w W0) := by rw [← hW0]; exact below_alloc _ _
  have HBX := Lib.hid (below_alloc w)
  have HW0 := Lib.hid hW0
  obtain ⟨g, o, y, rfl, hg, hy⟩ := kid_at hrow 0 (by rw [hl]; simp)
  obtain ⟨g', o', z, e, -, hz⟩ := kid_at hrow 1 (by rw [hl]; simp)
  injection e with e
  injection e with e1 e2
  subst e1 e2
  have ea : v.l[0]'(by rw [hl]; simp) = a := by simp [hl]
  have eb : v.l[1]'(by rw [hl]; simp) = b := by simp [hl]
  have hlen : v.l.length = 2 := by rw [hl]; rfl
  have HY : Hid (∀ w', Below w.heap.size w w' → At w' g o y) := fun w' hb => by have := (hy w' hb).1; rwa [Nat.zero_mul, Nat.add_zero] at this
  have HZ : Hid (∀ w', Below w.heap.size w w' → At w' g (o + 6) z) := fun w' hb => by have := (hz w' hb).1; rwa [Nat.one_mul] at this
  have HP : Hid (∀ w', Below w.heap.size w w' → Calls Try.prog 80 #[y.v] w' fun e w'' => e = .returned (.bool p) ∧ Below w'.heap.size w' w'') := fun w' hb => H1 y w' (by have := (hy w' hb).2; rwa [ea] at this)
  have HQ : Hid (∀ w', Below w.heap.size w w' → Calls Try.prog 79 #[z.v] w' fun e w'' => e = .returned (.bool q) ∧ Below w'.heap.size w' w'') := fun w' hb => H2 z w' (by have := (hz w' hb).2; rwa [eb] at this)
  simp only [X.v] at HP HQ ⊢
  rw [hk, hlen] at HW0 ⊢
  clear h hrow hW0 hk hlen ea eb hy hz hl H1 H2 hg
  obtain ⟨yk, ynm, yn, ys, yka, ykn, ykc, yla, yln, ylc⟩ := y
  obtain ⟨zk, znm, zn, zs, zka, zkn, zkc, zla, zln, zlc⟩ := z
  have HY0 := HY.out _ (HBX.out (.cells #[.int .i64 28, .string v.nm, .int .i64 v.n, .string v.s, .slice xka v.ks.length xkc, .slice (some ⟨g, o, none⟩) 2 xlc] 25))
  obtain ⟨c0, c1, c2, c3, c4, c5⟩ := HY0
  dsimp only at c0 c1 c2 c3 c4 c5
  go_enter Try.func81, Try.ntmps81
  go_wp2_with fail
  clear c0 c1 c2 c3 c4 c5
  rw [HW0.out]
  refine (HP.out _ HB0.out).mono ?_
  rintro e w1 ⟨rfl, hb1⟩
  have HB1 := Lib.hid (HB0.out.trans (hb1.mono HB0.out.size))
  clear hb1
  cases p
  · go_wp2_with fail
    go_ret
    exact ⟨rfl, HB1.out⟩
  · obtain ⟨c0, c1, c2, c3, c4, c5⟩ := HZ.out _ HB1.out
    dsimp only at c0 c1 c2 c3 c4 c5
    go_wp2_with fail
    refine (HQ.out _ HB1.out).mono ?_
    rintro e w2 ⟨rfl, hb2⟩
    have HB2 := Lib.hid (HB1.out.trans (hb2.mono HB1.out.size))
    clear hb2
    go_wp2_with fail
    go_ret
    exact ⟨rfl, HB2.out⟩
set_option maxRecDepth 8000 in
set_option maxHeartbeats 1000000 in
theorem loop_28n (v : V) (hk : v.k = 28) (hl : ¬ v.l.length = 2) : Tells 81 v false := by
  intro x w h
  obtain ⟨xka, xkc, xla, xlc, rfl, -, -, -, -⟩ := h.open
  have HBX := Lib.hid (below_alloc w)
  have hq : ((v.l.length : Int) == 2) = false := by rw [beq_eq_false_iff_ne]; omega
  simp only [X.v]
  rw [hk]
  clear h hk hl
  generalize v.l.length = ln at *
  generalize v.ks.length = kn at *
  go_enter Try.func81, Try.ntmps81
  go_wp2_with fail
  go_ret
  exact ⟨rfl, HBX.out _⟩
end Go.Proofs.Ytgehgccgologpaa.R
