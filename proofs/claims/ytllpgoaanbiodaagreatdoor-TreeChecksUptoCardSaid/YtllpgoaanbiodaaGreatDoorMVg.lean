/-
  The reference's exprs and empty, given what an expression answers.
  The reference's stmts, given what a statement answers; empty.
  The reference's empty and block.
  The reference's decls, given what exprs answers of a declaration's children.
-/
import Derived.Test.YtllpgoaanbiodaaGreatDoorMVc
namespace Go.Proofs.YtllpgoaanbiodaaGreatDoor.R
open Go.RowKit Go.Proofs.YtllpgoaanbiodaaGreatDoor Go.Proofs.YtllpgoaanbiodaaGreatDoor.T
/-- a function of one node that answers so of v -/
def Tells (f : Nat) (v : V) (b : Bool) : Prop := ∀ (x : X) (w : World), Is w v x → Calls Tryz.prog f #[x.v] w fun e w' => e = .returned (.bool b) ∧ Below w.heap.size w w'
theorem all_take_snoc (p : V → Bool) (l : List V) (j : Nat) (h : j < l.length) (h1 : (l.take j).all p = true) (h2 : p l[j] = true) : (l.take (j + 1)).all p = true := by
  rw [snoc_get l j h, List.all_append, h1]
  simpa using h2
theorem all_no (p : V → Bool) (l : List V) (j : Nat) (h : j < l.length) (h2 : p l[j] = false) : l.all p = false := by
  rw [Bool.eq_false_iff]
  intro e
  rw [List.all_eq_true.1 e _ (List.getElem_mem h)] at h2
  cases h2
set_option maxRecDepth 8000 in
set_option maxHeartbeats 1000000 in
theorem refExprs_of (p : V → Bool) (l : List V) (A : Option Addr) (c : Nat) (w : World) (hr : Row w A l) (hll : l.length ≤ 4194304) (H : ∀ u ∈ l, Tells 74 u (p u)) :
    Calls Tryz.prog 77 #[.slice A l.length c] w fun e w' => e = .returned (.bool (l.all p)) ∧ Below w.heap.size w w' := by
  have HH := Lib.hid H
  have HR := Lib.hid hr
  obtain ⟨r, hr0⟩ : ∃ r, l.all p = r := ⟨_, rfl⟩
  rw [hr0]
  have HV := Lib.hid hr0
  clear H hr hr0
  go_enter Tryz.func77, Tryz.ntmps77
  go_wp2_with fail
  go_loopw [7] (fun i wr => ∃ j : Nat, j ≤ l.length ∧ i = .int .i64 j ∧ Hid ((l.take j).all p = true) ∧ Below w.heap.size w wr)
    (fun i _ => l.length - (intOf i).toNat)
  case atStart => exact ⟨0, Nat.zero_le _, rfl, Lib.hid rfl, Below.refl _ _⟩
  case round =>
    obtain ⟨j, hj, rfl, hh, hb⟩ := hrel
    by_cases hlt : j < l.length
    · obtain ⟨g, o, rfl, hg, y, hy, hv⟩ := HR.out.at_ hlt
      obtain ⟨c0, c1, c2, c3, c4, c5⟩ := hy.below hg hb
      have hq := Lib.hid fun w' (hb' : Below w.heap.size w w') => HH.out l[j] (List.getElem_mem hlt) y w' (Is.below hb' _ _ hv)
      have HY : Hid (p l[j] = true → (l.take (j + 1)).all p = true) := fun e => all_take_snoc p l j hlt hh.out e
      have HN : Hid (p l[j] = false → r = false) := fun e => by rw [← HV.out]; exact all_no p l j hlt e
      obtain ⟨yk, ynm, yn, ys, yka, ykn, ykc, yla, yln, ylc⟩ := y
      simp only [X.v] at hq
      dsimp only at c0 c1 c2 c3 c4 c5
      generalize p l[j] = q at *
      clear hv hy hh
      go_wp2_with fail
      refine (hq.out _ (hb.alloc (by have := hb.size; omega) _)).mono ?_
      rintro e w1 ⟨rfl, hb1⟩
      have HB2 := Lib.hid ((hb.alloc (B := w.heap.size) (by have := hb.size; omega) (.cells #[.int .i64 yk, .string ynm, .int .i64 yn, .string ys, .slice yka ykn ykc, .slice yla yln ylc] 25)).trans (hb1.mono (by have := hb.size; simp; omega)))
      clear c0 c1 c2 c3 c4 c5 hb1 hb
      cases q
      · have HQ := Lib.hid (HN.out rfl)
        clear HN HY
        go_wp2_with fail
        go_ret
        exact ⟨by rw [HQ.out]; rfl, HB2.out⟩
      · have HQ := Lib.hid (HY.out rfl)
        clear HN HY
        go_wp2_with fail
        go_roundw
        case rel => exact ⟨j + 1, by omega, by go_num, HQ, HB2.out⟩
        case measure => simp [intOf]; omega
    · obtain rfl : j = l.length := by omega
      have HQ : Hid (r = true) := by
        show _ = _
        rw [← HV.out, ← hh.out, List.take_length]
      clear hh
      go_wp2_with fail
      go_ret
      exact ⟨by rw [HQ.out]; rfl, hb⟩
end Go.Proofs.YtllpgoaanbiodaaGreatDoor.R
namespace Go.Proofs.YtllpgoaanbiodaaGreatDoor.R
open Go.RowKit Go.Proofs.YtllpgoaanbiodaaGreatDoor Go.Proofs.YtllpgoaanbiodaaGreatDoor.T
/-- a call of stmts on a node's children -/
def TellsL (v : V) (b : Bool) : Prop := ∀ (A : Option Addr) (c : Nat) (w : World), Row w A v.l → Calls Tryz.prog 29 #[.slice A v.l.length c, .bool true] w fun e w' => e = .returned (.bool b) ∧ Below w.heap.size w w'
theorem at_alloc (w : World) (y : X) : At (w.alloc (.cells y.cells 25)) w.heap.size 0 y := at_row (hp_new rfl) rfl rfl rfl rfl rfl rfl
set_option maxRecDepth 8000 in
set_option maxHeartbeats 2000000 in
theorem refStmts_of (f : Bool) (s t p : V → Bool) (l : List V) (A : Option Addr) (c : Nat) (w : World) (hr : Row w A l) (hll : l.length ≤ 4194304) (hbk : ∀ u ∈ l, u.bulk ≤ 4194304)
    (HS : ∀ u ∈ l, u.k = 39 → TellsL u (s u)) (HT : ∀ u ∈ l, ¬ u.k = 39 → Tells 42 u (t u))
    (hp1 : ∀ u ∈ l, u.k = 39 → p u = (f && (fields (ctch3 u) u && s u))) (hp2 : ∀ u ∈ l, ¬ u.k = 39 → p u = t u) :
    Calls Tryz.prog 29 #[.slice A l.length c, .bool f] w fun e w' => e = .returned (.bool (l.all p)) ∧ Below w.heap.size w w' := by
  have HSS := Lib.hid HS
  have HTT := Lib.hid HT
  have HP1 := Lib.hid hp1
  have HP2 := Lib.hid hp2
  have HBK := Lib.hid hbk
  have HR := Lib.hid hr
  obtain ⟨r, hr0⟩ : ∃ r, l.all p = r := ⟨_, rfl⟩
  rw [hr0]
  have HV := Lib.hid hr0
  clear HS HT hp1 hp2 hbk hr hr0
  go_enter Tryz.func29, Tryz.ntmps29
  go_wp2_with fail
  go_loopw [9] (fun i wr => ∃ j : Nat, j ≤ l.length ∧ i = .int .i64 j ∧ Hid ((l.take j).all p = true) ∧ Below w.heap.size w wr)
    (fun i _ => l.length - (intOf i).toNat)
  case atStart => exact ⟨0, Nat.zero_le _, rfl, Lib.hid rfl, Below.refl _ _⟩
  case round =>
    obtain ⟨j, hj, rfl, hh, hb⟩ := hrel
    by_cases hlt : j < l.length
    · obtain ⟨g, o, rfl, hg, y, hy, hv⟩ := HR.out.at_ hlt
      obtain ⟨c0, c1, c2, c3, c4, c5⟩ := hy.below hg hb
      have HM : Hid (l[j] ∈ l) := Lib.hid (List.getElem_mem hlt)
      have hyk : y.k = l[j].k := ((isB_iff _ _ _ _).1 hv).1.1
      have hyl : y.ln = l[j].l.length := ((isB_iff _ _ _ _).1 hv).2.2.1
      have hyr : RowB w w.heap.size y.la l[j].l := ((isB_iff _ _ _ _).1 hv).2.2.2.2
      have HI := Lib.hid fun w' (hb' : Below w.heap.size w w') => (Is.below hb' _ _ hv : Is w' l[j] y)
      have HO := Lib.hid fun w' (hb' : Below w.heap.size w w') => own_any l[j] y w' (Is.below hb' _ _ hv) (HBK.out _ HM.out)
      have HL := Lib.hid fun (e : l[j].k = 39) w' c (hb' : Below w.heap.size w w') => HSS.out l[j] HM.out e y.la c w' (RowB.below hyr hb')
      have HY : Hid (p l[j] = true → (l.take (j + 1)).all p = true) := fun e => all_take_snoc p l j hlt hh.out e
      have HN : Hid (p l[j] = false → r = false) := fun e => by rw [← HV.out]; exact all_no p l j hlt e
      have HQ1 := Lib.hid (HP1.out l[j] HM.out)
      have HQ2 := Lib.hid (HP2.out l[j] HM.out)
      have HTJ := Lib.hid (HTT.out l[j] HM.out)
      rw [← hyl] at HL
      rw [← hyk] at HL HQ1 HQ2 HTJ
      have HAT := Lib.hid fun w' (hb' : Below (wr.heap.size + 1) (wr.alloc (.cells y.cells 25)) w') => (at_alloc wr y).below (Nat.lt_succ_self _) hb'
      have HBA : Hid (Below w.heap.size w (wr.alloc (.cells y.cells 25))) := Lib.hid (hb.alloc (by have := hb.size; omega) _)
      have HBS : Hid (w.heap.size ≤ wr.heap.size + 1) := Lib.hid (by have := hb.size; omega)
      obtain ⟨yk, ynm, yn, ys, yka, ykn, ykc, yla, yln, ylc⟩ := y
      simp only [X.v, X.cells] at HO HAT HBA HL HQ1 HQ2 HTJ
      dsimp only at c0 c1 c2 c3 c4 c5
      generalize p l[j] = q at *
      generalize fields (ctch3 l[j]) l[j] = bo at *
      generalize s l[j] = bs at *
      generalize t l[j] = bt at *
      clear hv hy hh hyk hyl hyr
      by_cases hk : yk = 39
      · have HQ := Lib.hid (HQ1.out hk)
        have HLL := Lib.hid (HL.out hk)
        clear HQ1 HQ2 HL HTJ
        subst hk
        cases f
        · have HQR : Hid (r = false) := HN.out (by rw [HQ.out]; rfl)
          go_wp2_with fail
          go_ret
          exact ⟨by rw [HQR.out]; rfl, HBA.out⟩
        · cases bo
          · have HQR : Hid (r = false) := HN.out (by rw [HQ.out]; rfl)
            go_wp2_with fail
            refine (HO.out _ HBA.out).mono ?_
            rintro e w1 ⟨rfl, hb1⟩
            have HB1 := Lib.hid (HBA.out.trans (hb1.mono (by have := HBS.out; simp; omega)))
            clear hb1
            go_wp2_with fail
            go_ret
            exact ⟨by rw [HQR.out]; rfl, HB1.out⟩
          · go_wp2_with fail
            refine (HO.out _ HBA.out).mono ?_
            rintro e w1 ⟨rfl, hb1⟩
            have HB1 := Lib.hid (HBA.out.trans (hb1.mono (by have := HBS.out; simp; omega)))
            obtain ⟨d0, d1, d2, d3, d4, d5⟩ := HAT.out w1 (hb1.mono (by simp))
            dsimp only at d0 d1 d2 d3 d4 d5
            clear hb1 c0 c1 c2 c3 c4 c5
            go_wp2_with fail
            refine (HLL.out _ _ HB1.out).mono ?_
            rintro e w2 ⟨rfl, hb2⟩
            have HB2 := Lib.hid (HB1.out.trans (hb2.mono HB1.out.size))
            clear hb2 d0 d1 d2 d3 d4 d5 hb
            cases bs
            · have HQR : Hid (r = false) := HN.out (by rw [HQ.out]; rfl)
              go_wp2_with fail
              go_ret
              exact ⟨by rw [HQR.out]; rfl, HB2.out⟩
            · have HQR := Lib.hid (HY.out (by rw [HQ.out]; rfl))
              go_wp2_with fail
              go_roundw
              case rel => exact ⟨j + 1, by omega, by go_num, HQR, HB2.out⟩
              case measure => simp [intOf]; omega
      · have HQ := Lib.hid (HQ2.out hk)
        have hq := Lib.hid fun w' (hb' : Below w.heap.size w w') => HTJ.out hk _ w' (HI.out w' hb')
        have hkb : (yk == 39) = false := by rw [beq_eq_false_iff_ne]; exact hk
        simp only [X.v] at hq
        clear HQ1 HQ2 HL HTJ hk
        go_wp2_with fail
        refine (hq.out _ HBA.out).mono ?_
        rintro e w1 ⟨rfl, hb1⟩
        have HB2 := Lib.hid (HBA.out.trans (hb1.mono (by have := HBS.out; simp; omega)))
        clear c0 c1 c2 c3 c4 c5 hb1 hb
        cases bt
        · have HQR := Lib.hid (HN.out HQ.out)
          clear HN HY
          go_wp2_with fail
          go_ret
          exact ⟨by rw [HQR.out]; rfl, HB2.out⟩
        · have HQR := Lib.hid (HY.out HQ.out)
          clear HN HY
          go_wp2_with fail
          go_roundw
          case rel => exact ⟨j + 1, by omega, by go_num, HQR, HB2.out⟩
          case measure => simp [intOf]; omega
    · obtain rfl : j = l.length := by omega
      have HQ : Hid (r = true) := by
        show _ = _
        rw [← HV.out, ← hh.out, List.take_length]
      clear hh
      go_wp2_with fail
      go_ret
      exact ⟨by rw [HQ.out]; rfl, hb⟩
end Go.Proofs.YtllpgoaanbiodaaGreatDoor.R
namespace Go.Proofs.YtllpgoaanbiodaaGreatDoor.R
open Go.RowKit Go.Proofs.YtllpgoaanbiodaaGreatDoor Go.Proofs.YtllpgoaanbiodaaGreatDoor.T
def TellsF (v : V) (b : Bool) : Prop := ∀ (A : Option Addr) (c : Nat) (w : World), Row w A v.l → Calls Tryz.prog 29 #[.slice A v.l.length c, .bool false] w fun e w' => e = .returned (.bool b) ∧ Below w.heap.size w w'
set_option maxRecDepth 8000 in
set_option maxHeartbeats 1000000 in
theorem refEmpty_any (v : V) (hb : v.bulk ≤ 4194304) : Tells 78 v (isK 42 v && (fields (ctch3 v) v && v.l.isEmpty)) := by
  intro x w h
  have HO := Lib.hid fun w' (hb' : Below w.heap.size w w') => own_any v x w' (Is.below hb' _ _ h) hb
  have hll : (v.l.length : Int) ≤ 4194304 := by have := length_le_bulks v.l; have := bulk_ge v; omega
  have HE : Hid (v.l.isEmpty = ((v.l.length : Int) == 0)) := Lib.hid (by
    cases v.l
    · rfl
    · rename_i a r
      show false = _
      symm
      rw [beq_eq_false_iff_ne, List.length_cons]
      omega)
  obtain ⟨xka, xkc, xla, xlc, rfl, -, -, -, -⟩ := h.open
  obtain ⟨W0, hW0⟩ : ∃ W0, w.alloc (.cells #[.int .i64 v.k, .string v.nm, .int .i64 v.n, .string v.s, .slice xka v.ks.length xkc, .slice xla v.l.length xlc] 25) = W0 := ⟨_, rfl⟩
  have HB0 : Hid (Below w.heap.size w W0) := by rw [← hW0]; exact below_alloc _ _
  have HF : Hid (∀ w', Below W0.heap.size W0 w' → At w' w.heap.size 0 ⟨v.k, v.nm, v.n, v.s, xka, v.ks.length, xkc, xla, v.l.length, xlc⟩) := fun w' hb => by
    have h0 : At W0 w.heap.size 0 ⟨v.k, v.nm, v.n, v.s, xka, v.ks.length, xkc, xla, v.l.length, xlc⟩ := by rw [← hW0]; exact at_row (hp_new rfl) rfl rfl rfl rfl rfl rfl
    exact h0.below (B := W0.heap.size) (by rw [← hW0]; simp) hb
  have HBX := Lib.hid (below_alloc w)
  have HW0 := Lib.hid hW0
  have HK : Hid (isK 42 v = decide (v.k = 42)) := Lib.hid rfl
  rw [HK.out]
  simp only [X.v] at HO ⊢
  clear h hb hW0
  rw [HE.out]
  clear HE HK
  generalize fields (ctch3 v) v = bo at *
  generalize v.nm = nm at *
  generalize v.n = n at *
  generalize v.s = s at *
  generalize v.ks.length = kn at *
  generalize v.l.length = ln at *
  generalize v.k = k at *
  by_cases hk : k = 42
  · rw [decide_eq_true hk, Bool.true_and]
    subst hk
    go_enter Tryz.func78, Tryz.ntmps78
    go_wp2_with fail
    rw [HW0.out]
    clear HW0
    refine (HO.out _ HB0.out).mono ?_
    rintro e w1 ⟨rfl, hb1⟩
    obtain ⟨c0, c1, c2, c3, c4, c5⟩ := HF.out _ hb1
    dsimp only at c0 c1 c2 c3 c4 c5
    have HBW := Lib.hid (HB0.out.trans (hb1.mono HB0.out.size))
    clear hb1
    cases bo
    · go_wp2_with fail
      go_ret
      exact ⟨rfl, HBW.out⟩
    · go_wp2_with fail
      go_ret
      exact ⟨rfl, HBW.out⟩
  · rw [decide_eq_false hk, Bool.false_and]
    have hq : (k == 42) = false := by rw [beq_eq_false_iff_ne]; exact hk
    clear hk
    go_enter Tryz.func78, Tryz.ntmps78
    go_wp2_with fail
    go_ret
    exact ⟨rfl, HBX.out _⟩
set_option maxRecDepth 8000 in
set_option maxHeartbeats 1000000 in
theorem refBlock_of (v : V) (bs : Bool) (hb : v.bulk ≤ 4194304) (H : v.k = 25 → TellsF v bs) : Tells 75 v (isK 25 v && (fields (ctch3 v) v && bs)) := by
  intro x w h
  have HO := Lib.hid fun w' (hb' : Below w.heap.size w w') => own_any v x w' (Is.below hb' _ _ h) hb
  obtain ⟨xka, xkc, xla, xlc, rfl, -, -, -, hrow⟩ := h.open
  have HS := Lib.hid fun (e : v.k = 25) w' (hb' : Below w.heap.size w w') => H e xla xlc w' (RowB.below hrow hb')
  obtain ⟨W0, hW0⟩ : ∃ W0, w.alloc (.cells #[.int .i64 v.k, .string v.nm, .int .i64 v.n, .string v.s, .slice xka v.ks.length xkc, .slice xla v.l.length xlc] 25) = W0 := ⟨_, rfl⟩
  have HB0 : Hid (Below w.heap.size w W0) := by rw [← hW0]; exact below_alloc _ _
  have HF : Hid (∀ w', Below W0.heap.size W0 w' → At w' w.heap.size 0 ⟨v.k, v.nm, v.n, v.s, xka, v.ks.length, xkc, xla, v.l.length, xlc⟩) := fun w' hb => by
    have h0 : At W0 w.heap.size 0 ⟨v.k, v.nm, v.n, v.s, xka, v.ks.length, xkc, xla, v.l.length, xlc⟩ := by rw [← hW0]; exact at_row (hp_new rfl) rfl rfl rfl rfl rfl rfl
    exact h0.below (B := W0.heap.size) (by rw [← hW0]; simp) hb
  have HBX := Lib.hid (below_alloc w)
  have HW0 := Lib.hid hW0
  have HK : Hid (isK 25 v = decide (v.k = 25)) := Lib.hid rfl
  rw [HK.out]
  simp only [X.v] at HO ⊢
  clear h hb hW0 HK H hrow
  generalize fields (ctch3 v) v = bo at *
  generalize v.nm = nm at *
  generalize v.n = n at *
  generalize v.s = s at *
  generalize v.ks.length = kn at *
  generalize v.l.length = ln at *
  generalize v.k = k at *
  by_cases hk : k = 25
  · rw [decide_eq_true hk, Bool.true_and]
    have HT := Lib.hid (HS.out hk)
    clear HS
    subst hk
    go_enter Tryz.func75, Tryz.ntmps75
    go_wp2_with fail
    rw [HW0.out]
    clear HW0
    refine (HO.out _ HB0.out).mono ?_
    rintro e w1 ⟨rfl, hb1⟩
    obtain ⟨c0, c1, c2, c3, c4, c5⟩ := HF.out _ hb1
    dsimp only at c0 c1 c2 c3 c4 c5
    have HBW := Lib.hid (HB0.out.trans (hb1.mono HB0.out.size))
    clear hb1
    cases bo
    · go_wp2_with fail
      go_ret
      exact ⟨rfl, HBW.out⟩
    · go_wp2_with fail
      refine (HT.out _ HBW.out).mono ?_
      rintro e w2 ⟨rfl, hb2⟩
      have HB2 := Lib.hid (HBW.out.trans (hb2.mono HBW.out.size))
      clear hb2
      go_wp2_with fail
      go_ret
      exact ⟨rfl, HB2.out⟩
  · rw [decide_eq_false hk, Bool.false_and]
    have hq : (k == 25) = false := by rw [beq_eq_false_iff_ne]; exact hk
    clear hk
    go_enter Tryz.func75, Tryz.ntmps75
    go_wp2_with fail
    go_ret
    exact ⟨rfl, HBX.out _⟩
end Go.Proofs.YtllpgoaanbiodaaGreatDoor.R
namespace Go.Proofs.YtllpgoaanbiodaaGreatDoor.R
open Go.RowKit Go.Proofs.YtllpgoaanbiodaaGreatDoor Go.Proofs.YtllpgoaanbiodaaGreatDoor.T
/-- a call of exprs on a node's children -/
def TellsX (v : V) (b : Bool) : Prop := ∀ (A : Option Addr) (c : Nat) (w : World), Row w A v.l → Calls Tryz.prog 77 #[.slice A v.l.length c] w fun e w' => e = .returned (.bool b) ∧ Below w.heap.size w w'
/-- a declaration that may be -/
def declV (e : V → Bool) (u : V) : Bool := isK 23 u && (fields (ctch3 u) u && (decide (u.l.length ≤ 1) && e u))
set_option maxRecDepth 20000 in
set_option maxHeartbeats 2000000 in
theorem refDecls_of (v : V) (e : V → Bool) (hb : v.bulk ≤ 4194304) (H : ∀ u ∈ v.l, TellsX u (e u)) : Tells 73 v (isK 22 v && (fields (ctch3 v) v && (!v.l.isEmpty && v.l.all (declV e)))) := by
  intro x w h
  have HO := Lib.hid fun w' (hb' : Below w.heap.size w w') => own_any v x w' (Is.below hb' _ _ h) hb
  have hln : v.l.length ≤ 4194304 := by have := length_le_bulks v.l; have := bulk_ge v; omega
  have hll : (v.l.length : Int) ≤ 4194304 := by omega
  have HBK : Hid (∀ u ∈ v.l, u.bulk ≤ 4194304) := fun u hu => by have := bulk_le_of_mem hu; have := bulk_ge v; omega
  have HXX := Lib.hid H
  obtain ⟨xka, xkc, xla, xlc, rfl, -, -, -, hrow⟩ := h.open
  have HR := Lib.hid hrow
  obtain ⟨W0, hW0⟩ : ∃ W0, w.alloc (.cells #[.int .i64 v.k, .string v.nm, .int .i64 v.n, .string v.s, .slice xka v.ks.length xkc, .slice xla v.l.length xlc] 25) = W0 := ⟨_, rfl⟩
  have HB0 : Hid (Below w.heap.size w W0) := by rw [← hW0]; exact below_alloc _ _
  have HF : Hid (∀ w', Below W0.heap.size W0 w' → At w' w.heap.size 0 ⟨v.k, v.nm, v.n, v.s, xka, v.ks.length, xkc, xla, v.l.length, xlc⟩) := fun w' hb => by
    have h0 : At W0 w.heap.size 0 ⟨v.k, v.nm, v.n, v.s, xka, v.ks.length, xkc, xla, v.l.length, xlc⟩ := by rw [← hW0]; exact at_row (hp_new rfl) rfl rfl rfl rfl rfl rfl
    exact h0.below (B := W0.heap.size) (by rw [← hW0]; simp) hb
  have HBX := Lib.hid (below_alloc w)
  have HW0 := Lib.hid hW0
  have HK : Hid (isK 22 v = decide (v.k = 22)) := Lib.hid rfl
  rw [HK.out]
  simp only [X.v] at HO ⊢
  clear h hb hW0 HK H hrow
  generalize fields (ctch3 v) v = bo at *
  generalize v.nm = nm at *
  generalize v.n = n at *
  generalize v.s = s at *
  generalize v.ks.length = kn at *
  generalize v.l = l at *
  generalize v.k = k at *
  by_cases hk : k = 22
  rotate_left
  · rw [decide_eq_false hk, Bool.false_and]
    have hq : (k == 22) = false := by rw [beq_eq_false_iff_ne]; exact hk
    have hq2 : (k != 22) = true := bne_iff_ne.2 hk
    clear hk
    go_enter Tryz.func73, Tryz.ntmps73
    go_wp2_with fail
    go_ret
    exact ⟨rfl, HBX.out _⟩
  rw [decide_eq_true hk, Bool.true_and]
  subst hk
  go_enter Tryz.func73, Tryz.ntmps73
  go_wp2_with fail
  rw [HW0.out]
  clear HW0
  refine (HO.out _ HB0.out).mono ?_
  rintro e' w1 ⟨rfl, hb1⟩
  have HB1 := Lib.hid hb1
  have HBW := Lib.hid (HB0.out.trans (hb1.mono HB0.out.size))
  obtain ⟨c0, c1, c2, c3, c4, c5⟩ := HF.out _ hb1
  dsimp only at c0 c1 c2 c3 c4 c5
  clear hb1 HO
  cases bo
  · go_wp2_with fail
    go_ret
    exact ⟨rfl, HBW.out⟩
  by_cases hl : l = []
  · subst hl
    go_wp2_with fail
    go_ret
    exact ⟨rfl, HBW.out⟩
  have hpos : (0 : Int) < (l.length : Int) := by
    have := List.length_pos_iff.2 hl
    omega
  have hz : ((l.length : Int) == 0) = false := by rw [beq_eq_false_iff_ne]; omega
  obtain ⟨r, hr0⟩ : ∃ r, l.all (declV e) = r := ⟨_, rfl⟩
  have HV := Lib.hid hr0
  have HVV : Hid ((true && (!l.isEmpty && l.all (declV e))) = r) := by
    show _ = _
    rw [hr0]
    cases l
    · exact absurd rfl hl
    · rfl
  clear hr0 hl
  go_wp2_with fail
  go_loopw [22] (fun i wr => ∃ j : Nat, j ≤ l.length ∧ i = .int .i64 j ∧ Hid ((l.take j).all (declV e) = true) ∧ Below w1.heap.size w1 wr)
    (fun i _ => l.length - (intOf i).toNat)
  case atStart => exact ⟨0, Nat.zero_le _, rfl, Lib.hid rfl, Below.refl _ _⟩
  case round =>
    obtain ⟨j, hj, rfl, hh, hbr⟩ := hrel
    have hb := HBW.out.trans (hbr.mono HBW.out.size)
    have HBRR := Lib.hid hbr
    clear hbr c0 c1 c2 c3 c4 c5
    by_cases hlt : j < l.length
    · obtain ⟨g, o, rfl, hg, y, hy, hv⟩ := HR.out.at_ hlt
      obtain ⟨c0, c1, c2, c3, c4, c5⟩ := hy.below hg hb
      have HM : Hid (l[j] ∈ l) := Lib.hid (List.getElem_mem hlt)
      have hyk : y.k = l[j].k := ((isB_iff _ _ _ _).1 hv).1.1
      have hyl : y.ln = l[j].l.length := ((isB_iff _ _ _ _).1 hv).2.2.1
      have hyr : RowB w w.heap.size y.la l[j].l := ((isB_iff _ _ _ _).1 hv).2.2.2.2
      have hyn : (y.ln : Int) ≤ 4194304 := by
        have := HBK.out _ HM.out
        have := length_le_bulks l[j].l
        have := bulk_ge l[j]
        omega
      have HO := Lib.hid fun w' (hb' : Below w.heap.size w w') => own_any l[j] y w' (Is.below hb' _ _ hv) (HBK.out _ HM.out)
      have HL := Lib.hid fun w' c (hb' : Below w.heap.size w w') => HXX.out l[j] HM.out y.la c w' (RowB.below hyr hb')
      have HY : Hid (declV e l[j] = true → (l.take (j + 1)).all (declV e) = true) := fun e1 => all_take_snoc _ l j hlt hh.out e1
      have HN : Hid (declV e l[j] = false → r = false) := fun e1 => by rw [← HV.out]; exact all_no _ l j hlt e1
      have HQ : Hid (declV e l[j] = (decide (y.k = 23) && (fields (ctch3 l[j]) l[j] && (decide (y.ln ≤ 1) && e l[j])))) := by
        show _ = _
        rw [hyk, hyl]
        rfl
      rw [← hyl] at HL
      have HAT := Lib.hid fun w' (hb' : Below (wr.heap.size + 1) (wr.alloc (.cells y.cells 25)) w') => (at_alloc wr y).below (Nat.lt_succ_self _) hb'
      have HBA : Hid (Below w.heap.size w (wr.alloc (.cells y.cells 25))) := Lib.hid (hb.alloc (by have := hb.size; omega) _)
      have HBS : Hid (w.heap.size ≤ wr.heap.size + 1) := Lib.hid (by have := hb.size; omega)
      have HBL : Hid (∀ w', Below w.heap.size w w' → True) := fun _ _ => trivial
      obtain ⟨yk, ynm, yn, ys, yka, ykn, ykc, yla, yln, ylc⟩ := y
      simp only [X.v, X.cells] at HO HAT HBA HL HQ
      dsimp only at c0 c1 c2 c3 c4 c5 hyn
      generalize declV e l[j] = q at *
      generalize fields (ctch3 l[j]) l[j] = bo at *
      generalize e l[j] = be at *
      clear hv hy hh hyk hyl hyr HBL
      by_cases hk : yk = 23
      rotate_left
      · have hq : (yk == 23) = false := by rw [beq_eq_false_iff_ne]; exact hk
        have hq2 : (yk != 23) = true := bne_iff_ne.2 hk
        have HQR : Hid (r = false) := HN.out (by rw [HQ.out, decide_eq_false hk]; rfl)
        clear hk HQ
        go_wp2_with fail
        go_ret
        exact ⟨by rw [HVV.out, HQR.out]; rfl, HBA.out⟩
      rw [decide_eq_true hk, Bool.true_and] at HQ
      subst hk
      go_wp2_with fail
      refine (HO.out _ HBA.out).mono ?_
      rintro e' w2 ⟨rfl, hb1⟩
      have HB1 := Lib.hid (HBA.out.trans (hb1.mono (by have := HBS.out; simp; omega)))
      obtain ⟨d0, d1, d2, d3, d4, d5⟩ := HAT.out w2 (hb1.mono (by simp))
      dsimp only at d0 d1 d2 d3 d4 d5
      have HB1w : Hid (Below w1.heap.size w1 w2) := (HBRR.out.alloc HBRR.out.size _).trans (hb1.mono (by have := HBRR.out.size; simp; omega))
      clear hb1 c0 c1 c2 c3 c4 c5
      cases bo
      · have HQR : Hid (r = false) := HN.out (by rw [HQ.out]; rfl)
        go_wp2_with fail
        go_ret
        exact ⟨by rw [HVV.out, HQR.out]; rfl, HB1.out⟩
      rw [Bool.true_and] at HQ
      by_cases h1 : yln ≤ 1
      rotate_left
      · have HQR : Hid (r = false) := HN.out (by rw [HQ.out, decide_eq_false h1]; rfl)
        have h1i : (1 : Int) < (yln : Int) := by omega
        go_wp2_with fail
        go_ret
        exact ⟨by rw [HVV.out, HQR.out]; rfl, HB1.out⟩
      rw [decide_eq_true h1, Bool.true_and] at HQ
      have h1i : (yln : Int) ≤ 1 := by omega
      go_wp2_with fail
      refine (HL.out _ _ HB1.out).mono ?_
      rintro e' w3 ⟨rfl, hb2⟩
      have HB2 := Lib.hid (HB1.out.trans (hb2.mono HB1.out.size))
      have HB2w := Lib.hid (HB1w.out.trans (hb2.mono HB1w.out.size))
      clear hb2 d0 d1 d2 d3 d4 d5 hb
      cases be
      · have HQR : Hid (r = false) := HN.out HQ.out
        go_wp2_with fail
        go_ret
        exact ⟨by rw [HVV.out, HQR.out]; rfl, HB2.out⟩
      · have HQR := Lib.hid (HY.out HQ.out)
        go_wp2_with fail
        go_roundw
        case rel => exact ⟨j + 1, by omega, by go_num, HQR, HB2w.out⟩
        case measure => simp [intOf]; omega
    · obtain rfl : j = l.length := by omega
      have HQ : Hid (r = true) := by
        show _ = _
        rw [← HV.out, ← hh.out, List.take_length]
      clear hh
      go_wp2_with fail
      go_ret
      exact ⟨by rw [HVV.out, HQ.out]; rfl, hb⟩
end Go.Proofs.YtllpgoaanbiodaaGreatDoor.R
