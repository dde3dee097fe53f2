/-
  A row's tail by slicing.
  The reference's cases, given what expr and stmts answer. (gen_vj.py)
-/
import Derived.Test.YtllpgoaanbiodaaGreatDoorMVg
namespace Go.Proofs.YtllpgoaanbiodaaGreatDoor.R
open Go.RowKit Go.Proofs.YtllpgoaanbiodaaGreatDoor Go.Proofs.YtllpgoaanbiodaaGreatDoor.T
/-- where the tail lies -/
def tailA (A : Option Addr) (c : Nat) : Option Addr := if c = 1 then A else A.map (·.add 6)
theorem run_tail (A : Option Addr) (n c : Nat) (hn : 0 < n) (w : World) :
    (Instr.slice 23 (.slice A n c) (some (.int .i64 1)) none none).run Tryz.prog w = .ok (.slice (tailA A c) (n - 1) (c - 1)) w := by
  obtain ⟨i0, hi0, hz0, hz1, hz2⟩ := info_parts infoNode
  have hu : Tryz.prog.underlying 23 = some (.slice 25) := by kernel_rfl
  have h1 : (1 : Int) ≤ (n : Int) := by omega
  simp [Instr.slice, Instr.sliceBounds, run_underlying hu, run_sliceBound w .i64 1 n _ (by omega) h1, sizeOf, typeInfo, hi0, hz1, tailA]
theorem row_tail {w : World} {B : Nat} {A : Option Addr} {l : List V} {c : Nat} (h : RowB w B A l) (hc : l.length ≤ c) : RowB w B (tailA A c) l.tail := by
  rcases l with _ | ⟨a, l⟩
  · exact .inl rfl
  rcases l with _ | ⟨b, l⟩
  · exact .inl rfl
  rcases h with h | ⟨g, o, rfl, hg, h⟩
  · cases h
  · refine .inr ⟨g, o + 6, ?_, hg, ?_⟩
    · simp only [List.length_cons] at hc
      unfold tailA
      rw [if_neg (by omega)]
      rfl
    · rw [IsAllB] at h
      exact h.2
end Go.Proofs.YtllpgoaanbiodaaGreatDoor.R
namespace Go.Proofs.YtllpgoaanbiodaaGreatDoor.R
open Go.RowKit Go.Proofs.YtllpgoaanbiodaaGreatDoor Go.Proofs.YtllpgoaanbiodaaGreatDoor.T
/-- a call of stmts on what stands behind a case's first child -/
def TellsT (v : V) (b : Bool) : Prop := ∀ (A : Option Addr) (c : Nat) (w : World), Row w A v.l.tail → Calls Tryz.prog 29 #[.slice A (v.l.length - 1) c, .bool false] w fun e w' => e = .returned (.bool b) ∧ Below w.heap.size w w'
def empV (u : V) : Bool := isK 42 u && (fields (ctch3 u) u && u.l.isEmpty)
def dfV (c : V) : Bool := match c.l with | x :: _ => empV x | [] => false
def hdV (ex : V → Bool) (c : V) : Bool := match c.l with | x :: _ => empV x || ex x | [] => false
def caseV (ex st : V → Bool) (c : V) : Bool := isK 37 c && (fields (ctch3 c) c && (hdV ex c && st c))
theorem head_at {l : List V} (h : ¬ l = []) : ∃ x r, l = x :: r := by
  rcases l with _ | ⟨a, r⟩
  · exact absurd rfl h
  · exact ⟨a, r, rfl⟩
theorem count_snoc (p : V → Bool) (l : List V) (j : Nat) (h : j < l.length) : (l.take (j + 1)).countP p = (l.take j).countP p + if p l[j] = true then 1 else 0 := by
  rw [snoc_get l j h, List.countP_append, List.countP_singleton]
set_option maxRecDepth 20000 in
set_option maxHeartbeats 2000000 in
theorem refCases_of (ex st : V → Bool) (l : List V) (A : Option Addr) (c : Nat) (w : World) (hr : Row w A l) (hll : l.length ≤ 4194304) (hbk : ∀ u ∈ l, u.bulk ≤ 4194304)
    (HE : ∀ u ∈ l, ∀ x ∈ u.l, Tells 74 x (ex x)) (HT : ∀ u ∈ l, TellsT u (st u)) :
    Calls Tryz.prog 79 #[.slice A l.length c] w fun e w' => e = .returned (.bool (l.all (caseV ex st) && decide (l.countP dfV ≤ 1))) ∧ Below w.heap.size w w' := by
  have HEE := Lib.hid HE
  have HTT := Lib.hid HT
  have HBK := Lib.hid hbk
  have HR := Lib.hid hr
  obtain ⟨r, hr0⟩ : ∃ r, (l.all (caseV ex st) && decide (l.countP dfV ≤ 1)) = r := ⟨_, rfl⟩
  rw [hr0]
  have HV := Lib.hid hr0
  clear HE HT hbk hr hr0
  go_enter Tryz.func79, Tryz.ntmps79
  go_wp2_with fail
  go_loopw [3, 8] (fun t i wr => ∃ j m : Nat, j ≤ l.length ∧ m ≤ j ∧ t = .int .i64 m ∧ i = .int .i64 j ∧ Hid ((l.take j).all (caseV ex st) = true ∧ (l.take j).countP dfV = m) ∧ Below w.heap.size w wr)
    (fun _ i _ => l.length - (intOf i).toNat)
  case atStart => exact ⟨0, 0, Nat.zero_le _, Nat.le_refl _, rfl, rfl, Lib.hid ⟨rfl, rfl⟩, Below.refl _ _⟩
  case round =>
    obtain ⟨j, m, hj, hm, rfl, rfl, hh, hb⟩ := hrel
    by_cases hlt : j < l.length
    · obtain ⟨g, o, rfl, hg, y, hy, hv⟩ := HR.out.at_ hlt
      obtain ⟨c0, c1, c2, c3, c4, c5⟩ := hy.below hg hb
      have HM : Hid (l[j] ∈ l) := Lib.hid (List.getElem_mem hlt)
      have HN : Hid (caseV ex st l[j] = false → r = false) := fun e1 => by rw [← HV.out, all_no _ l j hlt e1]; rfl
      have HY : Hid (∀ m', caseV ex st l[j] = true → m' = m + (if dfV l[j] = true then 1 else 0) → (l.take (j + 1)).all (caseV ex st) = true ∧ (l.take (j + 1)).countP dfV = m') := fun m' e1 e2 => ⟨all_take_snoc _ l j hlt hh.out.1 e1, by rw [count_snoc _ l j hlt, hh.out.2, e2]⟩
      have HCV : Hid (caseV ex st l[j] = (isK 37 l[j] && (fields (ctch3 l[j]) l[j] && (hdV ex l[j] && st l[j])))) := Lib.hid rfl
      have HO := Lib.hid fun w' (hb' : Below w.heap.size w w') => own_any l[j] y w' (Is.below hb' _ _ hv) (HBK.out _ HM.out)
      have HTJ := Lib.hid (HTT.out l[j] HM.out)
      have HEJ := Lib.hid (HEE.out l[j] HM.out)
      have HBJ := Lib.hid (HBK.out l[j] HM.out)
      have hbx := Lib.hid fun o => (hb.alloc (B := w.heap.size) (by have := hb.size; omega) o : Below w.heap.size w (wr.alloc o))
      generalize l[j] = u at *
      obtain ⟨yka, ykc, yla, ylc, rfl, -, hlc, -, hrow⟩ := hv.open
      have HRW := Lib.hid hrow
      have HLC := Lib.hid hlc
      have hun : (u.l.length : Int) ≤ 4194304 := by have := HBJ.out; have := length_le_bulks u.l; have := bulk_ge u; omega
      obtain ⟨Wa, hWa⟩ : ∃ Wa, wr.alloc (.cells #[.int .i64 u.k, .string u.nm, .int .i64 u.n, .string u.s, .slice yka u.ks.length ykc, .slice yla u.l.length ylc] 25) = Wa := ⟨_, rfl⟩
      have HBA : Hid (Below w.heap.size w Wa) := by rw [← hWa]; exact hbx.out _
      have HAT : Hid (∀ w', Below Wa.heap.size Wa w' → At w' wr.heap.size 0 ⟨u.k, u.nm, u.n, u.s, yka, u.ks.length, ykc, yla, u.l.length, ylc⟩) := fun w' hb => by
        have h0 : At Wa wr.heap.size 0 ⟨u.k, u.nm, u.n, u.s, yka, u.ks.length, ykc, yla, u.l.length, ylc⟩ := by rw [← hWa]; exact at_row (hp_new rfl) rfl rfl rfl rfl rfl rfl
        exact h0.below (B := Wa.heap.size) (by rw [← hWa]; simp) hb
      have HWa := Lib.hid hWa
      simp only [X.v] at HO
      dsimp only at c0 c1 c2 c3 c4 c5
      clear hv hy hh hrow hlc hWa
      by_cases hk : u.k = 37
      rotate_left
      · have hq : (u.k == 37) = false := by rw [beq_eq_false_iff_ne]; exact hk
        have hq2 : (u.k != 37) = true := bne_iff_ne.2 hk
        have HQR : Hid (r = false) := HN.out (by rw [HCV.out, show isK 37 u = false from decide_eq_false hk]; rfl)
        clear hk HCV HN HY
        go_wp2_with fail
        go_ret
        exact ⟨by rw [HQR.out]; rfl, hbx.out _⟩
      rw [show isK 37 u = true from decide_eq_true hk, Bool.true_and] at HCV
      rw [hk] at HO HAT HWa c0
      clear hk
      go_wp2_with fail
      rw [HWa.out]
      clear HWa hbx c0 c1 c2 c3 c4 c5 hb
      refine (HO.out _ HBA.out).mono ?_
      rintro e' w2 ⟨rfl, hb2⟩
      have HC2 := Lib.hid hb2
      have HB2 := Lib.hid (HBA.out.trans (hb2.mono HBA.out.size))
      clear hb2 HO
      obtain ⟨d0, d1, d2, d3, d4, d5⟩ := HAT.out w2 HC2.out
      dsimp only at d0 d1 d2 d3 d4 d5
      generalize fields (ctch3 u) u = bo at *
      cases bo
      · have HQR : Hid (r = false) := HN.out (by rw [HCV.out]; rfl)
        clear HCV HN HY
        go_wp2_with fail
        go_ret
        exact ⟨by rw [HQR.out]; rfl, HB2.out⟩
      rw [Bool.true_and] at HCV
      by_cases hl : u.l = []
      · have HQR : Hid (r = false) := HN.out (by rw [HCV.out]; unfold hdV; rw [hl]; rfl)
        have hz : u.l.length = 0 := by rw [hl]; rfl
        rw [hz] at d5
        clear HCV HN HY hl hz
        go_wp2_with fail
        go_ret
        exact ⟨by rw [HQR.out]; rfl, HB2.out⟩
      obtain ⟨z, zr, hzl⟩ := head_at hl
      have hzm : z ∈ u.l := by rw [hzl]; exact List.mem_cons_self
      have hpos : 0 < u.l.length := List.length_pos_iff.2 hl
      have hposi : (0 : Int) < (u.l.length : Int) := by omega
      have hzne : ((u.l.length : Int) == 0) = false := by rw [beq_eq_false_iff_ne]; omega
      obtain ⟨g2, o2, hya, hg2, y2, hy2, hv2⟩ := HRW.out.at_ hpos
      have hz : u.l[0] = z := by simp [hzl]
      rw [hz] at hv2
      rw [Nat.zero_mul, Nat.add_zero] at hy2
      have hzb : z.bulk ≤ 4194304 := by have := bulk_le_of_mem hzm; have := bulk_ge u; have := HBJ.out; omega
      have HZ : Hid (∀ w', Below w.heap.size w w' → At w' g2 o2 y2) := fun w' hb => hy2.below hg2 hb
      have HEM : Hid (∀ w', Below w.heap.size w w' → Calls Tryz.prog 78 #[y2.v] w' fun e w'' => e = .returned (.bool (empV z)) ∧ Below w'.heap.size w' w'') := fun w' hb' => refEmpty_any z hzb y2 w' (Is.below hb' _ _ hv2)
      have HEX := Lib.hid fun w' (hb' : Below w.heap.size w w') => HEJ.out z hzm y2 w' (Is.below hb' _ _ hv2)
      have HST := Lib.hid fun w' c' (hb' : Below w.heap.size w w') => HTJ.out (tailA yla ylc) c' w' (row_tail (RowB.below HRW.out hb') HLC.out)
      have hsl := fun w' => run_tail yla u.l.length ylc hpos w'
      have HH1 : Hid (hdV ex u = (empV z || ex z)) := by show _ = _; unfold hdV; rw [hzl]
      have HH2 : Hid (dfV u = empV z) := by show _ = _; unfold dfV; rw [hzl]
      rw [HH1.out] at HCV
      rw [HH2.out] at HY
      clear HH1 HH2 hzl hl hz hzm hy2 hv2 hzb HEJ HTJ HRW HLC HBJ hg2
      generalize tailA yla ylc = tA at *
      subst hya
      have hmi : (m : Int) ≤ 4194304 := by omega
      generalize empV z = em at *
      generalize ex z = exz at *
      generalize st u = stu at *
      generalize caseV ex st u = q at *
      obtain ⟨zk, znm, zn, zs, zka, zkn, zkc, zla, zln, zlc⟩ := y2
      simp only [X.v] at HEM HEX
      obtain ⟨e0, e1, e2, e3, e4, e5⟩ := HZ.out w2 HB2.out
      dsimp only at e0 e1 e2 e3 e4 e5
      go_wp2_with fail
      refine (HEM.out _ HB2.out).mono ?_
      rintro e' w3 ⟨rfl, hb3⟩
      have HC3 := Lib.hid (HC2.out.trans (hb3.mono HC2.out.size))
      have HB3 := Lib.hid (HBA.out.trans (HC3.out.mono HBA.out.size))
      clear hb3 d0 d1 d2 d3 d4 d5 e0 e1 e2 e3 e4 e5
      obtain ⟨d0, d1, d2, d3, d4, d5⟩ := HAT.out w3 HC3.out
      obtain ⟨e0, e1, e2, e3, e4, e5⟩ := HZ.out w3 HB3.out
      dsimp only at d0 d1 d2 d3 d4 d5 e0 e1 e2 e3 e4 e5
      cases em
      · go_wp2_with fail
        refine (HEX.out _ HB3.out).mono ?_
        rintro e' w4 ⟨rfl, hb4⟩
        have HC4 := Lib.hid (HC3.out.trans (hb4.mono HC3.out.size))
        have HB4 := Lib.hid (HBA.out.trans (HC4.out.mono HBA.out.size))
        clear hb4 d0 d1 d2 d3 d4 d5 e0 e1 e2 e3 e4 e5
        obtain ⟨d0, d1, d2, d3, d4, d5⟩ := HAT.out w4 HC4.out
        obtain ⟨e0, e1, e2, e3, e4, e5⟩ := HZ.out w4 HB4.out
        dsimp only at d0 d1 d2 d3 d4 d5 e0 e1 e2 e3 e4 e5
        cases exz
        · clear HST HEX HEM
          have HQR : Hid (r = false) := HN.out (by rw [HCV.out]; rfl)
          clear HCV HN HY
          go_wp2_with fail
          go_ret
          exact ⟨by rw [HQR.out]; rfl, HB4.out⟩
        go_wp2_with fail
        refine (HST.out _ _ HB4.out).mono ?_
        rintro e' w5 ⟨rfl, hb5⟩
        have HC5 := Lib.hid (HC4.out.trans (hb5.mono HC4.out.size))
        have HB5 := Lib.hid (HBA.out.trans (HC5.out.mono HBA.out.size))
        clear hb5 d0 d1 d2 d3 d4 d5 e0 e1 e2 e3 e4 e5
        obtain ⟨d0, d1, d2, d3, d4, d5⟩ := HAT.out w5 HC5.out
        obtain ⟨e0, e1, e2, e3, e4, e5⟩ := HZ.out w5 HB5.out
        dsimp only at d0 d1 d2 d3 d4 d5 e0 e1 e2 e3 e4 e5
        cases stu
        · clear HST HEM
          have HQR : Hid (r = false) := HN.out (by rw [HCV.out]; rfl)
          clear HCV HN HY
          go_wp2_with fail
          go_ret
          exact ⟨by rw [HQR.out]; rfl, HB5.out⟩
        have HQR := Lib.hid (HY.out (m + 0) (by rw [HCV.out]; rfl) rfl)
        clear HCV HN HY
        go_wp2_with fail
        refine (HEM.out _ HB5.out).mono ?_
        rintro e' w6 ⟨rfl, hb6⟩
        have HC6 := Lib.hid (HC5.out.trans (hb6.mono HC5.out.size))
        have HB6 := Lib.hid (HBA.out.trans (HC6.out.mono HBA.out.size))
        clear hb6 d0 d1 d2 d3 d4 d5 e0 e1 e2 e3 e4 e5
        obtain ⟨d0, d1, d2, d3, d4, d5⟩ := HAT.out w6 HC6.out
        obtain ⟨e0, e1, e2, e3, e4, e5⟩ := HZ.out w6 HB6.out
        dsimp only at d0 d1 d2 d3 d4 d5 e0 e1 e2 e3 e4 e5
        go_wp2_with fail
        go_roundw
        case rel => exact ⟨j + 1, m, by omega, by omega, rfl, by go_num, HQR, HB6.out⟩
        case measure => simp [intOf]; omega
      · clear HEX
        go_wp2_with fail
        refine (HST.out _ _ HB3.out).mono ?_
        rintro e' w5 ⟨rfl, hb5⟩
        have HC5 := Lib.hid (HC3.out.trans (hb5.mono HC3.out.size))
        have HB5 := Lib.hid (HBA.out.trans (HC5.out.mono HBA.out.size))
        clear hb5 d0 d1 d2 d3 d4 d5 e0 e1 e2 e3 e4 e5
        obtain ⟨d0, d1, d2, d3, d4, d5⟩ := HAT.out w5 HC5.out
        obtain ⟨e0, e1, e2, e3, e4, e5⟩ := HZ.out w5 HB5.out
        dsimp only at d0 d1 d2 d3 d4 d5 e0 e1 e2 e3 e4 e5
        cases stu
        · clear HST HEM
          have HQR : Hid (r = false) := HN.out (by rw [HCV.out]; rfl)
          clear HCV HN HY
          go_wp2_with fail
          go_ret
          exact ⟨by rw [HQR.out]; rfl, HB5.out⟩
        have HQR := Lib.hid (HY.out (m + 1) (by rw [HCV.out]; rfl) rfl)
        clear HCV HN HY
        go_wp2_with fail
        refine (HEM.out _ HB5.out).mono ?_
        rintro e' w6 ⟨rfl, hb6⟩
        have HC6 := Lib.hid (HC5.out.trans (hb6.mono HC5.out.size))
        have HB6 := Lib.hid (HBA.out.trans (HC6.out.mono HBA.out.size))
        clear hb6 d0 d1 d2 d3 d4 d5 e0 e1 e2 e3 e4 e5
        obtain ⟨d0, d1, d2, d3, d4, d5⟩ := HAT.out w6 HC6.out
        obtain ⟨e0, e1, e2, e3, e4, e5⟩ := HZ.out w6 HB6.out
        dsimp only at d0 d1 d2 d3 d4 d5 e0 e1 e2 e3 e4 e5
        go_wp2_with fail
        go_roundw
        case rel => exact ⟨j + 1, m + 1, by omega, by omega, by go_num, by go_num, HQR, HB6.out⟩
        case measure => simp [intOf]; omega
    · obtain rfl : j = l.length := by omega
      have HQ : Hid (r = decide (m ≤ 1)) := by
        show _ = _
        have h1 := hh.out
        rw [List.take_length] at h1
        rw [← HV.out, h1.1, h1.2]
        rfl
      have HM : Hid (decide (m ≤ 1) = decide ((m : Int) ≤ 1)) := by
        show _ = _
        rw [Bool.eq_iff_iff, decide_eq_true_eq, decide_eq_true_eq]
        omega
      clear hh
      go_wp2_with fail
      go_ret
      exact ⟨by rw [HQ.out, HM.out]; rfl, hb⟩
end Go.Proofs.YtllpgoaanbiodaaGreatDoor.R
