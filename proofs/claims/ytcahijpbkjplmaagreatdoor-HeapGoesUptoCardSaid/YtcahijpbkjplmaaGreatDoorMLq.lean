/-
 The reference's Define, by contract: a property that is there.
 The reference's Define, by contract: an Array's length.
 The reference's Define, by contract: all together.
-/
import Derived.Test.YtcahijpbkjplmaaGreatDoorMLn
import Derived.Test.YtcahijpbkjplmaaGreatDoorMZ0
set_option linter.unusedSimpArgs false
namespace Go.Proofs.YtcahijpbkjplmaaGreatDoor.G
open Go.RowKit Go.Shelf Go.Maps Go.Lib Go.Proofs.YtcahijpbkjplmaaGreatDoor
section
variable {w w' w1 w2 : World} {ow ow1 ow2 : Nat → Option Nat} {A i : Nat} {H H1 H2 Hc : Hs} {R R1 R2 : List Value} {o o' : Ob}
set_option maxRecDepth 8000 in
set_option maxHeartbeats 4000000 in
theorem rdef_there (h : RH w A H ow R) (gd : Gd H) (v : Vl) (p : Pr) (hs : p.key.size ≤ 16777216) (hat : H.at v = some i) (ho : H.os[i]? = some o) (hl : (decide (o.cls = AR) && decide (p.key = LK)) = false) {pl : Nat} {q : Pr} (hf : o.ps.findIdx? (has p.key) = some pl) (hp : o.ps[pl]? = some q) :
  Calls Tryz.prog 35 #[pv A, v.v, p.v'] w (RpR w A ow (.int .i64 (H.define ix LK AR v p).2) (H.define ix LK AR v p).1) := by
 have hol := gd.os100
 have hi := at_lt hat
 have hob := obj_some hat ho
 obtain ⟨g, cap, hcap, hrg⟩ := Rg.start h ho
 have hb0 := two_low (w := w) 29 31 v.cs p.cs
 have HB := Lib.hid hb0
 have HR0 := Lib.hid (hrg.low hb0)
 have HV0 := Lib.hid (blk_two' w 29 31 v.cs p.cs).1
 have HX0 := Lib.hid (blk_two' w 29 31 v.cs p.cs).2
 have HO := Lib.hid ho
 have HXO : Hid (ow (w.heap.size + 1) = none) := h.off (Nat.le_succ _)
 have hii : (i : Int) < (H.os.length : Int) := by omega
 have hi0 : ¬ (i : Int) < 0 := by omega
 have HLO : Hid (o.ps.length ≤ 100000) := Nat.le_trans (gd.og i o ho).l gd.n100
 have HT := Lib.hid (rat_any (h.low hb0) v hol)
 rw [hat] at HT
 have HL := Lib.hid fun w' (hb : Below w.heap.size w w') => rislen_any (h.low hb) v p.key hol
 rw [hob, show (decide (clsR (some o) = AR) && decide (p.key = LK)) = (decide (o.cls = AR) && decide (p.key = LK)) from rfl] at HL
 rw [hl] at HL
 have HPR := Lib.hid fun w' (hb : Below w.heap.size w w') => rprop_any (h.low hb) gd v p.key hs
 rw [hob] at HPR
 rw [propR_some hf] at HPR
 have HP := Lib.hid hp
 have hpl2 := idx_lt_len hf
 obtain ⟨rl, HRL⟩ : ∃ rl, Hid (H.define ix LK AR v p = rl) := ⟨_, rfl⟩
 have HE4 := Lib.hid fun hw => HRL.out.symm.trans (def_no (k := pl) (q := q) hat ho hl hf hp hw)
 have HE5 := Lib.hid fun hw => HRL.out.symm.trans (def_set (k := pl) (q := q) hat ho hl hf hp hw)
 rw [HRL.out]
 obtain ⟨r, hr, -⟩ := HR0.out.cell ho
 have HRR := Lib.hid hr
 obtain ⟨d0, d1, d2⟩ := Blk.three HV0.out
 clear h gd hat ho hi hob hrg hb0 hr hcap hol hs hl
 obtain ⟨vk, vn, vs⟩ := v
 obtain ⟨key, ⟨xk, xn, xs⟩, pw, pe, pf⟩ := p
 simp only [Vl.v, Vl.cs, Pr.v', Pr.cs, atI] at HB HR0 HV0 HX0 HT HL HPR HE4 HE5 d0 d1 d2 ⊢
 go_enter Tryz.func35, Tryz.ntmps35
 go_wp2_with fail
 refine HT.out.mono ?_
 rintro e w1 ⟨rfl, hb⟩
 have HB1 := Lib.hid (HB.out.trans (hb.mono HB.out.size))
 have HR1 := Lib.hid (HR0.out.low hb)
 have HV1 := Lib.hid (HV0.out.low hb)
 have HX1 := Lib.hid (HX0.out.low hb)
 have HL := HL.out w1 HB1.out
 clear hb d0 d1 d2 HR0 HV0 HX0 HT HB
 obtain ⟨d0, d1, d2⟩ := Blk.three (v := ⟨vk, vn, vs⟩) HV1.out
 dsimp only at d0 d1 d2
 have k0 := HX1.out.cell (k := 0) (v := .string key) rfl
 go_wp2_with fail
 refine HL.mono ?_
 rintro e w2 ⟨rfl, hb⟩
 have HB2 := Lib.hid (HB1.out.trans (hb.mono HB1.out.size))
 have HR2 := Lib.hid (HR1.out.low hb)
 have HV2 := Lib.hid (HV1.out.low hb)
 have HX2 := Lib.hid (HX1.out.low hb)
 clear hb HL d0 d1 d2 k0 HR1 HV1 HX1 HB1
 have HPR := HPR.out w2 HB2.out
 obtain ⟨d0, d1, d2⟩ := Blk.three (v := ⟨vk, vn, vs⟩) HV2.out
 dsimp only at d0 d1 d2
 have k0 := HX2.out.cell (k := 0) (v := .string key) rfl
 have HPL := Lib.hid hpl2
 have hk0 : ¬ (pl : Int) < 0 := by omega
 have hk1 : (pl : Int) < (o.ps.length : Int) := by omega
 go_wp2_with fail
 refine HPR.mono ?_
 rintro e w3 ⟨rfl, hb⟩
 have HR3 := Lib.hid (HR2.out.low hb)
 have HX3 := Lib.hid (HX2.out.low hb)
 obtain ⟨hcell, hrow⟩ := HR3.out.pcell HO.out HRR.out
 obtain ⟨rA, rc, hre, hlc2, hcs⟩ := HR3.out.ph.prow HO.out HRR.out
 subst hre
 obtain ⟨rb, rfl, -, hpc⟩ := hcs pl q hp
 have c4 := (hcell 4 _ rfl).1
 have c0 := HR3.out.c0
 clear hb HPR d0 d1 d2 hcs hcell hf hlc2 hrow HR2 HX2 HV2 HB2 k0 hp
 obtain ⟨qk0, ⟨qk, qn, qs⟩, qw, qe, qf⟩ := q
 have k0 := HX3.out.cell (k := 0) (v := .string key) rfl
 have k1 := HX3.out.cell (k := 1) (v := .int .i64 xk) rfl
 have k2 := HX3.out.cell (k := 2) (v := .int .i64 xn) rfl
 have k3 := HX3.out.cell (k := 3) (v := .string xs) rfl
 have k4 := HX3.out.cell (k := 4) (v := .bool pw) rfl
 have k5 := HX3.out.cell (k := 5) (v := .bool pe) rfl
 have k6 := HX3.out.cell (k := 6) (v := .bool pf) rfl
 have b0 := hpc 0 _ rfl
 have b1 := hpc 1 _ rfl
 have b2 := hpc 2 _ rfl
 have b3 := hpc 3 _ rfl
 have b4 := hpc 4 _ rfl
 have b5 := hpc 5 _ rfl
 have b6 := hpc 6 _ rfl
 dsimp only at b0 b1 b2 b3 b4 b5 b6 HE4 HE5
 simp only [Nat.add_zero] at b0
 clear hpc hpl2
 cases qf with
 | true =>
  have HE := Lib.hid (HE5.out (by simp))
  clear HE4 HE5
  go_wp2_with fail
  go_quiet (fail)
  have HR5 := Lib.hid (HR3.out.low (below_drewN _ w3 nq))
  have HX5 : Hid (Blk (World.drewN w3 nq) (w.heap.size + 1) 31 [.string key, .int .i64 xk, .int .i64 xn, .string xs, .bool pw, .bool pe, .bool pf]) := HX3.out.low (below_drewN _ w3 nq)
  clear HR3 HX3 c0 c4 k0 k1 k2 k3 k4 k5 k6 b0 b1 b2 b3 b4 b5 b6
  generalize World.drewN w3 nq = w5 at *
  have k0 := HX5.out.cell (k := 0) (v := .string key) rfl
  have k1 := HX5.out.cell (k := 1) (v := .int .i64 xk) rfl
  have k2 := HX5.out.cell (k := 2) (v := .int .i64 xn) rfl
  have k3 := HX5.out.cell (k := 3) (v := .string xs) rfl
  have k4 := HX5.out.cell (k := 4) (v := .bool pw) rfl
  have k5 := HX5.out.cell (k := 5) (v := .bool pe) rfl
  have k6 := HX5.out.cell (k := 6) (v := .bool pf) rfl
  have hrow := (HR5.out.pcell HO.out HRR.out).2
  obtain ⟨b0, z0⟩ := prop_cell (k := pl) hrow rfl HP.out (j := 0) rfl
  obtain ⟨b1, z1⟩ := prop_cell (k := pl) hrow rfl HP.out (j := 1) rfl
  obtain ⟨b2, z2⟩ := prop_cell (k := pl) hrow rfl HP.out (j := 2) rfl
  obtain ⟨b3, z3⟩ := prop_cell (k := pl) hrow rfl HP.out (j := 3) rfl
  obtain ⟨b4, z4⟩ := prop_cell (k := pl) hrow rfl HP.out (j := 4) rfl
  obtain ⟨b5, z5⟩ := prop_cell (k := pl) hrow rfl HP.out (j := 5) rfl
  obtain ⟨b6, z6⟩ := prop_cell (k := pl) hrow rfl HP.out (j := 6) rfl
  clear hrow
  simp only [Nat.add_zero] at b0 z0
  go_wp2_with fail
  go_ret
  exact ⟨by rw [HE.out]; rfl, ow, R, by rw [HE.out]; exact (HR5.out.propA (q := ⟨key, ⟨xk, xn, xs⟩, pw, pe, pf⟩) HO.out HRR.out HP.out).out⟩
 | false =>
  cases pf with
  | true =>
   have HE := Lib.hid (HE4.out (by simp))
   clear HE4 HE5
   go_wp2_with fail
   go_quiet (fail)
   go_wp2_with fail
   go_ret
   exact ⟨by rw [HE.out]; rfl, ow, R, by rw [HE.out]; exact (HR3.out.low (below_drewN _ _ _)).out⟩
  | false =>
   cases pe with
   | true =>
    cases qe with
    | true =>
     cases qw with
     | true =>
      have HE := Lib.hid (HE5.out (by simp))
      clear HE4 HE5
      go_wp2_with fail
      go_quiet (fail)
      have HR5 := Lib.hid (HR3.out.low (below_drewN _ w3 nq))
      have HX5 : Hid (Blk (World.drewN w3 nq) (w.heap.size + 1) 31 [.string key, .int .i64 xk, .int .i64 xn, .string xs, .bool pw, .bool true, .bool false]) := HX3.out.low (below_drewN _ w3 nq)
      clear HR3 HX3 c0 c4 k0 k1 k2 k3 k4 k5 k6 b0 b1 b2 b3 b4 b5 b6
      generalize World.drewN w3 nq = w5 at *
      have k0 := HX5.out.cell (k := 0) (v := .string key) rfl
      have k1 := HX5.out.cell (k := 1) (v := .int .i64 xk) rfl
      have k2 := HX5.out.cell (k := 2) (v := .int .i64 xn) rfl
      have k3 := HX5.out.cell (k := 3) (v := .string xs) rfl
      have k4 := HX5.out.cell (k := 4) (v := .bool pw) rfl
      have k5 := HX5.out.cell (k := 5) (v := .bool true) rfl
      have k6 := HX5.out.cell (k := 6) (v := .bool false) rfl
      have hrow := (HR5.out.pcell HO.out HRR.out).2
      obtain ⟨b0, z0⟩ := prop_cell (k := pl) hrow rfl HP.out (j := 0) rfl
      obtain ⟨b1, z1⟩ := prop_cell (k := pl) hrow rfl HP.out (j := 1) rfl
      obtain ⟨b2, z2⟩ := prop_cell (k := pl) hrow rfl HP.out (j := 2) rfl
      obtain ⟨b3, z3⟩ := prop_cell (k := pl) hrow rfl HP.out (j := 3) rfl
      obtain ⟨b4, z4⟩ := prop_cell (k := pl) hrow rfl HP.out (j := 4) rfl
      obtain ⟨b5, z5⟩ := prop_cell (k := pl) hrow rfl HP.out (j := 5) rfl
      obtain ⟨b6, z6⟩ := prop_cell (k := pl) hrow rfl HP.out (j := 6) rfl
      clear hrow
      simp only [Nat.add_zero] at b0 z0
      go_wp2_with fail
      go_ret
      exact ⟨by rw [HE.out]; rfl, ow, R, by rw [HE.out]; exact (HR5.out.propA (q := ⟨key, ⟨xk, xn, xs⟩, pw, true, false⟩) HO.out HRR.out HP.out).out⟩
     | false =>
      cases pw with
      | true =>
       have HE := Lib.hid (HE4.out (by simp))
       clear HE4 HE5
       go_wp2_with fail
       go_quiet (fail)
       go_wp2_with fail
       go_ret
       exact ⟨by rw [HE.out]; rfl, ow, R, by rw [HE.out]; exact (HR3.out.low (below_drewN _ _ _)).out⟩
      | false =>
       by_cases e1 : xk = qk
       ·subst e1
        by_cases e2 : xn = qn
        ·subst e2
         by_cases e3 : xs = qs
         ·subst e3
          have HE := Lib.hid (HE5.out (by simp))
          clear HE4 HE5
          go_wp2_with fail
          go_quiet (fail)
          have HR5 := Lib.hid (HR3.out.low (below_drewN _ w3 nq))
          have HX5 : Hid (Blk (World.drewN w3 nq) (w.heap.size + 1) 31 [.string key, .int .i64 xk, .int .i64 xn, .string xs, .bool false, .bool true, .bool false]) := HX3.out.low (below_drewN _ w3 nq)
          clear HR3 HX3 c0 c4 k0 k1 k2 k3 k4 k5 k6 b0 b1 b2 b3 b4 b5 b6
          generalize World.drewN w3 nq = w5 at *
          have k0 := HX5.out.cell (k := 0) (v := .string key) rfl
          have k1 := HX5.out.cell (k := 1) (v := .int .i64 xk) rfl
          have k2 := HX5.out.cell (k := 2) (v := .int .i64 xn) rfl
          have k3 := HX5.out.cell (k := 3) (v := .string xs) rfl
          have k4 := HX5.out.cell (k := 4) (v := .bool false) rfl
          have k5 := HX5.out.cell (k := 5) (v := .bool true) rfl
          have k6 := HX5.out.cell (k := 6) (v := .bool false) rfl
          have hrow := (HR5.out.pcell HO.out HRR.out).2
          obtain ⟨b0, z0⟩ := prop_cell (k := pl) hrow rfl HP.out (j := 0) rfl
          obtain ⟨b1, z1⟩ := prop_cell (k := pl) hrow rfl HP.out (j := 1) rfl
          obtain ⟨b2, z2⟩ := prop_cell (k := pl) hrow rfl HP.out (j := 2) rfl
          obtain ⟨b3, z3⟩ := prop_cell (k := pl) hrow rfl HP.out (j := 3) rfl
          obtain ⟨b4, z4⟩ := prop_cell (k := pl) hrow rfl HP.out (j := 4) rfl
          obtain ⟨b5, z5⟩ := prop_cell (k := pl) hrow rfl HP.out (j := 5) rfl
          obtain ⟨b6, z6⟩ := prop_cell (k := pl) hrow rfl HP.out (j := 6) rfl
          clear hrow
          simp only [Nat.add_zero] at b0 z0
          go_wp2_with fail
          go_ret
          exact ⟨by rw [HE.out]; rfl, ow, R, by rw [HE.out]; exact (HR5.out.propA (q := ⟨key, ⟨xk, xn, xs⟩, false, true, false⟩) HO.out HRR.out HP.out).out⟩
         ·have e4 : ¬ xs.toList = qs.toList := fun a => e3 (toList_inj a)
          have HE := Lib.hid (HE4.out (by simp [e3]))
          clear HE4 HE5
          go_wp2_with fail
          go_quiet (fail)
          go_wp2_with fail
          go_ret
          exact ⟨by rw [HE.out]; rfl, ow, R, by rw [HE.out]; exact (HR3.out.low (below_drewN _ _ _)).out⟩
        ·have HE := Lib.hid (HE4.out (by simp [e2]))
         clear HE4 HE5
         go_wp2_with fail
         go_quiet (fail)
         go_wp2_with fail
         go_ret
         exact ⟨by rw [HE.out]; rfl, ow, R, by rw [HE.out]; exact (HR3.out.low (below_drewN _ _ _)).out⟩
       ·have HE := Lib.hid (HE4.out (by simp [e1]))
        clear HE4 HE5
        go_wp2_with fail
        go_quiet (fail)
        go_wp2_with fail
        go_ret
        exact ⟨by rw [HE.out]; rfl, ow, R, by rw [HE.out]; exact (HR3.out.low (below_drewN _ _ _)).out⟩
    | false =>
     have HE := Lib.hid (HE4.out (by simp))
     clear HE4 HE5
     go_wp2_with fail
     go_quiet (fail)
     go_wp2_with fail
     go_ret
     exact ⟨by rw [HE.out]; rfl, ow, R, by rw [HE.out]; exact (HR3.out.low (below_drewN _ _ _)).out⟩
   | false =>
    cases qe with
    | true =>
     have HE := Lib.hid (HE4.out (by simp))
     clear HE4 HE5
     go_wp2_with fail
     go_quiet (fail)
     go_wp2_with fail
     go_ret
     exact ⟨by rw [HE.out]; rfl, ow, R, by rw [HE.out]; exact (HR3.out.low (below_drewN _ _ _)).out⟩
    | false =>
     cases qw with
     | true =>
      have HE := Lib.hid (HE5.out (by simp))
      clear HE4 HE5
      go_wp2_with fail
      go_quiet (fail)
      have HR5 := Lib.hid (HR3.out.low (below_drewN _ w3 nq))
      have HX5 : Hid (Blk (World.drewN w3 nq) (w.heap.size + 1) 31 [.string key, .int .i64 xk, .int .i64 xn, .string xs, .bool pw, .bool false, .bool false]) := HX3.out.low (below_drewN _ w3 nq)
      clear HR3 HX3 c0 c4 k0 k1 k2 k3 k4 k5 k6 b0 b1 b2 b3 b4 b5 b6
      generalize World.drewN w3 nq = w5 at *
      have k0 := HX5.out.cell (k := 0) (v := .string key) rfl
      have k1 := HX5.out.cell (k := 1) (v := .int .i64 xk) rfl
      have k2 := HX5.out.cell (k := 2) (v := .int .i64 xn) rfl
      have k3 := HX5.out.cell (k := 3) (v := .string xs) rfl
      have k4 := HX5.out.cell (k := 4) (v := .bool pw) rfl
      have k5 := HX5.out.cell (k := 5) (v := .bool false) rfl
      have k6 := HX5.out.cell (k := 6) (v := .bool false) rfl
      have hrow := (HR5.out.pcell HO.out HRR.out).2
      obtain ⟨b0, z0⟩ := prop_cell (k := pl) hrow rfl HP.out (j := 0) rfl
      obtain ⟨b1, z1⟩ := prop_cell (k := pl) hrow rfl HP.out (j := 1) rfl
      obtain ⟨b2, z2⟩ := prop_cell (k := pl) hrow rfl HP.out (j := 2) rfl
      obtain ⟨b3, z3⟩ := prop_cell (k := pl) hrow rfl HP.out (j := 3) rfl
      obtain ⟨b4, z4⟩ := prop_cell (k := pl) hrow rfl HP.out (j := 4) rfl
      obtain ⟨b5, z5⟩ := prop_cell (k := pl) hrow rfl HP.out (j := 5) rfl
      obtain ⟨b6, z6⟩ := prop_cell (k := pl) hrow rfl HP.out (j := 6) rfl
      clear hrow
      simp only [Nat.add_zero] at b0 z0
      go_wp2_with fail
      go_ret
      exact ⟨by rw [HE.out]; rfl, ow, R, by rw [HE.out]; exact (HR5.out.propA (q := ⟨key, ⟨xk, xn, xs⟩, pw, false, false⟩) HO.out HRR.out HP.out).out⟩
     | false =>
      cases pw with
      | true =>
       have HE := Lib.hid (HE4.out (by simp))
       clear HE4 HE5
       go_wp2_with fail
       go_quiet (fail)
       go_wp2_with fail
       go_ret
       exact ⟨by rw [HE.out]; rfl, ow, R, by rw [HE.out]; exact (HR3.out.low (below_drewN _ _ _)).out⟩
      | false =>
       by_cases e1 : xk = qk
       ·subst e1
        by_cases e2 : xn = qn
        ·subst e2
         by_cases e3 : xs = qs
         ·subst e3
          have HE := Lib.hid (HE5.out (by simp))
          clear HE4 HE5
          go_wp2_with fail
          go_quiet (fail)
          have HR5 := Lib.hid (HR3.out.low (below_drewN _ w3 nq))
          have HX5 : Hid (Blk (World.drewN w3 nq) (w.heap.size + 1) 31 [.string key, .int .i64 xk, .int .i64 xn, .string xs, .bool false, .bool false, .bool false]) := HX3.out.low (below_drewN _ w3 nq)
          clear HR3 HX3 c0 c4 k0 k1 k2 k3 k4 k5 k6 b0 b1 b2 b3 b4 b5 b6
          generalize World.drewN w3 nq = w5 at *
          have k0 := HX5.out.cell (k := 0) (v := .string key) rfl
          have k1 := HX5.out.cell (k := 1) (v := .int .i64 xk) rfl
          have k2 := HX5.out.cell (k := 2) (v := .int .i64 xn) rfl
          have k3 := HX5.out.cell (k := 3) (v := .string xs) rfl
          have k4 := HX5.out.cell (k := 4) (v := .bool false) rfl
          have k5 := HX5.out.cell (k := 5) (v := .bool false) rfl
          have k6 := HX5.out.cell (k := 6) (v := .bool false) rfl
          have hrow := (HR5.out.pcell HO.out HRR.out).2
          obtain ⟨b0, z0⟩ := prop_cell (k := pl) hrow rfl HP.out (j := 0) rfl
          obtain ⟨b1, z1⟩ := prop_cell (k := pl) hrow rfl HP.out (j := 1) rfl
          obtain ⟨b2, z2⟩ := prop_cell (k := pl) hrow rfl HP.out (j := 2) rfl
          obtain ⟨b3, z3⟩ := prop_cell (k := pl) hrow rfl HP.out (j := 3) rfl
          obtain ⟨b4, z4⟩ := prop_cell (k := pl) hrow rfl HP.out (j := 4) rfl
          obtain ⟨b5, z5⟩ := prop_cell (k := pl) hrow rfl HP.out (j := 5) rfl
          obtain ⟨b6, z6⟩ := prop_cell (k := pl) hrow rfl HP.out (j := 6) rfl
          clear hrow
          simp only [Nat.add_zero] at b0 z0
          go_wp2_with fail
          go_ret
          exact ⟨by rw [HE.out]; rfl, ow, R, by rw [HE.out]; exact (HR5.out.propA (q := ⟨key, ⟨xk, xn, xs⟩, false, false, false⟩) HO.out HRR.out HP.out).out⟩
         ·have e4 : ¬ xs.toList = qs.toList := fun a => e3 (toList_inj a)
          have HE := Lib.hid (HE4.out (by simp [e3]))
          clear HE4 HE5
          go_wp2_with fail
          go_quiet (fail)
          go_wp2_with fail
          go_ret
          exact ⟨by rw [HE.out]; rfl, ow, R, by rw [HE.out]; exact (HR3.out.low (below_drewN _ _ _)).out⟩
        ·have HE := Lib.hid (HE4.out (by simp [e2]))
         clear HE4 HE5
         go_wp2_with fail
         go_quiet (fail)
         go_wp2_with fail
         go_ret
         exact ⟨by rw [HE.out]; rfl, ow, R, by rw [HE.out]; exact (HR3.out.low (below_drewN _ _ _)).out⟩
       ·have HE := Lib.hid (HE4.out (by simp [e1]))
        clear HE4 HE5
        go_wp2_with fail
        go_quiet (fail)
        go_wp2_with fail
        go_ret
        exact ⟨by rw [HE.out]; rfl, ow, R, by rw [HE.out]; exact (HR3.out.low (below_drewN _ _ _)).out⟩
end
section
variable {w w' w1 w2 : World} {ow ow1 ow2 : Nat → Option Nat} {A i : Nat} {H H1 H2 Hc : Hs} {R R1 R2 : List Value} {o o' : Ob}
set_option maxRecDepth 8000 in
set_option maxHeartbeats 4000000 in
theorem rdef_len (h : RH w A H ow R) (gd : Gd H) (v : Vl) (p : Pr) (_ : p.key.size ≤ 16777216) (hat : H.at v = some i) (ho : H.os[i]? = some o) (hl : (decide (o.cls = AR) && decide (p.key = LK)) = true) :
  Calls Tryz.prog 35 #[pv A, v.v, p.v'] w (RpR w A ow (.int .i64 (H.define ix LK AR v p).2) (H.define ix LK AR v p).1) := by
 have hol := gd.os100
 have hi := at_lt hat
 have hob := obj_some hat ho
 obtain ⟨g, cap, hcap, hrg⟩ := Rg.start h ho
 have hb0 := two_low (w := w) 29 31 v.cs p.cs
 have HB := Lib.hid hb0
 have HR0 := Lib.hid (hrg.low hb0)
 have HV0 := Lib.hid (blk_two' w 29 31 v.cs p.cs).1
 have HX0 := Lib.hid (blk_two' w 29 31 v.cs p.cs).2
 have HO := Lib.hid ho
 have HXO : Hid (ow (w.heap.size + 1) = none) := h.off (Nat.le_succ _)
 have hii : (i : Int) < (H.os.length : Int) := by omega
 have hi0 : ¬ (i : Int) < 0 := by omega
 have HLO : Hid (o.ps.length ≤ 100000) := Nat.le_trans (gd.og i o ho).l gd.n100
 have HT := Lib.hid (rat_any (h.low hb0) v hol)
 rw [hat] at HT
 have HL := Lib.hid fun w' (hb : Below w.heap.size w w') => rislen_any (h.low hb) v p.key hol
 rw [hob, show (decide (clsR (some o) = AR) && decide (p.key = LK)) = (decide (o.cls = AR) && decide (p.key = LK)) from rfl] at HL
 rw [hl] at HL
 have hca : o.cls = AR := by
  rw [Bool.and_eq_true] at hl
  exact of_decide_eq_true hl.1
 have HLN := Lib.hid fun w' (hb : Below w.heap.size w w') => rlength_any (h.low hb) gd ho hca p.v
 clear hca
 obtain ⟨rl, HRL⟩ : ∃ rl, Hid (H.define ix LK AR v p = rl) := ⟨_, rfl⟩
 have HD1 := Lib.hid fun hw => HRL.out.symm.trans (def_bar hat ho hl hw)
 have HD2 := Lib.hid fun hw => HRL.out.symm.trans (def_len hat ho hl hw)
 rw [HRL.out]
 obtain ⟨r, hr, -⟩ := HR0.out.cell ho
 have HRR := Lib.hid hr
 obtain ⟨d0, d1, d2⟩ := Blk.three HV0.out
 clear h gd hat ho hi hob hrg hb0 hr hcap hol hl
 obtain ⟨vk, vn, vs⟩ := v
 obtain ⟨key, ⟨xk, xn, xs⟩, pw, pe, pf⟩ := p
 simp only [Vl.v, Vl.cs, Pr.v', Pr.cs, atI] at HB HR0 HV0 HX0 HT HL HLN HD1 HD2 d0 d1 d2 ⊢
 go_enter Tryz.func35, Tryz.ntmps35
 go_wp2_with fail
 refine HT.out.mono ?_
 rintro e w1 ⟨rfl, hb⟩
 have HB1 := Lib.hid (HB.out.trans (hb.mono HB.out.size))
 have HR1 := Lib.hid (HR0.out.low hb)
 have HV1 := Lib.hid (HV0.out.low hb)
 have HX1 := Lib.hid (HX0.out.low hb)
 have HL := HL.out w1 HB1.out
 clear hb d0 d1 d2 HR0 HV0 HX0 HT HB
 obtain ⟨d0, d1, d2⟩ := Blk.three (v := ⟨vk, vn, vs⟩) HV1.out
 dsimp only at d0 d1 d2
 have k0 := HX1.out.cell (k := 0) (v := .string key) rfl
 go_wp2_with fail
 refine HL.mono ?_
 rintro e w2 ⟨rfl, hb⟩
 have HB2 := Lib.hid (HB1.out.trans (hb.mono HB1.out.size))
 have HR2 := Lib.hid (HR1.out.low hb)
 have HV2 := Lib.hid (HV1.out.low hb)
 have HX2 := Lib.hid (HX1.out.low hb)
 clear hb HL d0 d1 d2 k0 HR1 HV1 HX1 HB1
 obtain ⟨rA, rc, hre, -, -⟩ := HR2.out.ph.prow HO.out HRR.out
 subst hre
 obtain ⟨hcell, -⟩ := HR2.out.pcell HO.out HRR.out
 have o0 := (hcell 0 _ rfl).1
 have o1 := (hcell 1 _ rfl).1
 have o2 := (hcell 2 _ rfl).1
 have o3 := (hcell 3 _ rfl).1
 have o4 := (hcell 4 _ rfl).1
 have o5 := (hcell 5 _ rfl).1
 have o6 := (hcell 6 _ rfl).1
 have o7 := (hcell 7 _ rfl).1
 dsimp only at o0 o1 o2 o3 o4 o5 o6 o7
 simp only [Nat.add_zero] at o0
 have c0 := HR2.out.c0
 have hbn := below_new w2 (.cells #[.string o.cls, .int .i64 (refO o.proto).k, .int .i64 (refO o.proto).n, .string (refO o.proto).s, .slice rA o.ps.length rc, .bool o.closed, .int .i64 (o.len : Int), .bool o.lw] 73)
 have HB3 := Lib.hid (HB2.out.trans (hbn.mono HB2.out.size))
 have HR3 := Lib.hid (HR2.out.low hbn)
 have HX3 := Lib.hid (HX2.out.low hbn)
 have k0 := HX3.out.cell (k := 0) (v := .string key) rfl
 have k1 := HX3.out.cell (k := 1) (v := .int .i64 xk) rfl
 have k2 := HX3.out.cell (k := 2) (v := .int .i64 xn) rfl
 have k3 := HX3.out.cell (k := 3) (v := .string xs) rfl
 have k4 := HX3.out.cell (k := 4) (v := .bool pw) rfl
 have k5 := HX3.out.cell (k := 5) (v := .bool pe) rfl
 have k6 := HX3.out.cell (k := 6) (v := .bool pf) rfl
 clear hbn hcell HV2 HB2 HX2
 try dsimp only at HD1 HD2
 cases hlw : o.lw with
 | true =>
  rw [hlw] at HB3 HR3 HX3 k0 k1 k2 k3 k4 k5 k6 o7
  cases pe with
  | true =>
   have HE := Lib.hid (HD1.out (by simp [hlw, num, nil]))
   clear HD1 HD2
   go_wp2_with fail
   go_ret
   exact ⟨by rw [HE.out]; rfl, ow, R, by rw [HE.out]; exact HR3.out.out⟩
  | false =>
   cases pf with
   | true =>
    have HE := Lib.hid (HD1.out (by simp [hlw, num, nil]))
    clear HD1 HD2
    go_wp2_with fail
    go_ret
    exact ⟨by rw [HE.out]; rfl, ow, R, by rw [HE.out]; exact HR3.out.out⟩
   | false =>
    have HE := Lib.hid (HD2.out (by simp [hlw, num, nil]))
    have HLN := HLN.out _ HB3.out
    obtain ⟨⟨q1, q2⟩, HQ⟩ : ∃ q, Hid (o.length ix ⟨xk, xn, xs⟩ = q) := ⟨_, rfl⟩
    rw [HQ.out] at HE HLN
    dsimp only at HE
    clear HD1 HD2 HQ
    go_wp2_with fail
    refine HLN.mono ?_
    rintro e w4 ⟨rfl, ow4, R4, hch⟩
    have HCH := Lib.hid (hch.low HB3.out)
    have HX4 := Lib.hid (HX3.out.fr (hch.fr.block _ ⟨HX3.out.lt, HXO.out⟩))
    have HX4O : Hid (ow4 (w.heap.size + 1) = none) := by
     cases e : ow4 (w.heap.size + 1) with
     | none => rfl
     | some r =>
      rcases hch.new _ (by rw [e]; simp) with e2 | e2
      ·exact absurd HXO.out e2
      ·have := HX3.out.lt
       omega
    have HO4 : Hid ((H.set i q1).os[i]? = some q1) := set_getO HO.out
    obtain ⟨g4, cap4, hcap4, hrg4⟩ := Rg.start hch.ph HO4.out
    have hl4 : (H.set i q1).os.length = H.os.length := by simp [Hs.set]
    rw [hl4] at hrg4
    have HR4 := Lib.hid hrg4
    obtain ⟨r4, hr4, -⟩ := HR4.out.cell HO4.out
    have HRR4 := Lib.hid hr4
    clear hch HLN k0 k1 k2 k3 k4 k5 k6 hcap4 hrg4 hl4 hr4 HR3 HX3 HB3 HRR HO HXO
    by_cases hq : q2 = 0
    ·subst hq
     rw [if_pos rfl] at HE
     go_wp2_with fail
     have HR5 := Lib.hid (HR4.out.low (below_draw w4))
     have HX5 := Lib.hid (HX4.out.low (below_draw w4))
     have hs5 : (fun w' : World => w'.cell? ⟨A, 0, none⟩ = some (.slice (some ⟨g4, 0, none⟩) H.os.length cap4) ∧ w'.cell? ⟨w.heap.size + 1, 4, none⟩ = some (.bool pw)) w4.drew := ⟨HR5.out.c0, HX5.out.cell (k := 4) rfl⟩
     refine wp_region_held_drew (S := (fun w' : World => w'.cell? ⟨A, 0, none⟩ = some (.slice (some ⟨g4, 0, none⟩) H.os.length cap4) ∧ w'.cell? ⟨w.heap.size + 1, 4, none⟩ = some (.bool pw))) (by kernel_rfl) (hs5) (fun hHeld0 => ?_)
     generalize w4.drew = w5 at *
     refine tk 0 ?_ ‹_› ?_ ?_; rotate_left; focus (intro w0 hSw; obtain ⟨e0, e1⟩ := hSw; go_simp; try with_reducible rfl)
     refine tk 1 ?_ ‹_› ?_ ?_; rotate_left; focus (intro w0 hSw; obtain ⟨e0, e1⟩ := hSw; go_simp; try with_reducible rfl)
     refine tk 2 ?_ ‹_› ?_ ?_; rotate_left; focus (intro w0 hSw; obtain ⟨e0, e1⟩ := hSw; go_simp; try with_reducible rfl)
     refine tk 3 ?_ ‹_› ?_ ?_; rotate_left; focus (intro w0 hSw; obtain ⟨e0, e1⟩ := hSw; go_simp; try with_reducible rfl)
     refine tk 4 ?_ ‹_› ?_ ?_; rotate_left; focus (intro w0 hSw; obtain ⟨e0, e1⟩ := hSw; go_simp; try with_reducible rfl)
     refine tk 5 ?_ ‹_› ?_ ?_; rotate_left; focus (intro w0 hSw; obtain ⟨e0, e1⟩ := hSw; go_simp; try with_reducible rfl)
     refine tk 6 ?_ ‹_› ?_ ?_; rotate_left; focus (intro w0 hSw; obtain ⟨e0, e1⟩ := hSw; go_simp; try with_reducible rfl)
     refine tk 7 ?_ ‹_› ?_ ?_; rotate_left; focus (intro w0 hSw; obtain ⟨e0, e1⟩ := hSw; go_simp; try with_reducible rfl)
     refine tk 8 ?_ ‹_› ?_ ?_; rotate_left; focus (intro w0 hSw; obtain ⟨e0, e1⟩ := hSw; go_simp; try with_reducible rfl)
     try simp only [PT]
     refine wpAnyH_ready (rs := [9]) (by decide +kernel) (by simp) (AllReadyH.cons rfl (fun K hK => ?_) AllReadyH.nil)
     obtain ⟨hc, -⟩ := HR5.out.pcell HO4.out HRR4.out
     have c7 := (hc 7 _ rfl).1
     have z7 := (hc 7 _ rfl).2
     dsimp only at c7
     obtain ⟨HR6, -⟩ := HR5.out.put (j := 7) (o' := { q1 with lw := pw }) (u := .bool pw) HO4.out HRR4.out (by decide) rfl rfl
     rw [set_set2] at HR6
     have HR6 := Lib.hid HR6
     clear hc
     have HPG : Hid (w.heap.size + 1 ≠ g4) := fun e => by
      have h1 := HR5.out.og
      rw [← e, HX4O.out] at h1
      cases h1
     have hs6 : (fun w' : World => w'.cell? ⟨A, 0, none⟩ = some (.slice (some ⟨g4, 0, none⟩) H.os.length cap4) ∧ w'.cell? ⟨w.heap.size + 1, 4, none⟩ = some (.bool pw)) (w5.setCell ⟨g4, i * 8 + 7, none⟩ (.bool pw)) := ⟨HR6.out.c0, (HX5.out.other (p := ⟨g4, i * 8 + 7, none⟩) HPG.out _).cell (k := 4) rfl⟩
     go_simp
     refine hK.out _ _ hs6 (fun hHeld1 => ?_)
     clear hK K hHeld0
     refine wpAnyH_done (by kernel_rfl) ?_ _
     clear hHeld1 hs5 hs6 c7 z7
     go_wp2_with fail
     go_ret
     exact ⟨by rw [HE.out]; rfl, ow4, R4, by rw [HE.out]; exact HCH.out.trans HR6.out.out⟩
    ·rw [if_neg hq] at HE
     go_wp2_with fail
     go_ret
     exact ⟨by rw [HE.out]; rfl, ow4, R4, by rw [HE.out]; exact HCH.out⟩
 | false =>
  rw [hlw] at HB3 HR3 HX3 k0 k1 k2 k3 k4 k5 k6 o7
  cases pe with
  | true =>
   have HE := Lib.hid (HD1.out (by simp [hlw, num, nil]))
   clear HD1 HD2
   go_wp2_with fail
   go_ret
   exact ⟨by rw [HE.out]; rfl, ow, R, by rw [HE.out]; exact HR3.out.out⟩
  | false =>
   cases pf with
   | true =>
    have HE := Lib.hid (HD1.out (by simp [hlw, num, nil]))
    clear HD1 HD2
    go_wp2_with fail
    go_ret
    exact ⟨by rw [HE.out]; rfl, ow, R, by rw [HE.out]; exact HR3.out.out⟩
   | false =>
    cases pw with
    | true =>
     have HE := Lib.hid (HD1.out (by simp [hlw, num, nil]))
     clear HD1 HD2
     go_wp2_with fail
     go_ret
     exact ⟨by rw [HE.out]; rfl, ow, R, by rw [HE.out]; exact HR3.out.out⟩
    | false =>
     by_cases e1 : xk = 3
     ·subst e1
      by_cases e2 : xn = (o.len : Int)
      ·subst e2
       by_cases e3 : xs = (⟨#[]⟩ : ByteArray)
       ·subst e3
        have HE := Lib.hid (HD2.out (by simp [hlw, num, nil]))
        have HLN := HLN.out _ HB3.out
        obtain ⟨⟨q1, q2⟩, HQ⟩ : ∃ q, Hid (o.length ix ⟨3, (o.len : Int), ⟨#[]⟩⟩ = q) := ⟨_, rfl⟩
        rw [HQ.out] at HE HLN
        dsimp only at HE
        clear HD1 HD2 HQ
        go_wp2_with fail
        refine HLN.mono ?_
        rintro e w4 ⟨rfl, ow4, R4, hch⟩
        have HCH := Lib.hid (hch.low HB3.out)
        have HX4 := Lib.hid (HX3.out.fr (hch.fr.block _ ⟨HX3.out.lt, HXO.out⟩))
        have HX4O : Hid (ow4 (w.heap.size + 1) = none) := by
         cases e : ow4 (w.heap.size + 1) with
         | none => rfl
         | some r =>
          rcases hch.new _ (by rw [e]; simp) with e2 | e2
          ·exact absurd HXO.out e2
          ·have := HX3.out.lt
           omega
        have HO4 : Hid ((H.set i q1).os[i]? = some q1) := set_getO HO.out
        obtain ⟨g4, cap4, hcap4, hrg4⟩ := Rg.start hch.ph HO4.out
        have hl4 : (H.set i q1).os.length = H.os.length := by simp [Hs.set]
        rw [hl4] at hrg4
        have HR4 := Lib.hid hrg4
        obtain ⟨r4, hr4, -⟩ := HR4.out.cell HO4.out
        have HRR4 := Lib.hid hr4
        clear hch HLN k0 k1 k2 k3 k4 k5 k6 hcap4 hrg4 hl4 hr4 HR3 HX3 HB3 HRR HO HXO
        by_cases hq : q2 = 0
        ·subst hq
         rw [if_pos rfl] at HE
         go_wp2_with fail
         have HR5 := Lib.hid (HR4.out.low (below_draw w4))
         have HX5 := Lib.hid (HX4.out.low (below_draw w4))
         have hs5 : (fun w' : World => w'.cell? ⟨A, 0, none⟩ = some (.slice (some ⟨g4, 0, none⟩) H.os.length cap4) ∧ w'.cell? ⟨w.heap.size + 1, 4, none⟩ = some (.bool false)) w4.drew := ⟨HR5.out.c0, HX5.out.cell (k := 4) rfl⟩
         refine wp_region_held_drew (S := (fun w' : World => w'.cell? ⟨A, 0, none⟩ = some (.slice (some ⟨g4, 0, none⟩) H.os.length cap4) ∧ w'.cell? ⟨w.heap.size + 1, 4, none⟩ = some (.bool false))) (by kernel_rfl) (hs5) (fun hHeld0 => ?_)
         generalize w4.drew = w5 at *
         refine tk 0 ?_ ‹_› ?_ ?_; rotate_left; focus (intro w0 hSw; obtain ⟨e0, e1⟩ := hSw; go_simp; try with_reducible rfl)
         refine tk 1 ?_ ‹_› ?_ ?_; rotate_left; focus (intro w0 hSw; obtain ⟨e0, e1⟩ := hSw; go_simp; try with_reducible rfl)
         refine tk 2 ?_ ‹_› ?_ ?_; rotate_left; focus (intro w0 hSw; obtain ⟨e0, e1⟩ := hSw; go_simp; try with_reducible rfl)
         refine tk 3 ?_ ‹_› ?_ ?_; rotate_left; focus (intro w0 hSw; obtain ⟨e0, e1⟩ := hSw; go_simp; try with_reducible rfl)
         refine tk 4 ?_ ‹_› ?_ ?_; rotate_left; focus (intro w0 hSw; obtain ⟨e0, e1⟩ := hSw; go_simp; try with_reducible rfl)
         refine tk 5 ?_ ‹_› ?_ ?_; rotate_left; focus (intro w0 hSw; obtain ⟨e0, e1⟩ := hSw; go_simp; try with_reducible rfl)
         refine tk 6 ?_ ‹_› ?_ ?_; rotate_left; focus (intro w0 hSw; obtain ⟨e0, e1⟩ := hSw; go_simp; try with_reducible rfl)
         refine tk 7 ?_ ‹_› ?_ ?_; rotate_left; focus (intro w0 hSw; obtain ⟨e0, e1⟩ := hSw; go_simp; try with_reducible rfl)
         refine tk 8 ?_ ‹_› ?_ ?_; rotate_left; focus (intro w0 hSw; obtain ⟨e0, e1⟩ := hSw; go_simp; try with_reducible rfl)
         try simp only [PT]
         refine wpAnyH_ready (rs := [9]) (by decide +kernel) (by simp) (AllReadyH.cons rfl (fun K hK => ?_) AllReadyH.nil)
         obtain ⟨hc, -⟩ := HR5.out.pcell HO4.out HRR4.out
         have c7 := (hc 7 _ rfl).1
         have z7 := (hc 7 _ rfl).2
         dsimp only at c7
         obtain ⟨HR6, -⟩ := HR5.out.put (j := 7) (o' := { q1 with lw := false }) (u := .bool false) HO4.out HRR4.out (by decide) rfl rfl
         rw [set_set2] at HR6
         have HR6 := Lib.hid HR6
         clear hc
         have HPG : Hid (w.heap.size + 1 ≠ g4) := fun e => by
          have h1 := HR5.out.og
          rw [← e, HX4O.out] at h1
          cases h1
         have hs6 : (fun w' : World => w'.cell? ⟨A, 0, none⟩ = some (.slice (some ⟨g4, 0, none⟩) H.os.length cap4) ∧ w'.cell? ⟨w.heap.size + 1, 4, none⟩ = some (.bool false)) (w5.setCell ⟨g4, i * 8 + 7, none⟩ (.bool false)) := ⟨HR6.out.c0, (HX5.out.other (p := ⟨g4, i * 8 + 7, none⟩) HPG.out _).cell (k := 4) rfl⟩
         go_simp
         refine hK.out _ _ hs6 (fun hHeld1 => ?_)
         clear hK K hHeld0
         refine wpAnyH_done (by kernel_rfl) ?_ _
         clear hHeld1 hs5 hs6 c7 z7
         go_wp2_with fail
         go_ret
         exact ⟨by rw [HE.out]; rfl, ow4, R4, by rw [HE.out]; exact HCH.out.trans HR6.out.out⟩
        ·rw [if_neg hq] at HE
         go_wp2_with fail
         go_ret
         exact ⟨by rw [HE.out]; rfl, ow4, R4, by rw [HE.out]; exact HCH.out⟩
       ·obtain ⟨e4, e5⟩ := str_em (show xs ≠ nil from e3)
        have HE := Lib.hid (HD1.out (by simp [hlw, num, nil, e3]))
        clear HD1 HD2
        go_wp2_with fail
        go_ret
        exact ⟨by rw [HE.out]; rfl, ow, R, by rw [HE.out]; exact HR3.out.out⟩
      ·have HE := Lib.hid (HD1.out (by simp [hlw, num, nil, e2]))
       clear HD1 HD2
       go_wp2_with fail
       go_ret
       exact ⟨by rw [HE.out]; rfl, ow, R, by rw [HE.out]; exact HR3.out.out⟩
     ·have HE := Lib.hid (HD1.out (by simp [hlw, num, nil, e1]))
      clear HD1 HD2
      go_wp2_with fail
      go_ret
      exact ⟨by rw [HE.out]; rfl, ow, R, by rw [HE.out]; exact HR3.out.out⟩
end
section
variable {w w' w1 w2 : World} {ow ow1 ow2 : Nat → Option Nat} {A i : Nat} {H H1 H2 Hc : Hs} {R R1 R2 : List Value} {o o' : Ob}
theorem rdefine_any (h : RH w A H ow R) (gd : Gd H) (v : Vl) (p : Pr) (hs : p.key.size ≤ 16777216) :
  Calls Tryz.prog 35 #[pv A, v.v, p.v'] w (RpR w A ow (.int .i64 (H.define ix LK AR v p).2) (H.define ix LK AR v p).1) := by
 cases hat : H.at v with
 | none =>
  rw [def_out hat]
  refine (rdefine_none h v p gd.os100 hat).mono ?_
  rintro e w1 ⟨rfl, hb⟩
  exact ⟨rfl, ow, R, Rch.below h hb⟩
 | some i =>
  obtain ⟨o, ho⟩ : ∃ o, H.os[i]? = some o := ⟨H.os[i]'(at_lt hat), List.getElem?_eq_getElem (at_lt hat)⟩
  cases hl : (decide (o.cls = AR) && decide (p.key = LK)) with
  | true => exact rdef_len h gd v p hs hat ho hl
  | false =>
   cases hf : o.ps.findIdx? (has p.key) with
   | none => exact rdef_add h gd v p hs hat ho hl hf
   | some pl =>
    obtain ⟨q, hp⟩ : ∃ q, o.ps[pl]? = some q := ⟨_, List.getElem?_eq_getElem (idx_lt_len hf)⟩
    exact rdef_there h gd v p hs hat ho hl hf hp
end
end Go.Proofs.YtcahijpbkjplmaaGreatDoor.G
