/-
  THE LAW DataLooks.
-/
import Derived.Test.YtnjcofjphneccaaDoorLive
import Derived.Test.YtnjcofjphneccaaDoorRgt
import Derived.Test.YtnjcofjphneccaaDoorRSm
import Derived.Deep.RegionHeld3
namespace Go.Proofs.YtnjcofjphneccaaDoor
open Go.RowKit

theorem got_bulk (v : V) (key : ByteArray) : ((got v key).getD zeroV).bulk ≤ v.bulk := by
  have h1 := bulk_pos v
  unfold got
  rcases findK key v.ks with _ | j
  · exact h1
  · show ((v.l[j]?).getD zeroV).bulk ≤ _
    rcases hj : v.l[j]? with _ | u
    · exact h1
    · have := bulk_le_of_mem (List.mem_of_getElem? hj)
      cases v
      simp only [V.l, V.bulk, Option.getD_some] at *
      omega

set_option maxRecDepth 20000 in
set_option maxHeartbeats 2000000 in
theorem looks_law (a b : V) (x y : X) (key : ByteArray) (w : World) (h : Is w a x) (h' : Is w b y) (hbk : a.bulk ≤ 4194304) (hT : Tab w) :
    Calls Tryd.prog 4 #[x.v, y.v, .string key] w fun e w' => e = .returned (.bool true) ∧ Below w.heap.size w w' := by
  have HL := Lib.hid live_any
  have HT := Lib.hid hT
  have HG := Lib.hid fun w' (hb : Below w.heap.size w w') => get_any a x key w' (Is.below hb _ _ h) hbk
  have HRG := Lib.hid fun w' (hb : Below w.heap.size w w') => refGet_any a x key w' (Is.below hb _ _ h) hbk
  have HSm := Lib.hid fun w' (hb : Below w.heap.size w w') => same_any a b x y w' (Is.below hb _ _ h) (Is.below hb _ _ h') hbk
  have HRS := Lib.hid fun w' (hb : Below w.heap.size w w') => refSame_any a b x y w' (Is.below hb _ _ h) (Is.below hb _ _ h') hbk
  have HSz := Lib.hid fun w' (hb : Below w.heap.size w w') => size_any a x w' (Is.below hb _ _ h) hbk
  have HRZ := Lib.hid fun w' (hb : Below w.heap.size w w') => refSize_any a x w' (Is.below hb _ _ h) hbk
  have HGB := Lib.hid (Nat.le_trans (got_bulk a key) hbk)
  obtain ⟨W0, hW0⟩ : ∃ W0, W0 = (w.alloc (.cells x.cells 25)).alloc (.cells y.cells 25) := ⟨_, rfl⟩
  obtain ⟨β, hβ⟩ : ∃ β, β = w.heap.size := ⟨_, rfl⟩
  obtain ⟨γ, hγ⟩ : ∃ γ, γ = w.heap.size + 1 := ⟨_, rfl⟩
  have HB0 : Hid (Below w.heap.size w W0) := by
    subst hW0
    exact (below_alloc w _).trans ((below_alloc _ _).mono (by simp))
  have HX0 : Hid (At W0 β 0 x) := by
    subst hW0 hβ
    exact ⟨by simp [X.cells], by simp [X.cells], by simp [X.cells], by simp [X.cells], by simp [X.cells]⟩
  have HY0 : Hid (At W0 γ 0 y) := by
    subst hW0 hγ
    exact ⟨by simp [X.cells], by simp [X.cells], by simp [X.cells], by simp [X.cells], by simp [X.cells]⟩
  have hβ1 : β < W0.heap.size := by subst hW0; simp; omega
  have hγ1 : γ < W0.heap.size := by subst hW0; simp; omega
  have HS0 : Hid (∀ w', Below W0.heap.size W0 w' → At w' β 0 x ∧ At w' γ 0 y) := fun w' hb => ⟨HX0.out.below hβ1 hb, HY0.out.below hγ1 hb⟩
  obtain ⟨k, n, s, ka, kn, kc, la, ln, lc⟩ := x
  obtain ⟨k', n', s', ka', kn', kc', la', ln', lc'⟩ := y
  simp only [X.v, X.cells] at *
  generalize got a key = ga at *
  generalize same a b = B at *
  obtain ⟨Z, hZ⟩ : ∃ Z : Nat, Z = a.size := ⟨_, rfl⟩
  rw [← hZ] at HSz HRZ
  clear h h' hT hbk hβ1 hγ1 HX0 HY0 hZ
  obtain ⟨⟨c0, c1, c2, c3, c4⟩, ⟨d0, d1, d2, d3, d4⟩⟩ := HS0.out W0 (Below.refl _ _)
  go_enter Tryd.func4, Tryd.ntmps4
  go_upto_region 1 with (fail)
  rw [← hγ, ← hβ, ← hW0]
  clear hW0 hβ hγ
  go_wp2_with fail
  refine (HG.out _ HB0.out).mono ?_
  rintro e w1 ⟨z, rfl, hi1, hb1⟩
  clear c0 c1 c2 c3 c4 d0 d1 d2 d3 d4
  obtain ⟨W1, hW1⟩ : ∃ W1, W1 = w1.alloc (.cells z.cells 25) := ⟨_, rfl⟩
  obtain ⟨ξ, hξ⟩ : ∃ ξ, ξ = w1.heap.size := ⟨_, rfl⟩
  have hB1 : Below W0.heap.size W0 W1 := by subst hW1; exact hb1.trans ((below_alloc w1 _).mono hb1.size)
  have hA1 : At W1 ξ 0 z := by subst hW1 hξ; exact at_of_block (hp_new rfl)
  have hξ1 : ξ < W1.heap.size := by subst hW1 hξ; simp
  have hI1 : Is W1 (ga.getD zeroV) z := by subst hW1; exact Is.below (below_alloc w1 _) _ _ hi1
  have HS1 : Hid (∀ w', Below W1.heap.size W1 w' → At w' ξ 0 z ∧ Is w' (ga.getD zeroV) z) := fun w' hb => ⟨hA1.below hξ1 hb, Is.below hb _ _ hI1⟩
  have HB1 := Lib.hid hB1
  obtain ⟨⟨c0, c1, c2, c3, c4⟩, ⟨d0, d1, d2, d3, d4⟩⟩ := HS0.out W1 hB1
  obtain ⟨zk, zn, zs, zka, zkn, zkc, zla, zln, zlc⟩ := z
  simp only [X.cells] at *
  clear hb1 hB1 hA1 hξ1 hI1 hi1
  go_upto_region 2 with (fail)
  rw [← hW1, ← hξ]
  clear hW1 hξ
  go_wp2_with fail
  refine (HRG.out _ (HB0.out.trans (HB1.out.mono HB0.out.size))).mono ?_
  rintro e w2 ⟨u, rfl, hi2, hb2⟩
  clear c0 c1 c2 c3 c4 d0 d1 d2 d3 d4
  obtain ⟨W2, hW2⟩ : ∃ W2, W2 = w2.alloc (.cells u.cells 25) := ⟨_, rfl⟩
  obtain ⟨η, hη⟩ : ∃ η, η = w2.heap.size := ⟨_, rfl⟩
  have hB2 : Below W1.heap.size W1 W2 := by subst hW2; exact hb2.trans ((below_alloc w2 _).mono hb2.size)
  have hA2 : At W2 η 0 u := by subst hW2 hη; exact at_of_block (hp_new rfl)
  have hη1 : η < W2.heap.size := by subst hW2 hη; simp
  have hI2 : Is W2 (ga.getD zeroV) u := by subst hW2; exact Is.below (below_alloc w2 _) _ _ hi2
  have HW2 : Hid (Below W0.heap.size W0 W2) := HB1.out.trans (hB2.mono HB1.out.size)
  obtain ⟨u0, hu0⟩ : ∃ u0, u0 = u := ⟨_, rfl⟩
  obtain ⟨z0, hz0⟩ : ∃ z0, z0 = X.mk zk zn zs zka zkn zkc zla zln zlc := ⟨_, rfl⟩
  have HS2 : Hid (∀ w', Below W2.heap.size W2 w' → (At w' β 0 ⟨k, n, s, ka, kn, kc, la, ln, lc⟩ ∧ At w' γ 0 ⟨k', n', s', ka', kn', kc', la', ln', lc'⟩) ∧ At w' ξ 0 ⟨zk, zn, zs, zka, zkn, zkc, zla, zln, zlc⟩ ∧ At w' η 0 u) := fun w' hb =>
    ⟨HS0.out w' (HW2.out.trans (hb.mono HW2.out.size)), (HS1.out w' (hB2.trans (hb.mono hB2.size))).1, hA2.below hη1 hb⟩
  have HRX := Lib.hid fun w' (hb : Below W2.heap.size W2 w') => refSame_any _ _ _ u w' (HS1.out w' (hB2.trans (hb.mono hB2.size))).2 (Is.below hb _ _ hI2) HGB.out
  rw [same_yes rfl] at HRX
  obtain ⟨uk, un, us0, uka, ukn, ukc, ula, uln, ulc⟩ := u
  simp only [X.v, X.cells] at *
  clear hu0 hz0 hb2 hB2 hA2 hη1 hI2 hi2 HS0 HS1 HG HRG
  go_wp2_with fail
  rw [← hW2, ← hη]
  clear hW2 hη
  obtain ⟨⟨⟨c0, c1, c2, c3, c4⟩, ⟨d0, d1, d2, d3, d4⟩⟩, ⟨p0, p1, p2, p3, p4⟩, ⟨q0, q1, q2, q3, q4⟩⟩ := HS2.out W2 (Below.refl _ _)
  have HWW := Lib.hid (HB0.out.trans (HW2.out.mono HB0.out.size))
  have HTR := Lib.hid fun w' (hb : Below W2.heap.size W2 w') => HWW.out.trans (hb.mono HWW.out.size)
  go_region_held3 (fun w' => w'.cell? ⟨β, 0, none⟩ = some (.int .i64 k) ∧ w'.cell? ⟨β, 0 + 1, none⟩ = some (.int .i64 n) ∧ w'.cell? ⟨β, 0 + 2, none⟩ = some (.string s) ∧ w'.cell? ⟨β, 0 + 3, none⟩ = some (.slice ka kn kc) ∧ w'.cell? ⟨β, 0 + 4, none⟩ = some (.slice la ln lc) ∧
      w'.cell? ⟨γ, 0, none⟩ = some (.int .i64 k') ∧ w'.cell? ⟨γ, 0 + 1, none⟩ = some (.int .i64 n') ∧ w'.cell? ⟨γ, 0 + 2, none⟩ = some (.string s') ∧ w'.cell? ⟨γ, 0 + 3, none⟩ = some (.slice ka' kn' kc') ∧ w'.cell? ⟨γ, 0 + 4, none⟩ = some (.slice la' ln' lc') ∧
      w'.cell? ⟨ξ, 0, none⟩ = some (.int .i64 zk) ∧ w'.cell? ⟨ξ, 0 + 1, none⟩ = some (.int .i64 zn) ∧ w'.cell? ⟨ξ, 0 + 2, none⟩ = some (.string zs) ∧ w'.cell? ⟨ξ, 0 + 3, none⟩ = some (.slice zka zkn zkc) ∧ w'.cell? ⟨ξ, 0 + 4, none⟩ = some (.slice zla zln zlc) ∧
      w'.cell? ⟨η, 0, none⟩ = some (.int .i64 uk) ∧ w'.cell? ⟨η, 0 + 1, none⟩ = some (.int .i64 un) ∧ w'.cell? ⟨η, 0 + 2, none⟩ = some (.string us0) ∧ w'.cell? ⟨η, 0 + 3, none⟩ = some (.slice uka ukn ukc) ∧ w'.cell? ⟨η, 0 + 4, none⟩ = some (.slice ula uln ulc))
    (first | go_keep) ((first
      | (go_at_call 10; refine (HL.out _ ?ct).mono ?_; (case ct => exact HT.out.below (HTR.out _ (Below.refl _ _).drew)); rintro e w3 ⟨rfl, hb3⟩; have hB3 : Below W2.heap.size W2 w3 := (Below.refl _ _).drew.trans hb3; obtain ⟨⟨⟨i0, i1, i2, i3, i4⟩, ⟨j0, j1, j2, j3, j4⟩⟩, ⟨m0, m1, m2, m3, m4⟩, ⟨o0, o1, o2, o3, o4⟩⟩ := HS2.out _ hB3)
      | (go_at_call 15; refine (HSm.out _ (HTR.out _ hB3)).mono ?_; rintro e w4 ⟨rfl, hb4⟩; have hB4 : Below W2.heap.size W2 w4 := hB3.trans (hb4.mono hB3.size); obtain ⟨⟨⟨i0, i1, i2, i3, i4⟩, ⟨j0, j1, j2, j3, j4⟩⟩, ⟨m0, m1, m2, m3, m4⟩, ⟨o0, o1, o2, o3, o4⟩⟩ := HS2.out _ hB4)
      | (go_at_call 16; (with_reducible refine (HRS.out _ ?cr).mono ?_); (case cr => exact HTR.out _ hB4); rintro e w5 ⟨rfl, hb5⟩; have hB5 : Below W2.heap.size W2 w5 := hB4.trans (hb5.mono hB4.size); obtain ⟨⟨⟨i0, i1, i2, i3, i4⟩, ⟨j0, j1, j2, j3, j4⟩⟩, ⟨m0, m1, m2, m3, m4⟩, ⟨o0, o1, o2, o3, o4⟩⟩ := HS2.out _ hB5)
      | (go_at_call 17; refine (HSz.out _ (HTR.out _ hB5)).mono ?_; rintro e w6 ⟨rfl, hb6⟩; have hB6 : Below W2.heap.size W2 w6 := hB5.trans (hb6.mono hB5.size); obtain ⟨⟨⟨i0, i1, i2, i3, i4⟩, ⟨j0, j1, j2, j3, j4⟩⟩, ⟨m0, m1, m2, m3, m4⟩, ⟨o0, o1, o2, o3, o4⟩⟩ := HS2.out _ hB6)
      | (go_at_call 18; refine (HRZ.out _ (HTR.out _ hB6)).mono ?_; rintro e w7 ⟨rfl, hb7⟩; have hB7 : Below W2.heap.size W2 w7 := hB6.trans (hb7.mono hB6.size); obtain ⟨⟨⟨i0, i1, i2, i3, i4⟩, ⟨j0, j1, j2, j3, j4⟩⟩, ⟨m0, m1, m2, m3, m4⟩, ⟨o0, o1, o2, o3, o4⟩⟩ := HS2.out _ hB7)
      | (go_at_call 16; (with_reducible refine (HRX.out _ ?cx).mono ?_); (case cx => exact hB7); rintro e w8 ⟨rfl, hb8⟩; have hB8 : Below W2.heap.size W2 w8 := hB7.trans (hb8.mono hB7.size); obtain ⟨⟨⟨i0, i1, i2, i3, i4⟩, ⟨j0, j1, j2, j3, j4⟩⟩, ⟨m0, m1, m2, m3, m4⟩, ⟨o0, o1, o2, o3, o4⟩⟩ := HS2.out _ hB8)))
  go_wp2_with fail
  go_ret
  exact ⟨rfl, HTR.out _ hB8⟩
end Go.Proofs.YtnjcofjphneccaaDoor
