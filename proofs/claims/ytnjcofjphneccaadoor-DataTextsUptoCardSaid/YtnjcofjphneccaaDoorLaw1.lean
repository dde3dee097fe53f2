/-
  THE LAWS: DataChecks, DataTexts.
-/
import Derived.Test.YtnjcofjphneccaaDoorLive
import Derived.Test.YtnjcofjphneccaaDoorRtx
import Derived.Deep.RegionHeld3
namespace Go.Proofs.YtnjcofjphneccaaDoor
open Go.RowKit

set_option maxRecDepth 8000 in
set_option maxHeartbeats 1000000 in
theorem checks_law (v : V) (x : X) (w : World) (h : Is w v x) (hbk : v.bulk ≤ 4194304) (hT : Tab w) :
    Calls Tryd.prog 3 #[x.v] w fun e w' => e = .returned (.bool true) ∧ Below w.heap.size w w' := by
  have HL := Lib.hid live_any
  have HT := Lib.hid hT
  have HC := Lib.hid fun w' (hb : Below w.heap.size w w') => chk_any v x w' (Is.below hb _ _ h) hbk
  have HR := Lib.hid fun w' (hb : Below w.heap.size w w') => refChk_any v x w' (Is.below hb _ _ h) hbk
  obtain ⟨β, hβ⟩ : ∃ β, β = w.heap.size := ⟨_, rfl⟩
  obtain ⟨W0, hW0⟩ : ∃ W0, W0 = w.alloc (.cells x.cells 25) := ⟨_, rfl⟩
  have HB0 : Hid (Below w.heap.size w W0) := by subst hW0; exact below_alloc w _
  have hβ1 : β < W0.heap.size := by subst hW0 hβ; simp
  have HX0 : Hid (At W0 β 0 x) := by
    subst hW0 hβ
    exact ⟨by simp [X.cells], by simp [X.cells], by simp [X.cells], by simp [X.cells], by simp [X.cells]⟩
  have HS0 : Hid (∀ w', Below W0.heap.size W0 w' → At w' β 0 x) := fun w' hb => HX0.out.below hβ1 hb
  obtain ⟨k, n, s, ka, kn, kc, la, ln, lc⟩ := x
  simp only [X.v, X.cells] at *
  obtain ⟨c0, c1, c2, c3, c4⟩ := HS0.out W0 (Below.refl _ _)
  clear h hT
  go_enter Tryd.func3, Tryd.ntmps3
  go_upto_region 1 with (fail)
  rw [← hβ, ← hW0]
  clear hW0 hβ
  go_region_held3 (fun w' => w'.cell? ⟨β, 0, none⟩ = some (.int .i64 k) ∧ w'.cell? ⟨β, 0 + 1, none⟩ = some (.int .i64 n) ∧ w'.cell? ⟨β, 0 + 2, none⟩ = some (.string s) ∧ w'.cell? ⟨β, 0 + 3, none⟩ = some (.slice ka kn kc) ∧ w'.cell? ⟨β, 0 + 4, none⟩ = some (.slice la ln lc))
    (first | go_keep) ((first
      | (go_at_call 10; refine (HL.out _ ?ct).mono ?_; (case ct => exact HT.out.below (HB0.out.trans (Below.refl _ _).drew)); rintro e w1 ⟨rfl, hb1⟩; have hB1 : Below W0.heap.size W0 w1 := (Below.refl _ _).drew.trans hb1; obtain ⟨d0, d1, d2, d3, d4⟩ := HS0.out _ hB1)
      | (go_at_call 11; refine (HC.out _ (HB0.out.trans (hB1.mono HB0.out.size))).mono ?_; rintro e w2 ⟨rfl, hb2⟩; have hB2 : Below W0.heap.size W0 w2 := hB1.trans (hb2.mono hB1.size); obtain ⟨e0, e1, e2, e3, e4⟩ := HS0.out _ hB2)
      | (go_at_call 12; refine (HR.out _ (HB0.out.trans (hB2.mono HB0.out.size))).mono ?_; rintro e w3 ⟨rfl, hb3⟩; have hB3 : Below W0.heap.size W0 w3 := hB2.trans (hb3.mono hB2.size); obtain ⟨f0, f1, f2, f3, f4⟩ := HS0.out _ hB3)))
  go_wp2_with fail
  go_ret
  exact ⟨rfl, HB0.out.trans (hB3.mono HB0.out.size)⟩

set_option maxRecDepth 8000 in
set_option maxHeartbeats 1000000 in
theorem texts_law (v : V) (x : X) (w : World) (h : Is w v x) (hbk : v.bulk ≤ 4194304) (hT : Tab w) :
    Calls Tryd.prog 5 #[x.v] w fun e w' => e = .returned (.bool true) ∧ Below w.heap.size w w' := by
  have HL := Lib.hid live_any
  have HT := Lib.hid hT
  have HC := Lib.hid fun w' (hb : Below w.heap.size w w') => text_any v x w' (Is.below hb _ _ h) hbk (HT.out.below hb)
  have HR := Lib.hid fun w' (hb : Below w.heap.size w w') => refText_any v x w' (Is.below hb _ _ h) hbk
  obtain ⟨β, hβ⟩ : ∃ β, β = w.heap.size := ⟨_, rfl⟩
  obtain ⟨W0, hW0⟩ : ∃ W0, W0 = w.alloc (.cells x.cells 25) := ⟨_, rfl⟩
  have HB0 : Hid (Below w.heap.size w W0) := by subst hW0; exact below_alloc w _
  have hβ1 : β < W0.heap.size := by subst hW0 hβ; simp
  have HX0 : Hid (At W0 β 0 x) := by
    subst hW0 hβ
    exact ⟨by simp [X.cells], by simp [X.cells], by simp [X.cells], by simp [X.cells], by simp [X.cells]⟩
  have HS0 : Hid (∀ w', Below W0.heap.size W0 w' → At w' β 0 x) := fun w' hb => HX0.out.below hβ1 hb
  obtain ⟨k, n, s, ka, kn, kc, la, ln, lc⟩ := x
  simp only [X.v, X.cells] at *
  obtain ⟨c0, c1, c2, c3, c4⟩ := HS0.out W0 (Below.refl _ _)
  clear h hT
  generalize v.out.toArray = out at *
  go_enter Tryd.func5, Tryd.ntmps5
  go_upto_region 1 with (fail)
  rw [← hβ, ← hW0]
  clear hW0 hβ
  go_wp2_with fail
  refine (HC.out _ HB0.out).mono ?_
  rintro e w1 ⟨rfl, hb1⟩
  obtain ⟨d0, d1, d2, d3, d4⟩ := HS0.out _ hb1
  have hB1 := Lib.hid (HB0.out.trans (hb1.mono HB0.out.size))
  clear c0 c1 c2 c3 c4 hb1
  go_wp2_with fail
  refine (HR.out _ hB1.out).mono ?_
  rintro e w2 ⟨rfl, hb2⟩
  have hB2 := Lib.hid (hB1.out.trans (hb2.mono hB1.out.size))
  clear d0 d1 d2 d3 d4 hb2
  go_wp2_with fail
  refine (HL.out _ (HT.out.below hB2.out)).mono ?_
  rintro e w3 ⟨rfl, hb3⟩
  have hB3 := Lib.hid (hB2.out.trans (hb3.mono hB2.out.size))
  clear hb3
  go_wp2_with fail
  go_ret
  exact ⟨by simp, hB3.out⟩
end Go.Proofs.YtnjcofjphneccaaDoor
