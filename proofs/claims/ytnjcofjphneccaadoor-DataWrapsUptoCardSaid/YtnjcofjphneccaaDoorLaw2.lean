/-
  THE LAW DataWraps.
-/
import Derived.Test.YtnjcofjphneccaaDoorLive
import Derived.Test.YtnjcofjphneccaaDoorWrap
import Derived.Deep.RegionHeld3
import Derived.Deep.RegionHeldLaw
import Derived.IntWalk
namespace Go.Proofs.YtnjcofjphneccaaDoor
open Go.RowKit

theorem wrap_is {w : World} {g : Nat} {v : V} {x : X} (h : Is w v x) (hg : At w g 0 x) (hl : g < w.heap.size) : Is w (wrap v) ⟨5, 0, ⟨#[]⟩, none, 0, 0, some ⟨g, 0, none⟩, 1, 1⟩ := by
  rw [is_iff]
  refine ⟨⟨rfl, rfl, rfl⟩, ⟨rfl, Nat.le_refl _, .inl rfl⟩, rfl, Nat.le_refl _, .inr ⟨g, 0, rfl, hl, ?_⟩⟩
  show IsAllB w _ _ _ [v]
  rw [IsAllB, IsAllB]
  exact ⟨⟨x, hg, h⟩, trivial⟩

theorem wrap_text (v : V) : (91 :: (v.out ++ [93]) == ((⟨#[91]⟩ : ByteArray) ++ ⟨v.out.toArray⟩ ++ ⟨#[93]⟩).toList) = true := by
  rw [ByteArray.toList_eq]
  simp
theorem out_size (v : V) (h : v.bulk ≤ 4194304) : (⟨v.out.toArray⟩ : ByteArray).size ≤ 100000000 := by
  show v.out.toArray.size ≤ _
  rw [List.size_toArray]
  unfold V.out
  split
  · rename_i hc
    have := tx_len v (chk_may hc)
    omega
  · simp

set_option maxRecDepth 8000 in
set_option maxHeartbeats 1000000 in
theorem wraps_law (v : V) (x : X) (w : World) (h : Is w v x) (hbk : v.bulk ≤ 4194303) (hT : Tab w) :
    Calls Tryd.prog 9 #[x.v] w fun e w' => e = .returned (.bool true) ∧ Below w.heap.size w w' := by
  have HL := Lib.hid live_any
  have HT := Lib.hid hT
  have HX := Lib.hid h
  obtain ⟨β, hβ⟩ : ∃ β, β = w.heap.size := ⟨_, rfl⟩
  obtain ⟨W0, hW0⟩ : ∃ W0, W0 = w.alloc (.cells x.cells 25) := ⟨_, rfl⟩
  have HB0 : Hid (Below w.heap.size w W0) := by subst hW0; exact below_alloc w _
  have hβ1 : β < W0.heap.size := by subst hW0 hβ; simp
  have HX0 : Hid (At W0 β 0 x) := by
    subst hW0 hβ
    exact ⟨by simp [X.cells], by simp [X.cells], by simp [X.cells], by simp [X.cells], by simp [X.cells]⟩
  have HS0 : Hid (∀ w', Below W0.heap.size W0 w' → At w' β 0 x) := fun w' hb => HX0.out.below hβ1 hb
  obtain ⟨k, n, s, ka, kn, kc, la, ln, lc⟩ := x
  simp only [X.v, X.cells] at *
  clear h hT
  go_enter Tryd.func9, Tryd.ntmps9
  go_upto_region 1 with (fail)
  rw [← hβ, ← hW0]
  clear hW0 hβ
  go_wp2_with fail
  refine (HL.out _ (HT.out.below HB0.out)).mono ?_
  rintro e w1 ⟨rfl, hb1⟩
  obtain ⟨c0, c1, c2, c3, c4⟩ := HS0.out w1 hb1
  have hβw1 : β < w1.heap.size := Nat.lt_of_lt_of_le hβ1 hb1.size
  have HB1 := Lib.hid (HB0.out.trans (hb1.mono HB0.out.size))
  obtain ⟨ω, hω⟩ : ∃ ω, ω = w1.heap.size := ⟨_, rfl⟩
  obtain ⟨γ, hγ⟩ : ∃ γ, γ = w1.heap.size + 1 := ⟨_, rfl⟩
  obtain ⟨w2, hw2⟩ : ∃ w2, w2 = (w1.alloc (.cells #[.int .i64 k, .int .i64 n, .string s, .slice ka kn kc, .slice la ln lc] 25)).alloc (.cells #[.int .i64 5, .int .i64 0, .string ⟨#[]⟩, .slice none 0 0, .slice (some ⟨w1.heap.size, 0, none⟩) 1 1] 25) := ⟨_, rfl⟩
  have HB2 : Hid (Below w.heap.size w w2) := by
    subst hw2
    exact HB1.out.trans (((below_alloc w1 _).trans ((below_alloc _ _).mono (by simp))).mono HB1.out.size)
  have hb12 : Below W0.heap.size W0 w2 := by
    subst hw2
    exact hb1.trans (((below_alloc w1 _).trans ((below_alloc _ _).mono (by simp))).mono hb1.size)
  have hωl : ω < w2.heap.size := by subst hω hw2; simp; omega
  have hγl : γ < w2.heap.size := by subst hγ hw2; simp
  have HXr : Hid (At w2 ω 0 ⟨k, n, s, ka, kn, kc, la, ln, lc⟩) := by
    subst hω hw2
    exact at_row (hp_alloc (hp_new rfl)) rfl rfl rfl rfl rfl
  have HXw : Hid (At w2 γ 0 ⟨5, 0, ⟨#[]⟩, none, 0, 0, some ⟨ω, 0, none⟩, 1, 1⟩) := by
    subst hω hγ hw2
    exact at_row (hp_new (by simp)) rfl rfl rfl rfl rfl
  have HI2 := Lib.hid (Is.below HB2.out _ _ HX.out)
  have HW2 := Lib.hid (wrap_is HI2.out HXr.out hωl)
  have HS2 : Hid (∀ w', Below w2.heap.size w2 w' → At w' β 0 ⟨k, n, s, ka, kn, kc, la, ln, lc⟩ ∧ At w' γ 0 ⟨5, 0, ⟨#[]⟩, none, 0, 0, some ⟨ω, 0, none⟩, 1, 1⟩) := fun w' hb => ⟨HS0.out w' (hb12.trans (hb.mono hb12.size)), HXw.out.below hγl hb⟩
  have HTv := Lib.hid fun w' (hb : Below w2.heap.size w2 w') => text_any v _ w' (Is.below hb _ _ HI2.out) (by omega) (HT.out.below (HB2.out.trans (hb.mono HB2.out.size)))
  have HTw := Lib.hid fun w' (hb : Below w2.heap.size w2 w') => text_any (wrap v) _ w' (Is.below hb _ _ HW2.out) (by rw [wrap_bulk]; omega) (HT.out.below (HB2.out.trans (hb.mono HB2.out.size)))
  have HSv := Lib.hid fun w' (hb : Below w2.heap.size w2 w') => size_any v _ w' (Is.below hb _ _ HI2.out) (by omega)
  have HSw := Lib.hid fun w' (hb : Below w2.heap.size w2 w') => size_any (wrap v) _ w' (Is.below hb _ _ HW2.out) (by rw [wrap_bulk]; omega)
  have HCw := Lib.hid fun w' (hb : Below w2.heap.size w2 w') => chk_any (wrap v) _ w' (Is.below hb _ _ HW2.out) (by rw [wrap_bulk]; omega)
  rw [wrap_size] at HSw
  simp only [X.v] at *
  go_wp2_with fail
  rw [← hw2, ← hγ, ← hω]
  clear hb12 hωl hγl hw2 hγ hω c0 c1 c2 c3 c4 hb1 hβw1
  obtain ⟨⟨c0, c1, c2, c3, c4⟩, ⟨d0, d1, d2, d3, d4⟩⟩ := HS2.out w2 (Below.refl _ _)
  have hsv : v.size ≤ 4194304 := Nat.le_trans (size_le_bulk v) (by omega)
  obtain ⟨hc1, hc2⟩ := wrap_chk v
  have HO := Lib.hid (wrap_out v)
  clear HB1 HXr HXw HX HX0 HS0 HI2 HW2
  refine (HTv.out _ (Below.refl _ _)).mono ?_
  rintro e w3 ⟨rfl, hb3⟩
  clear c0 c1 c2 c3 c4 d0 d1 d2 d3 d4
  obtain ⟨⟨c0, c1, c2, c3, c4⟩, ⟨d0, d1, d2, d3, d4⟩⟩ := HS2.out w3 hb3
  go_wp2_with fail
  refine (HTw.out _ hb3).mono ?_
  rintro e w4 ⟨rfl, hb4⟩
  have hb4 : Below w2.heap.size w2 w4 := hb3.trans (hb4.mono hb3.size)
  clear c0 c1 c2 c3 c4 d0 d1 d2 d3 d4 hb3
  obtain ⟨⟨c0, c1, c2, c3, c4⟩, ⟨d0, d1, d2, d3, d4⟩⟩ := HS2.out w4 hb4
  have hwr : IntKind.i64.wrap ((v.size : Int) + 1) = (v.size : Int) + 1 := IntWalk.i64_in _ (by omega)
  have hq : ((v.size : Int) + 1 != (v.size : Int) + 1) = false := by simp
  have hts := out_size v (by omega : v.bulk ≤ 4194304)
  by_cases he : v.chk = 0
  · have HO2 := Lib.hid (HO.out he)
    have hcc := hc2 he
    rw [he] at *
    clear hc1 hc2 HO he
    rcases hcc with hf | hf
    · have HO3 := Lib.hid (HO2.out hf)
      rw [hf] at *
      clear hf HO2
      go_upto_region 5 with (fail)
      go_cut [36] (fun s36 wx => s36 = .bool false ∧ Below w2.heap.size w2 wx)
      case first =>
        (first | (go_region_held (fun w' => w'.cell? ⟨β, 0, none⟩ = some (.int .i64 k) ∧ w'.cell? ⟨β, 0 + 1, none⟩ = some (.int .i64 n) ∧ w'.cell? ⟨β, 0 + 2, none⟩ = some (.string s) ∧ w'.cell? ⟨β, 0 + 3, none⟩ = some (.slice ka kn kc) ∧ w'.cell? ⟨β, 0 + 4, none⟩ = some (.slice la ln lc) ∧
          w'.cell? ⟨γ, 0, none⟩ = some (.int .i64 5) ∧ w'.cell? ⟨γ, 0 + 1, none⟩ = some (.int .i64 0) ∧ w'.cell? ⟨γ, 0 + 2, none⟩ = some (.string ⟨#[]⟩) ∧ w'.cell? ⟨γ, 0 + 3, none⟩ = some (.slice none 0 0) ∧ w'.cell? ⟨γ, 0 + 4, none⟩ = some (.slice (some ⟨ω, 0, none⟩) 1 1))
          (first | go_keep) ((go_at_call 17; (first
            | ((with_reducible refine (HSw.out _ ?cw1).mono ?_); (case cw1 => exact hb4.trans ((Below.refl _ _).drew.mono hb4.size)); rintro e w5 ⟨rfl, hb5⟩; have hB5 : Below w2.heap.size w2 w5 := hb4.trans (((Below.refl _ _).drew.trans hb5).mono hb4.size); obtain ⟨⟨e0, e1, e2, e3, e4⟩, ⟨f0, f1, f2, f3, f4⟩⟩ := HS2.out _ hB5)
            | ((with_reducible refine (HSv.out _ ?cv1).mono ?_); (case cv1 => exact hB5); rintro e w6 ⟨rfl, hb6⟩; have hB6 : Below w2.heap.size w2 w6 := hB5.trans (hb6.mono hB5.size); obtain ⟨⟨g0, g1, g2, g3, g4⟩, ⟨h0, h1, h2, h3, h4⟩⟩ := HS2.out _ hB6))))) | fail)
        all_goals
          go_wp2_with fail
          go_meet
          exact ⟨rfl, hB6⟩
      case rest =>
        obtain ⟨rfl, hbc⟩ := hcut
        have hEq := wrap_text v
        rw [← HO3.out] at hEq
        have HEQ := Lib.hid hEq
        clear hEq HO3
        generalize (wrap v).out = tw at *
        generalize (⟨v.out.toArray⟩ : ByteArray) = ts at *
        have hEq := HEQ.out
        go_wp2_with fail
        go_ret
        exact ⟨by simp, HB2.out.trans (hbc.mono HB2.out.size)⟩
    · rw [hf] at *
      clear hf HO2
      go_upto_region 5 with (fail)
      go_cut [36] (fun s36 wx => s36 = .bool false ∧ Below w2.heap.size w2 wx)
      case first =>
        (first | (go_region_held (fun w' => w'.cell? ⟨β, 0, none⟩ = some (.int .i64 k) ∧ w'.cell? ⟨β, 0 + 1, none⟩ = some (.int .i64 n) ∧ w'.cell? ⟨β, 0 + 2, none⟩ = some (.string s) ∧ w'.cell? ⟨β, 0 + 3, none⟩ = some (.slice ka kn kc) ∧ w'.cell? ⟨β, 0 + 4, none⟩ = some (.slice la ln lc) ∧
          w'.cell? ⟨γ, 0, none⟩ = some (.int .i64 5) ∧ w'.cell? ⟨γ, 0 + 1, none⟩ = some (.int .i64 0) ∧ w'.cell? ⟨γ, 0 + 2, none⟩ = some (.string ⟨#[]⟩) ∧ w'.cell? ⟨γ, 0 + 3, none⟩ = some (.slice none 0 0) ∧ w'.cell? ⟨γ, 0 + 4, none⟩ = some (.slice (some ⟨ω, 0, none⟩) 1 1))
          (first | go_keep) ((go_at_call 17; (first
            | ((with_reducible refine (HSw.out _ ?cw2).mono ?_); (case cw2 => exact hb4.trans ((Below.refl _ _).drew.mono hb4.size)); rintro e w5 ⟨rfl, hb5⟩; have hB5 : Below w2.heap.size w2 w5 := hb4.trans (((Below.refl _ _).drew.trans hb5).mono hb4.size); obtain ⟨⟨e0, e1, e2, e3, e4⟩, ⟨f0, f1, f2, f3, f4⟩⟩ := HS2.out _ hB5)
            | ((with_reducible refine (HSv.out _ ?cv2).mono ?_); (case cv2 => exact hB5); rintro e w6 ⟨rfl, hb6⟩; have hB6 : Below w2.heap.size w2 w6 := hB5.trans (hb6.mono hB5.size); obtain ⟨⟨g0, g1, g2, g3, g4⟩, ⟨h0, h1, h2, h3, h4⟩⟩ := HS2.out _ hB6))))) | fail)
        all_goals
          go_wp2_with fail
          go_meet
          exact ⟨rfl, hB6⟩
      case rest =>
        obtain ⟨rfl, hbc⟩ := hcut
        go_wp2_with fail
        go_ret
        exact ⟨by simp, HB2.out.trans (hbc.mono HB2.out.size)⟩
  · have hf : (wrap v).chk = v.chk := hc1 he
    rw [hf] at *
    have he2 : (v.chk == 0) = false := by rw [beq_eq_false_iff_ne]; exact he
    have he3 : (v.chk != 0) = true := by rw [bne_iff_ne]; exact he
    have HF := Lib.hid (hc1 he)
    clear hc1 hc2 HO hf
    go_upto_region 5 with (fail)
    go_cut [36] (fun s36 wx => s36 = .bool false ∧ Below w2.heap.size w2 wx)
    case first =>
      go_region_held3 (fun w' => w'.cell? ⟨β, 0, none⟩ = some (.int .i64 k) ∧ w'.cell? ⟨β, 0 + 1, none⟩ = some (.int .i64 n) ∧ w'.cell? ⟨β, 0 + 2, none⟩ = some (.string s) ∧ w'.cell? ⟨β, 0 + 3, none⟩ = some (.slice ka kn kc) ∧ w'.cell? ⟨β, 0 + 4, none⟩ = some (.slice la ln lc) ∧
        w'.cell? ⟨γ, 0, none⟩ = some (.int .i64 5) ∧ w'.cell? ⟨γ, 0 + 1, none⟩ = some (.int .i64 0) ∧ w'.cell? ⟨γ, 0 + 2, none⟩ = some (.string ⟨#[]⟩) ∧ w'.cell? ⟨γ, 0 + 3, none⟩ = some (.slice none 0 0) ∧ w'.cell? ⟨γ, 0 + 4, none⟩ = some (.slice (some ⟨ω, 0, none⟩) 1 1))
        (first | go_keep) ((go_at_call 17; (first
          | ((with_reducible refine (HSw.out _ ?cw).mono ?_); (case cw => exact hb4.trans ((Below.refl _ _).drew.mono hb4.size)); rintro e w5 ⟨rfl, hb5⟩; have hB5 : Below w2.heap.size w2 w5 := hb4.trans (((Below.refl _ _).drew.trans hb5).mono hb4.size); obtain ⟨⟨e0, e1, e2, e3, e4⟩, ⟨f0, f1, f2, f3, f4⟩⟩ := HS2.out _ hB5)
          | ((with_reducible refine (HSv.out _ ?cv).mono ?_); (case cv => exact hB5); rintro e w6 ⟨rfl, hb6⟩; have hB6 : Below w2.heap.size w2 w6 := hB5.trans (hb6.mono hB5.size); obtain ⟨⟨g0, g1, g2, g3, g4⟩, ⟨h0, h1, h2, h3, h4⟩⟩ := HS2.out _ hB6))))
      go_wp2_with fail
      go_meet
      exact ⟨rfl, hB6⟩
    case rest =>
      obtain ⟨rfl, hbc⟩ := hcut
      obtain ⟨⟨i0, i1, i2, i3, i4⟩, ⟨j0, j1, j2, j3, j4⟩⟩ := HS2.out _ hbc
      go_wp2_with fail
      refine (HCw.out _ hbc).mono ?_
      rintro e w7 ⟨rfl, hb7⟩
      go_wp2_with fail
      go_ret
      exact ⟨by simp [HF.out], HB2.out.trans ((hbc.trans (hb7.mono hbc.size)).mono HB2.out.size)⟩
end Go.Proofs.YtnjcofjphneccaaDoor
