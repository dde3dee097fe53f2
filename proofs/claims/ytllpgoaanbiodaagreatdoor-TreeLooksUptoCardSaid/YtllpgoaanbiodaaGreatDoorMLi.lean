/-
  TreeLooks, walked.
-/
import Derived.Test.YtllpgoaanbiodaaGreatDoorMLh
import Derived.Test.YtllpgoaanbiodaaGreatDoorMSr
namespace Go.Proofs.YtllpgoaanbiodaaGreatDoor.R
open Go.RowKit Go.Proofs.YtllpgoaanbiodaaGreatDoor Go.Proofs.YtllpgoaanbiodaaGreatDoor.T

set_option maxRecDepth 20000 in
set_option maxHeartbeats 4000000 in
theorem looks_law (a b : V) (x y : X) (w : World) (hx : Is w a x) (hy : Is w b y) (ha : a.bulk ≤ 1048576) (_hb : b.bulk ≤ 1048576) (hT : Tab w) :
    Calls Tryz.prog 4 #[x.v, y.v] w fun e w' => e = .returned (.bool true) ∧ Below w.heap.size w w' := by
  have HLV := Lib.hid fun w' (h : Below w.heap.size w w') => live_any w' (hT.below h)
  have HDA := Lib.hid fun w' (h2 : Below w.heap.size w w') => deep_any a x w' (Is.below h2 _ _ hx) (by omega)
  have HRD := Lib.hid fun w' (h2 : Below w.heap.size w w') => refDeep_any a x w' (Is.below h2 _ _ hx) (by omega)
  have HSA := Lib.hid fun w' (h2 : Below w.heap.size w w') => size_any a x w' (Is.below h2 _ _ hx) (by omega)
  have HRS := Lib.hid fun w' (h2 : Below w.heap.size w w') => refSize_any a x w' (Is.below h2 _ _ hx) (by omega)
  have HSM := Lib.hid fun w' (h2 : Below w.heap.size w w') => same_any a b x y w' (Is.below h2 _ _ hx) (Is.below h2 _ _ hy) (by omega)
  have HRM := Lib.hid fun w' (h2 : Below w.heap.size w w') => refSame_any a b x y w' (Is.below h2 _ _ hx) (Is.below h2 _ _ hy) (by omega)
  have HIT := Lib.hid fun w' (h2 : Below w.heap.size w w') => isTarget_any a x w' (Is.below h2 _ _ hx)
  have HRT := Lib.hid fun w' (h2 : Below w.heap.size w w') => refIsTarget_any a x w' (Is.below h2 _ _ hx)
  obtain ⟨xka, xkc, xla, xlc, rfl, -, -, -, -⟩ := hx.open
  obtain ⟨yka, ykc, yla, ylc, rfl, -, -, -, -⟩ := hy.open
  obtain ⟨W0, hW0⟩ : ∃ W0, (w.alloc (.cells #[.int .i64 a.k, .string a.nm, .int .i64 a.n, .string a.s, .slice xka a.ks.length xkc, .slice xla a.l.length xlc] 25)).alloc (.cells #[.int .i64 b.k, .string b.nm, .int .i64 b.n, .string b.s, .slice yka b.ks.length ykc, .slice yla b.l.length ylc] 25) = W0 := ⟨_, rfl⟩
  have HB0 : Hid (Below w.heap.size w W0) := by rw [← hW0]; exact two_below w _ _
  have HCS : Hid (∀ w', Below W0.heap.size W0 w' → w'.cell? ⟨w.heap.size, 0, none⟩ = some (.int .i64 a.k) ∧ w'.cell? ⟨w.heap.size, 0 + 1, none⟩ = some (.string a.nm) ∧ w'.cell? ⟨w.heap.size, 0 + 2, none⟩ = some (.int .i64 a.n) ∧ w'.cell? ⟨w.heap.size, 0 + 3, none⟩ = some (.string a.s) ∧ w'.cell? ⟨w.heap.size, 0 + 4, none⟩ = some (.slice xka a.ks.length xkc) ∧ w'.cell? ⟨w.heap.size, 0 + 5, none⟩ = some (.slice xla a.l.length xlc) ∧ w'.cell? ⟨w.heap.size + 1, 0, none⟩ = some (.int .i64 b.k) ∧ w'.cell? ⟨w.heap.size + 1, 0 + 1, none⟩ = some (.string b.nm) ∧ w'.cell? ⟨w.heap.size + 1, 0 + 2, none⟩ = some (.int .i64 b.n) ∧ w'.cell? ⟨w.heap.size + 1, 0 + 3, none⟩ = some (.string b.s) ∧ w'.cell? ⟨w.heap.size + 1, 0 + 4, none⟩ = some (.slice yka b.ks.length ykc) ∧ w'.cell? ⟨w.heap.size + 1, 0 + 5, none⟩ = some (.slice yla b.l.length ylc)) := fun w' hb => by
    have h0 : At W0 w.heap.size 0 ⟨a.k, a.nm, a.n, a.s, xka, a.ks.length, xkc, xla, a.l.length, xlc⟩ := by rw [← hW0]; exact at_row (hp_alloc (hp_new rfl)) rfl rfl rfl rfl rfl rfl
    have h1 : At W0 (w.heap.size + 1) 0 ⟨b.k, b.nm, b.n, b.s, yka, b.ks.length, ykc, yla, b.l.length, ylc⟩ := by rw [← hW0]; exact at_row (hp_new (by simp)) rfl rfl rfl rfl rfl rfl
    obtain ⟨i0, i1, i2, i3, i4, i5⟩ := h0.below (B := W0.heap.size) (by rw [← hW0]; simp; omega) hb
    obtain ⟨m0, m1, m2, m3, m4, m5⟩ := h1.below (B := W0.heap.size) (by rw [← hW0]; simp) hb
    exact ⟨i0, i1, i2, i3, i4, i5, m0, m1, m2, m3, m4, m5⟩
  have HW0 := Lib.hid hW0
  simp only [X.v] at HDA HRD HSA HRS HSM HRM HIT HRT ⊢
  clear hx hy ha _hb hT hW0
  generalize (a.deep : Int) = dp at *
  generalize (a.size : Int) = sz at *
  generalize V.same a b = sm at *
  generalize isTg a = tg at *
  go_enter Tryz.func4, Tryz.ntmps4
  go_wp2_with fail
  rw [HW0.out]
  clear HW0
  obtain ⟨i0, i1, i2, i3, i4, i5, m0, m1, m2, m3, m4, m5⟩ := HCS.out W0 (Below.refl _ _)
  go_region_held3 (fun w' => w'.cell? ⟨w.heap.size, 0, none⟩ = some (.int .i64 a.k) ∧ w'.cell? ⟨w.heap.size, 0 + 1, none⟩ = some (.string a.nm) ∧ w'.cell? ⟨w.heap.size, 0 + 2, none⟩ = some (.int .i64 a.n) ∧ w'.cell? ⟨w.heap.size, 0 + 3, none⟩ = some (.string a.s) ∧ w'.cell? ⟨w.heap.size, 0 + 4, none⟩ = some (.slice xka a.ks.length xkc) ∧ w'.cell? ⟨w.heap.size, 0 + 5, none⟩ = some (.slice xla a.l.length xlc) ∧ w'.cell? ⟨w.heap.size + 1, 0, none⟩ = some (.int .i64 b.k) ∧ w'.cell? ⟨w.heap.size + 1, 0 + 1, none⟩ = some (.string b.nm) ∧ w'.cell? ⟨w.heap.size + 1, 0 + 2, none⟩ = some (.int .i64 b.n) ∧ w'.cell? ⟨w.heap.size + 1, 0 + 3, none⟩ = some (.string b.s) ∧ w'.cell? ⟨w.heap.size + 1, 0 + 4, none⟩ = some (.slice yka b.ks.length ykc) ∧ w'.cell? ⟨w.heap.size + 1, 0 + 5, none⟩ = some (.slice yla b.l.length ylc)) (first | go_keep)
    ((first
      | (go_at_call 10; (with_reducible refine (HLV.out _ ?c1).mono ?_); (case c1 => exact HB0.out.trans (((Below.refl _ W0).drew).mono HB0.out.size)); rintro e w1 ⟨rfl, hb1⟩; have hB1 : Below W0.heap.size W0 w1 := ((Below.refl _ W0).drew).trans (hb1.mono (Nat.le_refl _)); obtain ⟨i0, i1, i2, i3, i4, i5, m0, m1, m2, m3, m4, m5⟩ := HCS.out _ hB1)
      | (go_at_call 13; (with_reducible refine (HDA.out _ ?c2).mono ?_); (case c2 => exact HB0.out.trans (hB1.mono HB0.out.size)); rintro e w2 ⟨rfl, hb2⟩; have hB2 : Below W0.heap.size W0 w2 := hB1.trans (hb2.mono hB1.size); obtain ⟨i0, i1, i2, i3, i4, i5, m0, m1, m2, m3, m4, m5⟩ := HCS.out _ hB2)
      | (go_at_call 14; (with_reducible refine (HRD.out _ ?c3).mono ?_); (case c3 => exact HB0.out.trans (hB2.mono HB0.out.size)); rintro e w3 ⟨rfl, hb3⟩; have hB3 : Below W0.heap.size W0 w3 := hB2.trans (hb3.mono hB2.size); obtain ⟨i0, i1, i2, i3, i4, i5, m0, m1, m2, m3, m4, m5⟩ := HCS.out _ hB3)
      | (go_at_call 15; (with_reducible refine (HSA.out _ ?c4).mono ?_); (case c4 => exact HB0.out.trans (hB3.mono HB0.out.size)); rintro e w4 ⟨rfl, hb4⟩; have hB4 : Below W0.heap.size W0 w4 := hB3.trans (hb4.mono hB3.size); obtain ⟨i0, i1, i2, i3, i4, i5, m0, m1, m2, m3, m4, m5⟩ := HCS.out _ hB4)
      | (go_at_call 16; (with_reducible refine (HRS.out _ ?c5).mono ?_); (case c5 => exact HB0.out.trans (hB4.mono HB0.out.size)); rintro e w5 ⟨rfl, hb5⟩; have hB5 : Below W0.heap.size W0 w5 := hB4.trans (hb5.mono hB4.size); obtain ⟨i0, i1, i2, i3, i4, i5, m0, m1, m2, m3, m4, m5⟩ := HCS.out _ hB5)
      | (go_at_call 17; (with_reducible refine (HSM.out _ ?c6).mono ?_); (case c6 => exact HB0.out.trans (hB5.mono HB0.out.size)); rintro e w6 ⟨rfl, hb6⟩; have hB6 : Below W0.heap.size W0 w6 := hB5.trans (hb6.mono hB5.size); obtain ⟨i0, i1, i2, i3, i4, i5, m0, m1, m2, m3, m4, m5⟩ := HCS.out _ hB6)
      | (go_at_call 18; (with_reducible refine (HRM.out _ ?c7).mono ?_); (case c7 => exact HB0.out.trans (hB6.mono HB0.out.size)); rintro e w7 ⟨rfl, hb7⟩; have hB7 : Below W0.heap.size W0 w7 := hB6.trans (hb7.mono hB6.size); obtain ⟨i0, i1, i2, i3, i4, i5, m0, m1, m2, m3, m4, m5⟩ := HCS.out _ hB7)
      | (go_at_call 19; (with_reducible refine (HIT.out _ ?c8).mono ?_); (case c8 => exact HB0.out.trans (hB7.mono HB0.out.size)); rintro e w8 ⟨rfl, hb8⟩; have hB8 : Below W0.heap.size W0 w8 := hB7.trans (hb8.mono hB7.size); obtain ⟨i0, i1, i2, i3, i4, i5, m0, m1, m2, m3, m4, m5⟩ := HCS.out _ hB8)
      | (go_at_call 20; (with_reducible refine (HRT.out _ ?c9).mono ?_); (case c9 => exact HB0.out.trans (hB8.mono HB0.out.size)); rintro e w9 ⟨rfl, hb9⟩; have hB9 : Below W0.heap.size W0 w9 := hB8.trans (hb9.mono hB8.size); obtain ⟨i0, i1, i2, i3, i4, i5, m0, m1, m2, m3, m4, m5⟩ := HCS.out _ hB9)))
  have HB9 := Lib.hid (HB0.out.trans (hB9.mono HB0.out.size))
  clear hb1 hb2 hb3 hb4 hb5 hb6 hb7 hb8 hb9 hB1 hB2 hB3 hB4 hB5 hB6 hB7 hB8 hB9 i0 i1 i2 i3 i4 i5 m0 m1 m2 m3 m4 m5
  go_wp2_with fail
  go_ret
  exact ⟨rfl, HB9.out⟩
end Go.Proofs.YtllpgoaanbiodaaGreatDoor.R
