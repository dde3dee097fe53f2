/-
  The laws Writes, Apart: each answers true.
-/
import Derived.Test.YtnkknlhdbhfjlaaLa
import Derived.Lib.MinMax
namespace Go.Proofs.Ytnkknlhdbhfjlaa
open Go.RowKit

theorem chk_cases (v : V) : v.chk = 0 ∨ v.chk = 30 ∨ v.chk = 31 := by
  unfold V.chk
  split
  · split
    · exact .inr (.inr rfl)
    · exact .inl rfl
  · exact .inr (.inl rfl)
set_option maxRecDepth 8000 in
set_option maxHeartbeats 2000000 in
theorem lawWrites (v : V) (x : X) (w : World) (hx : Is w v x) (hb : v.bulk ≤ 4194304) :
    Calls Try.prog 3 #[x.v] w fun e w' => e = .returned (.bool true) ∧ Below w.heap.size w w' := by
  have HC := Lib.hid fun w' (hb' : Below w.heap.size w w') => refCopy_any v x w' (Is.below hb' _ _ hx) hb
  have HE1 := Lib.hid fun w' y (h : Is w' v y) => encode_any v y w' h hb
  have HE2 := Lib.hid fun w' (hb' : Below w.heap.size w w') => refEncode_any v x w' (Is.below hb' _ _ hx) hb
  have HVV : Hid (∀ w' y, Below w.heap.size w w' → Is w' v y → Calls Try.prog 12 #[y.v, x.v] w' fun e w'' => e = .returned (.bool true) ∧ Below w'.heap.size w' w'') := fun w' y hb' hy => by
    have := refSame_any v v y x w' hy (Is.below hb' _ _ hx) hb
    rw [same_iff.2 rfl] at this
    exact this
  have HS := Lib.hid fun (w' : World) A B c d (hA : O.Byt w' A v.wrt) (hB : O.Byt w' B v.wrt) => O.same_any A B v.wrt c d w' hA hB
  clear hx
  obtain ⟨xk, xn, xs, xka, xkn, xkc, xla, xln, xlc⟩ := x
  generalize v.wrt = l at *
  generalize v.chk = q at *
  simp only [X.v] at HC HE2 HVV ⊢
  go_enter Try.func3, Try.ntmps3
  go_wp2_with fail
  refine (HC.out _ (below_alloc _ _)).mono ?_
  rintro e w1 ⟨⟨yk, yn, ys, yka, ykn, ykc, yla, yln, ylc⟩, rfl, hy, hb1⟩
  have HX1 := Lib.hid ((at_of_block (x := ⟨xk, xn, xs, xka, xkn, xkc, xla, xln, xlc⟩) (hp_new (w := w) (o := (.cells #[.int .i64 xk, .int .i64 xn, .string xs, .slice xka xkn xkc, .slice xla xln xlc] 25)) rfl)).below (by simp) hb1)
  have HB1 := Lib.hid ((below_alloc w (.cells #[.int .i64 xk, .int .i64 xn, .string xs, .slice xka xkn xkc, .slice xla xln xlc] 25)).trans (hb1.mono (by simp)))
  have HI1 := Lib.hid (IsP.is (fun _ h => h.2) _ _ hy)
  have hwz : w.heap.size < w1.heap.size := by have := hb1.size; simp at this; omega
  clear hb1 hy
  simp only
  go_wp2_with fail
  have HB2 := Lib.hid (HB1.out.trans ((below_alloc w1 (.cells #[.int .i64 yk, .int .i64 yn, .string ys, .slice yka ykn ykc, .slice yla yln ylc] 25)).mono HB1.out.size))
  have HX2 := Lib.hid (HX1.out.below hwz (below_alloc w1 (.cells #[.int .i64 yk, .int .i64 yn, .string ys, .slice yka ykn ykc, .slice yla yln ylc] 25)))
  have HY2 := Lib.hid (at_of_block (x := ⟨yk, yn, ys, yka, ykn, ykc, yla, yln, ylc⟩) (hp_new (w := w1) (o := (.cells #[.int .i64 yk, .int .i64 yn, .string ys, .slice yka ykn ykc, .slice yla yln ylc] 25)) rfl))
  have HI2 := Lib.hid (Is.below (below_alloc w1 (.cells #[.int .i64 yk, .int .i64 yn, .string ys, .slice yka ykn ykc, .slice yla yln ylc] 25)) _ _ HI1.out)
  have hz2 : (w1.alloc (.cells #[.int .i64 yk, .int .i64 yn, .string ys, .slice yka ykn ykc, .slice yla yln ylc] 25)).heap.size = w1.heap.size + 1 := by simp
  generalize w1.alloc (.cells #[.int .i64 yk, .int .i64 yn, .string ys, .slice yka ykn ykc, .slice yla yln ylc] 25) = w2 at *
  have HCC : Hid (∀ w', Below w2.heap.size w2 w' → At w' w.heap.size 0 ⟨xk, xn, xs, xka, xkn, xkc, xla, xln, xlc⟩ ∧ At w' w1.heap.size 0 ⟨yk, yn, ys, yka, ykn, ykc, yla, yln, ylc⟩) := fun w' hb => ⟨HX2.out.below (by omega) hb, HY2.out.below (by omega) hb⟩
  refine (HE1.out w2 ⟨yk, yn, ys, yka, ykn, ykc, yla, yln, ylc⟩ HI2.out).mono ?_
  rintro e w3 ⟨A, c, rfl, -, hA, hb3⟩
  have HB3 := Lib.hid hb3
  have HA := Lib.hid hA
  obtain ⟨⟨a0, a1, a2, a3, a4⟩, -⟩ := HCC.out _ hb3
  clear hb3 hA HX1 HX2 HY2 HI1 HB1
  go_wp2_with fail
  refine (HE2.out _ (HB2.out.trans (HB3.out.mono HB2.out.size))).mono ?_
  rintro e w4 ⟨B, d, rfl, -, hB, hb4⟩
  have HB4 := Lib.hid (HB3.out.trans (hb4.mono HB3.out.size))
  have HA4 := Lib.hid (HA.out.below hb4)
  have HBB := Lib.hid hB
  clear hb4 hB a0 a1 a2 a3 a4
  go_wp2_with fail
  refine (live_any _).mono ?_
  rintro e w5 ⟨rfl, hb5⟩
  have HB5 := Lib.hid (HB4.out.trans (hb5.mono HB4.out.size))
  have HS5 := Lib.hid (HS.out w5 A B c d (HA4.out.below hb5) (HBB.out.below hb5))
  have HV5 := Lib.hid (HVV.out w5 ⟨yk, yn, ys, yka, ykn, ykc, yla, yln, ylc⟩ (HB2.out.trans (HB5.out.mono HB2.out.size)) (Is.below HB5.out _ _ HI2.out))
  clear hb5
  obtain ⟨⟨a0, a1, a2, a3, a4⟩, ⟨b0, b1, b2, b3, b4⟩⟩ := HCC.out _ HB5.out
  go_wp2_with (first
    | (go_at_call 11; (with_reducible refine HS5.out.mono ?_); rintro e w6 ⟨rfl, rfl⟩)
    | (go_at_call 12; refine HV5.out.mono ?_; rintro e w7 ⟨rfl, hb7⟩))
  go_ret
  exact ⟨rfl, (HB2.out.trans (HB5.out.mono HB2.out.size)).trans (hb7.mono (Nat.le_trans HB2.out.size HB5.out.size))⟩

theorem take_iff {v u : V} (hv : v.may = true) (hu : u.may = true) (bv : v.bulk ≤ 4194304) (bu : u.bulk ≤ 4194304) : decide (v.enc.take (min v.enc.length u.enc.length) = u.enc.take (min v.enc.length u.enc.length)) = same v u := by
  rw [Bool.eq_iff_iff, decide_eq_true_iff, same_iff]
  constructor
  · intro h
    rcases Nat.le_total v.enc.length u.enc.length with hl | hl
    · rw [Nat.min_eq_left hl, List.take_length] at h
      refine enc_cut hv hu bv bu (p := u.enc.drop v.enc.length) (q := []) ?_
      conv => lhs; lhs; rw [h]
      rw [List.take_append_drop, List.append_nil]
    · rw [Nat.min_eq_right hl, List.take_length] at h
      refine (enc_cut hu hv bu bv (p := v.enc.drop u.enc.length) (q := []) ?_).symm
      conv => lhs; lhs; rw [← h]
      rw [List.take_append_drop, List.append_nil]
  · rintro rfl
    rfl
theorem take_cut {w : World} {A : Option Addr} {l : Bs} (h : O.Byt w A l) (n : Nat) : O.Byt w A (l.take n) := h.take n

set_option maxRecDepth 8000 in
set_option maxHeartbeats 2000000 in
theorem lawApart (v u : V) (x y : X) (w : World) (hx : Is w v x) (hy : Is w u y) (bv : v.bulk ≤ 4194304) (bu : u.bulk ≤ 4194304) :
    Calls Try.prog 6 #[x.v, y.v] w fun e w' => e = .returned (.bool true) ∧ Below w.heap.size w w' := by
  have HE1 := Lib.hid fun w' (hb' : Below w.heap.size w w') => encode_any v x w' (Is.below hb' _ _ hx) bv
  have HE2 := Lib.hid fun w' (hb' : Below w.heap.size w w') => encode_any u y w' (Is.below hb' _ _ hy) bu
  obtain ⟨xk, xn, xs, xka, xkn, xkc, xla, xln, xlc⟩ := x
  obtain ⟨yk, yn, ys, yka, ykn, ykc, yla, yln, ylc⟩ := y
  have HVV := Lib.hid fun w' (hb' : Below w.heap.size w w') => refSame_any v u _ _ w' (Is.below hb' _ _ hx) (Is.below hb' _ _ hy) bv
  by_cases hc : v.chk = 0 ∧ u.chk = 0
  · obtain ⟨hc1, hc2⟩ := hc
    have e1 : v.wrt = v.enc := by unfold V.wrt; rw [if_pos hc1]
    have e2 : u.wrt = u.enc := by unfold V.wrt; rw [if_pos hc2]
    have HT := Lib.hid (take_iff (chk_may hc1).1 (chk_may hc2).1 bv bu)
    rw [hc1, e1] at HE1
    rw [hc2, e2] at HE2
    clear hc1 hc2 e1 e2 hx hy bv bu
    generalize same v u = E at *
    generalize v.enc = l at *
    generalize u.enc = m at *
    obtain ⟨n, hn⟩ : ∃ n, n = min l.length m.length := ⟨_, rfl⟩
    rw [← hn] at HT
    have hn1 : n ≤ l.length := by omega
    have hn2 : n ≤ m.length := by omega
    have HS : Hid (∀ (w' : World) A B c d, O.Byt w' A l → O.Byt w' B m → Calls Try.prog 11 #[.slice A n c, .slice B n d] w' fun e w'' => e = .returned (.bool E) ∧ w' = w'') := fun w' A B c d hA hB => by
      have := bsame_any A B (l.take n) (m.take n) c d w' (hA.take n) (hB.take n)
      rw [List.length_take, List.length_take, Nat.min_eq_left hn1, Nat.min_eq_left hn2, HT.out] at this
      exact this
    have hmin : min (l.length : Int) (m.length : Int) = (n : Int) := by omega
    simp only [X.v] at HE1 HE2 HVV ⊢
    go_enter Try.func6, Try.ntmps6
    go_wp2_with fail
    refine (live_any _).mono ?_
    rintro e w1 ⟨rfl, hb1⟩
    have HX1 := Lib.hid ((at_of_block (x := ⟨xk, xn, xs, xka, xkn, xkc, xla, xln, xlc⟩) (old_row w _ _)).below (by simp; omega) hb1)
    have HY1 := Lib.hid ((at_of_block (x := ⟨yk, yn, ys, yka, ykn, ykc, yla, yln, ylc⟩) (heap2d_at w _ _)).below (by simp) hb1)
    have HB1 := Lib.hid ((below2d w (.cells #[.int .i64 xk, .int .i64 xn, .string xs, .slice xka xkn xkc, .slice xla xln xlc] 25) (.cells #[.int .i64 yk, .int .i64 yn, .string ys, .slice yka ykn ykc, .slice yla yln ylc] 25)).trans (hb1.mono (by simp; omega)))
    have hz1 := hb1.size
    simp at hz1
    clear hb1
    have HCC : Hid (∀ w', Below w1.heap.size w1 w' → At w' w.heap.size 0 ⟨xk, xn, xs, xka, xkn, xkc, xla, xln, xlc⟩ ∧ At w' (w.heap.size + 1) 0 ⟨yk, yn, ys, yka, ykn, ykc, yla, yln, ylc⟩) := fun w' hb => ⟨HX1.out.below (by omega) hb, HY1.out.below (by omega) hb⟩
    obtain ⟨⟨a0, a1, a2, a3, a4⟩, -⟩ := HCC.out _ (Below.refl _ _)
    go_wp2_with fail
    refine (HE1.out _ HB1.out).mono ?_
    rintro e w2 ⟨A, c, rfl, hlc, hA, hb2⟩
    have HB2 := Lib.hid hb2
    have HA2 := Lib.hid hA
    clear a0 a1 a2 a3 a4 hA hb2
    obtain ⟨-, ⟨b0, b1, b2, b3, b4⟩⟩ := HCC.out _ HB2.out
    go_wp2_with fail
    refine (HE2.out _ (HB1.out.trans (HB2.out.mono HB1.out.size))).mono ?_
    rintro e w3 ⟨B, d, rfl, hld, hBy, hb3⟩
    have HB3 := Lib.hid (HB2.out.trans (hb3.mono HB2.out.size))
    have HA3 := Lib.hid (HA2.out.below hb3)
    have HY3 := Lib.hid hBy
    clear b0 b1 b2 b3 b4 hBy hb3
    obtain ⟨⟨a0, a1, a2, a3, a4⟩, ⟨b0, b1, b2, b3, b4⟩⟩ := HCC.out _ HB3.out
    have hnc : (n : Int) ≤ (c : Int) := by omega
    have hnd : (n : Int) ≤ (d : Int) := by omega
    have hn0 : (0 : Int) ≤ (n : Int) := by omega
    go_wp2_with fail
    have HW3 := Lib.hid (HB1.out.trans (HB3.out.mono HB1.out.size))
    rw [← hn]
    clear hn hmin
    go_region_held3 (fun w' => w'.cell? ⟨w.heap.size, 0, none⟩ = some (.int .i64 xk) ∧ w'.cell? ⟨w.heap.size, 0 + 1, none⟩ = some (.int .i64 xn) ∧ w'.cell? ⟨w.heap.size, 0 + 2, none⟩ = some (.string xs) ∧ w'.cell? ⟨w.heap.size, 0 + 3, none⟩ = some (.slice xka xkn xkc) ∧ w'.cell? ⟨w.heap.size, 0 + 4, none⟩ = some (.slice xla xln xlc) ∧ w'.cell? ⟨w.heap.size + 1, 0, none⟩ = some (.int .i64 yk) ∧ w'.cell? ⟨w.heap.size + 1, 0 + 1, none⟩ = some (.int .i64 yn) ∧ w'.cell? ⟨w.heap.size + 1, 0 + 2, none⟩ = some (.string ys) ∧ w'.cell? ⟨w.heap.size + 1, 0 + 3, none⟩ = some (.slice yka ykn ykc) ∧ w'.cell? ⟨w.heap.size + 1, 0 + 4, none⟩ = some (.slice yla yln ylc))
      (first | go_keep) ((first
        | (go_at_call 11; refine (HS.out _ A B c d ?s1 ?s2).mono ?_; (case s1 => exact HA3.out.below (Below.refl _ _).drew); (case s2 => exact HY3.out.below (Below.refl _ _).drew); rintro e w6 ⟨rfl, rfl⟩)
        | (go_at_call 12; refine (HVV.out _ ?b1).mono ?_; (case b1 => exact HW3.out.drew); rintro e w7 ⟨rfl, hb7⟩; have hb8 := (Below.refl w3.heap.size w3).drew.trans hb7; obtain ⟨⟨d0, d1, d2, d3, d4⟩, ⟨e0, e1, e2, e3, e4⟩⟩ := HCC.out _ (HB3.out.trans (hb8.mono HB3.out.size)))))
    clear d0 d1 d2 d3 d4 e0 e1 e2 e3 e4 a0 a1 a2 a3 a4 b0 b1 b2 b3 b4
    go_wp2_with fail
    go_ret
    exact ⟨by cases E <;> rfl, HW3.out.trans (hb8.mono HW3.out.size)⟩
  · have HQ : Hid ((v.chk != 0) = true ∨ (v.chk = 0 ∧ (u.chk != 0) = true)) := by
      by_cases h1 : v.chk = 0
      · by_cases h2 : u.chk = 0
        · exact absurd ⟨h1, h2⟩ hc
        · exact .inr ⟨h1, by simp [h2]⟩
      · exact .inl (by simp [h1])
    clear hx hy bv bu hc HVV
    generalize v.wrt = l at *
    generalize u.wrt = m at *
    generalize v.chk = q at *
    generalize u.chk = q2 at *
    simp only [X.v] at HE1 HE2 ⊢
    rcases HQ.out with hq | ⟨rfl, hq⟩
    all_goals
      go_enter Try.func6, Try.ntmps6
      go_wp2_with fail
      refine (live_any _).mono ?_
      rintro e w1 ⟨rfl, hb1⟩
      have HX1 := Lib.hid ((at_of_block (x := ⟨xk, xn, xs, xka, xkn, xkc, xla, xln, xlc⟩) (old_row w _ _)).below (by simp; omega) hb1)
      have HY1 := Lib.hid ((at_of_block (x := ⟨yk, yn, ys, yka, ykn, ykc, yla, yln, ylc⟩) (heap2d_at w _ _)).below (by simp) hb1)
      have HB1 := Lib.hid ((below2d w (.cells #[.int .i64 xk, .int .i64 xn, .string xs, .slice xka xkn xkc, .slice xla xln xlc] 25) (.cells #[.int .i64 yk, .int .i64 yn, .string ys, .slice yka ykn ykc, .slice yla yln ylc] 25)).trans (hb1.mono (by simp; omega)))
      have hz1 := hb1.size
      simp at hz1
      clear hb1
      have HCC : Hid (∀ w', Below w1.heap.size w1 w' → At w' w.heap.size 0 ⟨xk, xn, xs, xka, xkn, xkc, xla, xln, xlc⟩ ∧ At w' (w.heap.size + 1) 0 ⟨yk, yn, ys, yka, ykn, ykc, yla, yln, ylc⟩) := fun w' hb => ⟨HX1.out.below (by omega) hb, HY1.out.below (by omega) hb⟩
      obtain ⟨⟨a0, a1, a2, a3, a4⟩, -⟩ := HCC.out _ (Below.refl _ _)
      go_wp2_with fail
      refine (HE1.out _ HB1.out).mono ?_
      rintro e w2 ⟨A, c, rfl, hlc, hA, hb2⟩
      have HB2 := Lib.hid hb2
      clear a0 a1 a2 a3 a4 hA hb2
      obtain ⟨-, ⟨b0, b1, b2, b3, b4⟩⟩ := HCC.out _ HB2.out
      go_wp2_with fail
      refine (HE2.out _ (HB1.out.trans (HB2.out.mono HB1.out.size))).mono ?_
      rintro e w3 ⟨B, d, rfl, hld, hBy, hb3⟩
      have HB3 := Lib.hid (HB2.out.trans (hb3.mono HB2.out.size))
      clear b0 b1 b2 b3 b4 hBy hb3
      go_wp2_with fail
      go_ret
      exact ⟨rfl, HB1.out.trans (HB3.out.mono HB1.out.size)⟩
end Go.Proofs.Ytnkknlhdbhfjlaa
