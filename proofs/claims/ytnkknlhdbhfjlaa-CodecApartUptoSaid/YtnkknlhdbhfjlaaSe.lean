/-
  The reference's read of a number; all of it, by contract.
-/
import Derived.Test.YtnkknlhdbhfjlaaSd
namespace Go.Proofs.Ytnkknlhdbhfjlaa
open Go.RowKit

theorem far5 (w : World) (g b o : Nat) (k n : Int) (s : ByteArray) (ka : Option Addr) (kn kc : Nat) (la : Option Addr) (ln lc : Nat) {v : Option Value} (h : b ≠ g) (h0 : w.cell? ⟨b, o, none⟩ = v) :
    (((((w.setCell ⟨g, 0, none⟩ (.int .i64 k)).setCell ⟨g, 1, none⟩ (.int .i64 n)).setCell ⟨g, 2, none⟩ (.string s)).setCell ⟨g, 3, none⟩ (.slice ka kn kc)).setCell ⟨g, 4, none⟩ (.slice la ln lc)).cell? ⟨b, o, none⟩ = v := by
  rw [← put5_lit, far_put5 h]
  exact h0
theorem first_lt {w : World} {g o : Nat} {x : UInt8} {r : Bs} (hB : O.Byt w (some ⟨g, o, none⟩) (x :: r)) : g < w.heap.size := by
  rcases hB with h | ⟨g', o', h1, h2, _⟩
  · cases h
  · injection h1 with h1
    injection h1 with h1 _
    rw [h1]
    exact h2

set_option maxRecDepth 8000 in
set_option maxHeartbeats 1000000 in
theorem read_n4 (d : Nat) (A : Option Addr) (r : Bs) (c : Nat) (w : World) (deep : Nat) (hB : O.Byt w A (4 :: r)) (hl : r.length + 1 ≤ 4194304) (hlc : r.length + 1 ≤ c) (hw : deep + (d + 1) = 20) : Calls Try.prog 23 #[.slice A (r.length + 1) c, .int .i64 deep] w (PostR w (dec (d + 1) (4 :: r))) := by
  obtain ⟨i5, hi5, hz5, hs5, hb5⟩ := info_parts infoData
  have hn0 : ¬ ((r.length : Int) + 1 = 0) := by omega
  have hn1 : (((r.length + 1 : Nat) : Int) == 0) = false := by rw [beq_eq_false_iff_ne]; omega
  have hn2 : (0 : Int) < (r.length : Int) + 1 := by omega
  have hdp := deep_not hw
  obtain ⟨g, o, rfl, HC⟩ := first_cell hB 4 rfl
  have HD0 : dec (d + 1) (4 :: r) = (decNum 4 r).up := rfl
  have HN := Lib.hid fun w' (hb : Below w.heap.size w w') => number_4 (O.cutA (some ⟨g, o, none⟩) c 1) r (c - 1) w' (O.Byt.cut (hB.below hb) (k := 1) (by simp) (by simpa using hlc)) (by omega)
  have hgw : g ≠ w.heap.size + 1 := by have := first_lt hB; omega
  have h1l : (1 : Int) ≤ (r.length : Int) + 1 := by omega
  have h1c : (1 : Int) ≤ (c : Int) := by omega
  cases hx : decNum 4 r with
  | bad q =>
    have HD := Lib.hid (HD0.trans (up_bad hx))
    have hq : q = 20 ∨ q = 22 ∨ q = 31 := by
      have := dec_right (d + 1) (4 :: r)
      rw [HD.out] at this
      exact this
    have hq0 : ((q : Int) != 0) = true := by simp; omega
    rw [hx] at HN
    clear hB hl hw HD0 hx hq
    by_cases hc1 : c = 1
    · subst hc1
      obtain rfl : r = [] := List.eq_nil_of_length_eq_zero (by omega)
      have e1 : O.cutA (some ⟨g, o, none⟩) 1 1 = some ⟨g, o, none⟩ := rfl
      rw [e1] at HN
      clear e1
      have hcw := HC.out ((w.alloc (.cells #[.int .i64 0, .int .i64 0, .string ⟨#[]⟩, .slice none 0 0, .slice none 0 0] 25)).alloc (.cells #[.int .i64 0, .int .i64 0, .string ⟨#[]⟩, .slice none 0 0, .slice none 0 0] 25)) (below2d _ _ _)
      go_enter Try.func23, Try.ntmps23
      go_wp2_with fail
      go_region_held3 (fun w' => w'.cell? ⟨g, o, none⟩ = some (.int .u8 4)) (first | go_keep | exact far5 _ _ _ _ _ _ _ _ _ _ _ _ _ hgw hcx) ((go_at_call 41; refine (HN.out _ ?b).mono ?_; (case b => exact (below2d _ _ _).drew); rintro e w2 ⟨rfl, hb⟩; have hb2 := (Below.refl _ _).drew.trans hb; obtain ⟨hr0, hr1⟩ := two_rows hb2; obtain ⟨t0, t1, t2, t3, t4, t5⟩ := zrow_cells hr1; have f0 := t5 0; have f1 := t5 1; have f2 := t5 2; have f3 := t5 3; have f4 := t5 4; obtain ⟨u0, u1, u2, u3, u4, u5⟩ := zrow_cells hr0; have e0 := u5 0; have e1 := u5 1; have e2 := u5 2; have e3 := u5 3; have e4 := u5 4; have HR0 := Lib.hid hr0; have HB2 := Lib.hid hb2; have hcx := HC.out w2 ((below2d w _ _).trans (HB2.out.mono (by simp; omega))); clear hr0 hr1 t5 u5 hb2))
      clear hcx hcw
      go_wp2_with fail
      rw [← put5_lit, ← put5_lit]
      refine bodyPost_ret (res_ctt rfl _ _ w.heap.size 25 _ (0, 0) _ rfl (put5_row (put5_keep (by omega) HR0.out) _) Try.underlying25 rfl (by rw [hi5]; simp [hs5, X.cells])) rfl ?_
      rw [HD.out]
      exact fin_bad HB2.out rfl
    · have e1 : O.cutA (some ⟨g, o, none⟩) c 1 = some ⟨g, o + 1, none⟩ := by
        unfold O.cutA
        rw [if_neg hc1]
        show some (Addr.add _ 1) = _
        rw [O.add_lit]
      rw [e1] at HN
      clear e1
      have hcw := HC.out ((w.alloc (.cells #[.int .i64 0, .int .i64 0, .string ⟨#[]⟩, .slice none 0 0, .slice none 0 0] 25)).alloc (.cells #[.int .i64 0, .int .i64 0, .string ⟨#[]⟩, .slice none 0 0, .slice none 0 0] 25)) (below2d _ _ _)
      go_enter Try.func23, Try.ntmps23
      go_wp2_with fail
      go_region_held3 (fun w' => w'.cell? ⟨g, o, none⟩ = some (.int .u8 4)) (first | go_keep | exact far5 _ _ _ _ _ _ _ _ _ _ _ _ _ hgw hcx) ((go_at_call 41; refine (HN.out _ ?b).mono ?_; (case b => exact (below2d _ _ _).drew); rintro e w2 ⟨rfl, hb⟩; have hb2 := (Below.refl _ _).drew.trans hb; obtain ⟨hr0, hr1⟩ := two_rows hb2; obtain ⟨t0, t1, t2, t3, t4, t5⟩ := zrow_cells hr1; have f0 := t5 0; have f1 := t5 1; have f2 := t5 2; have f3 := t5 3; have f4 := t5 4; obtain ⟨u0, u1, u2, u3, u4, u5⟩ := zrow_cells hr0; have e0 := u5 0; have e1 := u5 1; have e2 := u5 2; have e3 := u5 3; have e4 := u5 4; have HR0 := Lib.hid hr0; have HB2 := Lib.hid hb2; have hcx := HC.out w2 ((below2d w _ _).trans (HB2.out.mono (by simp; omega))); clear hr0 hr1 t5 u5 hb2))
      clear hcx hcw
      go_wp2_with fail
      rw [← put5_lit, ← put5_lit]
      refine bodyPost_ret (res_ctt rfl _ _ w.heap.size 25 _ (0, 0) _ rfl (put5_row (put5_keep (by omega) HR0.out) _) Try.underlying25 rfl (by rw [hi5]; simp [hs5, X.cells])) rfl ?_
      rw [HD.out]
      exact fin_bad HB2.out rfl
  | good v n =>
    have hc1 : ¬ c = 1 := fun e => by
      obtain rfl : r = [] := List.eq_nil_of_length_eq_zero (by omega)
      cases hx
    have HD := Lib.hid (HD0.trans (up_good hx))
    have hnl : n + 1 ≤ 4194304 := by
      have := right_good HD.out
      simp at this
      omega
    have hnw : IntKind.i64.wrap ((n : Int) + 1) = (n : Int) + 1 := IntWalk.i64_in _ (by omega)
    rw [hx] at HN
    clear hB hl hw HD0 hx
    · have e1 : O.cutA (some ⟨g, o, none⟩) c 1 = some ⟨g, o + 1, none⟩ := by
        unfold O.cutA
        rw [if_neg hc1]
        show some (Addr.add _ 1) = _
        rw [O.add_lit]
      rw [e1] at HN
      clear e1
      have hcw := HC.out ((w.alloc (.cells #[.int .i64 0, .int .i64 0, .string ⟨#[]⟩, .slice none 0 0, .slice none 0 0] 25)).alloc (.cells #[.int .i64 0, .int .i64 0, .string ⟨#[]⟩, .slice none 0 0, .slice none 0 0] 25)) (below2d _ _ _)
      go_enter Try.func23, Try.ntmps23
      go_wp2_with fail
      go_region_held3 (fun w' => w'.cell? ⟨g, o, none⟩ = some (.int .u8 4)) (first | go_keep | exact far5 _ _ _ _ _ _ _ _ _ _ _ _ _ hgw hcx) ((go_at_call 41; refine (HN.out _ ?b).mono ?_; (case b => exact (below2d _ _ _).drew); rintro e w2 ⟨⟨zk, zn, zs, zka, zkn, zkc, zla, zln, zlc⟩, rfl, hy, hb⟩; (simp only [X.v]); have hb2 := (Below.refl _ _).drew.trans hb; have HY := Lib.hid hy; clear hy; obtain ⟨hr0, hr1⟩ := two_rows hb2; obtain ⟨t0, t1, t2, t3, t4, t5⟩ := zrow_cells hr1; have f0 := t5 0; have f1 := t5 1; have f2 := t5 2; have f3 := t5 3; have f4 := t5 4; obtain ⟨u0, u1, u2, u3, u4, u5⟩ := zrow_cells hr0; have e0 := u5 0; have e1 := u5 1; have e2 := u5 2; have e3 := u5 3; have e4 := u5 4; have HR0 := Lib.hid hr0; have HB2 := Lib.hid hb2; have hcx := HC.out w2 ((below2d w _ _).trans (HB2.out.mono (by simp; omega))); clear hr0 hr1 t5 u5 hb2))
      clear hcx hcw
      go_wp2_with fail
      rw [← put5_lit, ← put5_lit]
      refine bodyPost_ret (res_ctt rfl _ _ w.heap.size 25 _ (0, 0) _ rfl (put5_row (put5_keep (by omega) HR0.out) _) Try.underlying25 rfl (by rw [hi5]; simp [hs5, X.cells])) rfl ?_
      rw [HD.out]
      exact fin_good HB2.out HY.out

set_option maxRecDepth 8000 in
set_option maxHeartbeats 1000000 in
theorem read_n5 (d : Nat) (A : Option Addr) (r : Bs) (c : Nat) (w : World) (deep : Nat) (hB : O.Byt w A (5 :: r)) (hl : r.length + 1 ≤ 4194304) (hlc : r.length + 1 ≤ c) (hw : deep + (d + 1) = 20) : Calls Try.prog 23 #[.slice A (r.length + 1) c, .int .i64 deep] w (PostR w (dec (d + 1) (5 :: r))) := by
  obtain ⟨i5, hi5, hz5, hs5, hb5⟩ := info_parts infoData
  have hn0 : ¬ ((r.length : Int) + 1 = 0) := by omega
  have hn1 : (((r.length + 1 : Nat) : Int) == 0) = false := by rw [beq_eq_false_iff_ne]; omega
  have hn2 : (0 : Int) < (r.length : Int) + 1 := by omega
  have hdp := deep_not hw
  obtain ⟨g, o, rfl, HC⟩ := first_cell hB 5 rfl
  have HD0 : dec (d + 1) (5 :: r) = (decNum 5 r).up := rfl
  have HN := Lib.hid fun w' (hb : Below w.heap.size w w') => number_5 (O.cutA (some ⟨g, o, none⟩) c 1) r (c - 1) w' (O.Byt.cut (hB.below hb) (k := 1) (by simp) (by simpa using hlc)) (by omega)
  have hgw : g ≠ w.heap.size + 1 := by have := first_lt hB; omega
  have h1l : (1 : Int) ≤ (r.length : Int) + 1 := by omega
  have h1c : (1 : Int) ≤ (c : Int) := by omega
  cases hx : decNum 5 r with
  | bad q =>
    have HD := Lib.hid (HD0.trans (up_bad hx))
    have hq : q = 20 ∨ q = 22 ∨ q = 31 := by
      have := dec_right (d + 1) (5 :: r)
      rw [HD.out] at this
      exact this
    have hq0 : ((q : Int) != 0) = true := by simp; omega
    rw [hx] at HN
    clear hB hl hw HD0 hx hq
    by_cases hc1 : c = 1
    · subst hc1
      obtain rfl : r = [] := List.eq_nil_of_length_eq_zero (by omega)
      have e1 : O.cutA (some ⟨g, o, none⟩) 1 1 = some ⟨g, o, none⟩ := rfl
      rw [e1] at HN
      clear e1
      have hcw := HC.out ((w.alloc (.cells #[.int .i64 0, .int .i64 0, .string ⟨#[]⟩, .slice none 0 0, .slice none 0 0] 25)).alloc (.cells #[.int .i64 0, .int .i64 0, .string ⟨#[]⟩, .slice none 0 0, .slice none 0 0] 25)) (below2d _ _ _)
      go_enter Try.func23, Try.ntmps23
      go_wp2_with fail
      go_region_held3 (fun w' => w'.cell? ⟨g, o, none⟩ = some (.int .u8 5)) (first | go_keep | exact far5 _ _ _ _ _ _ _ _ _ _ _ _ _ hgw hcx) ((go_at_call 41; refine (HN.out _ ?b).mono ?_; (case b => exact (below2d _ _ _).drew); rintro e w2 ⟨rfl, hb⟩; have hb2 := (Below.refl _ _).drew.trans hb; obtain ⟨hr0, hr1⟩ := two_rows hb2; obtain ⟨t0, t1, t2, t3, t4, t5⟩ := zrow_cells hr1; have f0 := t5 0; have f1 := t5 1; have f2 := t5 2; have f3 := t5 3; have f4 := t5 4; obtain ⟨u0, u1, u2, u3, u4, u5⟩ := zrow_cells hr0; have e0 := u5 0; have e1 := u5 1; have e2 := u5 2; have e3 := u5 3; have e4 := u5 4; have HR0 := Lib.hid hr0; have HB2 := Lib.hid hb2; have hcx := HC.out w2 ((below2d w _ _).trans (HB2.out.mono (by simp; omega))); clear hr0 hr1 t5 u5 hb2))
      clear hcx hcw
      go_wp2_with fail
      rw [← put5_lit, ← put5_lit]
      refine bodyPost_ret (res_ctt rfl _ _ w.heap.size 25 _ (0, 0) _ rfl (put5_row (put5_keep (by omega) HR0.out) _) Try.underlying25 rfl (by rw [hi5]; simp [hs5, X.cells])) rfl ?_
      rw [HD.out]
      exact fin_bad HB2.out rfl
    · have e1 : O.cutA (some ⟨g, o, none⟩) c 1 = some ⟨g, o + 1, none⟩ := by
        unfold O.cutA
        rw [if_neg hc1]
        show some (Addr.add _ 1) = _
        rw [O.add_lit]
      rw [e1] at HN
      clear e1
      have hcw := HC.out ((w.alloc (.cells #[.int .i64 0, .int .i64 0, .string ⟨#[]⟩, .slice none 0 0, .slice none 0 0] 25)).alloc (.cells #[.int .i64 0, .int .i64 0, .string ⟨#[]⟩, .slice none 0 0, .slice none 0 0] 25)) (below2d _ _ _)
      go_enter Try.func23, Try.ntmps23
      go_wp2_with fail
      go_region_held3 (fun w' => w'.cell? ⟨g, o, none⟩ = some (.int .u8 5)) (first | go_keep | exact far5 _ _ _ _ _ _ _ _ _ _ _ _ _ hgw hcx) ((go_at_call 41; refine (HN.out _ ?b).mono ?_; (case b => exact (below2d _ _ _).drew); rintro e w2 ⟨rfl, hb⟩; have hb2 := (Below.refl _ _).drew.trans hb; obtain ⟨hr0, hr1⟩ := two_rows hb2; obtain ⟨t0, t1, t2, t3, t4, t5⟩ := zrow_cells hr1; have f0 := t5 0; have f1 := t5 1; have f2 := t5 2; have f3 := t5 3; have f4 := t5 4; obtain ⟨u0, u1, u2, u3, u4, u5⟩ := zrow_cells hr0; have e0 := u5 0; have e1 := u5 1; have e2 := u5 2; have e3 := u5 3; have e4 := u5 4; have HR0 := Lib.hid hr0; have HB2 := Lib.hid hb2; have hcx := HC.out w2 ((below2d w _ _).trans (HB2.out.mono (by simp; omega))); clear hr0 hr1 t5 u5 hb2))
      clear hcx hcw
      go_wp2_with fail
      rw [← put5_lit, ← put5_lit]
      refine bodyPost_ret (res_ctt rfl _ _ w.heap.size 25 _ (0, 0) _ rfl (put5_row (put5_keep (by omega) HR0.out) _) Try.underlying25 rfl (by rw [hi5]; simp [hs5, X.cells])) rfl ?_
      rw [HD.out]
      exact fin_bad HB2.out rfl
  | good v n =>
    have hc1 : ¬ c = 1 := fun e => by
      obtain rfl : r = [] := List.eq_nil_of_length_eq_zero (by omega)
      cases hx
    have HD := Lib.hid (HD0.trans (up_good hx))
    have hnl : n + 1 ≤ 4194304 := by
      have := right_good HD.out
      simp at this
      omega
    have hnw : IntKind.i64.wrap ((n : Int) + 1) = (n : Int) + 1 := IntWalk.i64_in _ (by omega)
    rw [hx] at HN
    clear hB hl hw HD0 hx
    · have e1 : O.cutA (some ⟨g, o, none⟩) c 1 = some ⟨g, o + 1, none⟩ := by
        unfold O.cutA
        rw [if_neg hc1]
        show some (Addr.add _ 1) = _
        rw [O.add_lit]
      rw [e1] at HN
      clear e1
      have hcw := HC.out ((w.alloc (.cells #[.int .i64 0, .int .i64 0, .string ⟨#[]⟩, .slice none 0 0, .slice none 0 0] 25)).alloc (.cells #[.int .i64 0, .int .i64 0, .string ⟨#[]⟩, .slice none 0 0, .slice none 0 0] 25)) (below2d _ _ _)
      go_enter Try.func23, Try.ntmps23
      go_wp2_with fail
      go_region_held3 (fun w' => w'.cell? ⟨g, o, none⟩ = some (.int .u8 5)) (first | go_keep | exact far5 _ _ _ _ _ _ _ _ _ _ _ _ _ hgw hcx) ((go_at_call 41; refine (HN.out _ ?b).mono ?_; (case b => exact (below2d _ _ _).drew); rintro e w2 ⟨⟨zk, zn, zs, zka, zkn, zkc, zla, zln, zlc⟩, rfl, hy, hb⟩; (simp only [X.v]); have hb2 := (Below.refl _ _).drew.trans hb; have HY := Lib.hid hy; clear hy; obtain ⟨hr0, hr1⟩ := two_rows hb2; obtain ⟨t0, t1, t2, t3, t4, t5⟩ := zrow_cells hr1; have f0 := t5 0; have f1 := t5 1; have f2 := t5 2; have f3 := t5 3; have f4 := t5 4; obtain ⟨u0, u1, u2, u3, u4, u5⟩ := zrow_cells hr0; have e0 := u5 0; have e1 := u5 1; have e2 := u5 2; have e3 := u5 3; have e4 := u5 4; have HR0 := Lib.hid hr0; have HB2 := Lib.hid hb2; have hcx := HC.out w2 ((below2d w _ _).trans (HB2.out.mono (by simp; omega))); clear hr0 hr1 t5 u5 hb2))
      clear hcx hcw
      go_wp2_with fail
      rw [← put5_lit, ← put5_lit]
      refine bodyPost_ret (res_ctt rfl _ _ w.heap.size 25 _ (0, 0) _ rfl (put5_row (put5_keep (by omega) HR0.out) _) Try.underlying25 rfl (by rw [hi5]; simp [hs5, X.cells])) rfl ?_
      rw [HD.out]
      exact fin_good HB2.out HY.out
theorem refRead_all : ∀ d, AtS d := by
  intro d
  induction d with
  | zero =>
    intro A l c w deep hB hl hlc hw
    cases l with
    | nil => exact read_nil 0 A c w deep
    | cons x r =>
      obtain rfl : deep = 20 := by omega
      exact read_zero A x r c w
  | succ d ih =>
    intro A l c w deep hB hl hlc hw
    cases l with
    | nil => exact read_nil (d + 1) A c w deep
    | cons x r =>
      rcases u8_cases x with hc | hc | hc | hc | hc | hc | hc | hc | hc | hc
      · subst hc; exact read_w0 d A r c w deep hB hw
      · subst hc; exact read_w1 d A r c w deep hB hw
      · subst hc; exact read_w2 d A r c w deep hB hw
      · subst hc; exact read_w3 d A r c w deep hB hw
      · subst hc; exact read_n4 d A r c w deep hB hl hlc hw
      · subst hc; exact read_n5 d A r c w deep hB hl hlc hw
      · subst hc; exact read_text d A r c w deep hB hl hlc hw
      · subst hc; exact read_many_list d ih A r c w deep hB hl hlc hw
      · subst hc; exact read_many_record d ih A r c w deep hB hl hlc hw
      · exact read_other d A x r c w deep hB hw hc
end Go.Proofs.Ytnkknlhdbhfjlaa
