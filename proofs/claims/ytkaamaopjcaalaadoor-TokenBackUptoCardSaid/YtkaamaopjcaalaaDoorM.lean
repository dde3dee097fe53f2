/-
  readToken, by contract. (written by gen4.py)
-/
import Derived.Test.YtkaamaopjcaalaaDoorL
namespace Go.Proofs.YtkaamaopjcaalaaDoor.T
open Go.RowKit Go.Proofs.YtkaamaopjcaalaaDoor

theorem tkV_form (o : Option (Tok × Nat)) : ∃ (k n m : Int) (t : ByteArray), tkV o = .tuple #[.agg #[.int .i64 k, .string t, .int .i64 n, .int .i64 0, .bool false], .int .i64 m] := by
  cases o with
  | none => exact ⟨_, _, _, _, rfl⟩
  | some x => exact ⟨_, _, _, _, rfl⟩
theorem one_num {c : UInt8} {r : Bs} (h : dg c = true) : one (c :: r) = nmT (c :: r) := by
  unfold one
  simp only
  rw [if_pos h]
  rfl
theorem one_word {c : UInt8} {r : Bs} (h : dg c = false) (h2 : ib c = true) : one (c :: r) = word (c :: r) := by
  unfold one
  simp only
  rw [if_neg (by rw [h]; decide), if_pos h2]
  rfl
theorem one_text {c : UInt8} {r : Bs} (h : dg c = false) (h2 : ib c = false) (h3 : c = 39 ∨ c = 34) : one (c :: r) = text (c :: r) := by
  unfold one
  simp only
  rw [if_neg (by rw [h]; decide), if_neg (by rw [h2]; decide), if_pos h3]
  rfl
theorem one_sign {c : UInt8} {r : Bs} (h : dg c = false) (h2 : ib c = false) (h3 : ¬ (c = 39 ∨ c = 34)) : one (c :: r) = sign (c :: r) := by
  unfold one
  simp only
  rw [if_neg (by rw [h]; decide), if_neg (by rw [h2]; decide), if_neg h3]
  rfl
set_option maxRecDepth 8000 in
set_option maxHeartbeats 2000000 in
theorem readToken_any (s : ByteArray) (w : World) (hs : s.size ≤ 1000000) (hE : ErrAt w) (hR : RngAt w) (c : UInt8) (r : Bs) (hl : s.data.toList = c :: r) :
    Calls Tryd.prog 26 #[.string s] w fun e w' => e = .returned (tkV (one (c :: r))) ∧ Below w.heap.size w w' := by
  obtain ⟨i5, hi5, hz5, hs5, hb5⟩ := info_parts infoT
  have i0 : ∀ w, (Instr.index 9 (.string s) (.int .i64 0)).run Tryd.prog w = .ok (.int .u8 (c.toNat : Nat)) w := fun w => index_run s 0 c w (by rw [hl]; rfl)
  have hemp := notEmpty hl
  have hpos : (0 : Int) < (s.size : Int) := by rw [← size_list, hl]; simp only [List.length_cons]; omega
  have HZ := Lib.hid (fun w' (h : Below (w.alloc (row5 0 ⟨#[]⟩ 0 0 false)).heap.size (w.alloc (row5 0 ⟨#[]⟩ 0 0 false)) w') => row_kept h)
  have hE1 := hE.below (below_alloc w (row5 0 ⟨#[]⟩ 0 0 false))
  have hR1 := hR.below (below_alloc w (row5 0 ⟨#[]⟩ 0 0 false))
  have HD := Lib.hid (isDigit_any c)
  have HI := Lib.hid (isIdentByte_any c)
  clear hE hR
  cases hd : dg c with
  | true =>
    rw [hd] at HD
    have hone := one_num (r := r) hd
    have hN := readNum_any s (w.alloc (row5 0 ⟨#[]⟩ 0 0 false)) hs hR1 c r hl hd
    rw [← hl] at hN
    clear hd
    have HC := Lib.hid (hN)
    rw [hl] at HC
    obtain ⟨K, N, M, T, hT⟩ := tkV_form (nmT (c :: r))
    rw [hT] at HC
    have HV := Lib.hid ((congrArg tkV hone).trans hT)
    clear hE1 hR1 hl hN hT hone
    unfold row5 at *
    go_enter Tryd.func26, Tryd.ntmps26
    go_wp2_with (first | (go_at_call 19; refine (HD.out _).mono ?_; rintro e w' ⟨rfl, rfl⟩) | (go_at_call 21; refine (HI.out _).mono ?_; rintro e w' ⟨rfl, rfl⟩))
    refine HC.out.mono ?_
    rintro e w1 ⟨rfl, hb1⟩
    obtain ⟨hz1, hz2⟩ := HZ.out _ hb1
    obtain ⟨c0, c1, c2, c3, c4, cf⟩ := row5_cells hz1
    have f0 := cf 0
    have f1 := cf 1
    have f2 := cf 2
    have f3 := cf 3
    have f4 := cf 4
    have HRw := Lib.hid hz1
    have HB := Lib.hid hz2
    clear hz1 hz2 cf hb1
    go_wp2_with fail
    rw [put5_eq]
    refine bodyPost_ret (res_ct rfl _ _ w.heap.size 30 _ (0, 0) _ rfl (put5_row HRw.out _ _ _ _ _) Tryd.underlying30 rfl (by rw [hi5]; simp [hs5])) rfl ?_
    exact ⟨by rw [HV.out]; rfl, put5_below HB.out (Nat.le_refl _) _ _ _ _ _⟩
  | false =>
    rw [hd] at HD
    cases hi : ib c with
    | true =>
      rw [hi] at HI
      have hone := one_word (r := r) hd hi
      clear hd hi
      have HC := Lib.hid (readWord_any s (w.alloc (row5 0 ⟨#[]⟩ 0 0 false)) hs)
      rw [hl] at HC
      obtain ⟨K, N, M, T, hT⟩ := tkV_form (word (c :: r))
      rw [hT] at HC
      have HV := Lib.hid ((congrArg tkV hone).trans hT)
      clear hE1 hR1 hl hT hone
      unfold row5 at *
      go_enter Tryd.func26, Tryd.ntmps26
      go_wp2_with (first | (go_at_call 19; refine (HD.out _).mono ?_; rintro e w' ⟨rfl, rfl⟩) | (go_at_call 21; refine (HI.out _).mono ?_; rintro e w' ⟨rfl, rfl⟩))
      refine HC.out.mono ?_
      rintro e w1 ⟨rfl, hb1⟩
      obtain ⟨hz1, hz2⟩ := HZ.out _ hb1
      obtain ⟨c0, c1, c2, c3, c4, cf⟩ := row5_cells hz1
      have f0 := cf 0
      have f1 := cf 1
      have f2 := cf 2
      have f3 := cf 3
      have f4 := cf 4
      have HRw := Lib.hid hz1
      have HB := Lib.hid hz2
      clear hz1 hz2 cf hb1
      go_wp2_with fail
      rw [put5_eq]
      refine bodyPost_ret (res_ct rfl _ _ w.heap.size 30 _ (0, 0) _ rfl (put5_row HRw.out _ _ _ _ _) Tryd.underlying30 rfl (by rw [hi5]; simp [hs5])) rfl ?_
      exact ⟨by rw [HV.out]; rfl, put5_below HB.out (Nat.le_refl _) _ _ _ _ _⟩
    | false =>
      rw [hi] at HI
      have hc3 : c.toNat = 39 ∨ c.toNat = 34 ∨ (¬ c.toNat = 39 ∧ ¬ c.toNat = 34) := by omega
      rcases hc3 with hq | hq | ⟨hq1, hq2⟩
      · have hone := one_text (r := r) hd hi (.inl (UInt8.toNat_inj.1 hq))
        rw [hq] at i0 HD HI
        clear hd hi hq
        have HC := Lib.hid (readText_any s (w.alloc (row5 0 ⟨#[]⟩ 0 0 false)) hs hE1)
        rw [hl] at HC
        obtain ⟨K, N, M, T, hT⟩ := tkV_form (text (c :: r))
        rw [hT] at HC
        have HV := Lib.hid ((congrArg tkV hone).trans hT)
        clear hE1 hR1 hl hT hone
        unfold row5 at *
        go_enter Tryd.func26, Tryd.ntmps26
        go_wp2_with (first | (go_at_call 19; refine (HD.out _).mono ?_; rintro e w' ⟨rfl, rfl⟩) | (go_at_call 21; refine (HI.out _).mono ?_; rintro e w' ⟨rfl, rfl⟩))
        refine HC.out.mono ?_
        rintro e w1 ⟨rfl, hb1⟩
        obtain ⟨hz1, hz2⟩ := HZ.out _ hb1
        obtain ⟨c0, c1, c2, c3, c4, cf⟩ := row5_cells hz1
        have f0 := cf 0
        have f1 := cf 1
        have f2 := cf 2
        have f3 := cf 3
        have f4 := cf 4
        have HRw := Lib.hid hz1
        have HB := Lib.hid hz2
        clear hz1 hz2 cf hb1
        go_wp2_with fail
        rw [put5_eq]
        refine bodyPost_ret (res_ct rfl _ _ w.heap.size 30 _ (0, 0) _ rfl (put5_row HRw.out _ _ _ _ _) Tryd.underlying30 rfl (by rw [hi5]; simp [hs5])) rfl ?_
        exact ⟨by rw [HV.out]; rfl, put5_below HB.out (Nat.le_refl _) _ _ _ _ _⟩
      · have hone := one_text (r := r) hd hi (.inr (UInt8.toNat_inj.1 hq))
        rw [hq] at i0 HD HI
        clear hd hi hq
        have HC := Lib.hid (readText_any s (w.alloc (row5 0 ⟨#[]⟩ 0 0 false)) hs hE1)
        rw [hl] at HC
        obtain ⟨K, N, M, T, hT⟩ := tkV_form (text (c :: r))
        rw [hT] at HC
        have HV := Lib.hid ((congrArg tkV hone).trans hT)
        clear hE1 hR1 hl hT hone
        unfold row5 at *
        go_enter Tryd.func26, Tryd.ntmps26
        go_wp2_with (first | (go_at_call 19; refine (HD.out _).mono ?_; rintro e w' ⟨rfl, rfl⟩) | (go_at_call 21; refine (HI.out _).mono ?_; rintro e w' ⟨rfl, rfl⟩))
        refine HC.out.mono ?_
        rintro e w1 ⟨rfl, hb1⟩
        obtain ⟨hz1, hz2⟩ := HZ.out _ hb1
        obtain ⟨c0, c1, c2, c3, c4, cf⟩ := row5_cells hz1
        have f0 := cf 0
        have f1 := cf 1
        have f2 := cf 2
        have f3 := cf 3
        have f4 := cf 4
        have HRw := Lib.hid hz1
        have HB := Lib.hid hz2
        clear hz1 hz2 cf hb1
        go_wp2_with fail
        rw [put5_eq]
        refine bodyPost_ret (res_ct rfl _ _ w.heap.size 30 _ (0, 0) _ rfl (put5_row HRw.out _ _ _ _ _) Tryd.underlying30 rfl (by rw [hi5]; simp [hs5])) rfl ?_
        exact ⟨by rw [HV.out]; rfl, put5_below HB.out (Nat.le_refl _) _ _ _ _ _⟩
      · have hone := one_sign (r := r) hd hi (fun h => by
          rcases h with h | h
          · exact hq1 (by rw [h]; rfl)
          · exact hq2 (by rw [h]; rfl))
        have b1 : ((c.toNat : Int) == 39) = false := ne_i (by omega)
        have b2 : ((c.toNat : Int) == 34) = false := ne_i (by omega)
        clear hd hi hq1 hq2
        have HC := Lib.hid (readSign_any s (w.alloc (row5 0 ⟨#[]⟩ 0 0 false)) hs)
        rw [hl] at HC
        obtain ⟨K, N, M, T, hT⟩ := tkV_form (sign (c :: r))
        rw [hT] at HC
        have HV := Lib.hid ((congrArg tkV hone).trans hT)
        clear hE1 hR1 hl hT hone
        unfold row5 at *
        go_enter Tryd.func26, Tryd.ntmps26
        go_wp2_with (first | (go_at_call 19; refine (HD.out _).mono ?_; rintro e w' ⟨rfl, rfl⟩) | (go_at_call 21; refine (HI.out _).mono ?_; rintro e w' ⟨rfl, rfl⟩))
        refine HC.out.mono ?_
        rintro e w1 ⟨rfl, hb1⟩
        obtain ⟨hz1, hz2⟩ := HZ.out _ hb1
        obtain ⟨c0, c1, c2, c3, c4, cf⟩ := row5_cells hz1
        have f0 := cf 0
        have f1 := cf 1
        have f2 := cf 2
        have f3 := cf 3
        have f4 := cf 4
        have HRw := Lib.hid hz1
        have HB := Lib.hid hz2
        clear hz1 hz2 cf hb1
        go_wp2_with fail
        rw [put5_eq]
        refine bodyPost_ret (res_ct rfl _ _ w.heap.size 30 _ (0, 0) _ rfl (put5_row HRw.out _ _ _ _ _) Tryd.underlying30 rfl (by rw [hi5]; simp [hs5])) rfl ?_
        exact ⟨by rw [HV.out]; rfl, put5_below HB.out (Nat.le_refl _) _ _ _ _ _⟩
end Go.Proofs.YtkaamaopjcaalaaDoor.T
