/-
  The reference's Read, by contract: no sign, and no 0.
-/
import Derived.Test.YtjgafhodogbemaaDoorS0
namespace Go.Proofs.YtjgafhodogbemaaDoor.N
open Go.RowKit Go.Proofs.YtjgafhodogbemaaDoor

set_option maxRecDepth 8000 in
set_option maxHeartbeats 4000000 in
theorem refRead_els (s : ByteArray) (w : World) (hs : s.size ≤ 1048576) (he : s.size % 2 = 0) (t : List Nat) (hT : rea (fro (us s.data.toList)) = t) (hcase : ∃ a0, t.head? = some a0 ∧ a0 ≠ 48 ∧ a0 ≠ 45 ∧ a0 ≠ 43) :
    Calls Tryd.prog 23 #[.string s] w fun e w' => e = .returned (.tuple #[.int .i64 (nv (num t)), .int .i64 (er (num t))]) ∧ Below w.heap.size w w' := by
  have H0 : Hid (∀ w, Calls Tryd.prog 39 #[.string s] w fun e w' => e = .returned (.bool true) ∧ w = w') := Lib.hid fun w => by
    have := refCheck_any s w (by unfold maxLen; omega)
    rw [decide_eq_true he] at this
    exact this
  have HL := Lib.hid fun w => list_cap s w (by omega)
  have hl : (us s.data.toList).length ≤ 524288 := by rw [us_length, size_list]; omega
  have hun := un_us s.data.toList
  generalize us s.data.toList = u at *
  have hcase := Lib.hid hcase
  go_enter Tryd.func23, Tryd.ntmps23
  go_wp2_with fail
  refine (H0.out _).mono ?_
  rintro e w' ⟨rfl, rfl⟩
  go_wp2_with fail
  refine (HL.out _).mono ?_
  rintro e w1 ⟨A1, c1, rfl, hc1, hr1, hb1⟩
  clear HL H0
  go_wp2_with fail
  go_loopw [4] (fun v wr => ∃ A xs n c, v = .slice A n c ∧ Hid (n = xs.length) ∧ n ≤ c ∧ Hid (Ro wr A xs) ∧ Hid (Un xs) ∧ n ≤ 524288 ∧ Hid (fro u = fro xs) ∧ wr = w1)
    (fun v _ => lenOf v)
  case atStart => exact ⟨A1, u, _, c1, rfl, rfl, hc1, Lib.hid hr1, Lib.hid hun, hl, rfl, rfl⟩
  case round =>
    obtain ⟨A, xs, n, c, rfl, hn, hc, hr, hU, hL, hf, rfl⟩ := hrel
    cases xs with
    | nil =>
      have hn0 : n = 0 := hn.out
      subst hn0
      have HZ : Hid (num t = some 0) := Lib.hid (by rw [← hT, hf.out]; rfl)
      obtain ⟨w7, rfl⟩ : ∃ w7 : World, w7 = wr := ⟨_, rfl⟩
      go_wp2_with fail
      go_loopw [4] (fun v wr2 => v = .slice A 0 c ∧ wr2 = w7) (fun v _ => lenOf v)
      case atStart => exact ⟨rfl, rfl⟩
      case round =>
        obtain ⟨rfl, rfl⟩ := hrel
        go_wp2_with fail
        go_ret2
        exact ⟨by rw [HZ.out]; rfl, hb1⟩
    | cons a r =>
      have hn1 : n = r.length + 1 := hn.out
      have hp : 0 < n := by omega
      have hp2 : (0 : Int) < (n : Int) := by omega
      have hn0 : ¬ n = 0 := by omega
      obtain ⟨g, o, rfl, hcs⟩ := hr.out.at (by simp)
      have hcell : wr.cell? ⟨g, o, none⟩ = some (.int .i64 (a : Int)) := hcs.out 0 (by simp)
      cases hsp : sp a with
      | true =>
        have hS := Lib.hid fun w => blank_w a hsp w
        have hcut := run_from (some ⟨g, o, none⟩) n c 1 1 rfl (by omega)
        have hF : Hid (fro u = fro r) := Lib.hid (by rw [hf.out, fro_cons, if_pos hsp])
        have hR : Hid (Ro wr (cutA (some ⟨g, o, none⟩) c 1) r) := Lib.hid (hr.out.cut (k := 1) (by simp; omega))
        have hU2 : Hid (Un r) := Lib.hid fun x hx => hU.out x (by simp [hx])
        have hn2 : Hid (n - 1 = r.length) := Lib.hid (by omega)
        clear hsp hf hr hU hn hn1 hcs
        go_wp2_with fail
        refine (hS.out _).mono ?_
        rintro e v1 ⟨rfl, rfl⟩
        go_wp2_with fail
        go_roundw
        case rel => exact ⟨_, r, n - 1, c - 1, rfl, hn2, by omega, hR, hU2, by omega, hF, by first | rfl | trivial⟩
        case measure => simp [lenOf]; omega
      | false =>
        have hS := Lib.hid fun w => blank_w a hsp w
        have HF : Hid (rea (a :: r) = t) := Lib.hid (by rw [← hT, hf.out, fro_cons, if_neg (by rw [hsp]; exact Bool.false_ne_true)])
        have hspn := Lib.hid hsp
        clear hsp hf hn1 hcs hT
        go_wp2_with fail
        refine (hS.out _).mono ?_
        rintro e v1 ⟨rfl, rfl⟩
        clear hS
        go_wp2_with fail
        go_loopw [4] (fun v wr2 => ∃ r n, v = .slice (some ⟨g, o, none⟩) n c ∧ Hid (n = r.length + 1) ∧ n ≤ c ∧ Hid (Ro wr (some ⟨g, o, none⟩) (a :: r)) ∧ Hid (Un (a :: r)) ∧ n ≤ 524288 ∧ Hid (rea (a :: r) = t) ∧ wr2 = wr)
          (fun v _ => lenOf v)
        case atStart => exact ⟨r, n, rfl, hn, hc, hr, hU, hL, HF, rfl⟩
        case round =>
          clear hn hc hr hU hL HF hp hp2 hn0 hcell
          obtain ⟨r, n, rfl, hn, hc, hr, hU, hL, hf, rfl⟩ := hrel
          have hn1 := hn.out
          have hp : 0 < n := by omega
          have hp2 : (0 : Int) < (n : Int) := by omega
          have hn0 : ¬ n = 0 := by omega
          have hn00 : ¬ (n : Int) = 0 := by omega
          obtain ⟨g', o', hgo, hcs⟩ := hr.out.at (by simp)
          injection hgo with hgo
          injection hgo with hg1 ho1
          subst hg1 ho1
          have hcell : wr.cell? ⟨g, o, none⟩ = some (.int .i64 (a : Int)) := hcs.out 0 (by simp)
          obtain ⟨ys, z, hyz⟩ : ∃ ys z, a :: r = ys ++ [z] := ⟨_, _, (List.dropLast_concat_getLast (List.cons_ne_nil a r)).symm⟩
          have hyl : ys.length + 1 = n := by
            have := congrArg List.length hyz
            simp at this
            omega
          have hcz : wr.cell? ⟨g, o + (n - 1), none⟩ = some (.int .i64 (z : Int)) := by
            have := hcs.out (n - 1) (by rw [List.length_cons]; omega)
            rw [this]
            simp only [hyz]
            rw [List.getElem_append_right (by omega)]
            simp [← hyl]
          have e1 : IntKind.i64.wrap ((n : Int) - 1) = (n : Int) - 1 := IntWalk.i64_in _ (by omega)
          have e2 : ((n : Int) - 1).toNat = n - 1 := by omega
          have e3 : 0 ≤ (n : Int) - 1 := by omega
          have e4 : (n : Int) - 1 < (n : Int) := by omega
          cases hsp : sp z with
          | true =>
            have hS := Lib.hid fun w => blank_w z hsp w
            obtain ⟨y0, hys⟩ : ∃ y0, ys = a :: y0 := by
              cases ys with
              | nil =>
                rw [List.nil_append, List.cons.injEq] at hyz
                rw [← hyz.1, hspn.out] at hsp
                cases hsp
              | cons b y0 =>
                rw [List.cons_append, List.cons.injEq] at hyz
                exact ⟨y0, by rw [hyz.1]⟩
            have hF : Hid (rea (a :: y0) = t) := Lib.hid (by rw [← hf.out, hyz, rea_snoc, if_pos hsp, hys])
            have hR : Hid (Ro wr (some ⟨g, o, none⟩) (a :: y0)) := Lib.hid (by
              have := hr.out
              rw [hyz] at this
              rw [← hys]
              exact this.init)
            have hU2 : Hid (Un (a :: y0)) := Lib.hid (by
              intro x hx
              refine hU.out x ?_
              rw [hyz, hys]
              exact List.mem_append_left _ hx)
            have hcut := run_upto g o n c (n - 1) ((n : Int) - 1) (by omega) (by omega) hc
            have hn2 : Hid (n - 1 = y0.length + 1) := Lib.hid (by
              rw [hys] at hyl
              simp at hyl
              omega)
            clear hsp hf hr hU hn hn1 hcs hyz hyl hys
            go_wp2_with fail
            refine (hS.out _).mono ?_
            rintro e v1 ⟨rfl, rfl⟩
            go_wp2_with fail
            go_roundw
            case rel => exact ⟨y0, n - 1, rfl, hn2, by omega, hR, hU2, by omega, hF, by first | rfl | trivial⟩
            case measure => simp [lenOf]; omega
          | false =>
            have hS := Lib.hid fun w => blank_w z hsp w
            have HF : Hid (t = a :: r) := Lib.hid (by rw [← hf.out, hyz, rea_snoc, if_neg (by rw [hsp]; exact Bool.false_ne_true)])
            clear hsp hf hyz hyl hspn hn1
            have HB := Lib.hid hb1
            clear hb1
            go_wp2_with fail
            refine (hS.out _).mono ?_
            rintro e v1 ⟨rfl, rfl⟩
            clear hS hcz e1 e2 e3 e4
            have hn1 := hn.out
            have hn4 : ((n : Nat) : Int) = (r.length : Int) + 1 := by omega
            have hcut1 := run_from (some ⟨g, o, none⟩) n c 1 1 rfl (by omega)
            have hR1 : Hid (Ro wr (cutA (some ⟨g, o, none⟩) c 1) r) := Lib.hid (hr.out.cut (k := 1) (by simp; omega))
            have hU1 : Hid (Un r) := Lib.hid fun x hx => hU.out x (by simp [hx])
            obtain ⟨a0, ha0, k48, k45, k43⟩ := hcase.out
            have ha : a = a0 := by
              rw [HF.out] at ha0
              simpa using ha0
            subst ha
            have HR : Hid (num t = if a :: r = [] then none else fin 1 (rgs 10 0 (a :: r))) := Lib.hid (by rw [HF.out]; exact num_else a r k45 k43 (hx_head k48))
            have b45 : ((a : Int) == 45) = false := by rw [beq_eq_false_iff_ne]; omega
            have b43 : ((a : Int) == 43) = false := by rw [beq_eq_false_iff_ne]; omega
            have b48 : ((a : Int) == 48) = false := by rw [beq_eq_false_iff_ne]; omega
            have i45 : ¬ (a : Int) = 45 := by omega
            have i43 : ¬ (a : Int) = 43 := by omega
            have i48 : ¬ (a : Int) = 48 := by omega
            clear ha0 k48 k45 k43
            have hnq : ((n : Int) == 0) = false := by rw [beq_eq_false_iff_ne]; omega
            have hR2 : Hid (Ro wr (some ⟨g, o, none⟩) (a :: r)) := hr
            have hU2 : Hid (Un (a :: r)) := hU
            have hN2 : Hid (n = (a :: r).length) := Lib.hid hn1
            have hL2 := hL
            clear hR1 hU1 hr hU hn hn1 hn4 hcs HF hcase hcut1
            generalize a :: r = r2 at *
            generalize wr = wT at *
            by_cases hn6 : (1 : Int) < (n : Int)
            · skip
              by_cases h0 : r2 = []
              · exact absurd (by rw [hN2.out, h0]; rfl : n = 0) hn0
              · have hN0 : 0 < n := by
                  have := hN2.out
                  cases r2 with
                  | nil => exact absurd rfl h0
                  | cons => rw [this]; simp
                have hN1 : ¬ n = 0 := by omega
                have hN3 : ¬ (n : Int) = 0 := by omega
                have hN4 : ((n : Int) == 0) = false := by rw [beq_eq_false_iff_ne]; exact hN3
                have HZ : Hid (num t = fin (1) (rgs 10 0 (r2.drop 0))) := Lib.hid (by rw [HR.out, if_neg h0]; rfl)
                obtain ⟨g2, o2, hgo, hcs⟩ := hR2.out.at (by rw [← hN2.out]; exact hN0)
                injection hgo with hgo
                injection hgo with hg1 ho1
                subst hg1 ho1
                clear h0 HR hR2
                go_wp2_with fail
                clear hp hp2 hn0 hn00 hN0 hN1 hN3 hn6
                go_loopw [7, 92] (fun v i wr => ∃ (acc : Int) (k : Nat), v = .int .i64 acc ∧ 0 ≤ acc ∧ acc ≤ 144115188075855888 ∧ k ≤ n ∧ i = .int .i64 k ∧ Hid (num t = fin (1) (rgs 10 acc (r2.drop k))) ∧ wr = wT)
                  (fun _ i _ => n - (intOf i).toNat)
                case atStart => exact ⟨0, 0, rfl, by omega, by omega, by omega, rfl, HZ, rfl⟩
                case round =>
                  obtain ⟨acc, k, rfl, ha0, ha1, hk, rfl, hp, rfl⟩ := hrel
                  by_cases hlt : k < n
                  · have hk2 : k < r2.length := by rw [← hN2.out]; exact hlt
                    have hcell := hcs.out k hk2
                    have hs := Lib.hid (congrArg (fin (1)) (rgs_step (b := 10) (acc := acc) hk2))
                    have hd := dgt_ge r2[k]
                    have hu := hU2.out r2[k] (List.getElem_mem hk2)
                    by_cases hbad : 10 ≤ dgt r2[k]
                    · have HD := Lib.hid fun w => value_w r2[k] rfl w
                      have hv := vl_ge (b := 10) (by omega) hbad
                      have HZ2 : Hid (num t = none) := Lib.hid (by rw [hp.out, hs.out, if_pos (.inl hbad)]; rfl)
                      clear hp hs hbad hd
                      generalize vl r2[k] = d at *
                      generalize r2[k] = x at *
                      go_wp2_with fail
                      refine (HD.out _).mono ?_
                      rintro e v1 ⟨rfl, rfl⟩
                      go_wp2_with fail
                      go_ret2
                      exact ⟨by rw [HZ2.out]; rfl, HB.out⟩
                    · have hv := vl_lt (b := 10) (by omega) hbad
                      have HD := Lib.hid fun w => value_w r2[k] hv w
                      have hbad2 : dgt r2[k] < 10 := by omega
                      by_cases hbig : 9007199254740991 < acc
                      · have HZ2 : Hid (num t = none) := Lib.hid (by rw [hp.out, hs.out, if_pos (.inr hbig)]; rfl)
                        clear hp hs hbad hd hv
                        generalize dgt r2[k] = d at *
                        generalize r2[k] = x at *
                        have hbad : ¬ 10 ≤ d := by omega
                        go_wp2_with fail
                        refine (HD.out _).mono ?_
                        rintro e v1 ⟨rfl, rfl⟩
                        go_wp2_with fail
                        go_ret2
                        exact ⟨by rw [HZ2.out]; rfl, HB.out⟩
                      · have HZ2 : Hid (num t = fin (1) (rgs 10 (10 * acc + dgt r2[k]) (r2.drop (k + 1)))) := Lib.hid (by rw [hp.out, hs.out, if_neg (by omega)])
                        have e1 : IntKind.i64.wrap (10 * acc) = 10 * acc := IntWalk.i64_in _ (by omega)
                        have e2 : IntKind.i64.wrap (10 * acc + dgt r2[k]) = 10 * acc + dgt r2[k] := IntWalk.i64_in _ (by omega)
                        clear hp hs hbad hv
                        generalize dgt r2[k] = d at *
                        generalize r2[k] = x at *
                        have hbad : ¬ 10 ≤ d := by omega
                        go_wp2_with fail
                        refine (HD.out _).mono ?_
                        rintro e v1 ⟨rfl, rfl⟩
                        go_wp2_with fail
                        refine (HD.out _).mono ?_
                        rintro e v2 ⟨rfl, rfl⟩
                        go_wp2_with fail
                        go_roundw
                        case rel => exact ⟨10 * acc + d, k + 1, rfl, by omega, by omega, by omega, by go_num, HZ2, by first | rfl | trivial⟩
                        case measure => simp [intOf]; omega
                  · have hk3 : k = n := by omega
                    have HZ2 : Hid (num t = inr (acc)) := Lib.hid (by
                      rw [hp.out, List.drop_eq_nil_of_le (by rw [← hN2.out]; omega)]
                      exact congrArg inr (by omega : 1 * acc = acc))
                    have e1 : IntKind.i64.wrap (1 * acc) = 1 * acc := IntWalk.i64_in _ (by omega)
                    have e2 : IntKind.i64.wrap acc = acc := IntWalk.i64_in _ (by omega)
                    have e3 : IntKind.i64.wrap (-acc) = -acc := IntWalk.i64_in _ (by omega)
                    have HT := Lib.hid fun w => told_any (acc) w
                    clear hp
                    go_wp2_with fail
                    refine (HT.out _).mono ?_
                    rintro e v1 ⟨rfl, hb9⟩
                    have HB9 := Lib.hid (HB.out.trans (hb9.mono HB.out.size))
                    go_wp2_with fail
                    go_ret2
                    exact ⟨by rw [HZ2.out]; rfl, HB9.out⟩
            · skip
              by_cases h0 : r2 = []
              · exact absurd (by rw [hN2.out, h0]; rfl : n = 0) hn0
              · have hN0 : 0 < n := by
                  have := hN2.out
                  cases r2 with
                  | nil => exact absurd rfl h0
                  | cons => rw [this]; simp
                have hN1 : ¬ n = 0 := by omega
                have hN3 : ¬ (n : Int) = 0 := by omega
                have hN4 : ((n : Int) == 0) = false := by rw [beq_eq_false_iff_ne]; exact hN3
                have HZ : Hid (num t = fin (1) (rgs 10 0 (r2.drop 0))) := Lib.hid (by rw [HR.out, if_neg h0]; rfl)
                obtain ⟨g2, o2, hgo, hcs⟩ := hR2.out.at (by rw [← hN2.out]; exact hN0)
                injection hgo with hgo
                injection hgo with hg1 ho1
                subst hg1 ho1
                clear h0 HR hR2
                go_wp2_with fail
                clear hp hp2 hn0 hn00 hN0 hN1 hN3 hn6
                go_loopw [7, 92] (fun v i wr => ∃ (acc : Int) (k : Nat), v = .int .i64 acc ∧ 0 ≤ acc ∧ acc ≤ 144115188075855888 ∧ k ≤ n ∧ i = .int .i64 k ∧ Hid (num t = fin (1) (rgs 10 acc (r2.drop k))) ∧ wr = wT)
                  (fun _ i _ => n - (intOf i).toNat)
                case atStart => exact ⟨0, 0, rfl, by omega, by omega, by omega, rfl, HZ, rfl⟩
                case round =>
                  obtain ⟨acc, k, rfl, ha0, ha1, hk, rfl, hp, rfl⟩ := hrel
                  by_cases hlt : k < n
                  · have hk2 : k < r2.length := by rw [← hN2.out]; exact hlt
                    have hcell := hcs.out k hk2
                    have hs := Lib.hid (congrArg (fin (1)) (rgs_step (b := 10) (acc := acc) hk2))
                    have hd := dgt_ge r2[k]
                    have hu := hU2.out r2[k] (List.getElem_mem hk2)
                    by_cases hbad : 10 ≤ dgt r2[k]
                    · have HD := Lib.hid fun w => value_w r2[k] rfl w
                      have hv := vl_ge (b := 10) (by omega) hbad
                      have HZ2 : Hid (num t = none) := Lib.hid (by rw [hp.out, hs.out, if_pos (.inl hbad)]; rfl)
                      clear hp hs hbad hd
                      generalize vl r2[k] = d at *
                      generalize r2[k] = x at *
                      go_wp2_with fail
                      refine (HD.out _).mono ?_
                      rintro e v1 ⟨rfl, rfl⟩
                      go_wp2_with fail
                      go_ret2
                      exact ⟨by rw [HZ2.out]; rfl, HB.out⟩
                    · have hv := vl_lt (b := 10) (by omega) hbad
                      have HD := Lib.hid fun w => value_w r2[k] hv w
                      have hbad2 : dgt r2[k] < 10 := by omega
                      by_cases hbig : 9007199254740991 < acc
                      · have HZ2 : Hid (num t = none) := Lib.hid (by rw [hp.out, hs.out, if_pos (.inr hbig)]; rfl)
                        clear hp hs hbad hd hv
                        generalize dgt r2[k] = d at *
                        generalize r2[k] = x at *
                        have hbad : ¬ 10 ≤ d := by omega
                        go_wp2_with fail
                        refine (HD.out _).mono ?_
                        rintro e v1 ⟨rfl, rfl⟩
                        go_wp2_with fail
                        go_ret2
                        exact ⟨by rw [HZ2.out]; rfl, HB.out⟩
                      · have HZ2 : Hid (num t = fin (1) (rgs 10 (10 * acc + dgt r2[k]) (r2.drop (k + 1)))) := Lib.hid (by rw [hp.out, hs.out, if_neg (by omega)])
                        have e1 : IntKind.i64.wrap (10 * acc) = 10 * acc := IntWalk.i64_in _ (by omega)
                        have e2 : IntKind.i64.wrap (10 * acc + dgt r2[k]) = 10 * acc + dgt r2[k] := IntWalk.i64_in _ (by omega)
                        clear hp hs hbad hv
                        generalize dgt r2[k] = d at *
                        generalize r2[k] = x at *
                        have hbad : ¬ 10 ≤ d := by omega
                        go_wp2_with fail
                        refine (HD.out _).mono ?_
                        rintro e v1 ⟨rfl, rfl⟩
                        go_wp2_with fail
                        refine (HD.out _).mono ?_
                        rintro e v2 ⟨rfl, rfl⟩
                        go_wp2_with fail
                        go_roundw
                        case rel => exact ⟨10 * acc + d, k + 1, rfl, by omega, by omega, by omega, by go_num, HZ2, by first | rfl | trivial⟩
                        case measure => simp [intOf]; omega
                  · have hk3 : k = n := by omega
                    have HZ2 : Hid (num t = inr (acc)) := Lib.hid (by
                      rw [hp.out, List.drop_eq_nil_of_le (by rw [← hN2.out]; omega)]
                      exact congrArg inr (by omega : 1 * acc = acc))
                    have e1 : IntKind.i64.wrap (1 * acc) = 1 * acc := IntWalk.i64_in _ (by omega)
                    have e2 : IntKind.i64.wrap acc = acc := IntWalk.i64_in _ (by omega)
                    have e3 : IntKind.i64.wrap (-acc) = -acc := IntWalk.i64_in _ (by omega)
                    have HT := Lib.hid fun w => told_any (acc) w
                    clear hp
                    go_wp2_with fail
                    refine (HT.out _).mono ?_
                    rintro e v1 ⟨rfl, hb9⟩
                    have HB9 := Lib.hid (HB.out.trans (hb9.mono HB.out.size))
                    go_wp2_with fail
                    go_ret2
                    exact ⟨by rw [HZ2.out]; rfl, HB9.out⟩
end Go.Proofs.YtjgafhodogbemaaDoor.N
