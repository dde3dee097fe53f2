/-
  Find, Index: the package's; Index: the reference's, by contract.
-/
import Derived.Test.YtjbcihjeohpgmaaDoorD
namespace Go.Proofs.YtjbcihjeohpgmaaDoor
open Go.RowKit

/-- what Index answers -/
def idxRes (o : Option Nat) : Value := match o with
  | some n => .tuple #[.int .i64 n, .bool true]
  | none => .tuple #[.int .i64 0, .bool false]
theorem idx_no {u : List Nat} (h : u.length = 0 ∨ 9 < u.length ∨ (1 < u.length ∧ u.getD 0 0 = 48)) : idx u = none := by
  unfold idx
  rw [if_pos h]
theorem idx_go {u : List Nat} (h : ¬ (u.length = 0 ∨ 9 < u.length ∨ (1 < u.length ∧ u.getD 0 0 = 48))) : idx u = idxGo 0 u := by
  unfold idx
  rw [if_neg h]
theorem idxGo_step {u : List Nat} {k acc : Nat} (hk : k < u.length) : idxGo acc (u.drop k) = if 48 ≤ u[k] ∧ u[k] ≤ 57 then idxGo (10 * acc + (u[k] - 48)) (u.drop (k + 1)) else none := by
  rw [List.drop_eq_getElem_cons hk]
  rfl
theorem pow_small (k : Nat) (h : k < 9) : 10 ^ k ≤ 100000000 ∧ 10 ^ (k + 1) = 10 * 10 ^ k := by
  refine ⟨Nat.le_trans (Nat.pow_le_pow_right (by decide) (show k ≤ 8 by omega)) (by decide), ?_⟩
  rw [Nat.pow_succ]
  omega

set_option maxHeartbeats 1000000 in
theorem index_any (s : ByteArray) (w : World) (hs : s.size ≤ maxLen) :
    Calls Tryd.prog 23 #[.string s] w fun e w' => e = .returned (idxRes (idx (us s.data.toList))) ∧ Below w.heap.size w w' := by
  have hul : (us s.data.toList).length = s.size / 2 := by rw [us_length, size_list]
  have HLen := Lib.hid fun w => len_any s w hs
  have HAt := Lib.hid fun i w => at_any s i w hs
  obtain ⟨u, hu⟩ : ∃ u, u = us s.data.toList := ⟨_, rfl⟩
  have hat : ∀ k (h : k < u.length), atOf s k = (u[k] : Nat) := fun k h => by
    unfold atOf
    rw [← hu]
    exact atI_in h
  rw [← hu] at hul ⊢
  have h16 : ∀ k (h : k < u.length), u[k] < 65536 := fun k h => us_lt s.data.toList _ (by rw [← hu]; exact List.getElem_mem h)
  clear hu
  obtain ⟨n, hn⟩ : ∃ n, n = s.size / 2 := ⟨_, rfl⟩
  rw [← hn] at hul HLen
  clear hn hs
  have H16 := Lib.hid h16
  have HA := Lib.hid hat
  clear h16 hat
  by_cases hbad : n = 0 ∨ 9 < n
  · have HI := Lib.hid (idx_no (u := u) (by omega))
    rcases hbad with rfl | hbad
    · go_enter Tryd.func23, Tryd.ntmps23
      go_wp2_with (go_at_call 15; refine (HLen.out _).mono ?_; rintro e w' ⟨rfl, rfl⟩)
      go_ret2
      exact ⟨by rw [HI.out]; rfl, Below.refl _ _⟩
    · have b0 : ((n : Int) == 0) = false := by rw [beq_eq_false_iff_ne]; omega
      go_enter Tryd.func23, Tryd.ntmps23
      go_wp2_with (go_at_call 15; refine (HLen.out _).mono ?_; rintro e w' ⟨rfl, rfl⟩)
      go_ret2
      exact ⟨by rw [HI.out]; rfl, Below.refl _ _⟩
  · have b0 : ((n : Int) == 0) = false := by rw [beq_eq_false_iff_ne]; omega
    have hn0 : 0 < n := by omega
    have hn9 : n ≤ 9 := by omega
    have ha0 := HA.out 0 (by omega)
    have e0 : u.getD 0 0 = u[0]'(by omega) := by rw [List.getD_eq_getElem?_getD, List.getElem?_eq_getElem (by omega)]; rfl
    by_cases hz : 1 < n ∧ u[0]'(by omega) = 48
    · have HI := Lib.hid (idx_no (u := u) (by omega))
      obtain ⟨h1n, h48⟩ := hz
      have b1 : (atOf s 0 == 48) = true := by rw [beq_iff_eq]; exact ha0.trans (by rw [h48]; rfl)
      clear ha0 e0 h48
      go_enter Tryd.func23, Tryd.ntmps23
      go_wp2_with (first
        | (go_at_call 15; refine (HLen.out _).mono ?_; rintro e w' ⟨rfl, rfl⟩)
        | (go_at_call 17; refine (HAt.out _ _).mono ?_; rintro e w1 ⟨rfl, hb1⟩))
      go_ret2
      exact ⟨by rw [HI.out]; rfl, hb1⟩
    · have HI := Lib.hid (idx_go (u := u) (by omega))
      have hw : n ≤ 1 ∨ (1 < n ∧ (atOf s 0 == 48) = false) := by
        rcases (show n ≤ 1 ∨ 1 < n by omega) with h | h
        · exact .inl h
        · refine .inr ⟨h, ?_⟩
          rw [beq_eq_false_iff_ne]
          intro h'
          have h2 : ((u[0]'(by omega) : Nat) : Int) = 48 := ha0.symm.trans h'
          omega
      have HW := Lib.hid hw
      clear ha0 e0 hw hz hbad
      rcases HW.out with h1 | ⟨h1, b1⟩
      all_goals
        clear HW
        go_enter Tryd.func23, Tryd.ntmps23
        go_wp2_with (first
          | (go_at_call 15; refine (HLen.out _).mono ?_; rintro e w' ⟨rfl, rfl⟩)
          | (go_at_call 17; refine (HAt.out _ _).mono ?_; rintro e w1 ⟨rfl, hb1⟩))
        go_loopw [5, 26] (fun v x wr => ∃ (k acc : Nat), k ≤ n ∧ x = .int .i64 k ∧ v = .int .i64 acc ∧ acc < 10 ^ k ∧ Hid (idx u = idxGo acc (u.drop k)) ∧ Below w.heap.size w wr)
          (fun _ x _ => n - (intOf x).toNat)
        case atStart => first | exact ⟨0, 0, by omega, rfl, rfl, by decide, HI, hb1⟩ | exact ⟨0, 0, by omega, rfl, rfl, by decide, HI, Below.refl _ _⟩
        case round =>
          obtain ⟨k, acc, hk, rfl, rfl, hacc, hI, hb⟩ := hrel
          by_cases hlt : k < n
          · have hp := pow_small k (by omega)
            have hak := HA.out k (by omega)
            have h16 := H16.out k (by omega)
            have hstep := idxGo_step (u := u) (k := k) (acc := acc) (by omega)
            by_cases hd : 48 ≤ u[k]'(by omega) ∧ u[k]'(by omega) ≤ 57
            · rw [if_pos hd] at hstep
              obtain ⟨d, hdd, hd9⟩ : ∃ d : Nat, u[k]'(by omega) = 48 + d ∧ d ≤ 9 := ⟨u[k]'(by omega) - 48, by omega, by omega⟩
              rw [hdd] at hak hstep
              have HN : Hid (atOf s k = 48 + (d : Int) ∧ idx u = idxGo (10 * acc + d) (u.drop (k + 1)) ∧ 10 * acc + d < 10 ^ (k + 1)) := by
                refine ⟨hak.trans (by omega), hI.out.trans (hstep.trans (by rw [show 48 + d - 48 = d by omega])), by omega⟩
              have ha1 : acc < 100000000 := by omega
              clear hp hak h16 hstep hd hdd hI hacc
              go_wp2_with (go_at_call 17; refine (HAt.out _ _).mono ?_; rintro e w2 ⟨rfl, hb2⟩; rw [HN.out.1])
              have hb3 := hb.trans (hb2.mono hb.size)
              go_roundw
              case rel => exact ⟨k + 1, 10 * acc + d, by omega, by go_num, by go_num, HN.out.2.2, HN.out.2.1, hb3⟩
              case measure => simp [intOf]; omega
            · rw [if_neg hd] at hstep
              have HN : Hid (idx u = none) := hI.out.trans hstep
              obtain ⟨a, ha, h1a, h2a⟩ : ∃ a : Int, atOf s k = a ∧ 0 ≤ a ∧ a < 65536 ∧ (a < 48 ∨ 57 < a) := ⟨_, hak, by omega, by omega, by omega⟩
              have HH := Lib.hid ha
              obtain ⟨h2a, h3a⟩ := h2a
              clear hp hak h16 hstep hd hI hacc ha
              rcases h3a with h3a | h3a
              all_goals
                go_wp2_with (go_at_call 17; refine (HAt.out _ _).mono ?_; rintro e w2 ⟨rfl, hb2⟩; rw [HH.out])
                go_ret2
                exact ⟨by rw [HN.out]; rfl, hb.trans (hb2.mono hb.size)⟩
          · obtain rfl : k = n := by omega
            have HN : Hid (idx u = some acc) := hI.out.trans (by rw [List.drop_eq_nil_of_le (by omega)]; rfl)
            clear hI hacc
            go_wp2
            go_ret2
            exact ⟨by rw [HN.out]; rfl, hb⟩

set_option maxHeartbeats 1000000 in
theorem refIndex_any (s : ByteArray) (w : World) (hs : s.size ≤ 16777216) :
    Calls Tryd.prog 24 #[.string s] w fun e w' => e = .returned (idxRes (idx (us s.data.toList))) ∧ Below w.heap.size w w' := by
  have hul : (us s.data.toList).length ≤ 16777216 := by rw [us_length, size_list]; omega
  have h16 : ∀ k (h : k < (us s.data.toList).length), (us s.data.toList)[k] < 65536 := fun k h => us_lt s.data.toList _ (List.getElem_mem h)
  have HL := Lib.hid (list_any s)
  generalize us s.data.toList = u at *
  have H16 := Lib.hid h16
  clear h16
  by_cases hbad : u.length = 0 ∨ 9 < u.length
  · have HI := Lib.hid (idx_no (u := u) (by omega))
    rcases hbad with hbad | hbad
    all_goals
      go_enter Tryd.func24, Tryd.ntmps24
      go_wp2_with fail
      refine (HL.out _ hs).mono ?_
      rintro e w1 ⟨A, c, rfl, hr, hb1⟩
      clear hr
      go_wp2
      go_ret2
      exact ⟨by rw [HI.out]; rfl, hb1⟩
  · have hn0 : 0 < u.length := by omega
    have hn9 : u.length ≤ 9 := by omega
    have e0 : u.getD 0 0 = u[0] := by rw [List.getD_eq_getElem?_getD, List.getElem?_eq_getElem (by omega)]; rfl
    have hcase : (1 < u.length ∧ (((u[0] : Nat) : Int) == 48) = true ∧ Hid (idx u = none)) ∨ ((u.length ≤ 1 ∨ (((u[0] : Nat) : Int) == 48) = false) ∧ Hid (idx u = idxGo 0 u)) := by
      by_cases hz : 1 < u.length ∧ u[0] = 48
      · exact .inl ⟨hz.1, by rw [beq_iff_eq, hz.2]; rfl, idx_no (by omega)⟩
      · refine .inr ⟨?_, idx_go (by omega)⟩
        rcases (show u.length ≤ 1 ∨ 1 < u.length by omega) with h | h
        · exact .inl h
        · refine .inr ?_
          rw [beq_eq_false_iff_ne]
          omega
    clear e0 hbad
    rcases hcase with ⟨h1, b1, HI⟩ | ⟨hw, HI⟩
    · go_enter Tryd.func24, Tryd.ntmps24
      go_wp2_with fail
      refine (HL.out _ hs).mono ?_
      rintro e w1 ⟨A, c, rfl, hr, hb1⟩
      rcases hr with hr | ⟨g, rfl, hg1, hg2, hg3⟩
      · rw [hr] at hn0; simp at hn0
      have hc0 := hg3 0 hn0
      unfold nv at hc0
      clear hg3
      go_wp2
      go_ret2
      exact ⟨by rw [HI.out]; rfl, hb1⟩
    · have hw2 : (u.length ≤ 1 ∧ (((u[0] : Nat) : Int) == 48) = true) ∨ (((u[0] : Nat) : Int) == 48) = false := by
        cases hb : (((u[0] : Nat) : Int) == 48)
        · exact .inr rfl
        · rcases hw with h | h
          · exact .inl ⟨h, rfl⟩
          · rw [hb] at h; cases h
      have HW := Lib.hid hw2
      clear hw hw2
      rcases HW.out with ⟨h1, b48⟩ | b48
      all_goals
        clear HW
        go_enter Tryd.func24, Tryd.ntmps24
        go_wp2_with fail
        refine (HL.out _ hs).mono ?_
        rintro e w1 ⟨A, c, rfl, hr, hb1⟩
        rcases hr with hr | ⟨g, rfl, hg1, hg2, hg3⟩
        · rw [hr] at hn0; simp at hn0
        have hc0 := hg3 0 hn0
        have HC := Lib.hid hg3
        unfold nv at hc0
        clear hg3
        go_wp2
        go_loopw [5, 31] (fun v x wr => ∃ (k acc : Nat), k ≤ u.length ∧ x = .int .i64 k ∧ v = .int .i64 acc ∧ acc < 10 ^ k ∧ Hid (idx u = idxGo acc (u.drop k)) ∧ wr = w1)
          (fun _ x _ => u.length - (intOf x).toNat)
        case atStart => exact ⟨0, 0, by omega, rfl, rfl, by decide, HI, rfl⟩
        case round =>
          obtain ⟨k, acc, hk, rfl, rfl, hacc, hI, rfl⟩ := hrel
          by_cases hlt : k < u.length
          · have hp := pow_small k (by omega)
            have h16 := H16.out k hlt
            have hc := HC.out k hlt
            unfold nv at hc
            have hstep := idxGo_step (u := u) (k := k) (acc := acc) hlt
            clear hc0 b48
            by_cases hd : 48 ≤ u[k] ∧ u[k] ≤ 57
            · rw [if_pos hd] at hstep
              have HN : Hid (idx u = idxGo (10 * acc + (u[k] - 48)) (u.drop (k + 1)) ∧ 10 * acc + (u[k] - 48) < 10 ^ (k + 1)) := ⟨hI.out.trans hstep, by omega⟩
              have HV : Hid (10 * (acc : Int) + ((u[k] : Nat) - 48 : Int) = ((10 * acc + (u[k] - 48) : Nat) : Int)) := by
                show 10 * (acc : Int) + ((u[k] : Nat) - 48 : Int) = ((10 * acc + (u[k] - 48) : Nat) : Int)
                omega
              have ha1 : acc < 100000000 := by omega
              obtain ⟨hd1, hd2⟩ := hd
              clear hp h16 hstep hI hacc
              go_wp2
              go_roundw
              case rel => exact ⟨k + 1, 10 * acc + (u[k] - 48), by omega, by go_num, by rw [HV.out], HN.out.2, HN.out.1, by first | exact rfl | trivial⟩
              case measure => simp [intOf]; omega
            · rw [if_neg hd] at hstep
              have HN : Hid (idx u = none) := hI.out.trans hstep
              clear hp h16 hstep hI hacc
              rcases (show u[k] < 48 ∨ 57 < u[k] by omega) with hd1 | hd1
              all_goals
                go_wp2
                go_ret2
                exact ⟨by rw [HN.out]; rfl, hb1⟩
          · have HN : Hid (idx u = some acc) := hI.out.trans (by rw [List.drop_eq_nil_of_le (by omega)]; rfl)
            clear hI hacc hc0
            go_wp2
            go_ret2
            exact ⟨by rw [HN.out]; rfl, hb1⟩
end Go.Proofs.YtjbcihjeohpgmaaDoor
