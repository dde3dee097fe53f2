/-
  Find, by contract; the walks of UnitsParts, UnitsJoin, UnitsFound.
-/
import Derived.Test.YtjbcihjeohpgmaaDoorN
namespace Go.Proofs.YtjbcihjeohpgmaaDoor
open Go.RowKit

theorem len_at (s : ByteArray) (n : Nat) (hn : s.size / 2 = n) (w : World) (hs : s.size ≤ maxLen) :
    Calls Tryd.prog 15 #[.string s] w fun e w' => e = .returned (.int .i64 (n : Int)) ∧ w = w' := by
  subst hn
  exact len_any s w hs
/-- what Find answers -/
def findOf (s p : ByteArray) (i : Int) : Int := fnd s.data.toList (p.data.toList.take (2 * (p.size / 2))) (max i 0).toNat (s.size / 2 + 1 - p.size / 2 - (max i 0).toNat)
theorem fnd_succ (u v : Bs) (i n : Nat) : fnd u v i (n + 1) = if v.isPrefixOf (u.drop (2 * i)) then (i : Int) else fnd u v (i + 1) n := rfl

set_option maxHeartbeats 1000000 in
theorem find_any (s p : ByteArray) (i : Int) (w : World) (hs : s.size ≤ 1125899906842624) (hp : p.size ≤ 1125899906842624) :
    Calls Tryd.prog 29 #[.string s, .string p, .int .i64 i] w fun e w' => e = .returned (.int .i64 (findOf s p i)) ∧ w = w' := by
  have hms : s.size ≤ maxLen := by unfold maxLen; omega
  have hmp : p.size ≤ maxLen := by unfold maxLen; omega
  obtain ⟨n, hn⟩ : ∃ n, s.size / 2 = n := ⟨_, rfl⟩
  obtain ⟨m, hm⟩ : ∃ m, p.size / 2 = m := ⟨_, rfl⟩
  obtain ⟨f, hf⟩ : ∃ f : Nat, max i 0 = (f : Int) := ⟨(max i 0).toNat, by omega⟩
  have hfo : findOf s p i = fnd s.data.toList (p.data.toList.take (2 * m)) f (n + 1 - m - f) := by
    unfold findOf
    rw [hf, hm, hn]
    rfl
  have hext : (p.extract 0 (2 * m)).data.toList = p.data.toList.take (2 * m) := by simp
  have hesz : (p.extract 0 (2 * m)).size = 2 * m := by rw [ByteArray.size_extract]; omega
  have hsl := run_slice_string_h (P := Tryd.prog) w 9 p Tryd.underlying9 .i64 (2 * (m : Int)) (by omega) (by omega)
  rw [show (2 * (m : Int)).toNat = 2 * m by omega] at hsl
  rw [← hext] at hfo
  generalize p.extract 0 (2 * m) = p' at *
  have HN := Lib.hid hn
  have h1 := Lib.hid fun w => len_at p m hm w hmp
  have h2 := Lib.hid fun w => len_at p' m (by omega) w (by unfold maxLen; omega)
  have h3 := Lib.hid fun w => len_at s n hn w hms
  have hn2 : n ≤ 562949953421312 := by omega
  have hm2 : m ≤ 562949953421312 := by omega
  have hns : 2 * n ≤ s.size := by omega
  have HF := Lib.hid hfo
  have HPre : Hid (∀ x w, Calls Tryd.prog 38 #[.string x, .string p'] w fun e w' => e = .returned (.bool (Lib.hasPrefix x.data.toList p'.data.toList)) ∧ w = w') := fun x w => (Tryd.strings_HasPrefix x p' w).mono fun _ _ ⟨h1, h2⟩ => ⟨h1, h2.symm⟩
  have e1 : IntKind.i64.wrap (2 * (m : Int)) = 2 * (m : Int) := IntWalk.i64_in _ (by omega)
  have e2 : IntKind.i64.wrap ((n : Int) - (m : Int)) = (n : Int) - (m : Int) := IntWalk.i64_in _ (by omega)
  clear hn hm hfo hext hesz hp hms hmp
  go_enter Tryd.func29, Tryd.ntmps29
  go_wp2_with fail
  refine (h1.out _).mono ?_
  rintro e w' ⟨rfl, rfl⟩
  go_wp2_with fail
  refine (h3.out _).mono ?_
  rintro e w' ⟨rfl, rfl⟩
  go_wp2_with fail
  refine (h2.out _).mono ?_
  rintro e w' ⟨rfl, rfl⟩
  go_wp2
  go_loop [8] (fun x => ∃ k : Nat, f ≤ k ∧ x = .int .i64 k ∧ Hid (findOf s p i = fnd s.data.toList p'.data.toList k (n + 1 - m - k)))
    (fun x => n + 1 - (intOf x).toNat)
  case atStart => exact ⟨f, Nat.le_refl _, rfl, HF.out⟩
  case round =>
    obtain ⟨k, hk, rfl, hh⟩ := hrel
    clear hsl e1 e2 hf
    by_cases hlt : k + m ≤ n
    · have hle : (k : Int) ≤ (n : Int) - (m : Int) := by omega
      obtain ⟨j, hj⟩ : ∃ j, n + 1 - m - k = j + 1 := ⟨n - m - k, by omega⟩
      have hst := hh.out
      rw [hj, fnd_succ] at hst
      have e1 : IntKind.i64.wrap (2 * (k : Int)) = 2 * (k : Int) := IntWalk.i64_in _ (by omega)
      have hsl2 := run_slice_string_l (P := Tryd.prog) w 9 s Tryd.underlying9 .i64 (2 * (k : Int)) (by omega) (by omega)
      rw [show (2 * (k : Int)).toNat = 2 * k by omega] at hsl2
      have hx : (s.extract (2 * k) s.size).data.toList = s.data.toList.drop (2 * k) := by
        simp
        exact List.take_of_length_le (by rw [List.length_drop, size_list]; exact Nat.le_refl _)
      have hpre := Lib.hid fun w => HPre.out (s.extract (2 * k) s.size) w
      rw [hx] at hpre
      unfold Lib.hasPrefix at hpre
      by_cases hb : p'.data.toList.isPrefixOf (s.data.toList.drop (2 * k)) = true
      · rw [if_pos hb] at hst
        rw [hb] at hpre
        have HV := Lib.hid hst
        clear hst hh hb hx hj
        go_wp2_with fail
        refine (hpre.out _).mono ?_
        rintro e w' ⟨rfl, rfl⟩
        go_wp2
        go_ret
        exact ⟨by rw [HV.out]; rfl, rfl⟩
      · rw [if_neg hb, show j = n + 1 - m - (k + 1) by omega] at hst
        rw [Bool.not_eq_true] at hb
        rw [hb] at hpre
        have HV := Lib.hid hst
        clear hst hh hb hx hj
        go_wp2_with (go_at_call 38; refine (hpre.out _).mono ?_; rintro e w' ⟨rfl, rfl⟩)
        go_round
        case rel => exact ⟨k + 1, by omega, by go_num, HV.out⟩
        case measure => simp [intOf]; omega
    · have hle : (n : Int) - (m : Int) < (k : Int) := by omega
      have hst := hh.out
      rw [show n + 1 - m - k = 0 by omega] at hst
      have HV : Hid (findOf s p i = -1) := hst
      clear hst hh
      go_wp2
      go_ret
      exact ⟨by rw [HV.out]; rfl, rfl⟩

theorem cutOf_list (s : ByteArray) (i j : Int) (he : s.size % 2 = 0) : (cutOf s i j).data.toList = (s.data.toList.take (2 * j.toNat)).drop (2 * i.toNat) := by
  unfold cutOf
  show bs (cutU (us s.data.toList) i j) = _
  rw [cut_bytes, List.take_of_length_le (i := 2 * (s.data.toList.length / 2)) (by rw [size_list]; omega)]
theorem bytes_ext {a b : ByteArray} (h : a.data.toList = b.data.toList) : a = b := by
  apply ByteArray.ext
  apply Array.toList_inj.1
  exact h
theorem app_list (a b : ByteArray) : (a ++ b).data.toList = a.data.toList ++ b.data.toList := by simp
theorem cut_three (s : ByteArray) (a t n : Nat) (he : s.size % 2 = 0) (hn : s.size / 2 = n) (h1 : a ≤ t) (_h2 : t ≤ n) :
    cutOf s 0 a ++ cutOf s a t ++ cutOf s t n = s := by
  have hl := size_list s
  apply bytes_ext
  rw [app_list, app_list, cutOf_list s _ _ he, cutOf_list s _ _ he, cutOf_list s _ _ he]
  simp only [Int.toNat_natCast, Int.toNat_zero, Nat.mul_zero, List.drop_zero]
  have e1 : s.data.toList.take (2 * n) = s.data.toList := List.take_of_length_le (by omega)
  have e2 : s.data.toList.take (2 * a) = (s.data.toList.take (2 * t)).take (2 * a) := by rw [List.take_take, Nat.min_eq_left (by omega)]
  rw [e1, e2, List.take_append_drop, List.take_append_drop]
theorem cut_size (s : ByteArray) (i j : Int) (he : s.size % 2 = 0) : (cutOf s i j).size ≤ s.size := by
  rw [← size_list, cutOf_list s i j he, List.length_drop, List.length_take, size_list]
  omega
theorem find_cut (s : ByteArray) (a t n : Nat) (he : s.size % 2 = 0) (hn : s.size / 2 = n) (h1 : a ≤ t) (h2 : t ≤ n) : findOf s (cutOf s a t) a = a := by
  have hl := size_list s
  have hc := cutOf_list s a t he
  simp only [Int.toNat_natCast] at hc
  have hcs : (cutOf s a t).size = 2 * t - 2 * a := by
    rw [← size_list, hc, List.length_drop, List.length_take, hl]
    omega
  unfold findOf
  have e0 : (max (a : Int) 0).toNat = a := by omega
  rw [e0, hcs, hn, List.take_of_length_le (by rw [hc, List.length_drop, List.length_take]; omega), hc]
  obtain ⟨j, hj⟩ : ∃ j, n + 1 - (2 * t - 2 * a) / 2 - a = j + 1 := ⟨n - t, by omega⟩
  rw [hj, fnd_succ, if_pos]
  rw [List.isPrefixOf_iff_prefix]
  rw [List.drop_take]
  exact List.take_prefix _ _

set_option maxHeartbeats 1000000 in
theorem lawParts (s : ByteArray) (x y : Int) (w : World) (hs : s.size ≤ 140737488351232) (hE : ErrAt w) :
    Calls Tryd.prog 9 #[.string s, .int .i64 x, .int .i64 y] w fun e w' => e = .returned (.bool true) ∧ Below w.heap.size w w' := by
  have HE := Lib.hid hE
  have hm : s.size ≤ maxLen := by unfold maxLen; omega
  by_cases he : s.size % 2 = 0
  · obtain ⟨n, hn⟩ : ∃ n, s.size / 2 = n := ⟨_, rfl⟩
    obtain ⟨a, ha⟩ : ∃ a : Nat, min (max x 0) (n : Int) = (a : Int) := ⟨(min (max x 0) (n : Int)).toNat, by omega⟩
    obtain ⟨t, ht⟩ : ∃ t : Nat, min (max y (a : Int)) (n : Int) = (t : Int) := ⟨(min (max y (a : Int)) (n : Int)).toNat, by omega⟩
    have h1 : a ≤ t := by omega
    have h2 : t ≤ n := by omega
    have hc : Hid (∀ w, Calls Tryd.prog 13 #[.string s] w fun e w' => e = .returned (.bool true) ∧ w = w') := fun w => (check_any s w hm).mono fun e w' ⟨h1, h2⟩ => ⟨by rw [h1, decide_eq_true he], h2⟩
    have hl := Lib.hid fun w => len_at s n hn w hm
    have c1 := Lib.hid fun w => cut_any s 0 a w (by omega)
    have c2 := Lib.hid fun w => cut_any s a t w (by omega)
    have c3 := Lib.hid fun w => cut_any s t n w (by omega)
    have s1 := cut_size s 0 a he
    have s2 := cut_size s a t he
    have s3 := cut_size s t n he
    have habc := cut_three s a t n he hn h1 h2
    have hf := Lib.hid fun w => find_any s (cutOf s a t) a w (by omega) (by omega)
    rw [find_cut s a t n he hn h1 h2] at hf
    generalize cutOf s 0 a = A at *
    generalize cutOf s a t = B at *
    generalize cutOf s t n = C at *
    have HABC := Lib.hid habc
    clear hE he hn hm h1 h2 habc
    go_enter Tryd.func9, Tryd.ntmps9
    go_wp2_with fail
    refine (live_any _ HE.out).mono ?_
    rintro e w1 ⟨rfl, hb1⟩
    go_wp2_with fail
    refine (hc.out _).mono ?_
    rintro e w' ⟨rfl, rfl⟩
    go_wp2_with fail
    refine (hl.out _).mono ?_
    rintro e w' ⟨rfl, rfl⟩
    go_wp2_with fail
    refine (c1.out _).mono ?_
    rintro e w2 ⟨rfl, hb2⟩
    have hb2' := hb1.trans (hb2.mono hb1.size)
    clear hb1 hb2
    go_wp2_with fail
    refine (c2.out _).mono ?_
    rintro e w3 ⟨rfl, hb3⟩
    have hb3' := hb2'.trans (hb3.mono hb2'.size)
    clear hb2' hb3
    go_wp2_with fail
    refine (c3.out _).mono ?_
    rintro e w4 ⟨rfl, hb4⟩
    have hb4' := hb3'.trans (hb4.mono hb3'.size)
    clear hb3' hb4
    go_wp2_with fail
    refine (hf.out _).mono ?_
    rintro e w' ⟨rfl, rfl⟩
    have habc := HABC.out
    go_wp2
    go_ret
    exact ⟨rfl, hb4'⟩
  · have hc : Hid (∀ w, Calls Tryd.prog 13 #[.string s] w fun e w' => e = .returned (.bool false) ∧ w = w') := fun w => (check_any s w hm).mono fun e w' ⟨h1, h2⟩ => ⟨by rw [h1, decide_eq_false he], h2⟩
    clear hE he hm
    go_enter Tryd.func9, Tryd.ntmps9
    go_wp2_with fail
    refine (live_any _ HE.out).mono ?_
    rintro e w1 ⟨rfl, hb1⟩
    go_wp2_with fail
    refine (hc.out _).mono ?_
    rintro e w' ⟨rfl, rfl⟩
    go_wp2
    go_ret
    exact ⟨rfl, hb1⟩

theorem check_yes (s : ByteArray) (hm : s.size ≤ maxLen) (he : s.size % 2 = 0) (w : World) : Calls Tryd.prog 13 #[.string s] w fun e w' => e = .returned (.bool true) ∧ w = w' :=
  (check_any s w hm).mono fun e w' ⟨h1, h2⟩ => ⟨by rw [h1, decide_eq_true he], h2⟩
theorem check_no (s : ByteArray) (hm : s.size ≤ maxLen) (he : ¬ s.size % 2 = 0) (w : World) : Calls Tryd.prog 13 #[.string s] w fun e w' => e = .returned (.bool false) ∧ w = w' :=
  (check_any s w hm).mono fun e w' ⟨h1, h2⟩ => ⟨by rw [h1, decide_eq_false he], h2⟩
theorem app_size (a b : ByteArray) : (a ++ b).size = a.size + b.size := by
  rw [← size_list, app_list, List.length_append, size_list, size_list]
theorem at_left (s t : ByteArray) (i : Int) (n : Nat) (he : s.size % 2 = 0) (hn : s.size / 2 = n) (h0 : 0 ≤ i) (h1 : i < n) : atOf (s ++ t) i = atOf s i := by
  obtain ⟨k, rfl⟩ := Int.eq_ofNat_of_zero_le h0
  have hl := size_list s
  have hk : k < (us s.data.toList).length := by rw [us_length, hl]; omega
  unfold atOf
  rw [app_list, us_append _ _ (by rw [hl]; exact he), atI_in hk, atI_in (by rw [List.length_append]; omega), List.getElem_append_left hk]
theorem at_right (s t : ByteArray) (i : Int) (n : Nat) (he : s.size % 2 = 0) (hn : s.size / 2 = n) (h1 : n ≤ i) : atOf (s ++ t) i = atOf t (i - n) := by
  have hl := size_list s
  obtain ⟨k, hk⟩ : ∃ k : Nat, i = (n : Int) + (k : Int) := ⟨(i - n).toNat, by omega⟩
  subst hk
  have hul : (us s.data.toList).length = n := by rw [us_length, hl]; exact hn
  unfold atOf
  rw [app_list, us_append _ _ (by rw [hl]; exact he)]
  have e1 : (n : Int) + (k : Int) - (n : Int) = (k : Int) := by omega
  have e2 : (n : Int) + (k : Int) = ((n + k : Nat) : Int) := by omega
  rw [e1, e2]
  by_cases hk2 : k < (us t.data.toList).length
  · rw [atI_in hk2, atI_in (by rw [List.length_append]; omega), List.getElem_append_right (by omega)]
    congr 2
    omega
  · rw [atI_out (u := us s.data.toList ++ us t.data.toList) (.inr (by rw [List.length_append]; omega)), atI_out (u := us t.data.toList) (.inr (by omega))]

set_option maxHeartbeats 1000000 in
theorem lawJoin (s t : ByteArray) (i : Int) (w : World) (hs : s.size ≤ 140737488351232) (ht : t.size ≤ 140737488351232) (hi1 : -9223372036854775808 ≤ i) (hi2 : i ≤ 9223372036854775807) (hE : ErrAt w) :
    Calls Tryd.prog 10 #[.string s, .string t, .int .i64 i] w fun e w' => e = .returned (.bool true) ∧ Below w.heap.size w w' := by
  have HE := Lib.hid hE
  have hms : s.size ≤ maxLen := by unfold maxLen; omega
  have hmt : t.size ≤ maxLen := by unfold maxLen; omega
  by_cases he : s.size % 2 = 0
  · have hc := Lib.hid (check_yes s hms he)
    by_cases het : t.size % 2 = 0
    · have hct := Lib.hid (check_yes t hmt het)
      obtain ⟨n, hn⟩ : ∃ n, s.size / 2 = n := ⟨_, rfl⟩
      obtain ⟨m, hm⟩ : ∃ m, t.size / 2 = m := ⟨_, rfl⟩
      have hsz := app_size s t
      have hmu : (s ++ t).size ≤ maxLen := by unfold maxLen; omega
      have l1 := Lib.hid fun w => len_at s n hn w hms
      have l2 := Lib.hid fun w => len_at t m hm w hmt
      have l3 := Lib.hid fun w => len_at (s ++ t) (n + m) (by omega) w hmu
      have a1 := Lib.hid fun w => at_any (s ++ t) i w hmu
      have hn2 : n ≤ 140737488351232 := by omega
      have hm2 : m ≤ 140737488351232 := by omega
      have hcat : s.size + t.size ≤ 9223372036854775807 := by omega
      by_cases h0 : i < 0
      · have hin : ¬ 0 ≤ i := by omega
        clear hE he het hn hm hsz hmu hms hmt
        go_enter Tryd.func10, Tryd.ntmps10
        go_wp2_with fail
        refine (live_any _ HE.out).mono ?_
        rintro e w1 ⟨rfl, hb1⟩
        go_wp2_with fail
        refine (hc.out _).mono ?_
        rintro e w' ⟨rfl, rfl⟩
        go_wp2_with fail
        refine (hct.out _).mono ?_
        rintro e w' ⟨rfl, rfl⟩
        go_wp2_with fail
        refine (l1.out _).mono ?_
        rintro e w' ⟨rfl, rfl⟩
        go_wp2_with fail
        refine (l3.out _).mono ?_
        rintro e w' ⟨rfl, rfl⟩
        go_wp2_with fail
        refine (l2.out _).mono ?_
        rintro e w' ⟨rfl, rfl⟩
        go_wp2
        go_ret
        exact ⟨rfl, hb1⟩
      · by_cases h1 : i < n
        · have a2 := Lib.hid fun w => at_any s i w hms
          rw [at_left s t i n he hn (by omega) h1] at a1
          have hin : 0 ≤ i := by omega
          clear hE he het hn hm hsz hmu hms hmt
          generalize atOf s i = c at *
          go_enter Tryd.func10, Tryd.ntmps10
          go_wp2_with fail
          refine (live_any _ HE.out).mono ?_
          rintro e w1 ⟨rfl, hb1⟩
          go_wp2_with fail
          refine (hc.out _).mono ?_
          rintro e w' ⟨rfl, rfl⟩
          go_wp2_with fail
          refine (hct.out _).mono ?_
          rintro e w' ⟨rfl, rfl⟩
          go_wp2_with fail
          refine (l1.out _).mono ?_
          rintro e w' ⟨rfl, rfl⟩
          go_wp2_with fail
          refine (l3.out _).mono ?_
          rintro e w' ⟨rfl, rfl⟩
          go_wp2_with fail
          refine (l2.out _).mono ?_
          rintro e w' ⟨rfl, rfl⟩
          go_wp2_with fail
          refine (a1.out _).mono ?_
          rintro e w2 ⟨rfl, hb2⟩
          have hb2' := hb1.trans (hb2.mono hb1.size)
          clear hb1 hb2
          go_wp2_with fail
          refine (a2.out _).mono ?_
          rintro e w3 ⟨rfl, hb3⟩
          go_wp2
          go_ret
          exact ⟨rfl, hb2'.trans (hb3.mono hb2'.size)⟩
        · have a2 := Lib.hid fun w => at_any t (i - n) w hmt
          rw [at_right s t i n he hn (by omega)] at a1
          have hin : (n : Int) ≤ i := by omega
          have hi0 : 0 ≤ i := by omega
          clear hE he het hn hm hsz hmu hms hmt
          generalize atOf t (i - n) = c at *
          go_enter Tryd.func10, Tryd.ntmps10
          go_wp2_with fail
          refine (live_any _ HE.out).mono ?_
          rintro e w1 ⟨rfl, hb1⟩
          go_wp2_with fail
          refine (hc.out _).mono ?_
          rintro e w' ⟨rfl, rfl⟩
          go_wp2_with fail
          refine (hct.out _).mono ?_
          rintro e w' ⟨rfl, rfl⟩
          go_wp2_with fail
          refine (l1.out _).mono ?_
          rintro e w' ⟨rfl, rfl⟩
          go_wp2_with fail
          refine (l3.out _).mono ?_
          rintro e w' ⟨rfl, rfl⟩
          go_wp2_with fail
          refine (l2.out _).mono ?_
          rintro e w' ⟨rfl, rfl⟩
          go_wp2_with fail
          refine (a1.out _).mono ?_
          rintro e w2 ⟨rfl, hb2⟩
          have hb2' := hb1.trans (hb2.mono hb1.size)
          clear hb1 hb2
          go_wp2_with fail
          refine (a2.out _).mono ?_
          rintro e w3 ⟨rfl, hb3⟩
          go_wp2
          go_ret
          exact ⟨rfl, hb2'.trans (hb3.mono hb2'.size)⟩
    · have hct := Lib.hid (check_no t hmt het)
      clear hE he het hms hmt
      go_enter Tryd.func10, Tryd.ntmps10
      go_wp2_with fail
      refine (live_any _ HE.out).mono ?_
      rintro e w1 ⟨rfl, hb1⟩
      go_wp2_with fail
      refine (hc.out _).mono ?_
      rintro e w' ⟨rfl, rfl⟩
      go_wp2_with fail
      refine (hct.out _).mono ?_
      rintro e w' ⟨rfl, rfl⟩
      go_wp2
      go_ret
      exact ⟨rfl, hb1⟩
  · have hc := Lib.hid (check_no s hms he)
    clear hE he hms hmt
    go_enter Tryd.func10, Tryd.ntmps10
    go_wp2_with fail
    refine (live_any _ HE.out).mono ?_
    rintro e w1 ⟨rfl, hb1⟩
    go_wp2_with fail
    refine (hc.out _).mono ?_
    rintro e w' ⟨rfl, rfl⟩
    go_wp2
    go_ret
    exact ⟨rfl, hb1⟩

theorem found_place (u v x : ByteArray) (heu : u.size % 2 = 0) (hev : v.size % 2 = 0) :
    0 ≤ findOf (u ++ v ++ x) v 0 ∧ findOf (u ++ v ++ x) v 0 ≤ ((u.size / 2 : Nat) : Int) ∧ v.data.toList.isPrefixOf ((u ++ v ++ x).data.toList.drop (2 * (findOf (u ++ v ++ x) v 0).toNat)) = true := by
  have hz : (u ++ v ++ x).size = u.size + v.size + x.size := by rw [app_size, app_size]
  have hv : v.data.toList.take (2 * (v.size / 2)) = v.data.toList := List.take_of_length_le (by rw [size_list]; omega)
  have h := fnd_hit (u ++ v ++ x).data.toList v.data.toList ((u ++ v ++ x).size / 2 + 1 - v.size / 2 - 0) 0 (u.size / 2) (Nat.zero_le _) (by omega) (by
    rw [List.isPrefixOf_iff_prefix, app_list, app_list, List.append_assoc, List.drop_append_of_le_length (by rw [size_list]; omega), List.drop_eq_nil_of_le (by rw [size_list]; omega), List.nil_append]
    exact List.prefix_append _ _)
  unfold findOf
  have e0 : (max (0 : Int) 0).toNat = 0 := rfl
  rw [hv, e0]
  exact ⟨by have := h.1; omega, h.2.1, h.2.2⟩
theorem cut_found (x v : ByteArray) (r : Nat) (m : Nat) (hex : x.size % 2 = 0) (hev : v.size % 2 = 0) (hm : v.size / 2 = m) (h : v.data.toList.isPrefixOf (x.data.toList.drop (2 * r)) = true) : cutOf x r ((r : Int) + (m : Int)) = v := by
  apply bytes_ext
  rw [cutOf_list x _ _ hex]
  rw [List.isPrefixOf_iff_prefix] at h
  obtain ⟨t, ht⟩ := h
  have e1 : ((r : Int) + (m : Int)).toNat = r + m := by omega
  rw [e1, Int.toNat_natCast, List.drop_take, ← ht, show 2 * (r + m) - 2 * r = v.data.toList.length by rw [size_list]; omega, List.take_left]

set_option maxHeartbeats 1000000 in
theorem lawFound (u v x : ByteArray) (w : World) (hu : u.size ≤ 140737488351232) (hv : v.size ≤ 140737488351232) (hx : x.size ≤ 140737488351232) (hE : ErrAt w) :
    Calls Tryd.prog 11 #[.string u, .string v, .string x] w fun e w' => e = .returned (.bool true) ∧ Below w.heap.size w w' := by
  have HE := Lib.hid hE
  have hmu : u.size ≤ maxLen := by unfold maxLen; omega
  have hmv : v.size ≤ maxLen := by unfold maxLen; omega
  have hmx : x.size ≤ maxLen := by unfold maxLen; omega
  by_cases heu : u.size % 2 = 0
  · have cu := Lib.hid (check_yes u hmu heu)
    by_cases hev : v.size % 2 = 0
    · have cv := Lib.hid (check_yes v hmv hev)
      by_cases hex : x.size % 2 = 0
      · have cx := Lib.hid (check_yes x hmx hex)
        obtain ⟨n, hn⟩ : ∃ n, u.size / 2 = n := ⟨_, rfl⟩
        obtain ⟨m, hm⟩ : ∃ m, v.size / 2 = m := ⟨_, rfl⟩
        obtain ⟨f1, f2, f3⟩ := found_place u v x heu hev
        rw [hn] at f2
        have hz : (u ++ v ++ x).size = u.size + v.size + x.size := by rw [app_size, app_size]
        have lu := Lib.hid fun w => len_at u n hn w hmu
        have lv := Lib.hid fun w => len_at v m hm w hmv
        have hf := Lib.hid fun w => find_any (u ++ v ++ x) v 0 w (by omega) (by omega)
        obtain ⟨r, hr⟩ := Int.eq_ofNat_of_zero_le f1
        rw [hr] at f2 f3 hf
        have hrn : r ≤ n := by omega
        have hcf := cut_found (u ++ v ++ x) v r m (by omega) hev hm (by simpa using f3)
        have e1 : IntKind.i64.wrap ((r : Int) + (m : Int)) = (r : Int) + (m : Int) := IntWalk.i64_in _ (by omega)
        have hc : Hid (∀ w, (u ++ v ++ x).size ≤ 1125899906842624 → Calls Tryd.prog 19 #[.string (u ++ v ++ x), .int .i64 (r : Int), .int .i64 ((r : Int) + (m : Int))] w fun e w' => e = .returned (.string v) ∧ Below w.heap.size w w') := fun w _ => by
          have := cut_big (u ++ v ++ x) r ((r : Int) + (m : Int)) w (by omega) (by rw [hcf]; omega)
          rw [hcf] at this
          exact this
        have hn2 : n ≤ 140737488351232 := by omega
        have hm2 : m ≤ 140737488351232 := by omega
        have hz2 : (u ++ v ++ x).size ≤ 1125899906842624 := by omega
        have HZ2 := Lib.hid hz2
        have hcat1 : u.size + v.size ≤ 9223372036854775807 := by omega
        have hcat2 : u.size + v.size + x.size ≤ 9223372036854775807 := by omega
        have HAS := Lib.hid (app_size u v)
        clear hE heu hev hex hmu hmv hmx hn hm f1 f3 f2 hr hcf hz hz2
        go_enter Tryd.func11, Tryd.ntmps11
        go_wp2_with fail
        refine (live_any _ HE.out).mono ?_
        rintro e w1 ⟨rfl, hb1⟩
        go_wp2_with fail
        refine (cu.out _).mono ?_
        rintro e w' ⟨rfl, rfl⟩
        go_wp2_with fail
        refine (cv.out _).mono ?_
        rintro e w' ⟨rfl, rfl⟩
        go_wp2_with fail
        refine (cx.out _).mono ?_
        rintro e w' ⟨rfl, rfl⟩
        go_wp2_with fail
        refine (hf.out _).mono ?_
        rintro e w' ⟨rfl, rfl⟩
        go_wp2_with fail
        refine (lu.out _).mono ?_
        rintro e w' ⟨rfl, rfl⟩
        go_wp2_with fail
        refine (lv.out _).mono ?_
        rintro e w' ⟨rfl, rfl⟩
        go_wp2_with fail
        refine (hc.out _ HZ2.out).mono ?_
        rintro e w2 ⟨rfl, hb2⟩
        go_wp2
        go_ret
        exact ⟨rfl, hb1.trans (hb2.mono hb1.size)⟩
      · have cx := Lib.hid (check_no x hmx hex)
        clear hE heu hev hex hmu hmv hmx
        go_enter Tryd.func11, Tryd.ntmps11
        go_wp2_with fail
        refine (live_any _ HE.out).mono ?_
        rintro e w1 ⟨rfl, hb1⟩
        go_wp2_with fail
        refine (cu.out _).mono ?_
        rintro e w' ⟨rfl, rfl⟩
        go_wp2_with fail
        refine (cv.out _).mono ?_
        rintro e w' ⟨rfl, rfl⟩
        go_wp2_with fail
        refine (cx.out _).mono ?_
        rintro e w' ⟨rfl, rfl⟩
        go_wp2
        go_ret
        exact ⟨rfl, hb1⟩
    · have cv := Lib.hid (check_no v hmv hev)
      clear hE heu hev hmu hmv hmx
      go_enter Tryd.func11, Tryd.ntmps11
      go_wp2_with fail
      refine (live_any _ HE.out).mono ?_
      rintro e w1 ⟨rfl, hb1⟩
      go_wp2_with fail
      refine (cu.out _).mono ?_
      rintro e w' ⟨rfl, rfl⟩
      go_wp2_with fail
      refine (cv.out _).mono ?_
      rintro e w' ⟨rfl, rfl⟩
      go_wp2
      go_ret
      exact ⟨rfl, hb1⟩
  · have cu := Lib.hid (check_no u hmu heu)
    clear hE heu hmu hmv hmx
    go_enter Tryd.func11, Tryd.ntmps11
    go_wp2_with fail
    refine (live_any _ HE.out).mono ?_
    rintro e w1 ⟨rfl, hb1⟩
    go_wp2_with fail
    refine (cu.out _).mono ?_
    rintro e w' ⟨rfl, rfl⟩
    go_wp2
    go_ret
    exact ⟨rfl, hb1⟩
end Go.Proofs.YtjbcihjeohpgmaaDoor
