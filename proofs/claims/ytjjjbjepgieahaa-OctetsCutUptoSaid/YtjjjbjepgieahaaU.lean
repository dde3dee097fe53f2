/-
  framed; the law OctetsBack, by contract.
-/
import Derived.Test.YtjjjbjepgieahaaT
namespace Go.Proofs.Ytjjjbjepgieahaa
open Go.RowKit

theorem framed_unfr : unfr (frame [97]) 9 = ([97], 9, 0) := by decide +kernel
set_option maxRecDepth 4000 in
set_option maxHeartbeats 400000 in
theorem framed_any (w : World) : Calls Try.prog 26 #[] w fun e w' => e = .returned (.bool true) ∧ Below w.heap.size w w' := by
  have h1 : Hid (∀ w A, Byt w A [97] → Calls Try.prog 20 #[.slice A 1 1] w (GivesB w (frame [97]))) := fun w A h => frame_any A [97] 1 w h (by simp)
  have h2 : Hid (∀ w A c, Byt w A (frame [97]) → (frame [97]).length ≤ c → Calls Try.prog 21 #[.slice A (frame [97]).length c, .int .i64 9] w (GivesU w ([97], 9, 0))) := fun w A c h hc => by
    have := unframe_any A (frame [97]) c 9 w h (by rw [frame_length]; simp) hc (by omega)
    rw [framed_unfr] at this
    exact this
  have h4 : Hid (∀ w A B c d, Byt w A [97] → Byt w B [97] → Calls Try.prog 11 #[.slice A 1 c, .slice B 1 d] w fun e w' => e = .returned (.bool true) ∧ w = w') := fun w A B c d hA hB => same_any A B [97] c d w hA hB
  generalize frame [97] = fr at *
  go_enter Try.func26, Try.ntmps26
  go_wp2_with fail
  refine (h1.out _ _ ?b1).mono ?_
  case b1 => exact byt_lit _ _ _ _ _ (by simp) (by rfl)
  rintro e w1 ⟨v, rfl, hown, hb⟩
  obtain ⟨hk, A, c, rfl, hc, hY⟩ := Byt.of_own hown
  have hb1 : Below w.heap.size w w1 := ((Below.refl _ _).alloc (Nat.le_refl _) _).trans (hb.mono (by simp))
  clear hown hb hk
  go_wp2_with fail
  refine (h2.out _ _ _ hY hc).mono ?_
  rintro e w2 ⟨v, rfl, hown, hb⟩
  obtain ⟨hk, A2, c2, rfl, hc2, hY2⟩ := Byt.of_own hown
  have hb2 := hb1.trans (hb.mono hb1.size)
  clear hown hb hk hb1 hY
  have HY := Lib.hid fun o => hY2.alloc o
  clear hY2
  go_wp2_with fail
  refine (h4.out _ _ _ _ _ ?b3 ?b4).mono ?_
  case b3 => exact HY.out _
  case b4 => exact byt_lit _ _ _ _ _ (by simp) (by rfl)
  rintro e w' ⟨rfl, rfl⟩
  go_wp2
  go_ret
  exact ⟨rfl, hb2.alloc hb2.size _⟩

theorem str_back (s : ByteArray) : (⟨s.data.toList.toArray⟩ : ByteArray) = s := by cases s; rfl
set_option maxRecDepth 20000 in
set_option maxHeartbeats 400000 in
theorem lawBack (n : Nat) (s : ByteArray) (A : Option Addr) (l : Bs) (c : Nat) (Ar : Option Addr) (r : Bs) (cr : Nat) (w : World) (hn : n < lim 9) (hs : s.size ≤ 1048576) (hl : l.length ≤ 1048576) (hr : r.length ≤ 1048576) (h : Byt w A l) (h' : Byt w Ar r) :
    Calls Try.prog 6 #[.int .u64 n, .string s, .slice A l.length c, .slice Ar r.length cr] w fun e w' => e = .returned (.bool true) ∧ Below w.heap.size w w' := by
  obtain ⟨i0, hi, hz0, hz1, hz2⟩ := info_parts info5
  have HN := Lib.hid fun w => num_any n w hn
  have HT := Lib.hid fun w => text_any s w (by omega)
  have HYl : Hid (∀ w', Below w.heap.size w w' → Byt w' A l) := fun w' hb => h.below hb
  have HYr : Hid (∀ w', Below w.heap.size w w' → Byt w' Ar r) := fun w' hb => h'.below hb
  have HF : Hid (∀ w', Byt w' A l → Calls Try.prog 20 #[.slice A l.length c] w' (GivesB w' (frame l))) := fun w' hy => frame_any A l c w' hy (by omega)
  have hl1 := (num_length n).2
  have hl2 : (text s.data.toList).length ≤ 10 + s.size := by
    have := (num_length s.data.toList.length).2
    rw [text, List.length_append, size_list] at *
    omega
  have hl3 : (frame l).length = 8 + l.length := frame_length l
  have RN : Hid (∀ A c w, Byt w A (num n ++ r) → Calls Try.prog 16 #[.slice A ((num n).length + r.length) c] w fun e w' => e = .returned (.tuple #[.int .u64 n, .int .i64 (num n).length, .int .i64 0]) ∧ w = w') := fun A c w h => by
    have := readNum_any A (num n ++ r) c w h (by rw [List.length_append]; omega)
    rw [rd_num (by rw [lim_nine] at hn; exact hn), List.length_append] at this
    exact this
  have RT : Hid (∀ A c w, Byt w A (text s.data.toList ++ r) → (text s.data.toList).length + r.length ≤ c → Calls Try.prog 18 #[.slice A ((text s.data.toList).length + r.length) c, .int .i64 s.size] w fun e w' => e = .returned (.tuple #[.string s, .int .i64 (text s.data.toList).length, .int .i64 0]) ∧ w = w') := fun A c w h hc => by
    have := readText_any A (text s.data.toList ++ r) c s.size w h (by rw [List.length_append]; omega) (by rw [List.length_append]; exact hc) (by omega)
    have e := rdText_text (l := s.data.toList) (by rw [size_list]; omega) r
    rw [size_list] at e
    rw [e, List.length_append] at this
    have e2 : rtV (s.data.toList, (text s.data.toList).length, 0) = .tuple #[.string s, .int .i64 (text s.data.toList).length, .int .i64 0] := by
      unfold rtV
      rw [str_back]
      rfl
    rw [e2] at this
    exact this
  have RF : Hid (∀ A c w, Byt w A (frame l ++ r) → (frame l).length + r.length ≤ c → Calls Try.prog 21 #[.slice A ((frame l).length + r.length) c, .int .i64 l.length] w (GivesU w (l, (frame l).length, 0))) := fun A c w h hc => by
    have := unframe_any A (frame l ++ r) c l.length w h (by rw [List.length_append, hl3]; omega) (by rw [List.length_append]; exact hc) (by omega)
    rw [unfr_frame (by omega) r, List.length_append] at this
    exact this
  have hl3' : (frame l).length ≤ 8 + l.length := by omega
  generalize num n = l1 at *
  generalize text s.data.toList = l2 at *
  generalize frame l = l3 at *
  clear h h' hl3 hn
  have hs63 : s.size ≤ 9223372036854775807 := by omega
  go_enter Try.func6, Try.ntmps6
  go_wp2_with fail
  refine (live_any _).mono ?_
  rintro e w1 ⟨rfl, hb1⟩
  go_wp2_with fail
  refine (framed_any _).mono ?_
  rintro e w2 ⟨rfl, hb2⟩
  have hb3 := hb1.trans (hb2.mono hb1.size)
  clear hb1 hb2
  go_wp2_with fail
  refine (HN.out _).mono ?_
  rintro e w3 ⟨v, rfl, hown, hb⟩
  have hb4 := hb3.trans (hb.mono hb3.size)
  go_wp2_with (at_builtin
               refine app_bytes _ rfl (.tmp 25) (.tmp 26) 25 (by rfl) w2.heap.size 5 i0 _ Try.underlying25 hi hz0 hz1 hz2 rfl v _ _ (by rfl) hown Ar cr r (by rfl) (HYr.out _ hb4) (by omega) hb.size ?_
               intro v4 w4 hown4 hb5
               rw [← List.map_append] at hown4
               obtain ⟨-, A4, c4, rfl, hc4, hY4⟩ := Byt.of_own hown4
               have hb6 := hb4.trans (hb5.mono hb3.size)
               clear hown hown4 hb hb5 hb4 hb3)
  refine (RN.out _ _ _ hY4).mono ?_
  rintro e w' ⟨rfl, rfl⟩
  clear hY4 hc4
  go_wp2_with fail
  refine (HT.out _).mono ?_
  rintro e w5 ⟨v, rfl, hown, hb⟩
  have hb4 := hb6.trans (hb.mono hb6.size)
  go_wp2_with (at_builtin
               refine app_bytes _ rfl (.tmp 34) (.tmp 35) 25 (by rfl) w4.heap.size 5 i0 _ Try.underlying25 hi hz0 hz1 hz2 rfl v _ _ (by rfl) hown Ar cr r (by rfl) (HYr.out _ hb4) (by omega) hb.size ?_
               intro v6 w6 hown6 hb5
               rw [← List.map_append] at hown6
               obtain ⟨-, A6, c6, rfl, hc6, hY6⟩ := Byt.of_own hown6
               have hb7 := hb4.trans (hb5.mono hb6.size)
               clear hown hown6 hb hb5 hb4 hb6)
  refine (RT.out _ _ _ hY6 hc6).mono ?_
  rintro e w' ⟨rfl, rfl⟩
  clear hY6 hc6
  go_wp2_with fail
  refine (HF.out _ (HYl.out _ hb7)).mono ?_
  rintro e w7 ⟨v, rfl, hown, hb⟩
  have hb4 := hb7.trans (hb.mono hb7.size)
  go_wp2_with (at_builtin
               refine app_bytes _ rfl (.tmp 45) (.tmp 46) 25 (by rfl) w6.heap.size 5 i0 _ Try.underlying25 hi hz0 hz1 hz2 rfl v _ _ (by rfl) hown Ar cr r (by rfl) (HYr.out _ hb4) (by omega) hb.size ?_
               intro v8 w8 hown8 hb5
               rw [← List.map_append] at hown8
               obtain ⟨-, A8, c8, rfl, hc8, hY8⟩ := Byt.of_own hown8
               have hb8 := hb4.trans (hb5.mono hb7.size)
               clear hown hown8 hb hb5 hb4 hb7)
  refine (RF.out _ _ _ hY8 hc8).mono ?_
  rintro e w9 ⟨v, rfl, hown, hb⟩
  obtain ⟨-, A9, c9, rfl, -, hY9⟩ := Byt.of_own hown
  have hb9 := hb8.trans (hb.mono hb8.size)
  clear hown hb hb8 hY8 hc8
  go_wp2_with fail
  refine (HN.out _).mono ?_
  rintro e w10 ⟨v, rfl, hown, hb⟩
  obtain ⟨-, A10, c10, rfl, -, -⟩ := Byt.of_own hown
  have hY10 := hY9.below hb
  have hb10 := hb9.trans (hb.mono hb9.size)
  clear hown hb hb9 hY9
  go_wp2_with fail
  refine (HT.out _).mono ?_
  rintro e w11 ⟨v, rfl, hown, hb⟩
  obtain ⟨-, A11, c11, rfl, -, -⟩ := Byt.of_own hown
  have hY11 := hY10.below hb
  have hb11 := hb10.trans (hb.mono hb10.size)
  clear hown hb hb10 hY10
  go_wp2_with fail
  refine (same_any _ _ l _ _ _ hY11 (HYl.out _ hb11)).mono ?_
  rintro e w' ⟨rfl, rfl⟩
  clear hY11
  go_wp2_with fail
  refine (HF.out _ (HYl.out _ hb11)).mono ?_
  rintro e w12 ⟨v, rfl, hown, hb⟩
  obtain ⟨-, A12, c12, rfl, -, -⟩ := Byt.of_own hown
  have hb12 := hb11.trans (hb.mono hb11.size)
  clear hown hb hb11
  go_wp2
  go_ret
  exact ⟨rfl, hb12⟩
end Go.Proofs.Ytjjjbjepgieahaa
