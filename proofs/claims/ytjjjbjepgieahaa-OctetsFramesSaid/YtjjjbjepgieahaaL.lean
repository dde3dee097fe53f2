/-
  The laws OctetsWrite, OctetsRead, OctetsOrder, by contract.
-/
import Derived.Test.YtjjjbjepgieahaaK
namespace Go.Proofs.Ytjjjbjepgieahaa
open Go.RowKit

set_option maxRecDepth 4000 in
set_option maxHeartbeats 1000000 in
theorem lawWrite (n : Nat) (s : ByteArray) (w : World) (hn : n < lim 9) (hs : s.size ≤ 140737488351232) :
    Calls Try.prog 3 #[.int .u64 n, .string s] w fun e w' => e = .returned (.bool true) ∧ Below w.heap.size w w' := by
  have h1 := Lib.hid fun w => num_any n w hn
  have h2 := Lib.hid fun w => refNum_any n w hn
  have h3 := Lib.hid fun w => text_any s w hs
  have h4 := Lib.hid fun w => refText_any s w hs
  generalize num n = l1 at *
  generalize text s.data.toList = l2 at *
  clear hn hs
  go_enter Try.func3, Try.ntmps3
  go_wp2_with fail
  refine (live_any _).mono ?_
  rintro e w1 ⟨rfl, hb1⟩
  go_wp2_with fail
  refine (h1.out _).mono ?_
  rintro e w2 ⟨v, rfl, hown, hb2⟩
  obtain ⟨hk, A, c, rfl, _, hY⟩ := Byt.of_own hown
  have hb := hb1.trans (hb2.mono hb1.size)
  clear hown hk hb1 hb2
  go_wp2_with fail
  refine (h2.out _).mono ?_
  rintro e w3 ⟨v, rfl, hown, hb3⟩
  obtain ⟨hk, A2, c2, rfl, _, hY2⟩ := Byt.of_own hown
  have hY1 := hY.below hb3
  have hb' := hb.trans (hb3.mono hb.size)
  clear hown hk hb3 hb hY
  go_wp2_with fail
  refine (same_any _ _ _ _ _ _ hY1 hY2).mono ?_
  rintro e w' ⟨rfl, rfl⟩
  clear hY1 hY2
  go_wp2_with fail
  refine (h3.out _).mono ?_
  rintro e w4 ⟨v, rfl, hown, hb4⟩
  obtain ⟨hk, A3, c3, rfl, _, hY⟩ := Byt.of_own hown
  have hb := hb'.trans (hb4.mono hb'.size)
  clear hown hk hb' hb4
  go_wp2_with fail
  refine (h4.out _).mono ?_
  rintro e w5 ⟨v, rfl, hown, hb5⟩
  obtain ⟨hk, A4, c4, rfl, _, hY2⟩ := Byt.of_own hown
  have hY1 := hY.below hb5
  have hb' := hb.trans (hb5.mono hb.size)
  clear hown hk hb5 hb hY
  go_wp2_with fail
  refine (same_any _ _ _ _ _ _ hY1 hY2).mono ?_
  rintro e w' ⟨rfl, rfl⟩
  clear hY1 hY2
  go_wp2
  go_ret
  exact ⟨rfl, hb'⟩

set_option maxRecDepth 4000 in
set_option maxHeartbeats 1000000 in
theorem lawRead (A : Option Addr) (l : Bs) (c : Nat) (most : Int) (w : World) (h : Byt w A l) (hl : l.length ≤ 9223372036854775807) (hlc : l.length ≤ c) (hm : most ≤ 9223372036854775807) :
    Calls Try.prog 4 #[.slice A l.length c, .int .i64 most] w fun e w' => e = .returned (.bool true) ∧ Below w.heap.size w w' := by
  have h1 : Hid (∀ w, Byt w A l → Calls Try.prog 16 #[.slice A l.length c] w fun e w' => e = .returned (rdV (rd 0 0 l)) ∧ w = w') := fun w h => readNum_any A l c w h hl
  have h2 : Hid (∀ w, Byt w A l → Calls Try.prog 17 #[.slice A l.length c] w fun e w' => e = .returned (rdV (rd 0 0 l)) ∧ w = w') := fun w h => refReadNum_any A l c w h hl
  have h3 : Hid (∀ w, Byt w A l → Calls Try.prog 18 #[.slice A l.length c, .int .i64 most] w fun e w' => e = .returned (rtV (rdText l most)) ∧ w = w') := fun w h => readText_any A l c most w h hl hlc hm
  have h4 : Hid (∀ w, Byt w A l → Calls Try.prog 19 #[.slice A l.length c, .int .i64 most] w fun e w' => e = .returned (rtV (rdText l most)) ∧ w = w') := fun w h => refReadText_any A l c most w h hl hlc hm
  have HY := Lib.hid h
  obtain ⟨n, k, e, hr⟩ : ∃ n k e : Int, rdV (rd 0 0 l) = .tuple #[.int .u64 n, .int .i64 k, .int .i64 e] := ⟨_, _, _, rfl⟩
  obtain ⟨t, j, f, ht⟩ : ∃ (t : ByteArray) (j f : Int), rtV (rdText l most) = .tuple #[.string t, .int .i64 j, .int .i64 f] := ⟨_, _, _, rfl⟩
  rw [hr] at h1 h2
  rw [ht] at h3 h4
  clear h hl hlc hm hr ht
  go_enter Try.func4, Try.ntmps4
  go_wp2_with fail
  refine (h1.out _ HY.out).mono ?_
  rintro e w' ⟨rfl, rfl⟩
  go_wp2_with fail
  refine (h2.out _ HY.out).mono ?_
  rintro e w' ⟨rfl, rfl⟩
  go_wp2_with fail
  refine (h3.out _ HY.out).mono ?_
  rintro e w' ⟨rfl, rfl⟩
  go_wp2_with fail
  refine (h4.out _ HY.out).mono ?_
  rintro e w' ⟨rfl, rfl⟩
  go_wp2_with fail
  refine (live_any _).mono ?_
  rintro e w1 ⟨rfl, hb1⟩
  go_wp2
  go_ret
  exact ⟨rfl, hb1⟩

set_option maxRecDepth 4000 in
set_option maxHeartbeats 1000000 in
theorem lawOrder (a b : Nat) (w : World) (ha : a < lim 9) (hb : b < lim 9) :
    Calls Try.prog 9 #[.int .u64 a, .int .u64 b] w fun e w' => e = .returned (.bool true) ∧ Below w.heap.size w w' := by
  have h1 := Lib.hid fun w => num_any a w ha
  have h2 := Lib.hid fun w => num_any b w hb
  have la := num_length a
  have lb := num_length b
  have hab := numG_mono 9 a b
  have hba := numG_mono 9 b a
  change a ≤ b → (num a).length ≤ (num b).length at hab
  change b ≤ a → (num b).length ≤ (num a).length at hba
  generalize num a = l1 at *
  generalize num b = l2 at *
  clear ha hb
  rcases Nat.lt_trichotomy a b with h | h | h
  · have hl := hab (Nat.le_of_lt h)
    clear hab hba
    obtain ⟨la1, la2⟩ := la
    obtain ⟨lb1, lb2⟩ := lb
    go_enter Try.func9, Try.ntmps9
    go_wp2_with fail
    refine (live_any _).mono ?_
    rintro e w1 ⟨rfl, hb1⟩
    go_wp2_with fail
    refine (h1.out _).mono ?_
    rintro e w2 ⟨v, rfl, hown, hb2⟩
    obtain ⟨hk, A, c, rfl, _, _⟩ := Byt.of_own hown
    have hb := hb1.trans (hb2.mono hb1.size)
    clear hown hk hb1 hb2
    go_wp2_with fail
    refine (h2.out _).mono ?_
    rintro e w3 ⟨v, rfl, hown, hb3⟩
    obtain ⟨hk, A2, c2, rfl, _, _⟩ := Byt.of_own hown
    have hb' := hb.trans (hb3.mono hb.size)
    clear hown hk hb3 hb
    go_wp2
    go_ret
    exact ⟨ret_bool (decide_eq_true (by omega)), hb'⟩
  · subst h
    have hl := hab (Nat.le_refl _)
    clear hab hba
    obtain ⟨la1, la2⟩ := la
    obtain ⟨lb1, lb2⟩ := lb
    go_enter Try.func9, Try.ntmps9
    go_wp2_with fail
    refine (live_any _).mono ?_
    rintro e w1 ⟨rfl, hb1⟩
    go_wp2_with fail
    refine (h1.out _).mono ?_
    rintro e w2 ⟨v, rfl, hown, hb2⟩
    obtain ⟨hk, A, c, rfl, _, _⟩ := Byt.of_own hown
    have hb := hb1.trans (hb2.mono hb1.size)
    clear hown hk hb1 hb2
    go_wp2_with fail
    refine (h2.out _).mono ?_
    rintro e w3 ⟨v, rfl, hown, hb3⟩
    obtain ⟨hk, A2, c2, rfl, _, _⟩ := Byt.of_own hown
    have hb' := hb.trans (hb3.mono hb.size)
    clear hown hk hb3 hb
    go_wp2
    go_ret
    exact ⟨ret_bool (decide_eq_true (by omega)), hb'⟩
  · have hl := hba (Nat.le_of_lt h)
    clear hab hba
    obtain ⟨la1, la2⟩ := la
    obtain ⟨lb1, lb2⟩ := lb
    go_enter Try.func9, Try.ntmps9
    go_wp2_with fail
    refine (live_any _).mono ?_
    rintro e w1 ⟨rfl, hb1⟩
    go_wp2_with fail
    refine (h2.out _).mono ?_
    rintro e w2 ⟨v, rfl, hown, hb2⟩
    obtain ⟨hk, A, c, rfl, _, _⟩ := Byt.of_own hown
    have hb := hb1.trans (hb2.mono hb1.size)
    clear hown hk hb1 hb2
    go_wp2_with fail
    refine (h1.out _).mono ?_
    rintro e w3 ⟨v, rfl, hown, hb3⟩
    obtain ⟨hk, A2, c2, rfl, _, _⟩ := Byt.of_own hown
    have hb' := hb.trans (hb3.mono hb.size)
    clear hown hk hb3 hb
    go_wp2
    go_ret
    exact ⟨ret_bool (decide_eq_true (by omega)), hb'⟩
end Go.Proofs.Ytjjjbjepgieahaa
