/-
  What Quote answers is read as the string: the plain law, and the walk of UnitsBack.
-/
import Derived.Test.YtjbcihjeohpgmaaDoorN
namespace Go.Proofs.YtjbcihjeohpgmaaDoor
open Go.RowKit

theorem hexB_hexV : ∀ n : Fin 16, hexV (hexB n.val) = some n.val := by decide +kernel
theorem hexV_hexB (n : Nat) (h : n < 16) : hexV (hexB n) = some n := hexB_hexV ⟨n, h⟩
theorem hex4 (n : Nat) (h : n < 65536) : hexGo 0 [hexB (n / 4096), hexB (n / 256 % 16), hexB (n / 16 % 16), hexB (n % 16)] = some n := by
  simp only [hexGo_cons, hexV_hexB _ (show n / 4096 < 16 by omega), hexV_hexB _ (show n / 256 % 16 < 16 by omega), hexV_hexB _ (show n / 16 % 16 < 16 by omega), hexV_hexB _ (show n % 16 < 16 by omega)]
  show some _ = some n
  congr 1
  omega
/-- one unit's text is read as this unit, whatever stands behind it; it does not begin with the quote -/
theorem unit1_quoted (n : Nat) (h : n < 65536) (r : Bs) : unit1 (quoted n ++ r) = some ([n], (quoted n).length) ∧ ∃ c t, quoted n = c :: t ∧ ¬ c = 34 := by
  unfold quoted
  by_cases h1 : n = 34
  · subst h1; exact ⟨rfl, 92, [34], rfl, by decide⟩
  rw [if_neg h1]
  by_cases h2 : n = 92
  · subst h2; exact ⟨rfl, 92, [92], rfl, by decide⟩
  rw [if_neg h2]
  by_cases h3 : n = 8
  · subst h3; exact ⟨rfl, 92, [98], rfl, by decide⟩
  rw [if_neg h3]
  by_cases h4 : n = 9
  · subst h4; exact ⟨rfl, 92, [116], rfl, by decide⟩
  rw [if_neg h4]
  by_cases h5 : n = 10
  · subst h5; exact ⟨rfl, 92, [110], rfl, by decide⟩
  rw [if_neg h5]
  by_cases h6 : n = 12
  · subst h6; exact ⟨rfl, 92, [102], rfl, by decide⟩
  rw [if_neg h6]
  by_cases h7 : n = 13
  · subst h7; exact ⟨rfl, 92, [114], rfl, by decide⟩
  rw [if_neg h7]
  by_cases h8 : n < 32 ∨ 126 < n
  · rw [if_pos h8]
    refine ⟨?_, 92, _, rfl, by decide⟩
    have e : esc (117 :: hexB (n / 4096) :: hexB (n / 256 % 16) :: hexB (n / 16 % 16) :: hexB (n % 16) :: r) = some ([n], 5) := by
      rw [esc_cons, if_neg (by decide), if_neg (by decide), if_neg (by decide), if_pos rfl, if_neg (by simp)]
      simp only [List.take_succ_cons, List.take_zero, hex4 n h]
    show unit1 (92 :: 117 :: hexB (n / 4096) :: hexB (n / 256 % 16) :: hexB (n / 16 % 16) :: hexB (n % 16) :: r) = some ([n], 6)
    rw [unit1_cons, if_pos rfl]
    unfold esc1
    rw [e]
  · rw [if_neg h8]
    have hn : (UInt8.ofNat n).toNat = n := by rw [UInt8.toNat_ofNat']; omega
    have ne : ∀ k : UInt8, ¬ n = k.toNat → ¬ UInt8.ofNat n = k := fun k hk => byte_ne (by rw [hn]; exact hk)
    have e34 := ne 34 (by simp; omega)
    have e10 := ne 10 (by simp; omega)
    have e13 := ne 13 (by simp; omega)
    refine ⟨?_, _, [], rfl, e34⟩
    show unit1 (UInt8.ofNat n :: r) = some ([n], 1)
    rw [unit1_cons, if_neg (ne 92 (by simp; omega)), if_neg (by intro hx; rcases hx with hx | hx | hx; exact e10 hx; exact e13 hx; omega), hn]
theorem rd_quoted : ∀ (u : List Nat) (f : Nat) (out : List Nat) (k : Nat) (behind : Bs), (∀ n ∈ u, n < 65536) → u.length < f →
    rdGo 34 f (u.flatMap quoted ++ 34 :: behind) out k = some (out ++ u, k + (u.flatMap quoted).length + 1)
  | [], f, out, k, behind, _, hf => by
    obtain ⟨f, rfl⟩ : ∃ g, f = g + 1 := ⟨f - 1, by simp at hf; omega⟩
    simp [rdGo_quote]
  | n :: u, f, out, k, behind, hu, hf => by
    obtain ⟨f, rfl⟩ : ∃ g, f = g + 1 := ⟨f - 1, by omega⟩
    obtain ⟨h1, c, t, h2, h3⟩ := unit1_quoted n (hu n (by simp)) (u.flatMap quoted ++ 34 :: behind)
    have ih := rd_quoted u f (out ++ [n]) (k + (quoted n).length) behind (fun m hm => hu m (by simp [hm])) (by simp at hf; omega)
    rw [List.flatMap_cons, List.append_assoc, h2, List.cons_append]
    rw [h2, List.cons_append] at h1
    rw [rdGo_some h3 h1]
    have hd : (c :: (t ++ (u.flatMap quoted ++ 34 :: behind))).drop (c :: t).length = u.flatMap quoted ++ 34 :: behind := by simp
    rw [hd, ← h2, ih]
    simp only [List.append_assoc, List.singleton_append, List.length_append]
    congr 2
    omega
theorem read_quote (u : List Nat) (behind : Bs) (hu : ∀ n ∈ u, n < 65536) : read (quote u ++ behind) = some (u, (quote u).length) := by
  have hlen : u.length ≤ (u.flatMap quoted).length := by
    clear hu
    induction u with
    | nil => simp
    | cons n u ih =>
      have := quoted_length n
      rw [List.flatMap_cons, List.length_append, List.length_cons]
      omega
  have e : quote u ++ behind = 34 :: (u.flatMap quoted ++ 34 :: behind) := by
    unfold quote
    simp
  rw [e]
  show (if (34 : UInt8) = 39 ∨ (34 : UInt8) = 34 then rdGo 34 ((u.flatMap quoted ++ 34 :: behind).length + 1) (u.flatMap quoted ++ 34 :: behind) [] 1 else none) = _
  rw [if_pos (.inr rfl), rd_quoted u _ [] 1 behind hu (by rw [List.length_append, List.length_cons]; omega)]
  unfold quote
  simp only [List.nil_append, List.length_cons, List.length_append, List.length_nil]
  congr 2
  omega
theorem quote_length (u : List Nat) : (quote u).length ≤ 2 + 6 * u.length := by
  unfold quote
  have : (u.flatMap quoted).length ≤ 6 * u.length := by
    induction u with
    | nil => simp
    | cons n u ih =>
      have := quoted_length n
      rw [List.flatMap_cons, List.length_append, List.length_cons]
      omega
  simp only [List.length_cons, List.length_append, List.length_nil]
  omega

set_option maxHeartbeats 400000 in
theorem lawBack (s t : ByteArray) (w : World) (hs : s.size + t.size ≤ 1048576) (hE : ErrAt w) :
    Calls Tryd.prog 8 #[.string s, .string t] w fun e w' => e = .returned (.bool true) ∧ Below w.heap.size w w' := by
  have HE := Lib.hid hE
  have hm : s.size ≤ maxLen := by unfold maxLen; omega
  have h1 := Lib.hid fun w => quote_any s w (by omega)
  by_cases heven : s.size % 2 = 0
  · rw [quoteRes_even (by rw [size_list]; exact heven)] at h1
    have hql := quote_length (us s.data.toList)
    rw [us_length, size_list] at hql
    have hrd := read_quote (us s.data.toList) t.data.toList (us_lt _)
    have hbs : bs (us s.data.toList) = s.data.toList := bs_us _ (by rw [size_list]; exact heven)
    generalize us s.data.toList = u at *
    generalize hq : quote u = x at *
    have hsb : (ByteArray.mk (bs u).toArray) = s := by rw [hbs]
    have hcat : (ByteArray.mk x.toArray ++ t).data.toList = x ++ t.data.toList := by simp
    have hsz : (ByteArray.mk x.toArray ++ t).size ≤ 33554432 := by
      rw [← size_list, hcat, List.length_append, size_list]
      omega
    have h2 : Hid (∀ w, ErrAt w → Calls Tryd.prog 27 #[.string (ByteArray.mk x.toArray ++ t)] w fun e w' => e = .returned (.tuple #[.string s, .int .i64 x.length, .int .i64 0]) ∧ Below w.heap.size w w') := fun w h => by
      have := read_any (ByteArray.mk x.toArray ++ t) w hsz h
      rw [hcat, hrd] at this
      unfold readRes at this
      simp only [hsb] at this
      exact this
    have hxs : (ByteArray.mk x.toArray).size = x.length := by rw [← size_list]
    have HX := Lib.hid hxs
    have hx2 : x.length ≤ 16777216 := by omega
    have hx3 : (ByteArray.mk x.toArray).size + t.size ≤ 33554432 := by omega
    clear hrd hbs hsb hcat hsz hql hxs hq hm hE heven
    go_enter Tryd.func8, Tryd.ntmps8
    go_wp2_with fail
    refine (live_any _ HE.out).mono ?_
    rintro e w1 ⟨rfl, hb1⟩
    go_wp2_with fail
    refine (h1.out _).mono ?_
    rintro e w2 ⟨rfl, hb2⟩
    have hb2' := hb1.trans (hb2.mono hb1.size)
    clear hb1 hb2
    go_wp2_with fail
    refine (h2.out _ (HE.out.below hb2')).mono ?_
    rintro e w3 ⟨rfl, hb3⟩
    have hb3' := hb2'.trans (hb3.mono hb2'.size)
    clear hb2' hb3
    go_wp2
    all_goals go_ret
    all_goals exact ⟨rfl, hb3'⟩
  · rw [quoteRes_odd (by rw [size_list]; exact heven)] at h1
    have HC : Hid (∀ w, Calls Tryd.prog 13 #[.string s] w fun e w' => e = .returned (.bool false) ∧ w = w') := fun w => (check_any s w hm).mono fun e w' ⟨h1, h2⟩ => ⟨by rw [h1, decide_eq_false heven], h2⟩
    clear hE heven hs hm
    go_enter Tryd.func8, Tryd.ntmps8
    go_wp2_with fail
    refine (live_any _ HE.out).mono ?_
    rintro e w1 ⟨rfl, hb1⟩
    go_wp2_with fail
    refine (h1.out _).mono ?_
    rintro e w2 ⟨rfl, hb2⟩
    have hb2' := hb1.trans (hb2.mono hb1.size)
    clear hb1 hb2
    go_wp2_with fail
    refine (HC.out _).mono ?_
    rintro e w3 ⟨rfl, rfl⟩
    go_wp2
    go_ret
    exact ⟨rfl, hb2'⟩
end Go.Proofs.YtjbcihjeohpgmaaDoor
