/-
  Laid by wip/prune.py out of wip/units: N Q.
-/
import Derived.Test.YtkaamaopjcaalaaDoorUF
namespace Go.Proofs.YtkaamaopjcaalaaDoor
open Go.RowKit

theorem quoteRes_pair (l : Bs) : ∃ t e, quoteRes l = .tuple #[.string t, .int .i64 e] := by
  unfold quoteRes
  split
  · exact ⟨_, _, rfl⟩
  · exact ⟨_, _, rfl⟩
theorem hexB_hexV : ∀ n : Fin 16, hexV (hexB n.val) = some n.val := by decide +kernel
theorem hexV_hexB (n : Nat) (h : n < 16) : hexV (hexB n) = some n := hexB_hexV ⟨n, h⟩
theorem hex4 (n : Nat) (h : n < 65536) : hexGo 0 [hexB (n / 4096), hexB (n / 256 % 16), hexB (n / 16 % 16), hexB (n % 16)] = some n := by
  simp only [hexGo_cons, hexV_hexB _ (show n / 4096 < 16 by omega), hexV_hexB _ (show n / 256 % 16 < 16 by omega), hexV_hexB _ (show n / 16 % 16 < 16 by omega), hexV_hexB _ (show n % 16 < 16 by omega)]
  show some _ = some n
  congr 1
  omega
/-- one unit's text is read as this unit, whatever stands behind it; it does not begin with the quote -/
theorem unit1_quoted (n : Nat) (h : n < 65536) (r : Bs) : unit1 (quoted n ++ r) = some ([n], (quoted n).length) ∧ ∃ c t, quoted n = c :: t ∧ ¬ c = 34 := by
  unfold quoted
  by_cases h1 : n = 34
  · subst h1; exact ⟨rfl, 92, [34], rfl, by decide⟩
  rw [if_neg h1]
  by_cases h2 : n = 92
  · subst h2; exact ⟨rfl, 92, [92], rfl, by decide⟩
  rw [if_neg h2]
  by_cases h3 : n = 8
  · subst h3; exact ⟨rfl, 92, [98], rfl, by decide⟩
  rw [if_neg h3]
  by_cases h4 : n = 9
  · subst h4; exact ⟨rfl, 92, [116], rfl, by decide⟩
  rw [if_neg h4]
  by_cases h5 : n = 10
  · subst h5; exact ⟨rfl, 92, [110], rfl, by decide⟩
  rw [if_neg h5]
  by_cases h6 : n = 12
  · subst h6; exact ⟨rfl, 92, [102], rfl, by decide⟩
  rw [if_neg h6]
  by_cases h7 : n = 13
  · subst h7; exact ⟨rfl, 92, [114], rfl, by decide⟩
  rw [if_neg h7]
  by_cases h8 : n < 32 ∨ 126 < n
  · rw [if_pos h8]
    refine ⟨?_, 92, _, rfl, by decide⟩
    have e : esc (117 :: hexB (n / 4096) :: hexB (n / 256 % 16) :: hexB (n / 16 % 16) :: hexB (n % 16) :: r) = some ([n], 5) := by
      rw [esc_cons, if_neg (by decide), if_neg (by decide), if_neg (by decide), if_pos rfl, if_neg (by simp)]
      simp only [List.take_succ_cons, List.take_zero, hex4 n h]
    show unit1 (92 :: 117 :: hexB (n / 4096) :: hexB (n / 256 % 16) :: hexB (n / 16 % 16) :: hexB (n % 16) :: r) = some ([n], 6)
    rw [unit1_cons, if_pos rfl]
    unfold esc1
    rw [e]
  · rw [if_neg h8]
    have hn : (UInt8.ofNat n).toNat = n := by rw [UInt8.toNat_ofNat']; omega
    have ne : ∀ k : UInt8, ¬ n = k.toNat → ¬ UInt8.ofNat n = k := fun k hk => byte_ne (by rw [hn]; exact hk)
    have e34 := ne 34 (by simp; omega)
    have e10 := ne 10 (by simp; omega)
    have e13 := ne 13 (by simp; omega)
    refine ⟨?_, _, [], rfl, e34⟩
    show unit1 (UInt8.ofNat n :: r) = some ([n], 1)
    rw [unit1_cons, if_neg (ne 92 (by simp; omega)), if_neg (by intro hx; rcases hx with hx | hx | hx; exact e10 hx; exact e13 hx; omega), hn]
theorem rd_quoted : ∀ (u : List Nat) (f : Nat) (out : List Nat) (k : Nat) (behind : Bs), (∀ n ∈ u, n < 65536) → u.length < f →
    rdGo 34 f (u.flatMap quoted ++ 34 :: behind) out k = some (out ++ u, k + (u.flatMap quoted).length + 1)
  | [], f, out, k, behind, _, hf => by
    obtain ⟨f, rfl⟩ : ∃ g, f = g + 1 := ⟨f - 1, by simp at hf; omega⟩
    simp [rdGo_quote]
  | n :: u, f, out, k, behind, hu, hf => by
    obtain ⟨f, rfl⟩ : ∃ g, f = g + 1 := ⟨f - 1, by omega⟩
    obtain ⟨h1, c, t, h2, h3⟩ := unit1_quoted n (hu n (by simp)) (u.flatMap quoted ++ 34 :: behind)
    have ih := rd_quoted u f (out ++ [n]) (k + (quoted n).length) behind (fun m hm => hu m (by simp [hm])) (by simp at hf; omega)
    rw [List.flatMap_cons, List.append_assoc, h2, List.cons_append]
    rw [h2, List.cons_append] at h1
    rw [rdGo_some h3 h1]
    have hd : (c :: (t ++ (u.flatMap quoted ++ 34 :: behind))).drop (c :: t).length = u.flatMap quoted ++ 34 :: behind := by simp
    rw [hd, ← h2, ih]
    simp only [List.append_assoc, List.singleton_append, List.length_append]
    congr 2
    omega
theorem read_quote (u : List Nat) (behind : Bs) (hu : ∀ n ∈ u, n < 65536) : read (quote u ++ behind) = some (u, (quote u).length) := by
  have hlen : u.length ≤ (u.flatMap quoted).length := by
    clear hu
    induction u with
    | nil => simp
    | cons n u ih =>
      have := quoted_length n
      rw [List.flatMap_cons, List.length_append, List.length_cons]
      omega
  have e : quote u ++ behind = 34 :: (u.flatMap quoted ++ 34 :: behind) := by
    unfold quote
    simp
  rw [e]
  show (if (34 : UInt8) = 39 ∨ (34 : UInt8) = 34 then rdGo 34 ((u.flatMap quoted ++ 34 :: behind).length + 1) (u.flatMap quoted ++ 34 :: behind) [] 1 else none) = _
  rw [if_pos (.inr rfl), rd_quoted u _ [] 1 behind hu (by rw [List.length_append, List.length_cons]; omega)]
  unfold quote
  simp only [List.nil_append, List.length_cons, List.length_append, List.length_nil]
  congr 2
  omega
theorem quote_length (u : List Nat) : (quote u).length ≤ 2 + 6 * u.length := by
  unfold quote
  have : (u.flatMap quoted).length ≤ 6 * u.length := by
    induction u with
    | nil => simp
    | cons n u ih =>
      have := quoted_length n
      rw [List.flatMap_cons, List.length_append, List.length_cons]
      omega
  simp only [List.length_cons, List.length_append, List.length_nil]
  omega
end Go.Proofs.YtkaamaopjcaalaaDoor
