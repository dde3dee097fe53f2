/-
  PLAIN: what replacing all, and cutting, makes of a text's bytes.
-/
import Derived.Lib.ReplaceLaws
import Derived.Lib.CountLaws
import Derived.Lib.CutLaws
import Derived.Lib.Replace
import Derived.Test.YtkanpdhlpobfoaaDoorK
namespace Go.Proofs.YtkanpdhlpobfoaaDoor.K
open Go.Lib

def rep (old new s : List UInt8) : List UInt8 := replaceK old new (count s old) s
theorem rep_all {old new s : List UInt8} (h : (old == new) = false) : replaceAll s old new = rep old new s := by
  unfold replaceAll replace rep replaceNum
  rw [if_neg (by rw [h]; decide), if_pos (.inl (by decide))]
theorem rep_nil (a : UInt8) (t new : List UInt8) : rep (a :: t) new [] = [] := by
  unfold rep
  rw [count_miss rfl]
  rfl
theorem rep_miss {old new s : List UInt8} (h : index s old = -1) : rep old new s = s := by
  unfold rep
  rw [count_miss h]
  rfl
theorem rep_hit {old new s : List UInt8} {i : Nat} (ho : old ≠ []) (h : index s old = i) : rep old new s = s.take i ++ new ++ rep old new (s.drop (i + old.length)) := by
  unfold rep
  rw [count_hit ho h, Nat.add_comm, replaceK_hit old new _ s i h]
theorem index_hit {b : UInt8} {l sub : List UInt8} (h : sub.isPrefixOf (b :: l) = true) : index (b :: l) sub = 0 := by rw [index, if_pos h]
theorem index_skip {b : UInt8} {l sub : List UInt8} {i : Nat} (h : sub.isPrefixOf (b :: l) = false) (hi : index l sub = i) : index (b :: l) sub = ((i + 1 : Nat) : Int) := by
  rw [index, if_neg (by rw [h]; decide), if_neg, hi]
  · rfl
  · rw [hi, beq_iff_eq]; omega
theorem index_skip' {b : UInt8} {l sub : List UInt8} (h : sub.isPrefixOf (b :: l) = false) (hi : index l sub = -1) : index (b :: l) sub = -1 := by
  rw [index, if_neg (by rw [h]; decide), if_pos (by rw [hi]; rfl)]
theorem rep_skip {b : UInt8} {l old new : List UInt8} (ho : old ≠ []) (h : old.isPrefixOf (b :: l) = false) : rep old new (b :: l) = b :: rep old new l := by
  by_cases hm : index l old = -1
  · rw [rep_miss hm, rep_miss (index_skip' h hm)]
  · have hge := index_ge l old
    obtain ⟨i, hi⟩ : ∃ i : Nat, index l old = i := ⟨(index l old).toNat, by omega⟩
    rw [rep_hit ho hi, rep_hit ho (index_skip h hi), show i + 1 + old.length = i + old.length + 1 by omega]
    rfl
theorem rep_pre {l old new : List UInt8} (ho : old ≠ []) : rep old new (old ++ l) = new ++ rep old new l := by
  have hi : index (old ++ l) old = ((0 : Nat) : Int) := by
    cases old with
    | nil => exact absurd rfl ho
    | cons a t =>
      rw [List.cons_append]
      exact index_hit (List.isPrefixOf_iff_prefix.2 ⟨l, rfl⟩)
  rw [rep_hit ho hi]
  simp
theorem pre_ne {a b : UInt8} {t l : List UInt8} (h : b ≠ a) : List.isPrefixOf (a :: t) (b :: l) = false := by
  rw [List.isPrefixOf_cons_cons, show (a == b) = false from beq_eq_false_iff_ne.2 fun e => h e.symm, Bool.false_and]
theorem pre2_ne {a b c : UInt8} {t l : List UInt8} (h : b ≠ c) : List.isPrefixOf (a :: c :: t) (a :: b :: l) = false := by
  rw [List.isPrefixOf_cons_cons, pre_ne h, Bool.and_false]
theorem rep_esc (l : List UInt8) : rep [0] [0, 255] l = esc l := by
  induction l with
  | nil => exact rep_nil _ _ _
  | cons b r ih =>
    rw [esc]
    by_cases h : b = 0
    · subst h
      rw [if_pos rfl, ← ih]
      exact rep_pre (old := [0]) (l := r) (by decide)
    · rw [if_neg h, ← ih]
      exact rep_skip (by decide) (pre_ne h)
theorem rep_unesc (l : List UInt8) : rep [0, 255] [0] (esc l) = l := by
  induction l with
  | nil => exact rep_nil _ _ _
  | cons b r ih =>
    rw [esc]
    by_cases h : b = 0
    · subst h
      rw [if_pos rfl]
      have := rep_pre (old := [0, 255]) (new := [0]) (l := esc r) (by decide)
      rw [ih] at this
      exact this
    · rw [if_neg h, rep_skip (by decide) (pre_ne h), ih]
theorem all_esc (l : List UInt8) : replaceAll l [0] [0, 255] = esc l := by rw [rep_all (by decide), rep_esc]
theorem all_unesc (l : List UInt8) : replaceAll (esc l) [0, 255] [0] = l := by rw [rep_all (by decide), rep_unesc]
theorem index_esc (l z : List UInt8) : index (esc l ++ 0 :: 1 :: z) [0, 1] = (esc l).length := by
  induction l with
  | nil => exact index_hit rfl
  | cons b r ih =>
    rw [esc]
    by_cases h : b = 0
    · subst h
      rw [if_pos rfl]
      simp only [List.cons_append, List.length_cons]
      exact index_skip (pre2_ne (by decide)) (index_skip (pre_ne (by decide)) ih)
    · rw [if_neg h, List.cons_append, List.length_cons]
      exact index_skip (pre_ne h) ih
theorem cut_esc (l z : List UInt8) : cut (esc l ++ 0 :: 1 :: z) [0, 1] = (esc l, z, true) := by
  have hi := index_esc l z
  unfold cut
  rw [if_pos (by omega), hi]
  simp only [Int.toNat_natCast, List.length_cons, List.length_nil, Prod.mk.injEq, and_true]
  refine ⟨List.take_left' rfl, ?_⟩
  rw [List.drop_append, List.drop_eq_nil_of_le (by omega)]
  simp
theorem count_esc (s : ByteArray) : countB s ⟨#[0]⟩ ≤ s.size := by
  have := countB_mul_le ⟨#[0]⟩ (by decide) s.size s (Nat.le_refl _)
  have e : (ByteArray.mk #[0]).size = 1 := rfl
  rw [e] at this
  omega
theorem count_unesc (s : ByteArray) : countB s ⟨#[0, 255]⟩ ≤ s.size := by
  have := countB_mul_le ⟨#[0, 255]⟩ (by decide) s.size s (Nat.le_refl _)
  have e : (ByteArray.mk #[0, 255]).size = 2 := rfl
  rw [e] at this
  omega
/-- nothing that is put in the place of two bytes is longer -/
theorem rep_length (l : List UInt8) : (rep [0, 255] [0] l).length ≤ l.length := by
  induction h : l.length using Nat.strongRecOn generalizing l with
  | _ n ih =>
    subst h
    match l with
    | [] => rw [rep_nil]; exact Nat.le_refl _
    | b :: r =>
      by_cases hp : List.isPrefixOf [0, 255] (b :: r) = true
      · obtain ⟨t, ht⟩ := List.isPrefixOf_iff_prefix.1 hp
        rw [← ht, rep_pre (by decide)]
        have := ih t.length (by rw [← ht]; simp; omega) t rfl
        simp
        omega
      · rw [rep_skip (by decide) (Bool.eq_false_iff.2 hp)]
        have := ih r.length (by simp) r rfl
        simp
        omega
theorem all_length (l : List UInt8) : (replaceAll l [0, 255] [0]).length ≤ l.length := by rw [rep_all (by decide)]; exact rep_length l
end Go.Proofs.YtkanpdhlpobfoaaDoor.K
