/-
  Laid by wip/prune.py out of wip/octets: Plain Frm.
-/
import Derived.Test.YtnkknlhdbhfjlaaProg
import Derived.WalkKit
namespace Go.Proofs.Ytnkknlhdbhfjlaa.O
open Go.RowKit

abbrev Bs := List UInt8

/- Numbers. -/
/-- the bytes of a number: seven bits a byte, the lowest first; one more than f bytes at most -/
def numG : Nat → Nat → Bs
  | 0, n => [UInt8.ofNat n]
  | f + 1, n => if n < 128 then [UInt8.ofNat n] else UInt8.ofNat (n % 128 + 128) :: numG f (n / 128)
def num (n : Nat) : Bs := numG 9 n
/-- how great a number may be that takes f + 1 bytes at most -/
def lim (f : Nat) : Nat := 2 * 128 ^ f
theorem lim_zero : lim 0 = 2 := rfl
theorem lim_succ (f : Nat) : lim (f + 1) = 128 * lim f := by unfold lim; rw [Nat.pow_succ]; omega
theorem lim_nine : lim 9 = 18446744073709551616 := rfl
theorem numG_small {f n : Nat} (h : n < 128) : numG f n = [UInt8.ofNat n] := by
  cases f with
  | zero => rfl
  | succ f => unfold numG; rw [if_pos h]
theorem numG_big {f n : Nat} (h : 128 ≤ n) : numG (f + 1) n = UInt8.ofNat (n % 128 + 128) :: numG f (n / 128) := by
  rw [numG, if_neg (by omega)]
theorem numG_length (f : Nat) : ∀ n, 1 ≤ (numG f n).length ∧ (numG f n).length ≤ f + 1 := by
  induction f with
  | zero => intro n; simp [numG]
  | succ f ih =>
    intro n
    by_cases h : n < 128
    · rw [numG_small h]; simp
    · rw [numG_big (by omega)]
      have := ih (n / 128)
      simp only [List.length_cons]
      omega
theorem num_length (n : Nat) : 1 ≤ (num n).length ∧ (num n).length ≤ 10 := numG_length 9 n
def rd : Nat → Nat → Bs → Nat × Nat × Nat
  | _, _, [] => (0, 0, 20)
  | i, acc, c :: r =>
    if (i = 9 ∧ 1 < c.toNat) ∨ (0 < i ∧ c.toNat = 0) then (0, 0, 22)
    else if c.toNat < 128 then (acc + c.toNat * 128 ^ i, i + 1, 0)
    else rd (i + 1) (acc + (c.toNat - 128) * 128 ^ i) r
theorem rd_bad {i acc : Nat} {c : UInt8} {r : Bs} (h : (i = 9 ∧ 1 < c.toNat) ∨ (0 < i ∧ c.toNat = 0)) : rd i acc (c :: r) = (0, 0, 22) := by
  rw [rd, if_pos h]
theorem rd_last {i acc : Nat} {c : UInt8} {r : Bs} (h : ¬ ((i = 9 ∧ 1 < c.toNat) ∨ (0 < i ∧ c.toNat = 0))) (hc : c.toNat < 128) : rd i acc (c :: r) = (acc + c.toNat * 128 ^ i, i + 1, 0) := by
  rw [rd, if_neg h, if_pos hc]
theorem rd_more {i acc : Nat} {c : UInt8} {r : Bs} (h : ¬ ((i = 9 ∧ 1 < c.toNat) ∨ (0 < i ∧ c.toNat = 0))) (hc : 128 ≤ c.toNat) : rd i acc (c :: r) = rd (i + 1) (acc + (c.toNat - 128) * 128 ^ i) r := by
  rw [rd, if_neg h, if_neg (by omega)]
/-- what is told is zero beside an error; else it is within the bytes -/
theorem rd_ok : ∀ (l : Bs) (i acc : Nat), acc < 128 ^ i → i ≤ 9 →
    (rd i acc l).1 < 18446744073709551616 ∧ ((rd i acc l).2.2 ≠ 0 → (rd i acc l).1 = 0 ∧ (rd i acc l).2.1 = 0) ∧ ((rd i acc l).2.2 = 0 → i < (rd i acc l).2.1 ∧ (rd i acc l).2.1 ≤ i + l.length) ∧ (rd i acc l).2.1 ≤ 10 ∧
      ((rd i acc l).2.2 = 0 ∨ (rd i acc l).2.2 = 20 ∨ (rd i acc l).2.2 = 22)
  | [], i, acc, _, _ => by simp [rd]
  | c :: r, i, acc, ha, hi => by
    have hc := c.toNat_lt
    have hp : 128 ^ i ≤ 128 ^ 9 := Nat.pow_le_pow_right (by decide) hi
    have e9 : 128 ^ 9 = 9223372036854775808 := rfl
    by_cases hb : (i = 9 ∧ 1 < c.toNat) ∨ (0 < i ∧ c.toNat = 0)
    · rw [rd_bad hb]; simp
    · by_cases h128 : c.toNat < 128
      · rw [rd_last hb h128]
        refine ⟨?_, by simp, fun _ => ⟨by simp, by simp⟩, by show i + 1 ≤ 10; omega, .inl rfl⟩
        show acc + c.toNat * 128 ^ i < _
        by_cases h9 : i = 9
        · subst h9
          have : c.toNat ≤ 1 := by omega
          have := Nat.mul_le_mul_right (128 ^ 9) this
          omega
        · have hp8 : 128 ^ i ≤ 128 ^ 8 := Nat.pow_le_pow_right (by decide) (by omega)
          have e8 : 128 ^ 8 = 72057594037927936 := rfl
          have := Nat.mul_le_mul (show c.toNat ≤ 127 by omega) hp8
          omega
      · have h9 : i ≠ 9 := by rintro rfl; exact hb (.inl ⟨rfl, by omega⟩)
        rw [rd_more hb (by omega)]
        have hs : 128 ^ (i + 1) = 128 * 128 ^ i := by rw [Nat.pow_succ]; omega
        have hm := Nat.mul_le_mul_right (128 ^ i) (show c.toNat - 128 ≤ 127 by omega)
        obtain ⟨h1, h2, h3, h4, h5⟩ := rd_ok r (i + 1) (acc + (c.toNat - 128) * 128 ^ i) (by omega) (by omega)
        refine ⟨h1, h2, fun h => ?_, h4, h5⟩
        have := h3 h
        simp only [List.length_cons]
        omega
theorem ofNat_small {n : Nat} (h : n < 256) : (UInt8.ofNat n).toNat = n := by
  rw [UInt8.toNat_ofNat']
  omega
/-- a number's bytes are read as it, whatever stands behind -/
theorem rd_numG (r : Bs) (f : Nat) : ∀ (i acc m : Nat), i + f = 9 → m < lim f → (i = 0 ∨ 0 < m) → rd i acc (numG f m ++ r) = (acc + m * 128 ^ i, i + (numG f m).length, 0) := by
  induction f with
  | zero =>
    intro i acc m hi hm h0
    rw [lim_zero] at hm
    have e := ofNat_small (n := m) (by omega)
    rw [numG_small (by omega)]
    show rd i acc (UInt8.ofNat m :: r) = _
    rw [rd_last (by rw [e]; omega) (by rw [e]; omega), e]
    rfl
  | succ f ih =>
    intro i acc m hi hm h0
    rw [lim_succ] at hm
    by_cases h : m < 128
    · have e := ofNat_small (n := m) (by omega)
      rw [numG_small h]
      show rd i acc (UInt8.ofNat m :: r) = _
      rw [rd_last (by rw [e]; omega) (by rw [e]; omega), e]
      rfl
    · have e := ofNat_small (n := m % 128 + 128) (by omega)
      rw [numG_big (by omega)]
      show rd i acc (UInt8.ofNat (m % 128 + 128) :: (numG f (m / 128) ++ r)) = _
      rw [rd_more (by rw [e]; omega) (by rw [e]; omega), e, ih (i + 1) _ (m / 128) (by omega) (by omega) (by omega)]
      have hs : m / 128 * 128 ^ (i + 1) = 128 * (m / 128) * 128 ^ i := by rw [Nat.pow_succ]; rw [Nat.mul_comm (128 ^ i) 128, ← Nat.mul_assoc, Nat.mul_comm (m / 128) 128]
      have hm2 : m * 128 ^ i = m % 128 * 128 ^ i + 128 * (m / 128) * 128 ^ i := by
        rw [← Nat.add_mul]
        congr 1
        omega
      rw [hs, hm2, Nat.add_sub_cancel]
      simp only [List.length_cons, Prod.mk.injEq, and_true]
      omega
theorem rd_num {n : Nat} (h : n < 18446744073709551616) (r : Bs) : rd 0 0 (num n ++ r) = (n, (num n).length, 0) := by
  have := rd_numG r 9 0 0 n (by rfl) (by rw [lim_nine]; exact h) (.inl rfl)
  rw [num, this]
  simp
/-- a number's bytes cut short are short -/
theorem rd_cutG (f : Nat) : ∀ (i acc m k : Nat), i + f = 9 → m < lim f → k < (numG f m).length → rd i acc ((numG f m).take k) = (0, 0, 20) := by
  induction f with
  | zero =>
    intro i acc m k _ hm hk
    rw [lim_zero] at hm
    rw [numG_small (by omega)] at hk ⊢
    simp only [List.length_singleton] at hk
    obtain rfl : k = 0 := by omega
    rfl
  | succ f ih =>
    intro i acc m k hi hm hk
    rw [lim_succ] at hm
    by_cases h : m < 128
    · rw [numG_small h] at hk ⊢
      simp only [List.length_singleton] at hk
      obtain rfl : k = 0 := by omega
      rfl
    · have e := ofNat_small (n := m % 128 + 128) (by omega)
      rw [numG_big (by omega)] at hk ⊢
      cases k with
      | zero => rfl
      | succ k =>
        rw [List.take_succ_cons, rd_more (by rw [e]; omega) (by rw [e]; omega), e]
        exact ih (i + 1) _ (m / 128) k (by omega) (by omega) (by simpa using hk)
theorem rd_cut {n k : Nat} (h : n < 18446744073709551616) (hk : k < (num n).length) : rd 0 0 ((num n).take k) = (0, 0, 20) :=
  rd_cutG 9 0 0 n k (by rfl) (by rw [lim_nine]; exact h) hk

/- What text stands at the head of bytes: the text, how many bytes, the error. -/
def first (l : Bs) (n : Nat) (most : Int) : Bs × Nat := if most < 0 ∨ most < n then ([], 22) else if l.length < n then ([], 20) else (l.take n, 0)
def rdText (l : Bs) (most : Int) : Bs × Nat × Nat :=
  if (rd 0 0 l).2.2 ≠ 0 then ([], 0, (rd 0 0 l).2.2)
  else if (first (l.drop (rd 0 0 l).2.1) (rd 0 0 l).1 most).2 ≠ 0 then ([], 0, (first (l.drop (rd 0 0 l).2.1) (rd 0 0 l).1 most).2)
  else ((l.drop (rd 0 0 l).2.1).take (rd 0 0 l).1, (rd 0 0 l).2.1 + (rd 0 0 l).1, 0)
/-- the bytes of a text -/
def text (l : Bs) : Bs := num l.length ++ l
theorem rdText_text {l : Bs} (h : l.length < 18446744073709551616) (r : Bs) : rdText (text l ++ r) l.length = (l, (text l).length, 0) := by
  unfold rdText text
  rw [List.append_assoc, rd_num h, List.drop_left]
  simp only [ne_eq, not_true_eq_false, if_false]
  have e : first (l ++ r) l.length l.length = ((l ++ r).take l.length, 0) := by
    unfold first
    rw [if_neg (by omega), if_neg (by simp)]
  rw [e]
  simp only [not_true_eq_false, if_false, List.take_left, List.length_append]
theorem first_ok {l : Bs} {n : Nat} {most : Int} (h : (first l n most).2 = 0) : 0 ≤ most ∧ n ≤ most ∧ n ≤ l.length ∧ (first l n most).1 = l.take n := by
  unfold first at h ⊢
  by_cases h1 : most < 0 ∨ most < n
  · rw [if_pos h1] at h; simp at h
  · rw [if_neg h1] at h ⊢
    by_cases h2 : l.length < n
    · rw [if_pos h2] at h; simp at h
    · rw [if_neg h2]
      exact ⟨by omega, by omega, by omega, rfl⟩
end Go.Proofs.Ytnkknlhdbhfjlaa.O
