/-
  PLAIN MATHEMATICS: bits flipped one by one, and on which side of the first eight bytes they lie.
-/
import Derived.Test.YtjjjbjepgieahaaFrm
namespace Go.Proofs.Ytjjjbjepgieahaa

theorem xor_disjoint {T q : Nat} (h : T < 2 ^ q) : T ^^^ 2 ^ q = T + 2 ^ q := by
  apply Nat.eq_of_testBit_eq
  intro i
  rw [Nat.testBit_xor, Nat.add_comm]
  have h2 := Nat.testBit_two_pow_mul_add 1 h (j := i)
  rw [Nat.mul_one] at h2
  rw [h2]
  by_cases hi : i < q
  · rw [if_pos hi, Nat.testBit_two_pow]
    have : decide (q = i) = false := by simp; omega
    rw [this, Bool.xor_false]
  · rw [if_neg hi]
    have e : T.testBit i = false := Nat.testBit_lt_two_pow (Nat.lt_of_lt_of_le h (Nat.pow_le_pow_right (by decide) (by omega)))
    rw [e, Bool.false_xor, Nat.testBit_two_pow]
    by_cases hq : q = i
    · subst hq
      simp
    · have : i - q ≠ 0 := by omega
      rw [decide_eq_false hq]
      rcases hx : i - q with _ | x
      · omega
      · rw [Nat.testBit_succ]
        simp
theorem flip_getElem (l : Bs) : ∀ (T p : Nat) (h : p < l.length), (flip l T)[p]'(by rw [flip_length]; exact h) = UInt8.ofNat ((l[p]).toNat ^^^ T / 256 ^ p % 256) := by
  induction l with
  | nil => intro T p h; simp at h
  | cons c r ih =>
    intro T p h
    cases p with
    | zero => simp [flip]
    | succ p =>
      have h2 := ih (T / 256) p (by simpa using h)
      simp only [flip, List.getElem_cons_succ]
      rw [h2, Nat.div_div_eq_div_mul, Nat.pow_succ, Nat.mul_comm 256]
theorem flip_set : ∀ (l : Bs) (T p q : Nat) (h : p < l.length), q < 8 → T < 2 ^ (8 * p + q) →
    flip l (T + 2 ^ (8 * p + q)) = (flip l T).set p (UInt8.ofNat (((flip l T)[p]'(by rw [flip_length]; exact h)).toNat ^^^ 2 ^ q))
  | [], _, _, _, h, _, _ => by simp at h
  | c :: r, T, 0, q, _, hq, hT => by
    rw [Nat.mul_zero, Nat.zero_add] at hT ⊢
    have h8 : 2 ^ q ≤ 2 ^ 7 := Nat.pow_le_pow_right (by decide) (by omega)
    have e7 : (2 : Nat) ^ 7 = 128 := rfl
    have m1 : (T + 2 ^ q) % 256 = T + 2 ^ q := Nat.mod_eq_of_lt (by omega)
    have m2 : T % 256 = T := Nat.mod_eq_of_lt (by omega)
    have d1 : (T + 2 ^ q) / 256 = 0 := Nat.div_eq_of_lt (by omega)
    have d2 : T / 256 = 0 := Nat.div_eq_of_lt (by omega)
    have e := flip_toNat c T
    rw [m2] at e
    simp only [flip, m1, m2, d1, d2, List.getElem_cons_zero, List.set_cons_zero, e]
    rw [Nat.xor_assoc, xor_disjoint hT]
  | c :: r, T, p + 1, q, h, hq, hT => by
    have hp : 2 ^ (8 * (p + 1) + q) = 256 * 2 ^ (8 * p + q) := by
      rw [show 8 * (p + 1) + q = 8 + (8 * p + q) by omega, Nat.pow_add]
    have m1 : (T + 2 ^ (8 * (p + 1) + q)) % 256 = T % 256 := by rw [hp, Nat.add_mul_mod_self_left]
    have d1 : (T + 2 ^ (8 * (p + 1) + q)) / 256 = T / 256 + 2 ^ (8 * p + q) := by rw [hp, Nat.add_mul_div_left _ _ (by decide)]
    have hT2 : T / 256 < 2 ^ (8 * p + q) := by rw [hp] at hT; omega
    have ih := flip_set r (T / 256) p q (by simpa using h) hq hT2
    simp only [flip, m1, d1, List.getElem_cons_succ, List.set_cons_succ]
    rw [ih]

/-- whether a bit is changed within the first eight bytes, and whether one behind -/
def hdF (bits k i : Nat) : Bool := (List.range i).any fun j => bits.testBit j && decide (k + j < 64)
def rsF (bits k i : Nat) : Bool := (List.range i).any fun j => bits.testBit j && decide (64 ≤ k + j)
theorem hdF_succ (bits k i : Nat) : hdF bits k (i + 1) = (hdF bits k i || (bits.testBit i && decide (k + i < 64))) := by
  simp [hdF, List.range_succ]
theorem rsF_succ (bits k i : Nat) : rsF bits k (i + 1) = (rsF bits k i || (bits.testBit i && decide (64 ≤ k + i))) := by
  simp [rsF, List.range_succ]
theorem bits_high {bits j : Nat} (hb : bits < 2 ^ 32) (hj : 32 ≤ j) : bits.testBit j = false :=
  Nat.testBit_lt_two_pow (Nat.lt_of_lt_of_le hb (Nat.pow_le_pow_right (by decide) hj))
theorem side_low {bits k : Nat} (hb : bits < 2 ^ 32) (h : rsF bits k 32 = false) : 2 ^ k * bits < 2 ^ 64 := by
  apply Nat.lt_pow_two_of_testBit
  intro i hi
  rw [Nat.testBit_two_pow_mul]
  by_cases hk : k ≤ i
  · have e : bits.testBit (i - k) = false := by
      by_cases hj : i - k < 32
      · have h2 := List.any_eq_false.1 h (i - k) (List.mem_range.2 hj)
        have : decide (64 ≤ k + (i - k)) = true := by simp; omega
        rw [this, Bool.and_true] at h2
        simpa using h2
      · exact bits_high hb (by omega)
    rw [e, Bool.and_false]
  · have : decide (i ≥ k) = false := by simp; omega
    rw [this, Bool.false_and]
theorem side_high {bits k : Nat} (hb : bits < 2 ^ 32) (h : hdF bits k 32 = false) : 2 ^ k * bits % 2 ^ 64 = 0 := by
  apply Nat.eq_of_testBit_eq
  intro i
  rw [Nat.testBit_mod_two_pow, Nat.zero_testBit, Nat.testBit_two_pow_mul]
  by_cases h64 : i < 64
  · by_cases hk : k ≤ i
    · have e : bits.testBit (i - k) = false := by
        by_cases hj : i - k < 32
        · have h2 := List.any_eq_false.1 h (i - k) (List.mem_range.2 hj)
          have : decide (k + (i - k) < 64) = true := by simp; omega
          rw [this, Bool.and_true] at h2
          simpa using h2
        · exact bits_high hb (by omega)
      rw [e, Bool.and_false, Bool.and_false]
    · have : decide (i ≥ k) = false := by simp; omega
      rw [this, Bool.false_and, Bool.and_false]
  · rw [decide_eq_false h64, Bool.false_and]
/-- the number of what has been flipped after i steps -/
def upTo (bits k i : Nat) : Nat := 2 ^ k * (bits % 2 ^ i)
theorem upTo_zero (bits k : Nat) : upTo bits k 0 = 0 := by simp [upTo, Nat.mod_one]
theorem upTo_all {bits k : Nat} (hb : bits < 2 ^ 32) : upTo bits k 32 = 2 ^ k * bits := by rw [upTo, Nat.mod_eq_of_lt hb]
theorem bit_div (bits i : Nat) : bits.testBit i = decide (bits / 2 ^ i % 2 = 1) := Nat.testBit_eq_decide_div_mod_eq
theorem upTo_no {bits k i : Nat} (h : bits.testBit i = false) : upTo bits k (i + 1) = upTo bits k i := by
  rw [bit_div] at h
  have h1 : bits / 2 ^ i % 2 = 0 := by
    have := of_decide_eq_false h
    omega
  unfold upTo
  rw [Nat.mod_pow_succ, h1, Nat.mul_zero, Nat.add_zero]
theorem upTo_yes {bits k i : Nat} (h : bits.testBit i = true) : upTo bits k (i + 1) = upTo bits k i + 2 ^ (k + i) := by
  rw [bit_div] at h
  unfold upTo
  rw [Nat.mod_pow_succ, of_decide_eq_true h, Nat.mul_one, Nat.mul_add, Nat.pow_add]
theorem upTo_lt (bits k i : Nat) : upTo bits k i < 2 ^ (k + i) := by
  unfold upTo
  rw [Nat.pow_add]
  exact Nat.mul_lt_mul_of_pos_left (Nat.mod_lt _ (Nat.two_pow_pos _)) (Nat.two_pow_pos _)
end Go.Proofs.Ytjjjbjepgieahaa
