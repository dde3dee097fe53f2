/-
  PLAIN MATHEMATICS: the checksum is linear and loses nothing; frames; a frame that is changed within 32 bits.
-/
import Derived.Test.YtjjjbjepgieahaaPlain
namespace Go.Proofs.Ytjjjbjepgieahaa

def poly : Nat := 3988292384
/-- one step of the checksum, of a number of any size -/
def stp (s : Nat) : Nat := if s % 2 = 1 then s / 2 ^^^ poly else s / 2
def stps : Nat → Nat → Nat
  | 0, s => s
  | k + 1, s => stps k (stp s)
/-- a byte more -/
def crcB (s : Nat) (c : UInt8) : Nat := stps 8 (s ^^^ c.toNat)
def crcL (s : Nat) (l : Bs) : Nat := l.foldl crcB s
def sum (l : Bs) : Nat := 4294967295 - crcL 4294967295 l

theorem xor_left (a b c : Nat) : a ^^^ (b ^^^ c) = b ^^^ (a ^^^ c) := by rw [← Nat.xor_assoc, Nat.xor_comm a b, Nat.xor_assoc]
theorem xor_twice (a b : Nat) : a ^^^ (a ^^^ b) = b := by rw [← Nat.xor_assoc, Nat.xor_self, Nat.zero_xor]
theorem xor_mod2 (a b : Nat) : (a ^^^ b) % 2 = (a % 2 + b % 2) % 2 := by
  have h : (a ^^^ b) % 2 ^ 1 = (a % 2 ^ 1) ^^^ (b % 2 ^ 1) := Nat.xor_mod_two_pow
  have ha : a % 2 = 0 ∨ a % 2 = 1 := by omega
  have hb : b % 2 = 0 ∨ b % 2 = 1 := by omega
  rw [show 2 ^ 1 = 2 from rfl] at h
  rcases ha with ha | ha <;> rcases hb with hb | hb <;> rw [ha, hb] at h ⊢ <;> rw [h] <;> rfl
theorem xor_div2 (a b : Nat) : (a ^^^ b) / 2 = a / 2 ^^^ b / 2 := Nat.xor_div_two
theorem stp_xor (a b : Nat) : stp (a ^^^ b) = stp a ^^^ stp b := by
  unfold stp
  rw [xor_mod2, xor_div2]
  have ha : a % 2 = 0 ∨ a % 2 = 1 := by omega
  have hb : b % 2 = 0 ∨ b % 2 = 1 := by omega
  rcases ha with ha | ha <;> rcases hb with hb | hb <;> rw [ha, hb] <;> simp [Nat.xor_comm, xor_left, xor_twice]
theorem stps_xor : ∀ (k a b : Nat), stps k (a ^^^ b) = stps k a ^^^ stps k b
  | 0, _, _ => rfl
  | k + 1, a, b => by rw [stps, stps, stps, stp_xor, stps_xor k]
theorem stps_add : ∀ (j k s : Nat), stps (j + k) s = stps k (stps j s)
  | 0, k, s => by rw [Nat.zero_add]; rfl
  | j + 1, k, s => by rw [Nat.add_right_comm, stps, stps, stps_add j k]
theorem stps_zero : ∀ k : Nat, stps k 0 = 0
  | 0 => rfl
  | k + 1 => stps_zero k
theorem stp_even (a : Nat) : stp (2 * a) = a := by
  unfold stp
  rw [if_neg (by omega)]
  omega
theorem stps_shift : ∀ (k a : Nat), stps k (2 ^ k * a) = a
  | 0, a => by simp [stps]
  | k + 1, a => by
    have e : 2 ^ (k + 1) * a = 2 * (2 ^ k * a) := by rw [Nat.pow_succ, Nat.mul_comm (2 ^ k) 2, Nat.mul_assoc]
    rw [stps, e, stp_even, stps_shift k]
theorem lim32 : 2 ^ 32 = 4294967296 := by decide
theorem stp_lt {s : Nat} (h : s < 4294967296) : stp s < 4294967296 := by
  unfold stp
  split
  · have := Nat.xor_lt_two_pow (n := 32) (x := s / 2) (y := poly) (by rw [lim32]; omega) (by rw [lim32]; decide)
    rw [lim32] at this
    exact this
  · omega
theorem stps_lt : ∀ (k : Nat) {s : Nat}, s < 4294967296 → stps k s < 4294967296
  | 0, _, h => h
  | k + 1, _, h => stps_lt k (stp_lt h)
theorem xor_self_zero {a b : Nat} (h : a ^^^ b = 0) : a = b := by
  have h2 : (a ^^^ b) ^^^ b = a := by rw [Nat.xor_assoc, Nat.xor_self, Nat.xor_zero]
  rw [h, Nat.zero_xor] at h2
  exact h2.symm
theorem stp_ne {s : Nat} (h : s < 4294967296) (h0 : s ≠ 0) : stp s ≠ 0 := by
  unfold stp
  split
  · intro e
    have e2 := xor_self_zero e
    have : poly = 3988292384 := rfl
    omega
  · omega
theorem stps_ne : ∀ (k : Nat) {s : Nat}, s < 4294967296 → s ≠ 0 → stps k s ≠ 0
  | 0, _, _, h => h
  | k + 1, _, h, h0 => stps_ne k (stp_lt h) (stp_ne h h0)

theorem byte_lt (c : UInt8) : c.toNat < 4294967296 := by have := c.toNat_lt; omega
theorem xor_lt {a b : Nat} (ha : a < 4294967296) (hb : b < 4294967296) : a ^^^ b < 4294967296 := by
  have := Nat.xor_lt_two_pow (n := 32) (x := a) (y := b) (by rw [lim32]; exact ha) (by rw [lim32]; exact hb)
  rw [lim32] at this
  exact this
theorem crcB_lt {s : Nat} (c : UInt8) (h : s < 4294967296) : crcB s c < 4294967296 := stps_lt 8 (xor_lt h (byte_lt c))
theorem crcL_lt : ∀ (l : Bs) {s : Nat}, s < 4294967296 → crcL s l < 4294967296
  | [], _, h => h
  | c :: r, _, h => crcL_lt r (crcB_lt c h)
theorem crcL_append (s : Nat) (l m : Bs) : crcL s (l ++ m) = crcL (crcL s l) m := List.foldl_append ..
theorem crcL_snoc (s : Nat) (l : Bs) (c : UInt8) : crcL s (l ++ [c]) = crcB (crcL s l) c := crcL_append s l [c]
theorem sum_lt (l : Bs) : sum l < 4294967296 := by unfold sum; omega

/-- bytes changed: byte j by the j-th byte of a number -/
def flip : Bs → Nat → Bs
  | [], _ => []
  | c :: r, t => UInt8.ofNat (c.toNat ^^^ t % 256) :: flip r (t / 256)
theorem flip_length : ∀ (l : Bs) (t : Nat), (flip l t).length = l.length
  | [], _ => rfl
  | _ :: r, t => by simp [flip, flip_length r]
theorem flip_toNat (c : UInt8) (t : Nat) : (UInt8.ofNat (c.toNat ^^^ t % 256)).toNat = c.toNat ^^^ t % 256 := by
  have h : c.toNat ^^^ t % 256 < 2 ^ 8 := Nat.xor_lt_two_pow (by have := c.toNat_lt; simpa using this) (by omega)
  rw [UInt8.toNat_ofNat']
  omega
theorem flip_zero : ∀ l : Bs, flip l 0 = l
  | [] => rfl
  | c :: r => by
    have e : UInt8.ofNat (c.toNat ^^^ 0 % 256) = c := by
      apply UInt8.toNat_inj.1
      rw [flip_toNat]
      simp
    rw [flip, e, Nat.zero_div, flip_zero r]
theorem split_byte (t : Nat) : t = t % 256 ^^^ 256 * (t / 256) := by
  have h : 256 * (t / 256) ||| t % 256 = 256 * (t / 256) + t % 256 := (Nat.two_pow_add_eq_or_of_lt (i := 8) (by omega) (t / 256)).symm
  have h2 : (t % 256) ^^^ (256 * (t / 256)) = (t % 256) ||| (256 * (t / 256)) := by
    apply Nat.eq_of_testBit_eq
    intro i
    rw [Nat.testBit_xor, Nat.testBit_or]
    by_cases hi : i < 8
    · have e : (256 * (t / 256)).testBit i = false := by
        rw [show 256 * (t / 256) = 2 ^ 8 * (t / 256) from rfl, Nat.testBit_two_pow_mul]
        simp
        omega
      rw [e]
      simp
    · have e : (t % 256).testBit i = false := by
        apply Nat.testBit_lt_two_pow
        exact Nat.lt_of_lt_of_le (show t % 256 < 2 ^ 8 by omega) (Nat.pow_le_pow_right (by decide) (by omega))
      rw [e]
      simp
  rw [h2, Nat.or_comm, h]
  omega
/-- the checksum of changed bytes: the change goes through on its own, all of it as one number -/
theorem crcL_flip : ∀ (l : Bs) (s t d : Nat), t < 256 ^ l.length → crcL (s ^^^ d) (flip l t) = crcL s l ^^^ stps (8 * l.length) (d ^^^ t)
  | [], s, t, d, h => by
    have : t = 0 := by simpa using h
    subst this
    simp [crcL, flip, stps]
  | c :: r, s, t, d, h => by
    have ht : t / 256 < 256 ^ r.length := by
      rw [List.length_cons, Nat.pow_succ] at h
      exact Nat.div_lt_of_lt_mul (by rw [Nat.mul_comm]; exact h)
    show crcL (crcB (s ^^^ d) (UInt8.ofNat (c.toNat ^^^ t % 256))) (flip r (t / 256)) = crcL (crcB s c) r ^^^ _
    have e1 : crcB (s ^^^ d) (UInt8.ofNat (c.toNat ^^^ t % 256)) = crcB s c ^^^ stps 8 (d ^^^ t % 256) := by
      unfold crcB
      rw [flip_toNat, ← stps_xor]
      congr 1
      simp only [Nat.xor_assoc, xor_left, Nat.xor_comm]
    rw [e1, crcL_flip r (crcB s c) (t / 256) (stps 8 (d ^^^ t % 256)) ht]
    congr 1
    have e2 : stps 8 (d ^^^ t) = stps 8 (d ^^^ t % 256) ^^^ t / 256 := by
      have e3 : d ^^^ t = (d ^^^ t % 256) ^^^ 256 * (t / 256) := by
        rw [Nat.xor_assoc, ← split_byte t]
      have e4 := stps_shift 8 (t / 256)
      rw [e3, stps_xor]
      rw [show 256 * (t / 256) = 2 ^ 8 * (t / 256) from rfl, e4]
    rw [List.length_cons, Nat.mul_add, Nat.add_comm (8 * r.length), stps_add, e2]
/-- what is changed within 32 bits has another checksum -/
theorem crc_burst (s : Nat) (l : Bs) (E p : Nat) (hE : E < 4294967296) (h0 : E ≠ 0) (hp : p ≤ 8 * l.length) (ht : 2 ^ p * E < 256 ^ l.length) : crcL s (flip l (2 ^ p * E)) ≠ crcL s l := by
  intro h
  have e := crcL_flip l s (2 ^ p * E) 0 ht
  rw [Nat.xor_zero, Nat.zero_xor, h] at e
  have e2 : stps (8 * l.length) (2 ^ p * E) = 0 := by
    have : (crcL s l ^^^ crcL s l) = crcL s l ^^^ (crcL s l ^^^ stps (8 * l.length) (2 ^ p * E)) := by rw [← e]
    rw [Nat.xor_self, ← Nat.xor_assoc, Nat.xor_self, Nat.zero_xor] at this
    exact this.symm
  obtain ⟨k, hk⟩ : ∃ k, 8 * l.length = p + k := ⟨8 * l.length - p, by omega⟩
  rw [hk, stps_add, stps_shift] at e2
  exact stps_ne k hE h0 e2
theorem sum_ne {l m : Bs} (h : crcL 4294967295 l ≠ crcL 4294967295 m) : sum l ≠ sum m := by
  have h1 := crcL_lt l (s := 4294967295) (by decide)
  have h2 := crcL_lt m (s := 4294967295) (by decide)
  unfold sum
  omega
end Go.Proofs.Ytjjjbjepgieahaa
