/-
  THE CHECKSUM's STEPS AND SMALL FUNCTIONS, BY CONTRACT: sumWith, first; words for memory.
-/
import Derived.Test.YtjjjbjepgieahaaFrm
import Derived.WalkKit
import Derived.ProofKit
import Derived.Outline
import Derived.IntWalk
import Derived.BigQuiet
import Derived.BigCall
import Derived.BigGuard
import Derived.Deep.QuietTactic
import Derived.Lib.Hide
import Derived.Lib.Strings
import Derived.Laws.BitsAllLaws
namespace Go.Proofs.Ytjjjbjepgieahaa
open Go.RowKit

theorem ret_int {k : IntKind} {a b : Int} (h : a = b) : Ending.returned (.int k a) = .returned (.int k b) := by rw [h]
theorem ret_bool {a b : Bool} (h : a = b) : Ending.returned (.bool a) = .returned (.bool b) := by rw [h]
theorem below_drewN (B : Nat) (w : World) (n : Nat) : Below B w (w.drewN n) := by
  cases n <;> exact ⟨rfl, rfl, rfl, Nat.le_refl _, fun _ _ => rfl⟩
/-- a byte as a value -/
def bv (b : UInt8) : Value := .int .u8 b.toNat

theorem and_one (m : Nat) (h : m < 4294967296) : bits .and .u32 (m : Int) 1 = (m : Int) % 2 := by
  rw [show (1 : Int) = ((1 : Nat) : Int) from rfl, u32_and_nat m 1 h (by decide), nat_mask1]
  omega
theorem xor_byte (s : Nat) (c : UInt8) (h : s < 4294967296) : bits .xor .u32 (s : Int) (c.toNat : Int) = ((s ^^^ c.toNat : Nat) : Int) := u32_xor_nat s c.toNat h (byte_lt c)
theorem xor_poly (m : Nat) (h : m < 4294967296) : bits .xor .u32 ((m : Int) / 2) 3988292384 = ((m / 2 ^^^ poly : Nat) : Int) := by
  have := u32_xor_nat (m / 2) poly (by omega) (by decide)
  rw [← this]
  congr 1
theorem stp_one {m : Nat} (h : m % 2 = 1) : stp m = m / 2 ^^^ poly := by unfold stp; rw [if_pos h]
theorem stp_none {m : Nat} (h : ¬ m % 2 = 1) : stp m = m / 2 := by unfold stp; rw [if_neg h]
theorem stps_step {m k : Nat} (h : k < 8) : stps (8 - k) m = stps (8 - (k + 1)) (stp m) := by
  rw [show 8 - k = (8 - (k + 1)) + 1 by omega]
  rfl

set_option maxHeartbeats 400000 in
theorem sumWith_any (s : Nat) (c : UInt8) (w : World) (hs : s < 4294967296) :
    Calls Try.prog 33 #[.int .u32 s, .int .u8 c.toNat] w fun e w' => e = .returned (.int .u32 (crcB s c : Nat)) ∧ w = w' := by
  have hc := c.toNat_lt
  have hx := xor_byte s c hs
  have hm := xor_lt hs (byte_lt c)
  have HG : Hid (crcB s c = stps (8 - 0) (s ^^^ c.toNat)) := Lib.hid rfl
  go_enter Try.func33, Try.ntmps33
  generalize s ^^^ c.toNat = m0 at *
  generalize crcB s c = res at *
  go_wp2
  clear hx hs hc
  go_loop [0, 10] (fun v i => ∃ k m : Nat, k ≤ 8 ∧ i = .int .i64 k ∧ v = .int .u32 m ∧ m < 4294967296 ∧ Hid (res = stps (8 - k) m))
    (fun _ i => 8 - (intOf i).toNat)
  case atStart => exact ⟨0, m0, by omega, rfl, rfl, hm, HG⟩
  case round =>
    obtain ⟨k, m, hk, rfl, rfl, hm1, hr⟩ := hrel
    clear hm
    have ha := and_one m hm1
    have hp := xor_poly m hm1
    have hl := stp_lt hm1
    by_cases hlt : k < 8
    · by_cases h1 : m % 2 = 1
      · have HR : Hid (res = stps (8 - (k + 1)) (stp m)) := hr.out.trans (stps_step hlt)
        rw [stp_one h1] at HR hl
        have b1 : ((m : Int) % 2 == 1) = true := by rw [beq_iff_eq]; omega
        clear h1
        go_wp2
        go_round
        case rel => exact ⟨k + 1, m / 2 ^^^ poly, by omega, by go_num, rfl, hl, HR⟩
        case measure => simp [intOf]; omega
      · have HR : Hid (res = stps (8 - (k + 1)) (stp m)) := hr.out.trans (stps_step hlt)
        rw [stp_none h1] at HR hl
        have b1 : ((m : Int) % 2 == 1) = false := by rw [beq_eq_false_iff_ne]; omega
        clear h1
        go_wp2
        go_round
        case rel => exact ⟨k + 1, m / 2, by omega, by go_num, by go_num, hl, HR⟩
        case measure => simp [intOf]; omega
    · obtain rfl : k = 8 := by omega
      go_wp2
      go_ret
      exact ⟨ret_int (by rw [hr.out]; rfl), rfl⟩
end Go.Proofs.Ytjjjbjepgieahaa
