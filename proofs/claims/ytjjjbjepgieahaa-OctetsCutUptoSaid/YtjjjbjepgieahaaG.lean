/-
  ReadNum, the package's and the reference's, by contract.
-/
import Derived.Test.YtjjjbjepgieahaaF
namespace Go.Proofs.Ytjjjbjepgieahaa
open Go.RowKit

/-- what ReadNum answers -/
def rdV (r : Nat × Nat × Nat) : Value := .tuple #[.int .u64 r.1, .int .i64 r.2.1, .int .i64 r.2.2]
theorem pow_seven (k : Nat) : 2 ^ (7 * k) = 128 ^ k := by rw [Nat.pow_mul]
theorem or_group {acc k c x : Nat} (ha : acc < 128 ^ k) (hk : k ≤ 9) (hc : c < 256) (h9 : k = 9 → c ≤ 1) (hx : x = acc + c % 128 * 128 ^ k) :
    bits .or .u64 (acc : Int) (IntKind.u64.wrap ((c : Int) % 128 * 2 ^ (7 * k))) = (x : Int) := by
  have hlt : acc < 18446744073709551616 ∧ c % 128 * 128 ^ k < 18446744073709551616 := by
    by_cases h : k = 9
    · have e9 : 128 ^ 9 = 9223372036854775808 := rfl
      subst h
      have := h9 rfl
      have := Nat.mul_le_mul_right (128 ^ 9) (show c % 128 ≤ 1 by omega)
      omega
    · have e8 : 128 ^ 8 = 72057594037927936 := rfl
      have hp8 : 128 ^ k ≤ 128 ^ 8 := Nat.pow_le_pow_right (by decide) (by omega)
      have := Nat.mul_le_mul (show c % 128 ≤ 127 by omega) hp8
      omega
  have e : ((c : Int) % 128 * 2 ^ (7 * k)) = ((c % 128 * 128 ^ k : Nat) : Int) := by
    rw [← pow_seven]
    simp
  have e2 : IntKind.u64.wrap ((c % 128 * 128 ^ k : Nat) : Int) = ((c % 128 * 128 ^ k : Nat) : Int) := by
    rw [IntKind.wrap_u64]
    generalize c % 128 * 128 ^ k = y at *
    omega
  rw [e, e2, u64_or_nat _ _ hlt.1 hlt.2, Nat.or_comm, nat_join (7 * k) _ _ (by rw [pow_seven, Nat.mul_mod_left]) (by rw [pow_seven]; exact ha), hx, Nat.add_comm]
theorem group_lt {acc k c : Nat} (ha : acc < 128 ^ k) (hc : c < 256) : acc + (c - 128) * 128 ^ k < 128 ^ (k + 1) := by
  have hs : 128 ^ (k + 1) = 128 * 128 ^ k := by rw [Nat.pow_succ]; omega
  have hm := Nat.mul_le_mul_right (128 ^ k) (show c - 128 ≤ 127 by omega)
  omega
set_option maxRecDepth 4000 in
set_option maxHeartbeats 1000000 in
theorem readNum_any (A : Option Addr) (l : Bs) (c : Nat) (w : World) (h : Byt w A l) (hl : l.length ≤ 9223372036854775807) :
    Calls Try.prog 16 #[.slice A l.length c] w fun e w' => e = .returned (rdV (rd 0 0 l)) ∧ w = w' := by
  have HY := Lib.hid h
  clear h
  go_enter Try.func16, Try.ntmps16
  go_wp2
  go_loop [5, 12] (fun v i => ∃ k acc : Nat, k ≤ l.length ∧ k ≤ 9 ∧ i = .int .i64 k ∧ v = .int .u64 acc ∧ Hid (acc < 128 ^ k) ∧ Hid (rd 0 0 l = rd k acc (l.drop k)))
    (fun _ i => l.length - (intOf i).toNat)
  case atStart => exact ⟨0, 0, by omega, by omega, rfl, rfl, Lib.hid (by decide), rfl⟩
  case round =>
    obtain ⟨k, acc, hk, hk9, rfl, rfl, ha, hr⟩ := hrel
    by_cases hlt : k < l.length
    · obtain ⟨b, o, hA, hcell⟩ := HY.out.at_ hlt
      have hd : Hid (l.drop k = l[k] :: l.drop (k + 1)) := List.drop_eq_getElem_cons hlt
      rw [hA] at *
      generalize l[k] = ch at *
      have hc := ch.toNat_lt
      have e7 : IntKind.i64.wrap (7 * (k : Int)) = 7 * (k : Int) := IntWalk.i64_in _ (by omega)
      by_cases hbad : (k = 9 ∧ 1 < ch.toNat) ∨ (0 < k ∧ ch.toNat = 0)
      · have HR : Hid (rdV (rd 0 0 l) = .tuple #[.int .u64 0, .int .i64 0, .int .i64 22]) := by
          rw [hr.out, hd.out, rd_bad hbad]
          exact Lib.hid rfl
        rcases hbad with ⟨h9, h1⟩ | ⟨h0, hz⟩
        · have b9 : ((k : Int) == 9) = true := by rw [beq_iff_eq]; omega
          have h0 : 0 < k := by omega
          have bz : ((ch.toNat : Int) == 0) = false := by rw [beq_eq_false_iff_ne]; omega
          clear h9
          go_wp2
          go_ret3
          exact ⟨by rw [HR.out]; rfl, rfl⟩
        · have bz : ((ch.toNat : Int) == 0) = true := by rw [beq_iff_eq]; omega
          have hz1 : ch.toNat ≤ 0 := by omega
          clear hz
          by_cases h9 : k = 9
          · have b9 : ((k : Int) == 9) = true := by rw [beq_iff_eq]; omega
            clear h9
            go_wp2
            go_ret3
            exact ⟨by rw [HR.out]; rfl, rfl⟩
          · have b9 : ((k : Int) == 9) = false := by rw [beq_eq_false_iff_ne]; omega
            clear h9
            go_wp2
            go_ret3
            exact ⟨by rw [HR.out]; rfl, rfl⟩
      · have hcase : ((((k : Int) == 9) = true ∧ 0 < k ∧ ch.toNat ≤ 1 ∧ ((ch.toNat : Int) == 0) = false) ∨ (((k : Int) == 9) = false ∧ k ≤ 0)) ∨ (((k : Int) == 9) = false ∧ 0 < k ∧ ((ch.toNat : Int) == 0) = false) := by
          by_cases h9 : k = 9
          · refine .inl (.inl ⟨by rw [beq_iff_eq]; omega, by omega, by omega, by rw [beq_eq_false_iff_ne]; omega⟩)
          · by_cases h0 : k = 0
            · exact .inl (.inr ⟨by rw [beq_eq_false_iff_ne]; omega, by omega⟩)
            · exact .inr ⟨by rw [beq_eq_false_iff_ne]; omega, by omega, by rw [beq_eq_false_iff_ne]; omega⟩
        by_cases h128 : ch.toNat < 128
        · have HR : Hid (rdV (rd 0 0 l) = .tuple #[.int .u64 (acc + ch.toNat * 128 ^ k : Nat), .int .i64 (k + 1 : Nat), .int .i64 0]) := by
            rw [hr.out, hd.out, rd_last hbad h128]
            exact Lib.hid rfl
          have HO := Lib.hid (or_group (c := ch.toNat) (x := acc + ch.toNat * 128 ^ k) ha.out hk9 hc (fun h => by omega) (by rw [Nat.mod_eq_of_lt h128]))
          clear hbad
          rcases hcase with (⟨b9, h0, h1, bz⟩ | ⟨b9, h0⟩) | ⟨b9, h0, bz⟩
          all_goals
            go_wp2
            go_ret3
            exact ⟨by rw [HR.out, HO.out]; rfl, rfl⟩
        · have hge : 128 ≤ ch.toNat := by omega
          have HR : Hid (rd 0 0 l = rd (k + 1) (acc + (ch.toNat - 128) * 128 ^ k) (l.drop (k + 1))) := by
            rw [hr.out, hd.out, rd_more hbad hge]
            exact Lib.hid rfl
          have HO := Lib.hid (or_group (c := ch.toNat) (x := acc + (ch.toNat - 128) * 128 ^ k) ha.out hk9 hc (fun h => by omega) (by rw [show ch.toNat % 128 = ch.toNat - 128 by omega]))
          have HL := Lib.hid (group_lt ha.out hc)
          have hk8 : k ≤ 8 := by omega
          clear hbad
          rcases hcase with (⟨b9, h0, h1, bz⟩ | ⟨b9, h0⟩) | ⟨b9, h0, bz⟩
          · omega
          all_goals
            go_wp2
            go_round
            case rel => exact ⟨k + 1, acc + (ch.toNat - 128) * 128 ^ k, by omega, by omega, by go_num, by rw [HO.out], HL, HR⟩
            case measure => simp [intOf]; omega
    · have HR : Hid (rdV (rd 0 0 l) = .tuple #[.int .u64 0, .int .i64 0, .int .i64 20]) := by
        rw [hr.out, List.drop_eq_nil_of_le (by omega)]
        exact Lib.hid rfl
      go_wp2
      go_ret3
      exact ⟨by rw [HR.out]; rfl, rfl⟩
end Go.Proofs.Ytjjjbjepgieahaa
