/-
  Laid by wip/prune.py out of wip/octets: G H I J K.
-/
import Derived.Test.YtnkknlhdbhfjlaaOB
namespace Go.Proofs.Ytnkknlhdbhfjlaa.O
open Go.RowKit

/-- what ReadNum answers -/
def rdV (r : Nat × Nat × Nat) : Value := .tuple #[.int .u64 r.1, .int .i64 r.2.1, .int .i64 r.2.2]
theorem pow_seven (k : Nat) : 2 ^ (7 * k) = 128 ^ k := by rw [Nat.pow_mul]
theorem or_group {acc k c x : Nat} (ha : acc < 128 ^ k) (hk : k ≤ 9) (hc : c < 256) (h9 : k = 9 → c ≤ 1) (hx : x = acc + c % 128 * 128 ^ k) :
    bits .or .u64 (acc : Int) (IntKind.u64.wrap ((c : Int) % 128 * 2 ^ (7 * k))) = (x : Int) := by
  have hlt : acc < 18446744073709551616 ∧ c % 128 * 128 ^ k < 18446744073709551616 := by
    by_cases h : k = 9
    · have e9 : 128 ^ 9 = 9223372036854775808 := rfl
      subst h
      have := h9 rfl
      have := Nat.mul_le_mul_right (128 ^ 9) (show c % 128 ≤ 1 by omega)
      omega
    · have e8 : 128 ^ 8 = 72057594037927936 := rfl
      have hp8 : 128 ^ k ≤ 128 ^ 8 := Nat.pow_le_pow_right (by decide) (by omega)
      have := Nat.mul_le_mul (show c % 128 ≤ 127 by omega) hp8
      omega
  have e : ((c : Int) % 128 * 2 ^ (7 * k)) = ((c % 128 * 128 ^ k : Nat) : Int) := by
    rw [← pow_seven]
    simp
  have e2 : IntKind.u64.wrap ((c % 128 * 128 ^ k : Nat) : Int) = ((c % 128 * 128 ^ k : Nat) : Int) := by
    rw [IntKind.wrap_u64]
    generalize c % 128 * 128 ^ k = y at *
    omega
  rw [e, e2, u64_or_nat _ _ hlt.1 hlt.2, Nat.or_comm, nat_join (7 * k) _ _ (by rw [pow_seven, Nat.mul_mod_left]) (by rw [pow_seven]; exact ha), hx, Nat.add_comm]
theorem group_lt {acc k c : Nat} (ha : acc < 128 ^ k) (hc : c < 256) : acc + (c - 128) * 128 ^ k < 128 ^ (k + 1) := by
  have hs : 128 ^ (k + 1) = 128 * 128 ^ k := by rw [Nat.pow_succ]; omega
  have hm := Nat.mul_le_mul_right (128 ^ k) (show c - 128 ≤ 127 by omega)
  omega
set_option maxRecDepth 4000 in
set_option maxHeartbeats 1000000 in
theorem readNum_any (A : Option Addr) (l : Bs) (c : Nat) (w : World) (h : Byt w A l) (hl : l.length ≤ 9223372036854775807) :
    Calls Try.prog 58 #[.slice A l.length c] w fun e w' => e = .returned (rdV (rd 0 0 l)) ∧ w = w' := by
  have HY := Lib.hid h
  clear h
  go_enter Try.func58, Try.ntmps58
  go_wp2
  go_loop [5, 12] (fun v i => ∃ k acc : Nat, k ≤ l.length ∧ k ≤ 9 ∧ i = .int .i64 k ∧ v = .int .u64 acc ∧ Hid (acc < 128 ^ k) ∧ Hid (rd 0 0 l = rd k acc (l.drop k)))
    (fun _ i => l.length - (intOf i).toNat)
  case atStart => exact ⟨0, 0, by omega, by omega, rfl, rfl, Lib.hid (by decide), rfl⟩
  case round =>
    obtain ⟨k, acc, hk, hk9, rfl, rfl, ha, hr⟩ := hrel
    by_cases hlt : k < l.length
    · obtain ⟨b, o, hA, hcell⟩ := HY.out.at_ hlt
      have hd : Hid (l.drop k = l[k] :: l.drop (k + 1)) := List.drop_eq_getElem_cons hlt
      rw [hA] at *
      generalize l[k] = ch at *
      have hc := ch.toNat_lt
      have e7 : IntKind.i64.wrap (7 * (k : Int)) = 7 * (k : Int) := IntWalk.i64_in _ (by omega)
      by_cases hbad : (k = 9 ∧ 1 < ch.toNat) ∨ (0 < k ∧ ch.toNat = 0)
      · have HR : Hid (rdV (rd 0 0 l) = .tuple #[.int .u64 0, .int .i64 0, .int .i64 22]) := by
          rw [hr.out, hd.out, rd_bad hbad]
          exact Lib.hid rfl
        rcases hbad with ⟨h9, h1⟩ | ⟨h0, hz⟩
        · have b9 : ((k : Int) == 9) = true := by rw [beq_iff_eq]; omega
          have h0 : 0 < k := by omega
          have bz : ((ch.toNat : Int) == 0) = false := by rw [beq_eq_false_iff_ne]; omega
          clear h9
          go_wp2
          go_ret3
          exact ⟨by rw [HR.out]; rfl, rfl⟩
        · have bz : ((ch.toNat : Int) == 0) = true := by rw [beq_iff_eq]; omega
          have hz1 : ch.toNat ≤ 0 := by omega
          clear hz
          by_cases h9 : k = 9
          · have b9 : ((k : Int) == 9) = true := by rw [beq_iff_eq]; omega
            clear h9
            go_wp2
            go_ret3
            exact ⟨by rw [HR.out]; rfl, rfl⟩
          · have b9 : ((k : Int) == 9) = false := by rw [beq_eq_false_iff_ne]; omega
            clear h9
            go_wp2
            go_ret3
            exact ⟨by rw [HR.out]; rfl, rfl⟩
      · have hcase : ((((k : Int) == 9) = true ∧ 0 < k ∧ ch.toNat ≤ 1 ∧ ((ch.toNat : Int) == 0) = false) ∨ (((k : Int) == 9) = false ∧ k ≤ 0)) ∨ (((k : Int) == 9) = false ∧ 0 < k ∧ ((ch.toNat : Int) == 0) = false) := by
          by_cases h9 : k = 9
          · refine .inl (.inl ⟨by rw [beq_iff_eq]; omega, by omega, by omega, by rw [beq_eq_false_iff_ne]; omega⟩)
          · by_cases h0 : k = 0
            · exact .inl (.inr ⟨by rw [beq_eq_false_iff_ne]; omega, by omega⟩)
            · exact .inr ⟨by rw [beq_eq_false_iff_ne]; omega, by omega, by rw [beq_eq_false_iff_ne]; omega⟩
        by_cases h128 : ch.toNat < 128
        · have HR : Hid (rdV (rd 0 0 l) = .tuple #[.int .u64 (acc + ch.toNat * 128 ^ k : Nat), .int .i64 (k + 1 : Nat), .int .i64 0]) := by
            rw [hr.out, hd.out, rd_last hbad h128]
            exact Lib.hid rfl
          have HO := Lib.hid (or_group (c := ch.toNat) (x := acc + ch.toNat * 128 ^ k) ha.out hk9 hc (fun h => by omega) (by rw [Nat.mod_eq_of_lt h128]))
          clear hbad
          rcases hcase with (⟨b9, h0, h1, bz⟩ | ⟨b9, h0⟩) | ⟨b9, h0, bz⟩
          all_goals
            go_wp2
            go_ret3
            exact ⟨by rw [HR.out, HO.out]; rfl, rfl⟩
        · have hge : 128 ≤ ch.toNat := by omega
          have HR : Hid (rd 0 0 l = rd (k + 1) (acc + (ch.toNat - 128) * 128 ^ k) (l.drop (k + 1))) := by
            rw [hr.out, hd.out, rd_more hbad hge]
            exact Lib.hid rfl
          have HO := Lib.hid (or_group (c := ch.toNat) (x := acc + (ch.toNat - 128) * 128 ^ k) ha.out hk9 hc (fun h => by omega) (by rw [show ch.toNat % 128 = ch.toNat - 128 by omega]))
          have HL := Lib.hid (group_lt ha.out hc)
          have hk8 : k ≤ 8 := by omega
          clear hbad
          rcases hcase with (⟨b9, h0, h1, bz⟩ | ⟨b9, h0⟩) | ⟨b9, h0, bz⟩
          · omega
          all_goals
            go_wp2
            go_round
            case rel => exact ⟨k + 1, acc + (ch.toNat - 128) * 128 ^ k, by omega, by omega, by go_num, by rw [HO.out], HL, HR⟩
            case measure => simp [intOf]; omega
    · have HR : Hid (rdV (rd 0 0 l) = .tuple #[.int .u64 0, .int .i64 0, .int .i64 20]) := by
        rw [hr.out, List.drop_eq_nil_of_le (by omega)]
        exact Lib.hid rfl
      go_wp2
      go_ret3
      exact ⟨by rw [HR.out]; rfl, rfl⟩
set_option maxRecDepth 4000 in
set_option maxHeartbeats 1000000 in
theorem refReadNum_any (A : Option Addr) (l : Bs) (c : Nat) (w : World) (h : Byt w A l) (hl : l.length ≤ 9223372036854775807) :
    Calls Try.prog 53 #[.slice A l.length c] w fun e w' => e = .returned (rdV (rd 0 0 l)) ∧ w = w' := by
  have HY := Lib.hid h
  clear h
  go_enter Try.func53, Try.ntmps53
  go_wp2
  go_loop [5, 6] (fun v i => ∃ k acc : Nat, k ≤ l.length ∧ k ≤ 9 ∧ i = .int .i64 k ∧ v = .int .u64 acc ∧ Hid (acc < 128 ^ k) ∧ Hid (rd 0 0 l = rd k acc (l.drop k)))
    (fun _ i => l.length - (intOf i).toNat)
  case atStart => exact ⟨0, 0, by omega, by omega, rfl, rfl, Lib.hid (by decide), rfl⟩
  case round =>
    obtain ⟨k, acc, hk, hk9, rfl, rfl, ha, hr⟩ := hrel
    by_cases hlt : k < l.length
    · obtain ⟨b, o, hA, hcell⟩ := HY.out.at_ hlt
      have hd : Hid (l.drop k = l[k] :: l.drop (k + 1)) := List.drop_eq_getElem_cons hlt
      rw [hA] at *
      generalize l[k] = ch at *
      have hc := ch.toNat_lt
      have e7 : IntKind.i64.wrap (7 * (k : Int)) = 7 * (k : Int) := IntWalk.i64_in _ (by omega)
      by_cases hbad : (k = 9 ∧ 1 < ch.toNat) ∨ (0 < k ∧ ch.toNat = 0)
      · have HR : Hid (rdV (rd 0 0 l) = .tuple #[.int .u64 0, .int .i64 0, .int .i64 22]) := by
          rw [hr.out, hd.out, rd_bad hbad]
          exact Lib.hid rfl
        rcases hbad with ⟨h9, h1⟩ | ⟨h0, hz⟩
        · have b9 : ((k : Int) == 9) = true := by rw [beq_iff_eq]; omega
          clear h9
          go_wp2
          go_ret3
          exact ⟨by rw [HR.out]; rfl, rfl⟩
        · have bz : ((ch.toNat : Int) == 0) = true := by rw [beq_iff_eq]; omega
          have hz1 : ch.toNat ≤ 0 := by omega
          clear hz
          by_cases h9 : k = 9
          · have b9 : ((k : Int) == 9) = true := by rw [beq_iff_eq]; omega
            clear h9
            go_wp2
            go_ret3
            exact ⟨by rw [HR.out]; rfl, rfl⟩
          · have b9 : ((k : Int) == 9) = false := by rw [beq_eq_false_iff_ne]; omega
            clear h9
            go_wp2
            go_ret3
            exact ⟨by rw [HR.out]; rfl, rfl⟩
      · have hcase : ((((k : Int) == 9) = true ∧ ch.toNat ≤ 1 ∧ ((ch.toNat : Int) == 0) = false) ∨ (((k : Int) == 9) = false ∧ k ≤ 0 ∧ ((ch.toNat : Int) == 0) = true)) ∨ (((k : Int) == 9) = false ∧ ((ch.toNat : Int) == 0) = false) := by
          by_cases h9 : k = 9
          · refine .inl (.inl ⟨by rw [beq_iff_eq]; omega, by omega, by rw [beq_eq_false_iff_ne]; omega⟩)
          · by_cases h0 : ch.toNat = 0
            · exact .inl (.inr ⟨by rw [beq_eq_false_iff_ne]; omega, by omega, by rw [beq_iff_eq]; omega⟩)
            · exact .inr ⟨by rw [beq_eq_false_iff_ne]; omega, by rw [beq_eq_false_iff_ne]; omega⟩
        by_cases h128 : ch.toNat < 128
        · have HR : Hid (rdV (rd 0 0 l) = .tuple #[.int .u64 (acc + ch.toNat * 128 ^ k : Nat), .int .i64 (k + 1 : Nat), .int .i64 0]) := by
            rw [hr.out, hd.out, rd_last hbad h128]
            exact Lib.hid rfl
          have HO := Lib.hid (or_group (c := ch.toNat) (x := acc + ch.toNat * 128 ^ k) ha.out hk9 hc (fun h => by omega) (by rw [Nat.mod_eq_of_lt h128]))
          clear hbad
          rcases hcase with (⟨b9, h1, bz⟩ | ⟨b9, h0, bz⟩) | ⟨b9, bz⟩
          all_goals
            go_wp2
            go_ret3
            exact ⟨by rw [HR.out, HO.out]; rfl, rfl⟩
        · have hge : 128 ≤ ch.toNat := by omega
          have HR : Hid (rd 0 0 l = rd (k + 1) (acc + (ch.toNat - 128) * 128 ^ k) (l.drop (k + 1))) := by
            rw [hr.out, hd.out, rd_more hbad hge]
            exact Lib.hid rfl
          have HO := Lib.hid (or_group (c := ch.toNat) (x := acc + (ch.toNat - 128) * 128 ^ k) ha.out hk9 hc (fun h => by omega) (by rw [show ch.toNat % 128 = ch.toNat - 128 by omega]))
          have HL := Lib.hid (group_lt ha.out hc)
          have b9 : ((k : Int) == 9) = false := by rw [beq_eq_false_iff_ne]; omega
          have hk8 : k ≤ 8 := by omega
          clear hbad hcase
          go_wp2
          go_round
          case rel => exact ⟨k + 1, acc + (ch.toNat - 128) * 128 ^ k, by omega, by omega, by go_num, by rw [HO.out], HL, HR⟩
          case measure => simp [intOf]; omega
    · have HR : Hid (rdV (rd 0 0 l) = .tuple #[.int .u64 0, .int .i64 0, .int .i64 20]) := by
        rw [hr.out, List.drop_eq_nil_of_le (by omega)]
        exact Lib.hid rfl
      go_wp2
      go_ret3
      exact ⟨by rw [HR.out]; rfl, rfl⟩
theorem wrap_nat {n : Nat} (h : n ≤ 9223372036854775807) : IntKind.u64.wrap (n : Int) = (n : Int) := by
  rw [IntKind.wrap_u64]
  omega
theorem wrap_pos {m : Int} (h0 : 0 ≤ m) (h : m ≤ 9223372036854775807) : IntKind.u64.wrap m = m := by
  rw [IntKind.wrap_u64]
  omega
theorem first_neg {l : Bs} {n : Nat} {most : Int} (h : most < 0 ∨ most < n) : first l n most = ([], 22) := by
  unfold first
  rw [if_pos h]
theorem first_short {l : Bs} {n : Nat} {most : Int} (h : ¬ (most < 0 ∨ most < n)) (h2 : l.length < n) : first l n most = ([], 20) := by
  unfold first
  rw [if_neg h, if_pos h2]
theorem first_good {l : Bs} {n : Nat} {most : Int} (h : ¬ (most < 0 ∨ most < n)) (h2 : ¬ l.length < n) : first l n most = (l.take n, 0) := by
  unfold first
  rw [if_neg h, if_neg h2]
/-- first where it tells an error -/
theorem first_bad (A : Option Addr) (l : Bs) (c n : Nat) (most : Int) (w : World) (hl : l.length ≤ 9223372036854775807) (hm : most ≤ 9223372036854775807) (h : (first l n most).2 ≠ 0) :
    Calls Try.prog 59 #[.slice A l.length c, .int .u64 n, .int .i64 most] w fun e w' => e = .returned (.tuple #[.slice none 0 0, .int .i64 (first l n most).2]) ∧ w = w' := by
  have hwl := wrap_nat hl
  by_cases h0 : most < 0
  · have HF := Lib.hid (first_neg (l := l) (n := n) (.inl h0))
    clear h hwl
    go_enter Try.func59, Try.ntmps59
    go_wp2
    go_ret2
    exact ⟨by rw [HF.out]; rfl, rfl⟩
  · have h00 : 0 ≤ most := by omega
    have hwm := wrap_pos h00 hm
    by_cases h1 : most < n
    · have HF := Lib.hid (first_neg (l := l) (n := n) (most := most) (.inr h1))
      clear h hwl h0
      go_enter Try.func59, Try.ntmps59
      go_wp2
      go_ret2
      exact ⟨by rw [HF.out]; rfl, rfl⟩
    · have hlt : l.length < n := by
        rcases Nat.lt_or_ge l.length n with h2 | h2
        · exact h2
        · rw [first_good (by omega) (by omega)] at h
          exact absurd rfl h
      have HF := Lib.hid (first_short (l := l) (n := n) (most := most) (by omega) hlt)
      have h11 : (n : Int) ≤ most := by omega
      clear h h0 h1
      go_enter Try.func59, Try.ntmps59
      go_wp2
      go_ret2
      exact ⟨by rw [HF.out]; rfl, rfl⟩
/-- first where it tells none -/
theorem first_any (A : Option Addr) (l : Bs) (c n : Nat) (most : Int) (w : World) (hl : l.length ≤ 9223372036854775807) (hlc : l.length ≤ c) (hm : most ≤ 9223372036854775807) (h0 : 0 ≤ most) (h1 : (n : Int) ≤ most) (h2 : n ≤ l.length) :
    Calls Try.prog 59 #[.slice A l.length c, .int .u64 n, .int .i64 most] w fun e w' => e = .returned (.tuple #[.slice A n c, .int .i64 0]) ∧ w = w' := by
  have hwl := wrap_nat hl
  have hwm := wrap_pos h0 hm
  go_enter Try.func59, Try.ntmps59
  go_wp2
  go_ret2
  exact ⟨rfl, rfl⟩
/-- what ReadText answers -/
def rtV (r : Bs × Nat × Nat) : Value := .tuple #[.string ⟨r.1.toArray⟩, .int .i64 r.2.1, .int .i64 r.2.2]
theorem rdText_bad {l : Bs} {most : Int} {n k e : Nat} (h : rd 0 0 l = (n, k, e)) (he : e ≠ 0) : rdText l most = ([], 0, e) := by
  unfold rdText
  rw [h, if_pos he]
theorem rdText_first {l : Bs} {most : Int} {n k : Nat} (h : rd 0 0 l = (n, k, 0)) (he : (first (l.drop k) n most).2 ≠ 0) : rdText l most = ([], 0, (first (l.drop k) n most).2) := by
  unfold rdText
  rw [h, if_neg (fun h => h rfl), if_pos he]
theorem rdText_good {l : Bs} {most : Int} {n k : Nat} (h : rd 0 0 l = (n, k, 0)) (he : (first (l.drop k) n most).2 = 0) : rdText l most = ((l.drop k).take n, k + n, 0) := by
  unfold rdText
  rw [h, if_neg (fun h => h rfl), if_neg (fun h => h he)]
theorem first_err {l : Bs} {n : Nat} {most : Int} (h : (first l n most).2 ≠ 0) : (first l n most).2 = 22 ∨ (first l n most).2 = 20 := by
  unfold first at h ⊢
  by_cases h1 : most < 0 ∨ most < n
  · rw [if_pos h1]; exact .inl rfl
  · rw [if_neg h1] at h ⊢
    by_cases h2 : l.length < n
    · rw [if_pos h2]; exact .inr rfl
    · rw [if_neg h2] at h; exact absurd rfl h
set_option maxRecDepth 4000 in
set_option maxHeartbeats 1000000 in
theorem readText_any (A : Option Addr) (l : Bs) (c : Nat) (most : Int) (w : World) (h : Byt w A l) (hl : l.length ≤ 9223372036854775807) (hlc : l.length ≤ c) (hm : most ≤ 9223372036854775807) :
    Calls Try.prog 51 #[.slice A l.length c, .int .i64 most] w fun e w' => e = .returned (rtV (rdText l most)) ∧ w = w' := by
  have HN : Hid (∀ w, Byt w A l → Calls Try.prog 58 #[.slice A l.length c] w fun e w' => e = .returned (rdV (rd 0 0 l)) ∧ w = w') := fun w h => readNum_any A l c w h hl
  obtain ⟨_, hok2, hok3, hok4, hok5⟩ := rd_ok l 0 0 (by decide) (by omega)
  have HY := Lib.hid h
  clear h
  obtain ⟨n, k, e, hr⟩ : ∃ n k e, rd 0 0 l = (n, k, e) := ⟨_, _, _, rfl⟩
  rw [hr] at HN hok2 hok3 hok4 hok5
  simp only [rdV] at HN
  by_cases he : e = 0
  · subst he
    have hk := (hok3 rfl).2
    simp only [Nat.zero_add] at hk
    clear hok2 hok3 hok4 hok5
    have hld : (l.drop k).length = l.length - k := List.length_drop ..
    by_cases hf : (first (l.drop k) n most).2 ≠ 0
    · have HR := Lib.hid (rdText_first hr hf)
      have HE := first_err hf
      have HF : Hid (∀ w, Calls Try.prog 59 #[.slice (cutA A c k) (l.length - k) (c - k), .int .u64 n, .int .i64 most] w fun e w' => e = .returned (.tuple #[.slice none 0 0, .int .i64 (first (l.drop k) n most).2]) ∧ w = w') := fun w => by
        have := first_bad (cutA A c k) (l.drop k) (c - k) n most w (by omega) hm hf
        rw [hld] at this
        exact this
      generalize (first (l.drop k) n most).2 = e2 at *
      clear hr hf hld
      rcases HE with rfl | rfl
      all_goals
        go_enter Try.func51, Try.ntmps51
        go_wp2_with fail
        refine (HN.out _ HY.out).mono ?_
        rintro e w' ⟨rfl, rfl⟩
        go_wp2_with (first
          | (refine cut_law rfl (.tmp 21) (.tmp 22) (by rfl) A _ _ (by rfl) k (by rfl) hk ?_)
          | (go_at_call 59; refine (HF.out _).mono ?_; rintro e w' ⟨rfl, rfl⟩))
        go_ret3
        exact ⟨by rw [HR.out]; rfl, rfl⟩
    · have HR := Lib.hid (rdText_good hr (Decidable.not_not.1 hf))
      obtain ⟨h0, h1, h2, _⟩ := first_ok (Decidable.not_not.1 hf)
      have HF : Hid (∀ w, Calls Try.prog 59 #[.slice (cutA A c k) (l.length - k) (c - k), .int .u64 n, .int .i64 most] w fun e w' => e = .returned (.tuple #[.slice (cutA A c k) n (c - k), .int .i64 0]) ∧ w = w') := fun w => by
        have := first_any (cutA A c k) (l.drop k) (c - k) n most w (by omega) (by omega) hm h0 h1 h2
        rw [hld] at this
        exact this
      have hl2 : ((l.drop k).take n).length = n := by rw [List.length_take]; omega
      have hcv := string_of (P := Try.prog) (c := c - k) w 27 9 5 Try.underlying27 Try.underlying5 Try.underlying9 ((HY.out.cut hk hlc).take n)
      rw [hl2] at hcv
      have hsum : IntKind.i64.wrap ((k : Int) + (n : Int)) = (k : Int) + (n : Int) := IntWalk.i64_in _ (by omega)
      have hn : n ≤ l.length := by omega
      clear hr hf hl2 h2 hld
      go_enter Try.func51, Try.ntmps51
      go_wp2_with fail
      refine (HN.out _ HY.out).mono ?_
      rintro e w' ⟨rfl, rfl⟩
      go_wp2_with (first
        | (refine cut_law rfl (.tmp 21) (.tmp 22) (by rfl) A _ _ (by rfl) k (by rfl) hk ?_)
        | (go_at_call 59; refine (HF.out _).mono ?_; rintro e w' ⟨rfl, rfl⟩))
      go_ret3
      exact ⟨by rw [HR.out]; rfl, rfl⟩
  · have HR := Lib.hid (rdText_bad (most := most) hr he)
    clear hr hok2 hok3 hok4
    rcases hok5 with hok5 | hok5 | hok5
    · exact absurd hok5 he
    all_goals
      simp only at hok5
      subst hok5
      clear he
      go_enter Try.func51, Try.ntmps51
      go_wp2_with fail
      refine (HN.out _ HY.out).mono ?_
      rintro e w' ⟨rfl, rfl⟩
      go_wp2
      go_ret3
      exact ⟨by rw [HR.out]; rfl, rfl⟩
/-- a slice of bytes cut ahead and behind -/
theorem cut2_law {w : World} {ops : Array Oper} {rest : List Oper} {o : Oper} {a : Act} {Q : Exit → Act → World → Prop} (hgd : o.guard = none) (x y z : Operand)
    (ho : o.op = .slice 27 x (some y) (some z) none) (A : Option Addr) (m c : Nat) (hx : a.eval x = .slice A m c) (k n : Nat) (K H : Int) (hy : a.eval y = .int .i64 K) (hz : a.eval z = .int .i64 H)
    (hK : K = k) (hH : H = ((k + n : Nat) : Int)) (hk : k + n ≤ c)
    (h : wpList Try.prog ops Q rest (a.put o.dst (.slice (cutA A c k) n (c - k))) w) : wpList Try.prog ops Q (o :: rest) a w := by
  subst hK
  subst hH
  refine wpList_plain hgd fun K hK => ?_
  have hrun : (Instr.sliceAt 27 (.slice A m c) (some (.int .i64 k)) (some (.int .i64 ((k + n : Nat) : Int))) none).run Try.prog w = .ok (.slice (cutA A c k) n (c - k)) w := by
    rw [run_sliceAt_slice w _ _ _ _ _ und25, run_slice_lh w _ A m c und25 .i64 .i64 k ((k + n : Nat) : Int) (by omega) (by omega) (by omega), size5]
    have e2 : (k : Int).toNat = k := by omega
    have e : (((k + n : Nat) : Int)).toNat - k = n := by omega
    simp only [Result.andThen, sliced, cutA, e2, Nat.mul_one, e]
  unfold Oper.wp
  simp only [execOp, ho, hx, hy, hz, Option.map_some, Option.map_none, hrun, Sem.run_bind, Sem.run_pure, Result.andThen]
  exact hK _ _ h
set_option maxRecDepth 4000 in
set_option maxHeartbeats 1000000 in
theorem refReadText_any (A : Option Addr) (l : Bs) (c : Nat) (most : Int) (w : World) (h : Byt w A l) (hl : l.length ≤ 9223372036854775807) (hlc : l.length ≤ c) (hm : most ≤ 9223372036854775807) :
    Calls Try.prog 54 #[.slice A l.length c, .int .i64 most] w fun e w' => e = .returned (rtV (rdText l most)) ∧ w = w' := by
  have HN : Hid (∀ w, Byt w A l → Calls Try.prog 53 #[.slice A l.length c] w fun e w' => e = .returned (rdV (rd 0 0 l)) ∧ w = w') := fun w h => refReadNum_any A l c w h hl
  obtain ⟨_, hok2, hok3, hok4, hok5⟩ := rd_ok l 0 0 (by decide) (by omega)
  have HY := Lib.hid h
  clear h
  obtain ⟨n, k, e, hr⟩ : ∃ n k e, rd 0 0 l = (n, k, e) := ⟨_, _, _, rfl⟩
  rw [hr] at HN hok2 hok3 hok4 hok5
  simp only [rdV] at HN
  by_cases he : e = 0
  · subst he
    have hk := (hok3 rfl).2
    simp only [Nat.zero_add] at hk
    clear hok2 hok3 hok4 hok5
    have hld : (l.drop k).length = l.length - k := List.length_drop ..
    have hsub : IntKind.i64.wrap ((l.length : Int) - (k : Int)) = (l.length : Int) - (k : Int) := IntWalk.i64_in _ (by omega)
    have hwl : IntKind.u64.wrap ((l.length : Int) - (k : Int)) = (l.length : Int) - (k : Int) := wrap_pos (by omega) (by omega)
    by_cases hb : most < 0 ∨ most < n
    · have hf := first_neg (l := l.drop k) hb
      have HR := Lib.hid (rdText_first (most := most) hr (by rw [hf]; decide))
      rw [hf] at HR
      clear hr hf hld
      by_cases h0 : most < 0
      · clear hb
        go_enter Try.func54, Try.ntmps54
        go_wp2_with fail
        refine (HN.out _ HY.out).mono ?_
        rintro e w' ⟨rfl, rfl⟩
        go_wp2
        go_ret3
        exact ⟨by rw [HR.out]; rfl, rfl⟩
      · have h00 : 0 ≤ most := by omega
        have h1 : most < n := by omega
        have hwm := wrap_pos h00 hm
        clear hb h0
        go_enter Try.func54, Try.ntmps54
        go_wp2_with fail
        refine (HN.out _ HY.out).mono ?_
        rintro e w' ⟨rfl, rfl⟩
        go_wp2
        go_ret3
        exact ⟨by rw [HR.out]; rfl, rfl⟩
    · have h00 : 0 ≤ most := by omega
      have h11 : (n : Int) ≤ most := by omega
      have hwm := wrap_pos h00 hm
      by_cases hs : (l.drop k).length < n
      · have hf := first_short hb hs
        have HR := Lib.hid (rdText_first (most := most) hr (by rw [hf]; decide))
        rw [hf] at HR
        have hs2 : l.length - k < n := by omega
        have hs3 : (l.length : Int) - (k : Int) < n := by omega
        clear hr hf hld hb hs
        go_enter Try.func54, Try.ntmps54
        go_wp2_with fail
        refine (HN.out _ HY.out).mono ?_
        rintro e w' ⟨rfl, rfl⟩
        go_wp2
        go_ret3
        exact ⟨by rw [HR.out]; rfl, rfl⟩
      · have HR := Lib.hid (rdText_good (most := most) hr (by rw [first_good hb hs]))
        have hl2 : ((l.drop k).take n).length = n := by rw [List.length_take]; omega
        have hcv := string_of (P := Try.prog) (c := c - k) w 27 9 5 Try.underlying27 Try.underlying5 Try.underlying9 ((HY.out.cut hk hlc).take n)
        rw [hl2] at hcv
        have hn : k + n ≤ l.length := by omega
        have hn2 : (n : Int) ≤ (l.length : Int) - (k : Int) := by omega
        have hsum : IntKind.i64.wrap ((k : Int) + (n : Int)) = (k : Int) + (n : Int) := IntWalk.i64_in _ (by omega)
        have hni : IntKind.i64.wrap (n : Int) = (n : Int) := IntWalk.i64_in _ (by omega)
        clear hr hl2 hs hld hb
        go_enter Try.func54, Try.ntmps54
        go_wp2_with fail
        refine (HN.out _ HY.out).mono ?_
        rintro e w' ⟨rfl, rfl⟩
        go_wp2_with (refine cut2_law rfl (.tmp 34) (.tmp 35) (.tmp 39) (by rfl) A _ _ (by rfl) k n _ _ (by rfl) (by rfl) rfl (by omega) (by omega) ?_)
        go_ret3
        exact ⟨by rw [HR.out]; rfl, rfl⟩
  · have HR := Lib.hid (rdText_bad (most := most) hr he)
    clear hr hok2 hok3 hok4
    rcases hok5 with hok5 | hok5 | hok5
    · exact absurd hok5 he
    all_goals
      simp only at hok5
      subst hok5
      clear he
      go_enter Try.func54, Try.ntmps54
      go_wp2_with fail
      refine (HN.out _ HY.out).mono ?_
      rintro e w' ⟨rfl, rfl⟩
      go_wp2
      go_ret3
      exact ⟨by rw [HR.out]; rfl, rfl⟩
theorem byt_lit (w : World) (l : Bs) (arr : Array Value) (t : TypeId) (g : Nat) (hg : g = w.heap.size) (h : arr = (l.map bv).toArray) : Byt (w.alloc (.cells arr t)) (some ⟨g, 0, none⟩) l := by
  subst h
  subst hg
  refine .inr ⟨_, 0, rfl, by simp, fun j hj => ?_⟩
  rw [World.cell?_alloc_at _ _ _ _ rfl]
  simp [hj]
end Go.Proofs.Ytnkknlhdbhfjlaa.O
