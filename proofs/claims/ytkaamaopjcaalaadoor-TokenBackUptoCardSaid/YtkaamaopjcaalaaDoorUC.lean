/-
  Laid by wip/prune.py out of wip/units: F.
-/
import Derived.Test.YtkaamaopjcaalaaDoorUB
import Derived.Test.YtkaamaopjcaalaaDoorShelf
import Derived.Lib.ConvBytes
import Derived.Lib.Walk
import Derived.Lib.AtoiAllMem
import Derived.Laws.Strings3
import Derived.Laws.Closers25
import Derived.Laws.Closers25b
namespace Go.Proofs.YtkaamaopjcaalaaDoor
open Go.RowKit

/-- a letter made a small one -/
def low (c : Nat) : Int := bits .or .u8 (c : Int) 32
theorem low_nat (c : Nat) (h : c < 256) : low c = ((c ||| 32 : Nat) : Int) := u8_or_nat c 32 h (by decide)
theorem low_all : ∀ c : Fin 256, 0 ≤ ((c.val ||| 32 : Nat) : Int) ∧ ((c.val ||| 32 : Nat) : Int) ≤ 255 ∧ (97 ≤ c.val ∧ c.val ≤ 102 → ((c.val ||| 32 : Nat) : Int) = c.val) ∧ (65 ≤ c.val ∧ c.val ≤ 70 → ((c.val ||| 32 : Nat) : Int) = c.val + 32) ∧
    ((c.val < 48 ∨ 57 < c.val) → (c.val < 97 ∨ 102 < c.val) → (c.val < 65 ∨ 70 < c.val) → ((c.val ||| 32 : Nat) : Int) < 97 ∨ 102 < ((c.val ||| 32 : Nat) : Int)) := by decide +kernel
theorem low_facts (c : Nat) (h : c < 256) : 0 ≤ low c ∧ low c ≤ 255 ∧ (97 ≤ c ∧ c ≤ 102 → low c = c) ∧ (65 ≤ c ∧ c ≤ 70 → low c = c + 32) ∧
    ((c < 48 ∨ 57 < c) → (c < 97 ∨ 102 < c) → (c < 65 ∨ 70 < c) → low c < 97 ∨ 102 < low c) := by
  rw [low_nat c h]
  exact low_all ⟨c, h⟩
theorem lower_any (c : Nat) (w : World) : Calls Tryd.prog 78 #[.int .u8 c] w fun e w' => e = .returned (.int .u8 (low c)) ∧ w = w' :=
  (Tryd.internal_strconv_lower c w).mono fun _ _ ⟨h1, h2⟩ => ⟨h1, h2.symm⟩
theorem hexGo_cons (acc : Nat) (c : UInt8) (r : Bs) : hexGo acc (c :: r) = match hexV c with | some d => hexGo (16 * acc + d) r | none => none := rfl
/-- what the number's text comes to -/
def hexRes (o : Option Nat) : Value := match o with
  | some n => .tuple #[.int .u64 n, .nilIface]
  | none => .tuple #[.int .u64 0, .iface 89 (.int .i64 2)]
set_option maxHeartbeats 8000000 in
set_option maxRecDepth 100000 in
theorem parse_any (t : ByteArray) (hne : 0 < t.size) (hmax : t.size ≤ 4) (w : World) :
    Calls Tryd.prog 69 #[.string t, .int .i64 16, .int .i64 16] w fun e w' => e = .returned (hexRes (hexGo 0 t.data.toList)) ∧ Below w.heap.size w w' := by
  have hemp : t.toList.isEmpty = false := by
    rw [← decide_eq_emptyBytes]
    exact decide_eq_false (fun h => by rw [h] at hne; exact absurd hne (by decide))
  have hcv := Lib.run_convert_string_bytes (P := Tryd.prog) w 9 57 5 t (u := .string) Tryd.underlying9 Tryd.underlying57 Tryd.underlying5
  have hB : ∀ j, j < t.size → (Lib.bytesWorld w 5 t).cell? ⟨w.heap.size, j, none⟩ = some (.int .u8 (t.data.toList.getD j 0).toNat) := fun j hj => Lib.bytesWorld_cell w 5 t j hj
  have hbw : Below w.heap.size w (Lib.bytesWorld w 5 t) := ⟨rfl, rfl, rfl, by rw [Lib.bytesWorld_size]; omega, fun j hj => Lib.bytesWorld_at_old w 5 t j hj⟩
  obtain ⟨W1, hW1⟩ : ∃ W1, W1 = Lib.bytesWorld w 5 t := ⟨_, rfl⟩
  rw [← hW1] at hcv hB hbw
  clear hW1
  obtain ⟨bs, hL⟩ : ∃ bs, bs = t.data.toList := ⟨_, rfl⟩
  have hLn : bs.length = t.size := by rw [hL, size_list]
  rw [← hL] at hB ⊢
  clear hL
  have hmv : IntKind.u64.wrap (IntKind.u64.wrap 65536 - 1) = 65535 := by
    rw [IntKind.wrap_u64, IntKind.wrap_u64]
    decide
  go_enter Tryd.func69, Tryd.ntmps69
  go_wp2
  go_loop [12, 13, 101] (fun vu vn vi => ∃ (k acc : Nat) (a : Int), vu = .bool false ∧ vn = .int .u64 a ∧ vi = .int .i64 k ∧ k ≤ t.size ∧ Hid (a = (acc : Int) ∧ acc < 16 ^ k ∧ hexGo 0 bs = hexGo acc (bs.drop k)))
    (fun _ _ vi => t.size - (intOf vi).toNat)
  case atStart => exact ⟨0, 0, 0, rfl, rfl, rfl, by omega, rfl, by omega, rfl⟩
  case round =>
    obtain ⟨k, acc, a, rfl, rfl, rfl, hk, hh⟩ := hrel
    obtain ⟨ha, hacc, hdec⟩ := hh.out
    clear hh
    by_cases hkn : k < t.size
    · have hp3 : 16 ^ k ≤ 16 ^ 3 := Nat.pow_le_pow_right (by decide) (by omega)
      have hp4 : 16 ^ (k + 1) = 16 ^ k * 16 := Nat.pow_succ 16 k
      have a0 : 0 ≤ a := by omega
      have a1 : a < 4096 := by omega
      have hc := hB k hkn
      have hdrop : bs.drop k = bs[k]'(by omega) :: bs.drop (k + 1) := List.drop_eq_getElem_cons (by omega)
      have hget : bs.getD k 0 = bs[k]'(by omega) := by simp [List.getD, List.getElem?_eq_getElem (show k < bs.length by omega)]
      rw [hdrop, hexGo_cons] at hdec
      rw [hget] at hc
      generalize bs[k]'(by omega) = c at hc hdec
      have hc256 : c.toNat < 256 := c.toNat_lt
      obtain ⟨l0, l1, l2, l3, l4⟩ := low_facts c.toNat hc256
      clear hB hdrop hget
      by_cases hdig : 48 ≤ c.toNat ∧ c.toNat ≤ 57
      · obtain ⟨hd0, hd1⟩ := hdig
        have hV : hexV c = some (c.toNat - 48) := by unfold hexV; rw [if_pos ⟨hd0, hd1⟩]
        rw [hV] at hdec
        have HN : Hid (a * 16 + ((c.toNat : Int) - 48) = ((16 * acc + (c.toNat - 48) : Nat) : Int) ∧ 16 * acc + (c.toNat - 48) < 16 ^ (k + 1) ∧ hexGo 0 bs = hexGo (16 * acc + (c.toNat - 48)) (bs.drop (k + 1))) := Lib.hid ⟨by omega, by omega, hdec⟩
        clear hdec ha hacc hp3 hp4 hV l0 l1 l2 l3 l4
        go_wp2
        refine ⟨⟨k + 1, 16 * acc + (c.toNat - 48), a * 16 + ((c.toNat : Int) - 48), rfl, (by first | rfl | (congr 1; omega)), (by first | rfl | (congr 1; omega)), by omega, HN⟩, by simp [intOf]; omega⟩
      · by_cases hlo : (97 ≤ c.toNat ∧ c.toNat ≤ 102) ∨ (65 ≤ c.toNat ∧ c.toNat ≤ 70)
        · obtain ⟨d, hV, hm, hd⟩ : ∃ d, hexV c = some d ∧ low c.toNat - 97 + 10 = (d : Int) ∧ (10 ≤ d ∧ d < 16) := by
            rcases hlo with h | h
            · have := l2 h
              exact ⟨c.toNat - 87, by unfold hexV; rw [if_neg hdig, if_pos h], by omega, by omega, by omega⟩
            · have := l3 h
              exact ⟨c.toNat - 55, by unfold hexV; rw [if_neg hdig, if_neg (by omega), if_pos h], by omega, by omega, by omega⟩
          rw [hV] at hdec
          have HN : Hid (a * 16 + (low c.toNat - 97 + 10) = ((16 * acc + d : Nat) : Int) ∧ 16 * acc + d < 16 ^ (k + 1) ∧ hexGo 0 bs = hexGo (16 * acc + d) (bs.drop (k + 1))) := Lib.hid ⟨by omega, by omega, hdec⟩
          have m0 : 97 ≤ low c.toNat := by omega
          have m1 : low c.toNat ≤ 102 := by omega
          have c57 : c.toNat < 48 ∨ 57 < c.toNat := by omega
          clear hdec ha hacc hp3 hp4 hV l0 l1 l2 l3 l4 hdig hlo hm hd
          have hLw := Lib.hid (lower_any c.toNat)
          generalize low c.toNat = m at *
          have c95 : ((c.toNat : Int) == 95) = true ∨ ((c.toNat : Int) == 95) = false := by cases ((c.toNat : Int) == 95) <;> simp
          rcases c57 with c57 | c57
          all_goals rcases c95 with c95 | c95
          all_goals
            go_wp2_with (go_at_call 78; refine (hLw.out _).mono ?_; rintro e w' ⟨rfl, rfl⟩)
            all_goals refine ⟨⟨k + 1, 16 * acc + d, a * 16 + (m - 97 + 10), rfl, (by first | rfl | (congr 1; omega)), (by first | rfl | (congr 1; omega)), by omega, HN⟩, by simp [intOf]; omega⟩
        · have hV : hexV c = none := by unfold hexV; rw [if_neg hdig, if_neg (by omega), if_neg (by omega)]
          rw [hV] at hdec
          have hm := l4 (by omega) (by omega) (by omega)
          have HD := Lib.hid hdec
          have c57 : c.toNat < 48 ∨ 57 < c.toNat := by omega
          clear hdec ha hacc hp3 hp4 hV l2 l3 l4 hdig hlo
          have hLw := Lib.hid (lower_any c.toNat)
          generalize low c.toNat = m at *
          have c95 : ((c.toNat : Int) == 95) = true ∨ ((c.toNat : Int) == 95) = false := by cases ((c.toNat : Int) == 95) <;> simp
          rcases c57 with c57 | c57
          all_goals rcases c95 with c95 | c95
          all_goals rcases hm with hm | hm
          all_goals
            go_wp2_with (go_at_call 78; refine (hLw.out _).mono ?_; rintro e w' ⟨rfl, rfl⟩)
            all_goals go_ret2
            all_goals exact ⟨by rw [HD.out]; rfl, hbw⟩
    · obtain rfl : k = t.size := by omega
      have hF : hexGo acc (bs.drop t.size) = some acc := by rw [List.drop_eq_nil_of_le (by omega)]; rfl
      rw [hF] at hdec
      subst ha
      have HD := Lib.hid hdec
      clear hacc hF hdec
      go_wp2
      go_ret2
      exact ⟨by rw [HD.out]; rfl, hbw⟩
end Go.Proofs.YtkaamaopjcaalaaDoor
