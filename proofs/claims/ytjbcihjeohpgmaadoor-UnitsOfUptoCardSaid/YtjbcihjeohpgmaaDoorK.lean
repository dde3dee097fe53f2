/-
  The reference's digits, escaped, by contract.
-/
import Derived.Test.YtjbcihjeohpgmaaDoorJ
namespace Go.Proofs.YtjbcihjeohpgmaaDoor
open Go.RowKit

/-- so many digits read one behind the other -/
def digGo : Nat → Bs → Nat → Option Nat
  | acc, _, 0 => some acc
  | _, [], _ + 1 => none
  | acc, c :: r, d + 1 => match hexV c with
    | some v => digGo (16 * acc + v) r d
    | none => none
theorem digGo_eq : ∀ (d acc : Nat) (x : Bs), digGo acc x d = if x.length < d then none else hexGo acc (x.take d)
  | 0, acc, x => by
    rw [if_neg (by omega)]
    cases x <;> rfl
  | d + 1, acc, [] => by
    rw [if_pos (by simp)]
    rfl
  | d + 1, acc, c :: r => by
    rw [List.take_succ_cons, hexGo_cons]
    unfold digGo
    cases hexV c with
    | none => simp
    | some v =>
      simp only [digGo_eq d]
      by_cases h : r.length < d
      · rw [if_pos h, if_pos (by simp; omega)]
      · rw [if_neg h, if_neg (by simp; omega)]
def optI (o : Option Nat) : Int := match o with
  | some n => n
  | none => -1
theorem digitI_some {c : UInt8} {v : Nat} (h : hexV c = some v) : digitI c = v := by
  unfold hexV at h
  unfold digitI
  repeat' split at h
  all_goals simp at h
  all_goals repeat' split
  all_goals omega
theorem digitI_none {c : UInt8} (h : hexV c = none) : digitI c = -1 := by
  unfold hexV at h
  unfold digitI
  repeat' split at h
  all_goals simp at h
  all_goals repeat' split
  all_goals omega
theorem digGo_lt {d acc n : Nat} {x : Bs} (h : digGo acc x d = some n) (hd : d ≤ 4) : n < (acc + 1) * 65536 := by
  rw [digGo_eq] at h
  split at h
  · cases h
  · have h1 := hexGo_lt _ _ _ h
    have h2 : 16 ^ (x.take d).length ≤ 16 ^ 4 := Nat.pow_le_pow_right (by decide) (by rw [List.length_take]; omega)
    have h3 : (acc + 1) * 16 ^ (x.take d).length ≤ (acc + 1) * 16 ^ 4 := Nat.mul_le_mul_left _ h2
    omega
theorem index_at (s : ByteArray) (k : Nat) (i : Int) (x : UInt8) (w : World) (hi : i = (k : Int)) (hk : s.data.toList[k]? = some x) : (Instr.index 9 (.string s) (.int .i64 i)).run Tryd.prog w = .ok (.int .u8 ((x.toNat : Nat) : Int)) w := by
  subst hi
  have hk2 : k < s.size := by rw [← size_list]; exact (List.getElem?_eq_some_iff.1 hk).1
  rw [run_index_string w 9 s .i64 k Tryd.underlying9, dif_pos ⟨by omega, by omega⟩]
  congr 2
  rw [List.getElem?_eq_getElem (by rw [size_list]; exact hk2)] at hk
  have hk3 : s.data.toList[k]'(by rw [size_list]; exact hk2) = x := Option.some.inj hk
  rw [← hk3]
  rfl

set_option maxHeartbeats 1000000 in
theorem digits_any (s : ByteArray) (a d : Nat) (D I : Int) (hI : I = (a : Int)) (hD : D = (d : Int)) (hd : d ≤ 4) (w : World) (hs : s.size ≤ 33554432) (ha : a ≤ s.size) :
    Calls Tryd.prog 42 #[.string s, .int .i64 I, .int .i64 D] w fun e w' => e = .returned (.int .i64 (optI (digGo 0 (s.data.toList.drop a) d))) ∧ w = w' := by
  subst hI hD
  have HIX := Lib.hid (index_at s)
  go_enter Tryd.func42, Tryd.ntmps42
  go_wp2
  go_loop [7, 10] (fun v x => ∃ k acc : Nat, k ≤ d ∧ x = .int .i64 k ∧ v = .int .i64 acc ∧ acc < 16 ^ k ∧ Hid (digGo 0 (s.data.toList.drop a) d = digGo acc (s.data.toList.drop (a + k)) (d - k)))
    (fun _ x => d - (intOf x).toNat)
  case atStart => exact ⟨0, 0, by omega, rfl, rfl, by decide, rfl⟩
  case round =>
    obtain ⟨k, acc, hk, rfl, rfl, hacc, hh⟩ := hrel
    by_cases hlt : k < d
    · obtain ⟨e, he⟩ : ∃ e, d - k = e + 1 := ⟨d - k - 1, by omega⟩
      have hdg := hh.out
      rw [he] at hdg
      by_cases hin : a + k < s.size
      · have hkl : a + k < s.data.toList.length := by rw [size_list]; exact hin
        have hdrop : s.data.toList.drop (a + k) = s.data.toList[a + k] :: s.data.toList.drop (a + (k + 1)) := by
          rw [List.drop_eq_getElem_cons hkl]
          rfl
        have ia := fun w => HIX.out (a + k) ((a : Int) + (k : Int)) _ w (by omega) (List.getElem?_eq_getElem hkl)
        rw [hdrop] at hdg
        generalize s.data.toList[a + k] = c at *
        have HDg := Lib.hid (digit_any c)
        have hin2 : (a : Int) + (k : Int) < (s.size : Int) := by omega
        cases hv : hexV c with
        | none =>
          have HV : Hid (digGo 0 (s.data.toList.drop a) d = none) := by
            show digGo 0 (s.data.toList.drop a) d = none
            rw [hdg]
            unfold digGo
            rw [hv]
          rw [digitI_none hv] at HDg
          clear hdg hdrop hh hv he hkl hacc
          go_wp2_with (go_at_call 48; refine (HDg.out _).mono ?_; rintro e w' ⟨rfl, rfl⟩)
          go_ret
          exact ⟨by rw [HV.out]; rfl, rfl⟩
        | some v =>
          have hv16 := hexV_lt hv
          have hp3 : 16 ^ k ≤ 16 ^ 3 := Nat.pow_le_pow_right (by decide) (by omega)
          have hp4 : 16 ^ (k + 1) = 16 ^ k * 16 := Nat.pow_succ 16 k
          have HV : Hid (digGo 0 (s.data.toList.drop a) d = digGo (16 * acc + v) (s.data.toList.drop (a + (k + 1))) (d - (k + 1)) ∧ 16 * acc + v < 16 ^ (k + 1)) := by
            refine ⟨?_, by omega⟩
            rw [hdg, show d - (k + 1) = e by omega]
            conv => lhs; unfold digGo
            rw [hv]
          rw [digitI_some hv] at HDg
          have ha16 : acc < 4096 := by omega
          clear hdg hdrop hh hv he hkl hacc hp3 hp4
          go_wp2_with (go_at_call 48; refine (HDg.out _).mono ?_; rintro e w' ⟨rfl, rfl⟩)
          go_round
          case rel => exact ⟨k + 1, 16 * acc + v, by omega, by go_num, by go_num, HV.out.2, HV.out.1⟩
          case measure => simp [intOf]; omega
      · have HV : Hid (digGo 0 (s.data.toList.drop a) d = none) := by
          show digGo 0 (s.data.toList.drop a) d = none
          rw [hdg, List.drop_eq_nil_of_le (by rw [size_list]; omega)]
          rfl
        have hin2 : (s.size : Int) ≤ (a : Int) + (k : Int) := by omega
        clear hdg hh he hacc
        go_wp2
        go_ret
        exact ⟨by rw [HV.out]; rfl, rfl⟩
    · have HV : Hid (digGo 0 (s.data.toList.drop a) d = some acc) := by
        show digGo 0 (s.data.toList.drop a) d = some acc
        rw [hh.out, show d - k = 0 by omega]
        cases s.data.toList.drop (a + k) <;> rfl
      obtain rfl : k = d := by omega
      clear hh hacc
      go_wp2
      go_ret
      exact ⟨by rw [HV.out]; rfl, rfl⟩
end Go.Proofs.YtjbcihjeohpgmaaDoor
