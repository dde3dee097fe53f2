/-
  PLAIN: what is read of a number's text, blanks around it.
-/
import Derived.Test.YtjgafhodogbemaaDoorH
import Derived.Lib.ItoaMem
namespace Go.Proofs.YtjgafhodogbemaaDoor.N
open Go.Proofs.YtjgafhodogbemaaDoor

theorem un_app (a b : Bs) : un (a ++ b) = un a ++ un b := by unfold un; rw [List.map_append]
theorem dgs_app (b : Int) (d : Nat) : ∀ (l : List Nat) (acc : Int), dgs b acc (l ++ [d]) = (dgs b acc l).bind fun m => dgs b m [d]
  | [], acc => rfl
  | x :: r, acc => by
    rw [List.cons_append, dgs, dgs]
    split
    · rfl
    · split
      · rfl
      · exact dgs_app b d r _
theorem dg_unit (k : Nat) (h : k < 10) : (UInt8.ofNat (48 + k)).toNat = 48 + k := by rw [UInt8.toNat_ofNat']; omega
theorem dgs_one (m : Int) (k : Nat) (h : k < 10) : dgs 10 m [48 + k] = if 9007199254740991 < m * 10 + (k : Int) then none else some (m * 10 + (k : Int)) := by
  have e : dgt (48 + k) = (k : Int) := by
    unfold dgt
    rw [if_pos (by omega)]
    omega
  rw [dgs, e, if_neg (by omega)]
  rfl
/-- digits are read as what they are digits of -/
theorem dgs_dec (u : Nat) : dgs 10 0 (un (Lib.decDigits u)) = if (u : Int) ≤ 9007199254740991 then some (u : Int) else none := by
  induction u using Nat.strongRecOn with
  | _ u ih =>
    rw [Lib.decDigits]
    split
    · rename_i h
      rw [show un [UInt8.ofNat (48 + u)] = [48 + u] from by unfold un; rw [List.map_singleton, dg_unit u h], dgs_one 0 u h, if_neg (by omega), if_pos (by omega), Int.zero_mul, Int.zero_add]
    · rename_i h
      rw [un_app, show un [UInt8.ofNat (48 + u % 10)] = [48 + u % 10] from by unfold un; rw [List.map_singleton, dg_unit _ (by omega)], dgs_app, ih (u / 10) (by omega)]
      by_cases h1 : ((u / 10 : Nat) : Int) ≤ 9007199254740991
      · rw [if_pos h1, Option.bind_some, dgs_one _ _ (by omega)]
        have e : ((u / 10 : Nat) : Int) * 10 + ((u % 10 : Nat) : Int) = (u : Int) := by omega
        rw [e]
        by_cases h2 : (u : Int) ≤ 9007199254740991
        · rw [if_neg (by omega), if_pos h2]
        · rw [if_pos (by omega), if_neg h2]
      · rw [if_neg h1, if_neg (by omega)]
        rfl
theorem dec_mem (u : Nat) : ∀ n ∈ un (Lib.decDigits u), 48 ≤ n ∧ n ≤ 57 := by
  induction u using Nat.strongRecOn with
  | _ u ih =>
    intro n hn
    rw [Lib.decDigits] at hn
    split at hn
    · rename_i h
      rw [show un [UInt8.ofNat (48 + u)] = [48 + u] from by unfold un; rw [List.map_singleton, dg_unit u h], List.mem_singleton] at hn
      omega
    · rename_i h
      rw [un_app, List.mem_append] at hn
      rcases hn with hn | hn
      · exact ih (u / 10) (by omega) n hn
      · rw [show un [UInt8.ofNat (48 + u % 10)] = [48 + u % 10] from by unfold un; rw [List.map_singleton, dg_unit _ (by omega)], List.mem_singleton] at hn
        omega
theorem dec_ne (u : Nat) : un (Lib.decDigits u) ≠ [] := by
  intro h
  have := congrArg List.length h
  unfold un at this
  rw [List.length_map, Lib.decDigits_length] at this
  have h2 := Lib.nDigits_pos u
  simp at this
  omega
/-- a row of digits, or one behind a sign -/
theorem row_dec (u : Nat) : ∃ a l, un (Lib.decDigits u) = a :: l ∧ (∀ n ∈ a :: l, 48 ≤ n ∧ n ≤ 57) := by
  have h1 := dec_ne u
  have h2 := dec_mem u
  cases h : un (Lib.decDigits u) with
  | nil => exact absurd h h1
  | cons a l => exact ⟨a, l, rfl, h ▸ h2⟩
theorem at_cons (a : Nat) (l : List Nat) : atI (a :: l) 0 = (a : Int) := by
  unfold atI
  rw [if_pos ⟨by omega, by simp⟩]
  rfl
theorem at_one (a : Nat) (l : List Nat) : atI (a :: l) 1 = -1 ∨ ∃ n ∈ l, atI (a :: l) 1 = (n : Int) := by
  cases l with
  | nil => exact .inl rfl
  | cons b l =>
    refine .inr ⟨b, by simp, ?_⟩
    unfold atI
    rw [if_pos ⟨by omega, by simp; omega⟩]
    rfl
theorem hx_no (a : Nat) (l : List Nat) (h : ∀ n ∈ l, 48 ≤ n ∧ n ≤ 57) : hx (a :: l) = false := by
  unfold hx
  rw [decide_eq_false_iff_not]
  intro ⟨_, h2⟩
  rcases at_one a l with h1 | ⟨n, hn, h1⟩
  · omega
  · have := h n hn
    omega
/-- a number's text is read as the number -/
theorem num_itoa (n : Int) : num (un (Lib.itoa n)) = inr n := by
  unfold Lib.itoa
  by_cases h : n < 0
  · rw [if_pos h, show un (45 :: Lib.decDigits n.natAbs) = 45 :: un (Lib.decDigits n.natAbs) from rfl]
    obtain ⟨a, l, e, hm⟩ := row_dec n.natAbs
    have hd := dgs_dec n.natAbs
    rw [e] at hd ⊢
    unfold num
    rw [if_neg (by simp), hx_no 45 (a :: l) hm, if_neg Bool.false_ne_true, at_cons, if_pos (by omega), List.drop_succ_cons, List.drop_zero, pos, if_neg (by simp), hd]
    by_cases h2 : (n.natAbs : Int) ≤ 9007199254740991
    · rw [if_pos h2, inr_some ((sf_iff n).2 (by omega))]
      unfold opp
      rw [Option.map_some]
      congr 1
      omega
    · rw [if_neg h2, inr_none ((sf_no n).2 (by omega))]
      rfl
  · rw [if_neg h]
    obtain ⟨a, l, e, hm⟩ := row_dec n.toNat
    have hd := dgs_dec n.toNat
    rw [e] at hd ⊢
    have ha := hm a (by simp)
    unfold num
    rw [if_neg (by simp), hx_no a l (fun n hn => hm n (by simp [hn])), if_neg Bool.false_ne_true, at_cons, if_neg (by omega), if_neg (by omega), pos, if_neg (by simp), hd]
    by_cases h2 : (n.toNat : Int) ≤ 9007199254740991
    · rw [if_pos h2, inr_some ((sf_iff n).2 (by omega))]
      congr 1
      omega
    · rw [if_neg h2, inr_none ((sf_no n).2 (by omega))]
/-- .. with blanks around it -/
theorem sp_dec {u n : Nat} (h : n ∈ un (Lib.decDigits u)) : sp n = false := by
  have := dec_mem u n h
  unfold sp
  rw [decide_eq_false_iff_not]
  omega
theorem ends_dec (u : Nat) : (∃ a l, un (Lib.decDigits u) = a :: l ∧ sp a = false) ∧ ∃ l z, un (Lib.decDigits u) = l ++ [z] ∧ sp z = false := by
  have h1 := dec_ne u
  have hs := fun n (h : n ∈ un (Lib.decDigits u)) => sp_dec h
  constructor
  · cases h : un (Lib.decDigits u) with
    | nil => exact absurd h h1
    | cons a l => exact ⟨a, l, rfl, hs a (by rw [h]; simp)⟩
  · refine ⟨_, _, (List.dropLast_concat_getLast h1).symm, hs _ (List.getLast_mem h1)⟩
theorem ends_itoa (n : Int) : (∃ a l, un (Lib.itoa n) = a :: l ∧ sp a = false) ∧ ∃ l z, un (Lib.itoa n) = l ++ [z] ∧ sp z = false := by
  unfold Lib.itoa
  split
  · obtain ⟨_, l, z, h2, h3⟩ := ends_dec n.natAbs
    exact ⟨⟨45, _, rfl, by decide⟩, 45 :: l, z, by rw [show un (45 :: Lib.decDigits n.natAbs) = 45 :: un (Lib.decDigits n.natAbs) from rfl, h2]; rfl, h3⟩
  · exact ends_dec n.toNat
theorem trim_around (A B : List Nat) (n : Int) (hA : ∀ x ∈ A, sp x = true) (hB : ∀ x ∈ B, sp x = true) : rea (fro (A ++ un (Lib.itoa n) ++ B)) = un (Lib.itoa n) := by
  obtain ⟨⟨a, l, e1, h1⟩, l2, z, e2, h2⟩ := ends_itoa n
  rw [List.append_assoc, fro_app A _ hA]
  have e : fro (un (Lib.itoa n) ++ B) = un (Lib.itoa n) ++ B := by
    rw [e1, List.cons_append]
    exact fro_id a _ h1
  rw [e, rea_app _ B hB, e2]
  exact rea_id l2 z h2
theorem bz_app (u v : List Nat) : bz u ++ bz v = bz (u ++ v) := by
  unfold bz
  rw [mk_append, bs_append]
theorem rd_around (A B : List Nat) (n : Int) (uA : Un A) (uB : Un B) (hA : ∀ x ∈ A, sp x = true) (hB : ∀ x ∈ B, sp x = true) : rd (bz (A ++ un (Lib.itoa n) ++ B)).data.toList = inr n := by
  unfold rd
  have hu : Un (A ++ un (Lib.itoa n) ++ B) := fun x hx => by
    rcases List.mem_append.1 hx with hx | hx
    · rcases List.mem_append.1 hx with hx | hx
      · exact uA x hx
      · exact un_un _ x hx
    · exact uB x hx
  rw [bz_us hu, bz_list, bs_length, if_pos (by omega), trim_around A B n hA hB, num_itoa]
/-- the five blanks -/
def bl (i : Nat) : List Nat := if i = 0 then [] else if i = 1 then [32] else if i = 2 then [9] else if i = 3 then [160] else [65279, 10]
theorem bl_sp (i : Nat) : ∀ x ∈ bl i, sp x = true := by
  unfold bl
  split
  · decide
  split
  · decide
  split
  · decide
  split <;> decide
theorem bl_un (i : Nat) : Un (bl i) := by
  unfold Un
  unfold bl
  split
  · decide
  split
  · decide
  split
  · decide
  split <;> decide
theorem bl_len (i : Nat) : (bl i).length ≤ 2 := by
  unfold bl
  split
  · decide
  split
  · decide
  split
  · decide
  split <;> decide
end Go.Proofs.YtjgafhodogbemaaDoor.N
