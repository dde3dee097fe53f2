/-
  NUMBERS IN PLAIN LEAN: what arithmetic comes to, what a text is as a number.
-/
import Derived.Test.YtjgafhodogbemaaDoorUC
namespace Go.Proofs.YtjgafhodogbemaaDoor.N
open Go.Proofs.YtjgafhodogbemaaDoor

/-- a number is safe -/
def sf (n : Int) : Bool := decide (-9007199254740991 ≤ n ∧ n ≤ 9007199254740991)
def inr (n : Int) : Option Int := if sf n then some n else none
/-- the number and the error of an answer -/
def nv (o : Option Int) : Int := o.getD 0
def er (o : Option Int) : Int := if o.isSome then 0 else 100
def ans (o : Option Int) : Value := .tuple #[.int .i64 (nv o), .int .i64 (er o)]
def add (a b : Int) : Option Int := if sf a && sf b then inr (a + b) else none
def sub (a b : Int) : Option Int := if sf a && sf b then inr (a - b) else none
def mul (a b : Int) : Option Int := if sf a && sf b then inr (a * b) else none
def md (a b : Int) : Option Int := if sf a && sf b && !decide (b = 0) then some (a.tmod b) else none
def dv (a b : Int) : Option Int := if sf a && sf b && !decide (b = 0) && decide (a.tmod b = 0) then some (a.tdiv b) else none

theorem sf_iff (n : Int) : sf n = true ↔ -9007199254740991 ≤ n ∧ n ≤ 9007199254740991 := by unfold sf; simp
theorem sf_no (n : Int) : sf n = false ↔ n < -9007199254740991 ∨ 9007199254740991 < n := by
  unfold sf
  rw [decide_eq_false_iff_not]
  omega
theorem inr_some {n : Int} (h : sf n = true) : inr n = some n := if_pos h
theorem inr_none {n : Int} (h : sf n = false) : inr n = none := if_neg (by rw [h]; simp)
theorem er_some (n : Int) : er (some n) = 0 := rfl
theorem er_none : er none = 100 := rfl

/-- how great a number is -/
theorem size_le (a b : Int) (h0 : a ≠ 0) : ((b.natAbs : Int) ≤ (9007199254740991 : Int).tdiv (a.natAbs : Int)) ↔ sf (a * b) = true := by
  have hp : 0 < a.natAbs := by omega
  have hn : (a * b).natAbs = a.natAbs * b.natAbs := Int.natAbs_mul a b
  rw [sf_iff]
  have e : (9007199254740991 : Int).tdiv (a.natAbs : Int) = ((9007199254740991 / a.natAbs : Nat) : Int) := by
    rw [show (9007199254740991 : Int) = ((9007199254740991 : Nat) : Int) from rfl, ← Int.ofNat_tdiv]
  rw [e, Int.ofNat_le, Nat.le_div_iff_mul_le hp, Nat.mul_comm, ← hn]
  omega

/-- white space -/
def sp (n : Nat) : Bool := decide (9 ≤ n ∧ n ≤ 13 ∨ n = 32 ∨ n = 160 ∨ n = 8232 ∨ n = 8233 ∨ n = 65279)
/-- a unit as a digit; 16: it is none -/
def dgt (n : Nat) : Int := if 48 ≤ n ∧ n ≤ 57 then (n : Int) - 48 else if 97 ≤ n ∧ n ≤ 102 then (n : Int) - 87 else if 65 ≤ n ∧ n ≤ 70 then (n : Int) - 55 else 16
theorem dgt_ge (n : Nat) : 0 ≤ dgt n ∧ dgt n ≤ 16 := by unfold dgt; split <;> (try split) <;> (try split) <;> omega
/-- digits to a base, behind what has been read of them -/
def dgs (b : Int) : Int → List Nat → Option Int
  | acc, [] => some acc
  | acc, d :: r => if b ≤ dgt d then none else if 9007199254740991 < acc * b + dgt d then none else dgs b (acc * b + dgt d) r
def pos (b : Int) (l : List Nat) : Option Int := if l = [] then none else dgs b 0 l
def opp (o : Option Int) : Option Int := o.map (fun n => -n)
def fro (l : List Nat) : List Nat := l.dropWhile sp
def rea (l : List Nat) : List Nat := (l.reverse.dropWhile sp).reverse
def hx (l : List Nat) : Bool := decide (atI l 0 = 48 ∧ (atI l 1 = 120 ∨ atI l 1 = 88))
def num (l : List Nat) : Option Int :=
  if l = [] then some 0 else if hx l then pos 16 (l.drop 2) else if atI l 0 = 45 then opp (pos 10 (l.drop 1)) else if atI l 0 = 43 then pos 10 (l.drop 1) else pos 10 l
/-- what Read answers of a string's bytes -/
def rd (l : Bs) : Option Int := if l.length % 2 = 0 then num (rea (fro (us l))) else none

theorem fro_nil : fro [] = [] := rfl
theorem fro_cons (a : Nat) (l : List Nat) : fro (a :: l) = if sp a then fro l else a :: l := by
  unfold fro
  rw [List.dropWhile_cons]
theorem rea_nil : rea [] = [] := rfl
theorem rea_snoc (l : List Nat) (a : Nat) : rea (l ++ [a]) = if sp a then rea l else l ++ [a] := by
  unfold rea
  rw [List.reverse_append, List.reverse_singleton, List.singleton_append, List.dropWhile_cons]
  split <;> simp
theorem fro_app : ∀ (a l : List Nat), (∀ x ∈ a, sp x = true) → fro (a ++ l) = fro l
  | [], _, _ => rfl
  | x :: a, l, h => by
    rw [List.cons_append, fro_cons, if_pos (h x (by simp)), fro_app a l fun y hy => h y (by simp [hy])]
theorem rea_app (l a : List Nat) (h : ∀ x ∈ a, sp x = true) : rea (l ++ a) = rea l := by
  unfold rea
  rw [List.reverse_append]
  congr 1
  exact fro_app a.reverse l.reverse fun x hx => h x (by simpa using hx)
theorem fro_id (a : Nat) (l : List Nat) (h : sp a = false) : fro (a :: l) = a :: l := by rw [fro_cons, if_neg (by rw [h]; simp)]
theorem rea_id (l : List Nat) (a : Nat) (h : sp a = false) : rea (l ++ [a]) = l ++ [a] := by rw [rea_snoc, if_neg (by rw [h]; simp)]

/-- digits come to something that is none, or a number that is no less -/
theorem dgs_ge (b : Int) (hb : 1 ≤ b) : ∀ (l : List Nat) (acc n : Int), 0 ≤ acc → dgs b acc l = some n → acc ≤ n
  | [], acc, n, _, h => by simp only [dgs, Option.some.injEq] at h; omega
  | d :: r, acc, n, h0, h => by
    have hd := dgt_ge d
    have hm : acc * 1 ≤ acc * b := Int.mul_le_mul_of_nonneg_left hb h0
    rw [Int.mul_one] at hm
    rw [dgs] at h
    split at h
    · simp at h
    · split at h
      · simp at h
      · have := dgs_ge b hb r (acc * b + dgt d) n (by omega) h
        omega
theorem dgs_le (b : Int) : ∀ (l : List Nat) (acc n : Int), acc ≤ 9007199254740991 → dgs b acc l = some n → n ≤ 9007199254740991
  | [], acc, n, h0, h => by simp only [dgs, Option.some.injEq] at h; omega
  | d :: r, acc, n, h0, h => by
    rw [dgs] at h
    split at h
    · simp at h
    · split at h
      · simp at h
      · exact dgs_le b r (acc * b + dgt d) n (by omega) h
/-- the reference's way of reading digits: what is too great is seen one digit later -/
def rgs (b : Int) : Int → List Nat → Option Int
  | acc, [] => some acc
  | acc, d :: r => if b ≤ dgt d ∨ 9007199254740991 < acc then none else rgs b (b * acc + dgt d) r
/-- .. and at the end -/
def fin (s : Int) : Option Int → Option Int
  | some n => inr (s * n)
  | none => none
theorem fin_none (s : Int) (b acc : Int) (h : 9007199254740991 < acc) (hs : s = 1 ∨ s = -1) : ∀ l : List Nat, fin s (rgs b acc l) = none
  | [] => by
    rw [rgs]
    refine inr_none ?_
    rw [sf_no]
    rcases hs with rfl | rfl <;> omega
  | d :: r => by
    rw [rgs, if_pos (.inr h)]
    rfl
theorem fin_dgs (s b : Int) (hb : 1 ≤ b) (hs : s = 1 ∨ s = -1) : ∀ (l : List Nat) (acc : Int), 0 ≤ acc → acc ≤ 9007199254740991 → fin s (rgs b acc l) = (dgs b acc l).map (fun n => s * n)
  | [], acc, h0, h1 => by
    rw [rgs, dgs]
    refine inr_some ?_
    rw [sf_iff]
    rcases hs with rfl | rfl <;> omega
  | d :: r, acc, h0, h1 => by
    have hd := dgt_ge d
    have hm : acc * 1 ≤ acc * b := Int.mul_le_mul_of_nonneg_left hb h0
    rw [Int.mul_one] at hm
    rw [rgs, dgs, Int.mul_comm b acc]
    by_cases h2 : b ≤ dgt d
    · rw [if_pos (.inl h2), if_pos h2]
      rfl
    · rw [if_neg (by omega), if_neg h2]
      by_cases h3 : 9007199254740991 < acc * b + dgt d
      · rw [if_pos h3]
        exact fin_none s b _ h3 hs r
      · rw [if_neg h3]
        exact fin_dgs s b hb hs r _ (by omega) (by omega)
end Go.Proofs.YtjgafhodogbemaaDoor.N
