/-
  Laid by wip/prune.py out of wip/token: F G H I J K L M N N2 O R S T V W X Y Z.
-/
import Derived.Test.YtllpgoaanbiodaaGreatDoorMTB
import Derived.Laws.RangeAny
import Derived.Laws.Runes
import Derived.Deep.LoopGhost
import Derived.Deep.DeepMust
import Derived.Lib.OthersKept
import Derived.Deep.CutBlock
import Derived.Deep.DeepCutAuto
import Derived.Lib.MinMax
import Derived.Deep.Draws
import Derived.Laws.StructEq
import Derived.Deep.RegionHeld3
import Derived.BigQuiet
import Derived.Deep.QuietTactic
import Derived.Lib.ItoaNum
import Derived.Lib.ItoaLen
namespace Go.Proofs.YtllpgoaanbiodaaGreatDoor.T
open Go.RowKit

open Go.RowKit Go.Proofs.YtllpgoaanbiodaaGreatDoor
open Go.RowKit Go.Proofs.YtllpgoaanbiodaaGreatDoor
theorem ws1_cons (c : UInt8) (r : Bs) : ws1 (c :: r) = if ws c then some (some 1)
    else if c = 47 ∧ r.head? = some 47 then some (some (run nel (c :: r)))
    else if c = 47 ∧ r.head? = some 42 then (match fin (r.drop 1) with
      | some j => some (some (j + 4))
      | none => none)
    else some none := rfl
open Go.RowKit Go.Proofs.YtllpgoaanbiodaaGreatDoor
open Go.RowKit Go.Proofs.YtllpgoaanbiodaaGreatDoor
open Go.RowKit Go.Proofs.YtllpgoaanbiodaaGreatDoor
theorem val_snoc (b : Nat) (x : UInt8) : ∀ (l : Bs) (acc : Nat), val b acc (l ++ [x]) = val b acc l * b + dv x
  | [], _ => rfl
  | c :: r, acc => val_snoc b x r (acc * b + dv c)
theorem num_of {l D : Bs} {b k : Nat} (h : nparts l = (D, b, k)) : num l = if 9007199254740991 < val b 0 D then none else if free (l.drop k) then some (val b 0 D, k) else none := by
  unfold num
  rw [h]
open Go.RowKit Go.Proofs.YtllpgoaanbiodaaGreatDoor
/-- what readWord answers -/
def word (l : Bs) : Option (Tok × Nat) := if 32 < run ib l then none else some (⟨if isW (l.take (run ib l)) then 2 else 1, l.take (run ib l), 0⟩, run ib l)
/-- what readText answers -/
def text (l : Bs) : Option (Tok × Nat) := (read l).map fun x => (⟨4, bs x.1, 0⟩, x.2)
/-- what readSign answers -/
def sign (l : Bs) : Option (Tok × Nat) := (sg l).map fun g => (⟨5, g, 0⟩, g.length)
open Go.RowKit Go.Proofs.YtllpgoaanbiodaaGreatDoor
/-- what readNum answers -/
def nmT (l : Bs) : Option (Tok × Nat) := (num l).map fun x => (⟨3, [], x.1⟩, x.2)
open Go.RowKit Go.Proofs.YtllpgoaanbiodaaGreatDoor
theorem one_num {c : UInt8} {r : Bs} (h : dg c = true) : one (c :: r) = nmT (c :: r) := by
  unfold one
  simp only
  rw [if_pos h]
  rfl
theorem one_word {c : UInt8} {r : Bs} (h : dg c = false) (h2 : ib c = true) : one (c :: r) = word (c :: r) := by
  unfold one
  simp only
  rw [if_neg (by rw [h]; decide), if_pos h2]
  rfl
theorem one_text {c : UInt8} {r : Bs} (h : dg c = false) (h2 : ib c = false) (h3 : c = 39 ∨ c = 34) : one (c :: r) = text (c :: r) := by
  unfold one
  simp only
  rw [if_neg (by rw [h]; decide), if_neg (by rw [h2]; decide), if_pos h3]
  rfl
open Go.RowKit Go.Proofs.YtllpgoaanbiodaaGreatDoor
open Go.RowKit Go.Proofs.YtllpgoaanbiodaaGreatDoor
open Go.RowKit Go.Proofs.YtllpgoaanbiodaaGreatDoor
open Go.RowKit Go.Proofs.YtllpgoaanbiodaaGreatDoor
open Go.RowKit Go.Proofs.YtllpgoaanbiodaaGreatDoor
open Go.RowKit Go.Proofs.YtllpgoaanbiodaaGreatDoor
open Go.RowKit Go.Proofs.YtllpgoaanbiodaaGreatDoor
open Go.RowKit Go.Proofs.YtllpgoaanbiodaaGreatDoor
open Go.RowKit Go.Proofs.YtllpgoaanbiodaaGreatDoor
open Go.RowKit Go.Proofs.YtllpgoaanbiodaaGreatDoor
open Go.RowKit Go.Proofs.YtllpgoaanbiodaaGreatDoor

/-! digits -/
theorem dec_digit : ∀ (m u : Nat), u ≤ m → ∀ b ∈ Lib.decDigits u, dg b = true := by
  intro m
  induction m with
  | zero =>
    intro u hu b hb
    rw [Lib.decDigits_one (by omega)] at hb
    rw [List.mem_singleton] at hb
    subst hb
    unfold dg
    refine decide_eq_true ?_
    rw [UInt8.toNat_ofNat']
    omega
  | succ m ih =>
    intro u hu b hb
    by_cases h : u < 10
    · rw [Lib.decDigits_one h] at hb
      rw [List.mem_singleton] at hb
      subst hb
      unfold dg
      refine decide_eq_true ?_
      rw [UInt8.toNat_ofNat']
      omega
    · rw [Lib.decDigits, dif_neg h, List.mem_append] at hb
      rcases hb with hb | hb
      · exact ih (u / 10) (by omega) b hb
      · rw [List.mem_singleton] at hb
        subst hb
        unfold dg
        refine decide_eq_true ?_
        rw [UInt8.toNat_ofNat']
        omega
theorem dv_ofNat (d : Nat) (h : d < 10) : dv (UInt8.ofNat (48 + d)) = d := by
  have e : (UInt8.ofNat (48 + d)).toNat = 48 + d := by rw [UInt8.toNat_ofNat']; omega
  unfold dv
  rw [e, if_pos (by omega)]
  omega
theorem dec_val : ∀ (m u : Nat), u ≤ m → val 10 0 (Lib.decDigits u) = u := by
  intro m
  induction m with
  | zero =>
    intro u hu
    have h0 : u = 0 := by omega
    subst h0
    rw [Lib.decDigits_one (by omega)]
    rfl
  | succ m ih =>
    intro u hu
    by_cases h : u < 10
    · rw [Lib.decDigits_one h]
      show 0 * 10 + dv _ = u
      rw [dv_ofNat u h]
      omega
    · rw [Lib.decDigits, dif_neg h, val_snoc, ih (u / 10) (by omega), dv_ofNat _ (by omega)]
      omega
theorem dec_head : ∀ (m u : Nat), u ≤ m → 0 < u → ∃ c r, Lib.decDigits u = c :: r ∧ ¬ c = 48 := by
  intro m
  induction m with
  | zero => intro u hu h0; omega
  | succ m ih =>
    intro u hu h0
    by_cases h : u < 10
    · refine ⟨_, _, Lib.decDigits_one h, fun e => ?_⟩
      have := congrArg UInt8.toNat e
      rw [UInt8.toNat_ofNat'] at this
      have e48 : (48 : UInt8).toNat = 48 := rfl
      omega
    · obtain ⟨c, r, e, hc⟩ := ih (u / 10) (by omega) (by omega)
      refine ⟨c, r ++ [UInt8.ofNat (48 + u % 10)], ?_, hc⟩
      rw [Lib.decDigits, dif_neg h, e]
      rfl
theorem isH_not {c : UInt8} {r : Bs} (h : ¬ c = 48) : isH (c :: r) = false := by
  match r with
  | [] => rfl
  | [_] => rfl
  | x :: d :: q =>
    show (decide (c = 48) && _) = false
    rw [decide_eq_false h]
    rfl
theorem num_dec (u : Nat) (h : u ≤ 9007199254740991) : num (Lib.decDigits u) = some (u, (Lib.decDigits u).length) := by
  rcases Nat.eq_zero_or_pos u with rfl | h0
  · rw [Lib.decDigits_one (by omega)]
    decide +kernel
  · obtain ⟨c, r, e, hc⟩ := dec_head u u (Nat.le_refl _) h0
    have hr : run dg (Lib.decDigits u) = (Lib.decDigits u).length := run_full (dec_digit u u (Nat.le_refl _))
    have hn : nparts (Lib.decDigits u) = (Lib.decDigits u, 10, (Lib.decDigits u).length) := by
      unfold nparts
      rw [if_neg (by rw [e, isH_not hc]; decide), if_neg (by rw [e]; simpa using hc), hr, List.take_length]
    rw [num_of hn, dec_val u u (Nat.le_refl _), if_neg (by omega), List.drop_length]
    rfl
/-! what is written is cut as itself -/
/-- the text s is the token p's -/
def Good (p : Tk) (s : Bs) : Prop := ws1 s = some none ∧ s ≠ [] ∧ ∃ t : Tok, one s = some (t, s.length) ∧ (t.k : Int) = p.k ∧ ((p.k = 3 ∧ t.t = [] ∧ (t.n : Int) = p.n) ∨ (¬ p.k = 3 ∧ t.t = p.t ∧ t.n = 0))
theorem ws1_no {c : UInt8} {r : Bs} (h : ws c = false) (h2 : ¬ c = 47) : ws1 (c :: r) = some none := by
  rw [ws1_cons, if_neg (by rw [h]; decide), if_neg (fun e => h2 e.1), if_neg (fun e => h2 e.1)]
theorem ib_no {c : UInt8} (h : ib c = true) : ws c = false ∧ ¬ c = 47 := by
  unfold ib lt dg at h
  have h : (97 ≤ c.toNat ∧ c.toNat ≤ 122 ∨ 65 ≤ c.toNat ∧ c.toNat ≤ 90 ∨ c.toNat = 95 ∨ c.toNat = 36) ∨ 48 ≤ c.toNat ∧ c.toNat ≤ 57 := by simpa using h
  refine ⟨?_, fun e => ?_⟩
  · unfold ws
    exact decide_eq_false (by omega)
  · subst e
    have e47 : (47 : UInt8).toNat = 47 := rfl
    omega
theorem good_name {p : Tk} (hk : p.k = 1) (h1 : isI p.t = true) (h2 : isW p.t = false) : Good p p.t := by
  obtain ⟨k, l, n, a, f⟩ := p
  simp only at hk h1 h2
  subst hk
  cases l with
  | nil => cases h1
  | cons c r =>
    rw [isI_cons] at h1
    simp only [Bool.and_eq_true, decide_eq_true_eq, Bool.not_eq_true'] at h1
    obtain ⟨h3, h4, h5⟩ := h1
    have h6 : run ib (c :: r) = (c :: r).length := by
      rw [all_run] at h5
      exact of_decide_eq_true h5
    have hc : ib c = true := by
      have := List.all_eq_true.1 h5 c (by simp)
      exact this
    obtain ⟨n1, n2⟩ := ib_no hc
    refine ⟨ws1_no n1 n2, by simp, ⟨1, c :: r, 0⟩, ?_, rfl, .inr ⟨by show ¬ (1 : Int) = 3; decide, rfl, rfl⟩⟩
    rw [one_word h4 hc]
    unfold word
    rw [h6, if_neg (by omega), List.take_length, h2]
    rfl
theorem words_all : ∀ s ∈ words, one s = some (⟨2, s, 0⟩, s.length) ∧ ws1 s = some none ∧ s ≠ [] := by decide +kernel
theorem signs_all : ∀ s ∈ signs, one s = some (⟨5, s, 0⟩, s.length) ∧ ws1 s = some none ∧ s ≠ [] := by decide +kernel
theorem good_word {p : Tk} (hk : p.k = 2) (h1 : isW p.t = true) : Good p p.t := by
  unfold isW at h1
  rw [List.contains_iff_mem] at h1
  obtain ⟨a, b, c⟩ := words_all _ h1
  exact ⟨b, c, _, a, hk.symm, .inr ⟨by omega, rfl, rfl⟩⟩
theorem good_sign {p : Tk} (hk : p.k = 5) (h1 : p.t ∈ signs) : Good p p.t := by
  obtain ⟨a, b, c⟩ := signs_all _ h1
  exact ⟨b, c, _, a, hk.symm, .inr ⟨by omega, rfl, rfl⟩⟩
theorem good_num {p : Tk} {u : Nat} (hk : p.k = 3) (hn : p.n = (u : Nat)) (hu : u ≤ 9007199254740991) : Good p (Lib.decDigits u) := by
  have hd := dec_digit u u (Nat.le_refl _)
  have hnum := num_dec u hu
  cases hl : Lib.decDigits u with
  | nil =>
    have h1 := Lib.decDigits_length u
    have h2 := Lib.nDigits_pos u
    rw [hl, List.length_nil] at h1
    omega
  | cons c r =>
    rw [hl] at hd hnum
    have hc := hd c (by simp)
    have hi : ib c = true := by unfold ib; rw [hc]; simp
    obtain ⟨n1, n2⟩ := ib_no hi
    refine ⟨ws1_no n1 n2, by simp, ⟨3, [], u⟩, ?_, hk.symm, .inl ⟨hk, rfl, hn.symm⟩⟩
    rw [one_num hc]
    unfold nmT
    rw [hnum]
    rfl
theorem good_text {p : Tk} (hk : p.k = 4) (h1 : p.t.length % 2 = 0) : Good p (quote (us p.t)) := by
  have hr := read_quote (us p.t) [] (us_lt p.t)
  rw [List.append_nil] at hr
  obtain ⟨q, hq⟩ : ∃ q, quote (us p.t) = 34 :: q := ⟨_, rfl⟩
  rw [hq] at hr ⊢
  refine ⟨ws1_no (by rfl) (by decide), by simp, ⟨4, p.t, 0⟩, ?_, hk.symm, .inr ⟨by omega, rfl, rfl⟩⟩
  rw [one_text (by rfl) (by rfl) (.inr rfl)]
  unfold text
  rw [hr]
  show some (_, _) = _
  rw [bs_us _ h1]
def srcOf : List (Bs × Tok) → Bs
  | [] => []
  | x :: r => x.1 ++ 32 :: srcOf r
def toks : Nat → List (Bs × Tok) → List Tk
  | _, [] => []
  | a, x :: r => mk x.2 a false :: toks (a + x.1.length + 1) r
/-- a text and its token -/
def Pair (x : Bs × Tok) : Prop := ws1 x.1 = some none ∧ x.1 ≠ [] ∧ one x.1 = some (x.2, x.1.length)
theorem back : ∀ (W : List (Bs × Tok)) (a : Nat), (∀ x ∈ W, Pair x) → cutl (srcOf W) a = .inr (toks a W ++ [endT (a + (srcOf W).length) false])
  | [], a, _ => by
    show cutl [] a = _
    rw [cutl_end _ (by rfl)]
    rfl
  | x :: r, a, h => by
    obtain ⟨h1, h2, h3⟩ := h x (by simp)
    have ih := back r (a + x.1.length + 1) fun y hy => h y (by simp [hy])
    have hs : spc (x.1 ++ 32 :: srcOf r) = (0, true) := spc_none (ws1_off (.inr rfl) _ h2 h1)
    have ho := one_app (.inr rfl : gap 32) (srcOf r) h3
    show cutl (x.1 ++ 32 :: srcOf r) a = _
    rw [cutl_tok (n := 0) a hs (by rw [List.length_append, List.length_cons]; omega) ho]
    have hd : (x.1 ++ 32 :: srcOf r).drop (0 + x.1.length) = 32 :: srcOf r := by rw [Nat.zero_add]; exact List.drop_left' rfl
    rw [hd, cutl_blank (by rfl), if_neg (by decide)]
    have e1 : a + 0 + x.1.length + 1 = a + x.1.length + 1 := by omega
    rw [e1, ih]
    have e2 : a + x.1.length + 1 + (srcOf r).length = a + (x.1 ++ 32 :: srcOf r).length := by rw [List.length_append, List.length_cons]; omega
    rw [e2]
    rfl
theorem srcOf_snoc : ∀ (W : List (Bs × Tok)) (x : Bs × Tok), srcOf (W ++ [x]) = srcOf W ++ (x.1 ++ [32])
  | [], x => by simp [srcOf]
  | y :: r, x => by
    show y.1 ++ 32 :: srcOf (r ++ [x]) = (y.1 ++ 32 :: srcOf r) ++ _
    rw [srcOf_snoc r x, List.append_assoc]
    rfl
theorem dec_len (m : Nat) (h : m ≤ 9223372036854775807) : (Lib.decDigits m).length ≤ 21 := by
  have := Lib.itoa_length_le (m : Int) (by omega) (by omega)
  unfold Lib.itoa at this
  rw [if_neg (by omega)] at this
  exact this
theorem digit_u8 (d : Nat) (h : d < 10) : 48 + (d : Int) = ((UInt8.ofNat (48 + d)).toNat : Int) := by
  rw [UInt8.toNat_ofNat']
  omega
end Go.Proofs.YtllpgoaanbiodaaGreatDoor.T
