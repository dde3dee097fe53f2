/-
 Laid by wip/prune.py out of wip/token: F G H I J K L M N N2 O R S T V W X Y Z.
-/
import Derived.Test.YtllpgoaanbiodaaGreatDoorMTB
import Derived.Laws.RangeAny
import Derived.Laws.Runes
import Derived.Deep.LoopGhost
import Derived.Deep.DeepMust
import Derived.Lib.OthersKept
import Derived.Deep.CutBlock
import Derived.Deep.DeepCutAuto
import Derived.Lib.MinMax
import Derived.Deep.Draws
import Derived.Laws.StructEq
import Derived.Deep.RegionHeld3
import Derived.BigQuiet
import Derived.Deep.QuietTactic
import Derived.Lib.ItoaNum
import Derived.Lib.ItoaLen
namespace Go.Proofs.YtllpgoaanbiodaaGreatDoor.T
open Go.RowKit
open Go.RowKit Go.Proofs.YtllpgoaanbiodaaGreatDoor
open Go.RowKit Go.Proofs.YtllpgoaanbiodaaGreatDoor
theorem ws1_cons (c : UInt8) (r : Bs) : ws1 (c :: r) = if ws c then some (some 1)
  else if c = 47 ∧ r.head? = some 47 then some (some (run nel (c :: r)))
  else if c = 47 ∧ r.head? = some 42 then (match fin (r.drop 1) with
   | some j => some (some (j + 4))
   | none => none)
  else some none := rfl
open Go.RowKit Go.Proofs.YtllpgoaanbiodaaGreatDoor
open Go.RowKit Go.Proofs.YtllpgoaanbiodaaGreatDoor
open Go.RowKit Go.Proofs.YtllpgoaanbiodaaGreatDoor
open Go.RowKit Go.Proofs.YtllpgoaanbiodaaGreatDoor
def word (l : Bs) : Option (Tok × Nat) := if 32 < run ib l then none else some (⟨if isW (l.take (run ib l)) then 2 else 1, l.take (run ib l), 0⟩, run ib l)
open Go.RowKit Go.Proofs.YtllpgoaanbiodaaGreatDoor
open Go.RowKit Go.Proofs.YtllpgoaanbiodaaGreatDoor
theorem one_word {c : UInt8} {r : Bs} (h : dg c = false) (h2 : ib c = true) : one (c :: r) = word (c :: r) := by
 unfold one
 simp only
 rw [if_neg (by rw [h]; decide), if_pos h2]
 rfl
open Go.RowKit Go.Proofs.YtllpgoaanbiodaaGreatDoor
open Go.RowKit Go.Proofs.YtllpgoaanbiodaaGreatDoor
open Go.RowKit Go.Proofs.YtllpgoaanbiodaaGreatDoor
open Go.RowKit Go.Proofs.YtllpgoaanbiodaaGreatDoor
open Go.RowKit Go.Proofs.YtllpgoaanbiodaaGreatDoor
open Go.RowKit Go.Proofs.YtllpgoaanbiodaaGreatDoor
open Go.RowKit Go.Proofs.YtllpgoaanbiodaaGreatDoor
open Go.RowKit Go.Proofs.YtllpgoaanbiodaaGreatDoor
open Go.RowKit Go.Proofs.YtllpgoaanbiodaaGreatDoor
open Go.RowKit Go.Proofs.YtllpgoaanbiodaaGreatDoor
open Go.RowKit Go.Proofs.YtllpgoaanbiodaaGreatDoor
def Good (p : Tk) (s : Bs) : Prop := ws1 s = some none ∧ s ≠ [] ∧ ∃ t : Tok, one s = some (t, s.length) ∧ (t.k : Int) = p.k ∧ ((p.k = 3 ∧ t.t = [] ∧ (t.n : Int) = p.n) ∨ (¬ p.k = 3 ∧ t.t = p.t ∧ t.n = 0))
theorem ws1_no {c : UInt8} {r : Bs} (h : ws c = false) (h2 : ¬ c = 47) : ws1 (c :: r) = some none := by
 rw [ws1_cons, if_neg (by rw [h]; decide), if_neg (fun e => h2 e.1), if_neg (fun e => h2 e.1)]
theorem ib_no {c : UInt8} (h : ib c = true) : ws c = false ∧ ¬ c = 47 := by
 unfold ib lt dg at h
 have h : (97 ≤ c.toNat ∧ c.toNat ≤ 122 ∨ 65 ≤ c.toNat ∧ c.toNat ≤ 90 ∨ c.toNat = 95 ∨ c.toNat = 36) ∨ 48 ≤ c.toNat ∧ c.toNat ≤ 57 := by simpa using h
 refine ⟨?_, fun e => ?_⟩
 ·unfold ws
  exact decide_eq_false (by omega)
 ·subst e
  have e47 : (47 : UInt8).toNat = 47 := rfl
  omega
theorem good_name {p : Tk} (hk : p.k = 1) (h1 : isI p.t = true) (h2 : isW p.t = false) : Good p p.t := by
 obtain ⟨k, l, n, a, f⟩ := p
 simp only at hk h1 h2
 subst hk
 cases l with
 | nil => cases h1
 | cons c r =>
  rw [isI_cons] at h1
  simp only [Bool.and_eq_true, decide_eq_true_eq, Bool.not_eq_true'] at h1
  obtain ⟨h3, h4, h5⟩ := h1
  have h6 : run ib (c :: r) = (c :: r).length := by
   rw [all_run] at h5
   exact of_decide_eq_true h5
  have hc : ib c = true := by
   have := List.all_eq_true.1 h5 c (by simp)
   exact this
  obtain ⟨n1, n2⟩ := ib_no hc
  refine ⟨ws1_no n1 n2, by simp, ⟨1, c :: r, 0⟩, ?_, rfl, .inr ⟨by show ¬ (1 : Int) = 3; decide, rfl, rfl⟩⟩
  rw [one_word h4 hc]
  unfold word
  rw [h6, if_neg (by omega), List.take_length, h2]
  rfl
theorem dec_len (m : Nat) (h : m ≤ 9223372036854775807) : (Lib.decDigits m).length ≤ 21 := by
 have := Lib.itoa_length_le (m : Int) (by omega) (by omega)
 unfold Lib.itoa at this
 rw [if_neg (by omega)] at this
 exact this
end Go.Proofs.YtllpgoaanbiodaaGreatDoor.T
