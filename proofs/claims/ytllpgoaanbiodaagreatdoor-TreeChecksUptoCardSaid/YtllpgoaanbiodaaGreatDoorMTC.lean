/-
  Laid by wip/prune.py out of wip/token: F G H I J K L M N N2 O R S T V W X Y Z.
-/
import Derived.Test.YtllpgoaanbiodaaGreatDoorMTB
import Derived.Laws.RangeAny
import Derived.Laws.Runes
import Derived.Deep.LoopGhost
import Derived.Deep.DeepMust
import Derived.Lib.OthersKept
import Derived.Deep.CutBlock
import Derived.Deep.DeepCutAuto
import Derived.Lib.MinMax
import Derived.Deep.Draws
import Derived.Laws.StructEq
import Derived.Deep.RegionHeld3
import Derived.BigQuiet
import Derived.Deep.QuietTactic
import Derived.Lib.ItoaNum
import Derived.Lib.ItoaLen
namespace Go.Proofs.YtllpgoaanbiodaaGreatDoor.T
open Go.RowKit
open Go.RowKit Go.Proofs.YtllpgoaanbiodaaGreatDoor
open Go.RowKit Go.Proofs.YtllpgoaanbiodaaGreatDoor
open Go.RowKit Go.Proofs.YtllpgoaanbiodaaGreatDoor
open Go.RowKit Go.Proofs.YtllpgoaanbiodaaGreatDoor
open Go.RowKit Go.Proofs.YtllpgoaanbiodaaGreatDoor
open Go.RowKit Go.Proofs.YtllpgoaanbiodaaGreatDoor
/-- what readWord answers -/
def word (l : Bs) : Option (Tok × Nat) := if 32 < run ib l then none else some (⟨if isW (l.take (run ib l)) then 2 else 1, l.take (run ib l), 0⟩, run ib l)
/-- what readText answers -/
def text (l : Bs) : Option (Tok × Nat) := (read l).map fun x => (⟨4, bs x.1, 0⟩, x.2)
/-- what readSign answers -/
def sign (l : Bs) : Option (Tok × Nat) := (sg l).map fun g => (⟨5, g, 0⟩, g.length)
open Go.RowKit Go.Proofs.YtllpgoaanbiodaaGreatDoor
open Go.RowKit Go.Proofs.YtllpgoaanbiodaaGreatDoor
open Go.RowKit Go.Proofs.YtllpgoaanbiodaaGreatDoor
open Go.RowKit Go.Proofs.YtllpgoaanbiodaaGreatDoor
open Go.RowKit Go.Proofs.YtllpgoaanbiodaaGreatDoor
open Go.RowKit Go.Proofs.YtllpgoaanbiodaaGreatDoor
open Go.RowKit Go.Proofs.YtllpgoaanbiodaaGreatDoor
open Go.RowKit Go.Proofs.YtllpgoaanbiodaaGreatDoor
open Go.RowKit Go.Proofs.YtllpgoaanbiodaaGreatDoor
open Go.RowKit Go.Proofs.YtllpgoaanbiodaaGreatDoor
open Go.RowKit Go.Proofs.YtllpgoaanbiodaaGreatDoor
open Go.RowKit Go.Proofs.YtllpgoaanbiodaaGreatDoor
open Go.RowKit Go.Proofs.YtllpgoaanbiodaaGreatDoor
/-! what is written is cut as itself -/
/-- the text s is the token p's -/
def Good (p : Tk) (s : Bs) : Prop := ws1 s = some none ∧ s ≠ [] ∧ ∃ t : Tok, one s = some (t, s.length) ∧ (t.k : Int) = p.k ∧ ((p.k = 3 ∧ t.t = [] ∧ (t.n : Int) = p.n) ∨ (¬ p.k = 3 ∧ t.t = p.t ∧ t.n = 0))
theorem signs_all : ∀ s ∈ signs, one s = some (⟨5, s, 0⟩, s.length) ∧ ws1 s = some none ∧ s ≠ [] := by decide +kernel
theorem good_sign {p : Tk} (hk : p.k = 5) (h1 : p.t ∈ signs) : Good p p.t := by
  obtain ⟨a, b, c⟩ := signs_all _ h1
  exact ⟨b, c, _, a, hk.symm, .inr ⟨by omega, rfl, rfl⟩⟩
def toks : Nat → List (Bs × Tok) → List Tk
  | _, [] => []
  | a, x :: r => mk x.2 a false :: toks (a + x.1.length + 1) r
theorem dec_len (m : Nat) (h : m ≤ 9223372036854775807) : (Lib.decDigits m).length ≤ 21 := by
  have := Lib.itoa_length_le (m : Int) (by omega) (by omega)
  unfold Lib.itoa at this
  rw [if_neg (by omega)] at this
  exact this
end Go.Proofs.YtllpgoaanbiodaaGreatDoor.T
