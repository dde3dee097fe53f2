/-
  WHAT ALL THE CARDS OF THE NUMBER LAWS LEAN ON: the table among the listed variables, the start of the witness, the row's last step.
-/
import Derived.Test.YtjgafhodogbemaaDoorCards
import Derived.Test.YtjgafhodogbemaaDoorTie
import Derived.Test.YtjgafhodogbemaaDoorH
import Derived.OpenShut
import Derived.LaidMore
import Derived.Stop.LaidErr
import Derived.SevenTiedAt
import Derived.SizedLaws
import Derived.Deep.DeepHandedRow
import Derived.Deep.DeepWitnessRowRef
namespace Go.Proofs.YtjgafhodogbemaaDoor
open Go.Proofs.YtjgafhodogbemaaDoor.N Go.ChangeShapes Go.WideShapes Go.ChangeAt Go.RowKit

theorem own : ownKnob Tryd.prog.godebug = none := by kernel_rfl
theorem tabAt {W : World} (h : laidMetH Tryd.prog Rows.numberReckonsRow.laid W) : Tab W := by
  rw [MakeChecks.laidMetH_plain _ _ _ (by kernel_rfl)] at h
  exact Lib.tabIs_of_head (g := 0) (t := 68) (e := 52) (n := 20) (rest := []) (by kernel_rfl) (by kernel_rfl) Tryd.underlying68 Tryd.underlying52 (by kernel_rfl) (by kernel_rfl) h.tail.tail
/-- the door's own heap meets the list -/
theorem laid_met (os : Os) (args : Array Value) : laidMet Tryd.prog Rows.numberReckonsRow.laid ((World.doorLaid Tryd.prog 4000 os).forCall (fun _ _ => 0) ⟨#[], args, []⟩).memory :=
  laidMet_of_run' 10 (by kernel_rfl) (by kernel_rfl)

/-- the row's last step: nothing that was there has turned, and no argument leads to memory -/
theorem post_plain {H : Type} {enc : TypeId × Value → H} {P : Program} {f : Func} {s : ChangeSpec} {W W' : World} {args : Array Value} {v : Value} {ds gs : List (DataW H)}
    (hW : DataW.Whole enc P f.params.toList s.vars false W args.toList ds gs [])
    (hres : ∀ (b : Nat) (sp : Nat → Bool) (hd : Bool), DataW.TrodAll enc P W' b sp hd f.resultTypes.toList (v.resultList f.resultTypes.size) (s.fn H (ds ++ gs)).results [])
    (hargs : ∀ sp : Nat → Bool, DataW.TrodAll enc P W' 0 sp true f.params.toList args.toList (s.fn H (ds ++ gs)).args [])
    (hvars : ∀ sp : Nat → Bool, DataW.TrodVars enc P W' sp s.vars (s.fn H (ds ++ gs)).vars [])
    (hb : Below W.heap.size W W') : s.post enc P f false true false false W args v W' :=
  ⟨ds, gs, [], [], [], [], hW, hres _ _ _, hargs _, hvars _, hb.frame _, fun h => by cases h⟩
theorem int_bounds {i : Int} (h : (Lit.int .i64 i).wf = true) : -9223372036854775808 ≤ i ∧ i ≤ 9223372036854775807 := by
  simp only [Lit.wf, IntKind.min, IntKind.max, IntKind.signed, IntKind.bits, Bool.and_eq_true, decide_eq_true_eq] at h
  obtain ⟨h1, h2⟩ := h
  simp at h1 h2
  omega
end Go.Proofs.YtjgafhodogbemaaDoor
