/-
  WHAT ALL THE CARDS OF THE TREE LAWS LEAN ON: the table among the listed variables, what an argument reads as, the row's last step.
-/
import Derived.Test.YtllpgoaanbiodaaGreatDoorCards
import Derived.Test.YtllpgoaanbiodaaGreatDoorTie
import Derived.Test.YtllpgoaanbiodaaGreatDoorMOp
import Derived.Test.YtllpgoaanbiodaaGreatDoorMD
import Derived.LaidMore
import Derived.Stop.LaidErr
import Derived.Carry
import Derived.SevenTiedAt
import Derived.SizedLaws
import Derived.JoinedCond
import Derived.Deep.DeepHandedRow
import Derived.Deep.DeepWitnessRowRef
namespace Go.Proofs.YtllpgoaanbiodaaGreatDoor.R
open Go.Proofs.YtllpgoaanbiodaaGreatDoor Go.Proofs.YtllpgoaanbiodaaGreatDoor.T Go.ChangeShapes Go.WideShapes Go.ChangeAt Go.RowKit
theorem own : ownKnob Tryz.prog.godebug = none := by kernel_rfl
theorem laidOut : laidOutB Tryz.prog = true := by kernel_rfl
theorem tabAt {W : World} (h : laidMetH Tryz.prog Rows.treeChecksRow.laid W) : Tab W := by
  rw [MakeChecks.laidMetH_plain _ _ _ (by kernel_rfl)] at h
  exact Lib.tabIs_of_head (g := 1) (t := 122) (e := 113) (n := 20) (rest := []) (by kernel_rfl) (by kernel_rfl) Tryz.underlying122 Tryz.underlying113 (by kernel_rfl) (by kernel_rfl) h.tail.tail
/-- the door's own heap meets the list -/
theorem laid_met (os : Os) (args : Array Value) : laidMet Tryz.prog Rows.treeChecksRow.laid ((World.doorLaid Tryz.prog 4000 os).forCall (fun _ _ => 0) ⟨#[], args, []⟩).memory :=
  laidMet_of_run' 10 (by kernel_rfl) (by kernel_rfl)
section
variable {H : Type} {enc : TypeId × Value → H}
theorem trodAll_keep {P : Program} (hl : laidOutB P = true) {W W' : World} (hb : Below W.heap.size W W') : ∀ (ts : List TypeId) (vs : List Value) (ds : List (DataW H)) (ps : List MemPlace), (∀ t ∈ ts, P.readableRec t = true ∧ t < P.types.size) →
    DataW.TrodAll enc P W 0 (fun _ => true) true ts vs ds ps → (∀ x ∈ ps, x.block < W.heap.size) → DataW.TrodAll enc P W' 0 (fun b => decide (b < W.heap.size)) true ts vs ds ps
  | [], vs, ds, ps, _, h, _ => by
    obtain ⟨rfl, rfl, rfl⟩ := trodAll_nil h
    exact trodAll_mk0
  | t :: ts, vs, ds, ps, hr, h, hlt => by
    obtain ⟨v, vs', d, ds', p, q, rfl, rfl, rfl, h0, h1⟩ := trodAll_cons h
    have ht := hr t (by simp)
    exact trodAll_cons_mk (Below.trod hl ht.1 ht.2 h0 hb fun x hx => hlt x (by simp [hx])) (trodAll_keep hl hb ts vs' ds' q (fun t' h' => hr t' (by simp [h'])) h1 fun x hx => hlt x (by simp [hx]))
/-- the row's last step: nothing that was there has turned -/
theorem post_keep {P : Program} {f : Func} {s : ChangeSpec} {W W' : World} {args : Array Value} {v : Value} {ds : List (DataW H)} {p : List MemPlace} (hl : laidOutB P = true) (hr : ∀ t ∈ f.params.toList, P.readableRec t = true ∧ t < P.types.size) (hv : s.vars = [])
    (hW : DataW.Whole enc P f.params.toList s.vars false W args.toList ds [] p) (hA : DataW.TrodAll enc P W 0 (fun _ => true) true f.params.toList args.toList ds p)
    (hres : ∀ (b : Nat) (sp : Nat → Bool) (hd : Bool), DataW.TrodAll enc P W' b sp hd f.resultTypes.toList (v.resultList f.resultTypes.size) (s.fn H (ds ++ [])).results [])
    (hargs : (s.fn H (ds ++ [])).args = ds) (hvars : (s.fn H (ds ++ [])).vars = [])
    (hb : Below W.heap.size W W') : s.post enc P f false true false false W args v W' := by
  refine ⟨ds, [], p, [], p, [], hW, hres _ _ _, ?_, ?_, hb.frame _, fun h => by cases h⟩
  · rw [hargs]
    exact trodAll_keep hl hb _ _ _ _ hr hA hW.lt
  · rw [hvars, hv]
    rfl
set_option maxRecDepth 20000 in
/-- an argument of type Node -/
theorem open_node {W : World} {base : Nat} {v : Value} {d : DataW H} {p : List MemPlace} (hval : Value.okWide Tryz.prog W .any base 25 v) (h : DataW.Trod enc Tryz.prog W 0 (fun _ => true) true 25 v d p) :
    ∃ (u : V) (y : X), v = y.v ∧ Is W u y ∧ u.bulk ≤ Rows.uptoBulk d := by
  obtain ⟨cs, rfl, _⟩ := okWide_struct Tryz.underlying25 hval
  obtain ⟨fuel, hf⟩ := h
  obtain ⟨u, y, h1, h2, h3⟩ := open_v fuel fuel _ _ (Nat.le_refl _) hf
  refine ⟨u, y, ?_, h2, h3⟩
  have h1 : cs.toList = y.cells.toList := h1
  rw [Array.toList_inj.1 h1]
  rfl
end
end Go.Proofs.YtllpgoaanbiodaaGreatDoor.R
