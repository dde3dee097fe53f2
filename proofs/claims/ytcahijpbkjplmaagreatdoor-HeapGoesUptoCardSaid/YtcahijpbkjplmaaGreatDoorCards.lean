/-
  DERIVED. GIVEN WITH THE SEED: THE CARDS: each row of YtcahijpbkjplmaaGreatDoorRows.lean that lists a variable, with what it lists TIED to the program's text (the seventh form; the later family's looks); each row that meets fmt, with fmt's text TOLD by the authors' own Lean function (tested against real Go, not proved from fmt's source: count such statements apart). THE CARD IS WHAT COUNTS. Prove the row's statement (the work); the ties are given (YtcahijpbkjplmaaGreatDoorTie.lean); close each card by the builder's one call (the guide's Derived/Test/ToyasCard.lean, 'card_holds'). Laid BY PROGRAM, IN A SANDBOX (cutbox-door.mjs). By AI agents, Wed Nov 11 2026. No macro, syntax, notation, axiom, sorry.
-/
import Derived.Test.YtcahijpbkjplmaaGreatDoorRows
import GoSem.ClaimSeven
namespace Go.Proofs.YtcahijpbkjplmaaGreatDoor
namespace Rows

/-- THE TIED CARD OF 'credenzalaw11.HeapGoes'. -/
def heapGoesCard : Claim7 := { stood := { row := heapGoesRow, standIns := [], harness := (true, "b6dca50f2000c6032b15e77ba93effa692c1998c4f7afab7e982b29e45609dfb"), looks := false }, kinds := [], alts := [], laidByText := true, laidKinds := [.data, .data, .data], laidTests := true, laidLooks := .later }
def HeapGoesCardSaid : Prop := Claim7.holds Tryz.pinned (.plain (OpenSpec.ofChange heapGoesSpec)) heapGoesCard

/-- THE TIED CARD OF 'credenzalaw11.HeapCloses'. -/
def heapClosesCard : Claim7 := { stood := { row := heapClosesRow, standIns := [], harness := (true, "b6dca50f2000c6032b15e77ba93effa692c1998c4f7afab7e982b29e45609dfb"), looks := false }, kinds := [], alts := [], laidByText := true, laidKinds := [.data, .data, .data], laidTests := true, laidLooks := .later }
def HeapClosesCardSaid : Prop := Claim7.holds Tryz.pinned (.plain (OpenSpec.ofChange heapClosesSpec)) heapClosesCard

/-- THE TIED CARD OF 'credenzalaw11.HeapStays'. -/
def heapStaysCard : Claim7 := { stood := { row := heapStaysRow, standIns := [], harness := (true, "b6dca50f2000c6032b15e77ba93effa692c1998c4f7afab7e982b29e45609dfb"), looks := false }, kinds := [], alts := [], laidByText := true, laidKinds := [.data, .data, .data], laidTests := true, laidLooks := .later }
def HeapStaysCardSaid : Prop := Claim7.holds Tryz.pinned (.plain (OpenSpec.ofChange heapStaysSpec)) heapStaysCard

/-- THE TIED CARD OF 'credenzalaw11.HeapCells'. -/
def heapCellsCard : Claim7 := { stood := { row := heapCellsRow, standIns := [], harness := (true, "b6dca50f2000c6032b15e77ba93effa692c1998c4f7afab7e982b29e45609dfb"), looks := false }, kinds := [], alts := [], laidByText := true, laidKinds := [.data, .data, .data], laidTests := true, laidLooks := .later }
def HeapCellsCardSaid : Prop := Claim7.holds Tryz.pinned (.plain (OpenSpec.ofChange heapCellsSpec)) heapCellsCard

/-- THE TIED CARD OF 'credenzalaw11.HeapProtos'. -/
def heapProtosCard : Claim7 := { stood := { row := heapProtosRow, standIns := [], harness := (true, "b6dca50f2000c6032b15e77ba93effa692c1998c4f7afab7e982b29e45609dfb"), looks := false }, kinds := [], alts := [], laidByText := true, laidKinds := [.data, .data, .data], laidTests := true, laidLooks := .later }
def HeapProtosCardSaid : Prop := Claim7.holds Tryz.pinned (.plain (OpenSpec.ofChange heapProtosSpec)) heapProtosCard

/-- THE SECOND FORM's CARD OF 'credenzalaw11.HeapGoes'. -/
def heapGoesUptoCard : Claim7 := { stood := { row := heapGoesUptoRow, standIns := [], harness := (true, "b6dca50f2000c6032b15e77ba93effa692c1998c4f7afab7e982b29e45609dfb"), looks := false }, kinds := [], alts := [], laidByText := true, laidKinds := [.data, .data, .data], laidTests := true, laidLooks := .later }
def HeapGoesUptoCardSaid : Prop := Claim7.holds Tryz.pinned (.plain (OpenSpec.upto heapGoesSpec)) heapGoesUptoCard

/-- THE SECOND FORM's CARD OF 'credenzalaw11.HeapCloses'. -/
def heapClosesUptoCard : Claim7 := { stood := { row := heapClosesUptoRow, standIns := [], harness := (true, "b6dca50f2000c6032b15e77ba93effa692c1998c4f7afab7e982b29e45609dfb"), looks := false }, kinds := [], alts := [], laidByText := true, laidKinds := [.data, .data, .data], laidTests := true, laidLooks := .later }
def HeapClosesUptoCardSaid : Prop := Claim7.holds Tryz.pinned (.plain (OpenSpec.upto heapClosesSpec)) heapClosesUptoCard

/-- THE SECOND FORM's CARD OF 'credenzalaw11.HeapStays'. -/
def heapStaysUptoCard : Claim7 := { stood := { row := heapStaysUptoRow, standIns := [], harness := (true, "b6dca50f2000c6032b15e77ba93effa692c1998c4f7afab7e982b29e45609dfb"), looks := false }, kinds := [], alts := [], laidByText := true, laidKinds := [.data, .data, .data], laidTests := true, laidLooks := .later }
def HeapStaysUptoCardSaid : Prop := Claim7.holds Tryz.pinned (.plain (OpenSpec.upto heapStaysSpec)) heapStaysUptoCard

/-- THE SECOND FORM's CARD OF 'credenzalaw11.HeapCells'. -/
def heapCellsUptoCard : Claim7 := { stood := { row := heapCellsUptoRow, standIns := [], harness := (true, "b6dca50f2000c6032b15e77ba93effa692c1998c4f7afab7e982b29e45609dfb"), looks := false }, kinds := [], alts := [], laidByText := true, laidKinds := [.data, .data, .data], laidTests := true, laidLooks := .later }
def HeapCellsUptoCardSaid : Prop := Claim7.holds Tryz.pinned (.plain (OpenSpec.upto heapCellsSpec)) heapCellsUptoCard

/-- THE SECOND FORM's CARD OF 'credenzalaw11.HeapProtos'. -/
def heapProtosUptoCard : Claim7 := { stood := { row := heapProtosUptoRow, standIns := [], harness := (true, "b6dca50f2000c6032b15e77ba93effa692c1998c4f7afab7e982b29e45609dfb"), looks := false }, kinds := [], alts := [], laidByText := true, laidKinds := [.data, .data, .data], laidTests := true, laidLooks := .later }
def HeapProtosUptoCardSaid : Prop := Claim7.holds Tryz.pinned (.plain (OpenSpec.upto heapProtosSpec)) heapProtosUptoCard
end Rows
end Go.Proofs.YtcahijpbkjplmaaGreatDoor
