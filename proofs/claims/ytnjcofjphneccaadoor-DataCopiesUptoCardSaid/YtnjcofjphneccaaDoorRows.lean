/-
  NARROWER THAN 'FOR EVERY INPUT', by the rows' own cells (each row's printed sentence says how): DataChecks: loops, laid · DataLooks: loops, laid · DataTexts: loops, laid · DataCopies: loops, laid · DataApart: loops, laid · DataWithin: loops, laid · DataWraps: loops, laid.
  DERIVED. THE GIVEN ROWS OF THIS SEAT. 7 by the template 'for every input the law returns true; each argument reads behind the call as it read before'; 0 by the template 'total and deterministic' (their statements: YtnjcofjphneccaaDoorTotals.lean).
  GIVEN WITH THE SEED: the statements are not yours to turn. If you find one false, say at which input.
  Laid BY PROGRAM, IN A SANDBOX (cutbox-rows.mjs): the forced cells as the released guide's own fill.sh prints them over the translation 27da466fb87a7fcd… (all of the seat's roots in one cut). By AI agents, Wed Nov 11 2026. No macro, syntax, notation, axiom, sorry.
-/
import Derived.Test.YtnjcofjphneccaaDoorChecked
import GoSem.Claim
import GoSem.ClaimJoined
import GoSem.ClaimMapViews
import Derived.JoinedTies
import Derived.KernelRfl
namespace Go.Proofs.YtnjcofjphneccaaDoor
/- THE CELL 'sum', in the pinned program and in every row, IS THE sha256 OF THE DUMP (.gsa) THAT YtnjcofjphneccaaDoorProg.lean LOADS. Nothing in Lean hashes anything: it is a label: what it is worth is what the hold of that sum in a sandbox is worth. -/
noncomputable def Tryd.pinned : Pinned := { name := "ytnjcofjphneccaadoor", sum := "27da466fb87a7fcdbc77107ba2b422abfe201076e5c71ade9bf2f7a2978b04db", checked := Tryd.checked }
namespace Rows
def none {H : Type} : Left H := { results := [], args := [] }

/- WHAT THE LISTED PACKAGE-LEVEL VARIABLES READ AS WHEN THE CALL BEGINS. Each datum BY PROGRAM (the guide's laid-datum.mjs) off the statement by which the dump's own 'gosem.cut.vars' lays the variable. In a bare row this is a premise. The card (YtnjcofjphneccaaDoorCards.lean) ties it to the program's text. -/
def laid_math_bits_deBruijn32tab {H : Type} : DataW H := .agg [.lit (.int .u8 0), .lit (.int .u8 1), .lit (.int .u8 28), .lit (.int .u8 2), .lit (.int .u8 29), .lit (.int .u8 14), .lit (.int .u8 24), .lit (.int .u8 3), .lit (.int .u8 30), .lit (.int .u8 22), .lit (.int .u8 20), .lit (.int .u8 15), .lit (.int .u8 25), .lit (.int .u8 17), .lit (.int .u8 4), .lit (.int .u8 8), .lit (.int .u8 31), .lit (.int .u8 27), .lit (.int .u8 13), .lit (.int .u8 23), .lit (.int .u8 21), .lit (.int .u8 19), .lit (.int .u8 16), .lit (.int .u8 7), .lit (.int .u8 26), .lit (.int .u8 12), .lit (.int .u8 18), .lit (.int .u8 6), .lit (.int .u8 11), .lit (.int .u8 5), .lit (.int .u8 10), .lit (.int .u8 9)]
def laid_math_bits_deBruijn64tab {H : Type} : DataW H := .agg [.lit (.int .u8 0), .lit (.int .u8 1), .lit (.int .u8 56), .lit (.int .u8 2), .lit (.int .u8 57), .lit (.int .u8 49), .lit (.int .u8 28), .lit (.int .u8 3), .lit (.int .u8 61), .lit (.int .u8 58), .lit (.int .u8 42), .lit (.int .u8 50), .lit (.int .u8 38), .lit (.int .u8 29), .lit (.int .u8 17), .lit (.int .u8 4), .lit (.int .u8 62), .lit (.int .u8 47), .lit (.int .u8 59), .lit (.int .u8 36), .lit (.int .u8 45), .lit (.int .u8 43), .lit (.int .u8 51), .lit (.int .u8 22), .lit (.int .u8 53), .lit (.int .u8 39), .lit (.int .u8 33), .lit (.int .u8 30), .lit (.int .u8 24), .lit (.int .u8 18), .lit (.int .u8 12), .lit (.int .u8 5), .lit (.int .u8 63), .lit (.int .u8 55), .lit (.int .u8 48), .lit (.int .u8 27), .lit (.int .u8 60), .lit (.int .u8 41), .lit (.int .u8 37), .lit (.int .u8 16), .lit (.int .u8 46), .lit (.int .u8 35), .lit (.int .u8 44), .lit (.int .u8 21), .lit (.int .u8 52), .lit (.int .u8 32), .lit (.int .u8 23), .lit (.int .u8 11), .lit (.int .u8 54), .lit (.int .u8 26), .lit (.int .u8 40), .lit (.int .u8 15), .lit (.int .u8 34), .lit (.int .u8 20), .lit (.int .u8 31), .lit (.int .u8 10), .lit (.int .u8 25), .lit (.int .u8 14), .lit (.int .u8 19), .lit (.int .u8 9), .lit (.int .u8 13), .lit (.int .u8 8), .lit (.int .u8 7), .lit (.int .u8 6)]
def laid_internal_strconv_uint64pow10 {H : Type} : DataW H := .agg [.lit (.int .u64 1), .lit (.int .u64 10), .lit (.int .u64 100), .lit (.int .u64 1000), .lit (.int .u64 10000), .lit (.int .u64 100000), .lit (.int .u64 1000000), .lit (.int .u64 10000000), .lit (.int .u64 100000000), .lit (.int .u64 1000000000), .lit (.int .u64 10000000000), .lit (.int .u64 100000000000), .lit (.int .u64 1000000000000), .lit (.int .u64 10000000000000), .lit (.int .u64 100000000000000), .lit (.int .u64 1000000000000000), .lit (.int .u64 10000000000000000), .lit (.int .u64 100000000000000000), .lit (.int .u64 1000000000000000000), .lit (.int .u64 10000000000000000000)]

/-- 'credenzalaw03.DataChecks': WHATEVER THE INPUT: true; the input reads as it did. -/
def dataChecksSpec : ChangeSpec := { name := "dataChecks", fn := fun _ => fun
  | [d] => { results := [.lit (.bool true)], args := [d] }
  | _ => none }
def dataChecksRow : OpenClaim := { program := "ytnjcofjphneccaadoor", sum := "27da466fb87a7fcdbc77107ba2b422abfe201076e5c71ade9bf2f7a2978b04db", func := "credenza/credenzalaw03.DataChecks", spec := "dataChecks", unfollowed := true, recurses := true, named := ["internal/strconv.uint64pow10", "math/bits.deBruijn32tab", "math/bits.deBruijn64tab"], loops := true, apart := false, laid := [("math/bits.deBruijn32tab", laid_math_bits_deBruijn32tab), ("math/bits.deBruijn64tab", laid_math_bits_deBruijn64tab), ("internal/strconv.uint64pow10", laid_internal_strconv_uint64pow10)] }
def DataChecksSaid : Prop := dataChecksRow.holds Tryd.pinned (OpenSpec.ofChange dataChecksSpec)

/-- ITS FALSE NEIGHBOUR: 'it returns false'. Refute it at one input. -/
def dataChecksWrong : ChangeSpec := { name := "dataChecks", fn := fun _ => fun
  | [d] => { results := [.lit (.bool false)], args := [d] }
  | _ => none }
def DataChecksWrongFalsely : Prop := dataChecksRow.holds Tryd.pinned (OpenSpec.ofChange dataChecksWrong)

/-- 'credenzalaw03.DataLooks': WHATEVER THE INPUT: true; the input reads as it did. -/
def dataLooksSpec : ChangeSpec := { name := "dataLooks", fn := fun _ => fun
  | [d1, d2, d3] => { results := [.lit (.bool true)], args := [d1, d2, d3] }
  | _ => none }
def dataLooksRow : OpenClaim := { program := "ytnjcofjphneccaadoor", sum := "27da466fb87a7fcdbc77107ba2b422abfe201076e5c71ade9bf2f7a2978b04db", func := "credenza/credenzalaw03.DataLooks", spec := "dataLooks", unfollowed := true, recurses := true, named := ["internal/strconv.uint64pow10", "math/bits.deBruijn32tab", "math/bits.deBruijn64tab"], loops := true, apart := false, laid := [("math/bits.deBruijn32tab", laid_math_bits_deBruijn32tab), ("math/bits.deBruijn64tab", laid_math_bits_deBruijn64tab), ("internal/strconv.uint64pow10", laid_internal_strconv_uint64pow10)] }
def DataLooksSaid : Prop := dataLooksRow.holds Tryd.pinned (OpenSpec.ofChange dataLooksSpec)

/-- ITS FALSE NEIGHBOUR: 'it returns false'. Refute it at one input. -/
def dataLooksWrong : ChangeSpec := { name := "dataLooks", fn := fun _ => fun
  | [d1, d2, d3] => { results := [.lit (.bool false)], args := [d1, d2, d3] }
  | _ => none }
def DataLooksWrongFalsely : Prop := dataLooksRow.holds Tryd.pinned (OpenSpec.ofChange dataLooksWrong)

/-- 'credenzalaw03.DataTexts': WHATEVER THE INPUT: true; the input reads as it did. -/
def dataTextsSpec : ChangeSpec := { name := "dataTexts", fn := fun _ => fun
  | [d] => { results := [.lit (.bool true)], args := [d] }
  | _ => none }
def dataTextsRow : OpenClaim := { program := "ytnjcofjphneccaadoor", sum := "27da466fb87a7fcdbc77107ba2b422abfe201076e5c71ade9bf2f7a2978b04db", func := "credenza/credenzalaw03.DataTexts", spec := "dataTexts", unfollowed := true, recurses := true, named := ["internal/strconv.uint64pow10", "math/bits.deBruijn32tab", "math/bits.deBruijn64tab"], loops := true, apart := false, laid := [("math/bits.deBruijn32tab", laid_math_bits_deBruijn32tab), ("math/bits.deBruijn64tab", laid_math_bits_deBruijn64tab), ("internal/strconv.uint64pow10", laid_internal_strconv_uint64pow10)] }
def DataTextsSaid : Prop := dataTextsRow.holds Tryd.pinned (OpenSpec.ofChange dataTextsSpec)

/-- ITS FALSE NEIGHBOUR: 'it returns false'. Refute it at one input. -/
def dataTextsWrong : ChangeSpec := { name := "dataTexts", fn := fun _ => fun
  | [d] => { results := [.lit (.bool false)], args := [d] }
  | _ => none }
def DataTextsWrongFalsely : Prop := dataTextsRow.holds Tryd.pinned (OpenSpec.ofChange dataTextsWrong)

/-- 'credenzalaw03.DataCopies': WHATEVER THE INPUT: true; the input reads as it did. -/
def dataCopiesSpec : ChangeSpec := { name := "dataCopies", fn := fun _ => fun
  | [d] => { results := [.lit (.bool true)], args := [d] }
  | _ => none }
def dataCopiesRow : OpenClaim := { program := "ytnjcofjphneccaadoor", sum := "27da466fb87a7fcdbc77107ba2b422abfe201076e5c71ade9bf2f7a2978b04db", func := "credenza/credenzalaw03.DataCopies", spec := "dataCopies", unfollowed := true, recurses := true, named := ["internal/strconv.uint64pow10", "math/bits.deBruijn32tab", "math/bits.deBruijn64tab"], loops := true, apart := false, laid := [("math/bits.deBruijn32tab", laid_math_bits_deBruijn32tab), ("math/bits.deBruijn64tab", laid_math_bits_deBruijn64tab), ("internal/strconv.uint64pow10", laid_internal_strconv_uint64pow10)] }
def DataCopiesSaid : Prop := dataCopiesRow.holds Tryd.pinned (OpenSpec.ofChange dataCopiesSpec)

/-- ITS FALSE NEIGHBOUR: 'it returns false'. Refute it at one input. -/
def dataCopiesWrong : ChangeSpec := { name := "dataCopies", fn := fun _ => fun
  | [d] => { results := [.lit (.bool false)], args := [d] }
  | _ => none }
def DataCopiesWrongFalsely : Prop := dataCopiesRow.holds Tryd.pinned (OpenSpec.ofChange dataCopiesWrong)

/-- 'credenzalaw03.DataApart': WHATEVER THE INPUT: true; the input reads as it did. -/
def dataApartSpec : ChangeSpec := { name := "dataApart", fn := fun _ => fun
  | [d1, d2] => { results := [.lit (.bool true)], args := [d1, d2] }
  | _ => none }
def dataApartRow : OpenClaim := { program := "ytnjcofjphneccaadoor", sum := "27da466fb87a7fcdbc77107ba2b422abfe201076e5c71ade9bf2f7a2978b04db", func := "credenza/credenzalaw03.DataApart", spec := "dataApart", unfollowed := true, recurses := true, named := ["internal/strconv.uint64pow10", "math/bits.deBruijn32tab", "math/bits.deBruijn64tab"], loops := true, apart := false, laid := [("math/bits.deBruijn32tab", laid_math_bits_deBruijn32tab), ("math/bits.deBruijn64tab", laid_math_bits_deBruijn64tab), ("internal/strconv.uint64pow10", laid_internal_strconv_uint64pow10)] }
def DataApartSaid : Prop := dataApartRow.holds Tryd.pinned (OpenSpec.ofChange dataApartSpec)

/-- ITS FALSE NEIGHBOUR: 'it returns false'. Refute it at one input. -/
def dataApartWrong : ChangeSpec := { name := "dataApart", fn := fun _ => fun
  | [d1, d2] => { results := [.lit (.bool false)], args := [d1, d2] }
  | _ => none }
def DataApartWrongFalsely : Prop := dataApartRow.holds Tryd.pinned (OpenSpec.ofChange dataApartWrong)

/-- 'credenzalaw03.DataWithin': WHATEVER THE INPUT: true; the input reads as it did. -/
def dataWithinSpec : ChangeSpec := { name := "dataWithin", fn := fun _ => fun
  | [d] => { results := [.lit (.bool true)], args := [d] }
  | _ => none }
def dataWithinRow : OpenClaim := { program := "ytnjcofjphneccaadoor", sum := "27da466fb87a7fcdbc77107ba2b422abfe201076e5c71ade9bf2f7a2978b04db", func := "credenza/credenzalaw03.DataWithin", spec := "dataWithin", unfollowed := true, recurses := true, named := ["internal/strconv.uint64pow10", "math/bits.deBruijn32tab", "math/bits.deBruijn64tab"], loops := true, apart := false, laid := [("math/bits.deBruijn32tab", laid_math_bits_deBruijn32tab), ("math/bits.deBruijn64tab", laid_math_bits_deBruijn64tab), ("internal/strconv.uint64pow10", laid_internal_strconv_uint64pow10)] }
def DataWithinSaid : Prop := dataWithinRow.holds Tryd.pinned (OpenSpec.ofChange dataWithinSpec)

/-- ITS FALSE NEIGHBOUR: 'it returns false'. Refute it at one input. -/
def dataWithinWrong : ChangeSpec := { name := "dataWithin", fn := fun _ => fun
  | [d] => { results := [.lit (.bool false)], args := [d] }
  | _ => none }
def DataWithinWrongFalsely : Prop := dataWithinRow.holds Tryd.pinned (OpenSpec.ofChange dataWithinWrong)

/-- 'credenzalaw03.DataWraps': WHATEVER THE INPUT: true; the input reads as it did. -/
def dataWrapsSpec : ChangeSpec := { name := "dataWraps", fn := fun _ => fun
  | [d] => { results := [.lit (.bool true)], args := [d] }
  | _ => none }
def dataWrapsRow : OpenClaim := { program := "ytnjcofjphneccaadoor", sum := "27da466fb87a7fcdbc77107ba2b422abfe201076e5c71ade9bf2f7a2978b04db", func := "credenza/credenzalaw03.DataWraps", spec := "dataWraps", unfollowed := true, recurses := true, named := ["internal/strconv.uint64pow10", "math/bits.deBruijn32tab", "math/bits.deBruijn64tab"], loops := true, apart := false, laid := [("math/bits.deBruijn32tab", laid_math_bits_deBruijn32tab), ("math/bits.deBruijn64tab", laid_math_bits_deBruijn64tab), ("internal/strconv.uint64pow10", laid_internal_strconv_uint64pow10)] }
def DataWrapsSaid : Prop := dataWrapsRow.holds Tryd.pinned (OpenSpec.ofChange dataWrapsSpec)

/-- ITS FALSE NEIGHBOUR: 'it returns false'. Refute it at one input. -/
def dataWrapsWrong : ChangeSpec := { name := "dataWraps", fn := fun _ => fun
  | [d] => { results := [.lit (.bool false)], args := [d] }
  | _ => none }
def DataWrapsWrongFalsely : Prop := dataWrapsRow.holds Tryd.pinned (OpenSpec.ofChange dataWrapsWrong)

/- THE SECOND FORM. 'bulk': how many values and letters a reading holds, each counted each time it is reached (what is shared counts as often as it is met; a slice's spare places count too). A statement '..UptoSaid' is the law's where the arguments, and the package variables that the reading takes, are together of bulk at most 1048576: NARROWER than '..Said'. Prove '..Said' where nothing that the law and all that it calls make is longer than what came in: it says more and counts as full. Else prove '..UptoSaid'. A law counts once. -/
mutual
def uptoBulk {H : Type} : DataW H → Nat
  | .lit (.string bytes) => bytes.length + 1
  | .lit _ => 1
  | .nil => 1
  | .ptr d => uptoBulk d + 1
  | .slice elems spare => uptoBulkAll elems + uptoBulkAll spare + 1
  | .agg parts => uptoBulkAll parts + 1
  | .iface _ d => uptoBulk d + 1
  | .map entries => uptoBulkEntries entries + 1
  | .held _ => 1
def uptoBulkAll {H : Type} : List (DataW H) → Nat
  | [] => 0
  | d :: r => uptoBulk d + uptoBulkAll r
def uptoBulkEntries {H : Type} : List (Lit × DataW H) → Nat
  | [] => 0
  | x :: r => uptoBulkEntry x + uptoBulkEntries r
def uptoBulkEntry {H : Type} : Lit × DataW H → Nat
  | (.string bytes, d) => bytes.length + uptoBulk d + 1
  | (_, d) => uptoBulk d + 1
 end
def uptoSmall : (H : Type) → List (DataW H) → Bool := fun _ ds => decide (uptoBulkAll ds ≤ 1048576)
def OpenSpec.upto (s : _root_.Go.ChangeSpec) : _root_.Go.OpenSpec := { _root_.Go.OpenSpec.ofChange s with cond := some uptoSmall }

/-- 'credenzalaw03.DataChecks', WHERE WHAT IT READS IS OF BULK AT MOST 1048576: true; the input reads as it did. -/
def dataChecksUptoRow : OpenClaim := { program := "ytnjcofjphneccaadoor", sum := "27da466fb87a7fcdbc77107ba2b422abfe201076e5c71ade9bf2f7a2978b04db", func := "credenza/credenzalaw03.DataChecks", spec := "dataChecks", unfollowed := true, recurses := true, named := ["internal/strconv.uint64pow10", "math/bits.deBruijn32tab", "math/bits.deBruijn64tab"], loops := true, apart := false, laid := [("math/bits.deBruijn32tab", laid_math_bits_deBruijn32tab), ("math/bits.deBruijn64tab", laid_math_bits_deBruijn64tab), ("internal/strconv.uint64pow10", laid_internal_strconv_uint64pow10)], narrowed := true }
def DataChecksUptoSaid : Prop := dataChecksUptoRow.holds Tryd.pinned (OpenSpec.upto dataChecksSpec)

/-- 'credenzalaw03.DataLooks', WHERE WHAT IT READS IS OF BULK AT MOST 1048576: true; the input reads as it did. -/
def dataLooksUptoRow : OpenClaim := { program := "ytnjcofjphneccaadoor", sum := "27da466fb87a7fcdbc77107ba2b422abfe201076e5c71ade9bf2f7a2978b04db", func := "credenza/credenzalaw03.DataLooks", spec := "dataLooks", unfollowed := true, recurses := true, named := ["internal/strconv.uint64pow10", "math/bits.deBruijn32tab", "math/bits.deBruijn64tab"], loops := true, apart := false, laid := [("math/bits.deBruijn32tab", laid_math_bits_deBruijn32tab), ("math/bits.deBruijn64tab", laid_math_bits_deBruijn64tab), ("internal/strconv.uint64pow10", laid_internal_strconv_uint64pow10)], narrowed := true }
def DataLooksUptoSaid : Prop := dataLooksUptoRow.holds Tryd.pinned (OpenSpec.upto dataLooksSpec)

/-- 'credenzalaw03.DataTexts', WHERE WHAT IT READS IS OF BULK AT MOST 1048576: true; the input reads as it did. -/
def dataTextsUptoRow : OpenClaim := { program := "ytnjcofjphneccaadoor", sum := "27da466fb87a7fcdbc77107ba2b422abfe201076e5c71ade9bf2f7a2978b04db", func := "credenza/credenzalaw03.DataTexts", spec := "dataTexts", unfollowed := true, recurses := true, named := ["internal/strconv.uint64pow10", "math/bits.deBruijn32tab", "math/bits.deBruijn64tab"], loops := true, apart := false, laid := [("math/bits.deBruijn32tab", laid_math_bits_deBruijn32tab), ("math/bits.deBruijn64tab", laid_math_bits_deBruijn64tab), ("internal/strconv.uint64pow10", laid_internal_strconv_uint64pow10)], narrowed := true }
def DataTextsUptoSaid : Prop := dataTextsUptoRow.holds Tryd.pinned (OpenSpec.upto dataTextsSpec)

/-- 'credenzalaw03.DataCopies', WHERE WHAT IT READS IS OF BULK AT MOST 1048576: true; the input reads as it did. -/
def dataCopiesUptoRow : OpenClaim := { program := "ytnjcofjphneccaadoor", sum := "27da466fb87a7fcdbc77107ba2b422abfe201076e5c71ade9bf2f7a2978b04db", func := "credenza/credenzalaw03.DataCopies", spec := "dataCopies", unfollowed := true, recurses := true, named := ["internal/strconv.uint64pow10", "math/bits.deBruijn32tab", "math/bits.deBruijn64tab"], loops := true, apart := false, laid := [("math/bits.deBruijn32tab", laid_math_bits_deBruijn32tab), ("math/bits.deBruijn64tab", laid_math_bits_deBruijn64tab), ("internal/strconv.uint64pow10", laid_internal_strconv_uint64pow10)], narrowed := true }
def DataCopiesUptoSaid : Prop := dataCopiesUptoRow.holds Tryd.pinned (OpenSpec.upto dataCopiesSpec)

/-- 'credenzalaw03.DataApart', WHERE WHAT IT READS IS OF BULK AT MOST 1048576: true; the input reads as it did. -/
def dataApartUptoRow : OpenClaim := { program := "ytnjcofjphneccaadoor", sum := "27da466fb87a7fcdbc77107ba2b422abfe201076e5c71ade9bf2f7a2978b04db", func := "credenza/credenzalaw03.DataApart", spec := "dataApart", unfollowed := true, recurses := true, named := ["internal/strconv.uint64pow10", "math/bits.deBruijn32tab", "math/bits.deBruijn64tab"], loops := true, apart := false, laid := [("math/bits.deBruijn32tab", laid_math_bits_deBruijn32tab), ("math/bits.deBruijn64tab", laid_math_bits_deBruijn64tab), ("internal/strconv.uint64pow10", laid_internal_strconv_uint64pow10)], narrowed := true }
def DataApartUptoSaid : Prop := dataApartUptoRow.holds Tryd.pinned (OpenSpec.upto dataApartSpec)

/-- 'credenzalaw03.DataWithin', WHERE WHAT IT READS IS OF BULK AT MOST 1048576: true; the input reads as it did. -/
def dataWithinUptoRow : OpenClaim := { program := "ytnjcofjphneccaadoor", sum := "27da466fb87a7fcdbc77107ba2b422abfe201076e5c71ade9bf2f7a2978b04db", func := "credenza/credenzalaw03.DataWithin", spec := "dataWithin", unfollowed := true, recurses := true, named := ["internal/strconv.uint64pow10", "math/bits.deBruijn32tab", "math/bits.deBruijn64tab"], loops := true, apart := false, laid := [("math/bits.deBruijn32tab", laid_math_bits_deBruijn32tab), ("math/bits.deBruijn64tab", laid_math_bits_deBruijn64tab), ("internal/strconv.uint64pow10", laid_internal_strconv_uint64pow10)], narrowed := true }
def DataWithinUptoSaid : Prop := dataWithinUptoRow.holds Tryd.pinned (OpenSpec.upto dataWithinSpec)

/-- 'credenzalaw03.DataWraps', WHERE WHAT IT READS IS OF BULK AT MOST 1048576: true; the input reads as it did. -/
def dataWrapsUptoRow : OpenClaim := { program := "ytnjcofjphneccaadoor", sum := "27da466fb87a7fcdbc77107ba2b422abfe201076e5c71ade9bf2f7a2978b04db", func := "credenza/credenzalaw03.DataWraps", spec := "dataWraps", unfollowed := true, recurses := true, named := ["internal/strconv.uint64pow10", "math/bits.deBruijn32tab", "math/bits.deBruijn64tab"], loops := true, apart := false, laid := [("math/bits.deBruijn32tab", laid_math_bits_deBruijn32tab), ("math/bits.deBruijn64tab", laid_math_bits_deBruijn64tab), ("internal/strconv.uint64pow10", laid_internal_strconv_uint64pow10)], narrowed := true }
def DataWrapsUptoSaid : Prop := dataWrapsUptoRow.holds Tryd.pinned (OpenSpec.upto dataWrapsSpec)

end Rows
end Go.Proofs.YtnjcofjphneccaaDoor
