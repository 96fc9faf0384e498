/-
  NARROWER THAN 'FOR EVERY INPUT', by the rows' own cells (each row's printed sentence says how): ModelApplies: laid · ModelSets: laid · ModelCas: laid · ModelSums: laid · ModelWins: laid · ModelApart: laid · ModelFlushes: laid · ModelTouches: laid · ModelLooks: laid.
  DERIVED. THE GIVEN ROWS OF THIS SEAT. 9 by the template 'for every input the law returns true; each argument reads behind the call as it read before'; 0 by the template 'total and deterministic' (their statements: YtpgljahomeebhaaDoorTotals.lean).
  GIVEN WITH THE SEED: the statements are not yours to turn. If you find one false, say at which input.
  Laid BY PROGRAM, IN A SANDBOX (cutbox-rows.mjs): the forced cells as the released guide's own fill.sh prints them over the translation 9afdeaa0e954ad79… (all of the seat's roots in one cut). By AI agents, Wed Nov 11 2026. No macro, syntax, notation, axiom, sorry.
-/
import Derived.Test.YtpgljahomeebhaaDoorChecked
import GoSem.Claim
import GoSem.ClaimJoined
import GoSem.ClaimMapViews
import Derived.JoinedTies
import Derived.KernelRfl
namespace Go.Proofs.YtpgljahomeebhaaDoor
/- THE CELL 'sum', in the pinned program and in every row, IS THE sha256 OF THE DUMP (.gsa) THAT YtpgljahomeebhaaDoorProg.lean LOADS. Nothing in Lean hashes anything: it is a label: what it is worth is what the hold of that sum in a sandbox is worth. -/
noncomputable def Tryd.pinned : Pinned := { name := "ytpgljahomeebhaadoor", sum := "9afdeaa0e954ad7932456c5dd62abdae6a344d06f3934b5089b97b5d6a687040", checked := Tryd.checked }
namespace Rows
def none {H : Type} : Left H := { results := [], args := [] }

/- WHAT THE LISTED PACKAGE-LEVEL VARIABLES READ AS WHEN THE CALL BEGINS. Each datum BY PROGRAM (the guide's laid-datum.mjs) off the statement by which the dump's own 'gosem.cut.vars' lays the variable. In a bare row this is a premise. The card (YtpgljahomeebhaaDoorCards.lean) ties it to the program's text. -/
def laid_math_bits_deBruijn32tab {H : Type} : DataW H := .agg [.lit (.int .u8 0), .lit (.int .u8 1), .lit (.int .u8 28), .lit (.int .u8 2), .lit (.int .u8 29), .lit (.int .u8 14), .lit (.int .u8 24), .lit (.int .u8 3), .lit (.int .u8 30), .lit (.int .u8 22), .lit (.int .u8 20), .lit (.int .u8 15), .lit (.int .u8 25), .lit (.int .u8 17), .lit (.int .u8 4), .lit (.int .u8 8), .lit (.int .u8 31), .lit (.int .u8 27), .lit (.int .u8 13), .lit (.int .u8 23), .lit (.int .u8 21), .lit (.int .u8 19), .lit (.int .u8 16), .lit (.int .u8 7), .lit (.int .u8 26), .lit (.int .u8 12), .lit (.int .u8 18), .lit (.int .u8 6), .lit (.int .u8 11), .lit (.int .u8 5), .lit (.int .u8 10), .lit (.int .u8 9)]
def laid_math_bits_deBruijn64tab {H : Type} : DataW H := .agg [.lit (.int .u8 0), .lit (.int .u8 1), .lit (.int .u8 56), .lit (.int .u8 2), .lit (.int .u8 57), .lit (.int .u8 49), .lit (.int .u8 28), .lit (.int .u8 3), .lit (.int .u8 61), .lit (.int .u8 58), .lit (.int .u8 42), .lit (.int .u8 50), .lit (.int .u8 38), .lit (.int .u8 29), .lit (.int .u8 17), .lit (.int .u8 4), .lit (.int .u8 62), .lit (.int .u8 47), .lit (.int .u8 59), .lit (.int .u8 36), .lit (.int .u8 45), .lit (.int .u8 43), .lit (.int .u8 51), .lit (.int .u8 22), .lit (.int .u8 53), .lit (.int .u8 39), .lit (.int .u8 33), .lit (.int .u8 30), .lit (.int .u8 24), .lit (.int .u8 18), .lit (.int .u8 12), .lit (.int .u8 5), .lit (.int .u8 63), .lit (.int .u8 55), .lit (.int .u8 48), .lit (.int .u8 27), .lit (.int .u8 60), .lit (.int .u8 41), .lit (.int .u8 37), .lit (.int .u8 16), .lit (.int .u8 46), .lit (.int .u8 35), .lit (.int .u8 44), .lit (.int .u8 21), .lit (.int .u8 52), .lit (.int .u8 32), .lit (.int .u8 23), .lit (.int .u8 11), .lit (.int .u8 54), .lit (.int .u8 26), .lit (.int .u8 40), .lit (.int .u8 15), .lit (.int .u8 34), .lit (.int .u8 20), .lit (.int .u8 31), .lit (.int .u8 10), .lit (.int .u8 25), .lit (.int .u8 14), .lit (.int .u8 19), .lit (.int .u8 9), .lit (.int .u8 13), .lit (.int .u8 8), .lit (.int .u8 7), .lit (.int .u8 6)]
def laid_internal_strconv_uint64pow10 {H : Type} : DataW H := .agg [.lit (.int .u64 1), .lit (.int .u64 10), .lit (.int .u64 100), .lit (.int .u64 1000), .lit (.int .u64 10000), .lit (.int .u64 100000), .lit (.int .u64 1000000), .lit (.int .u64 10000000), .lit (.int .u64 100000000), .lit (.int .u64 1000000000), .lit (.int .u64 10000000000), .lit (.int .u64 100000000000), .lit (.int .u64 1000000000000), .lit (.int .u64 10000000000000), .lit (.int .u64 100000000000000), .lit (.int .u64 1000000000000000), .lit (.int .u64 10000000000000000), .lit (.int .u64 100000000000000000), .lit (.int .u64 1000000000000000000), .lit (.int .u64 10000000000000000000)]
def laid_strconv_ErrRange {H : Type} : DataW H := .iface "*errors.errorString" (.ptr (.agg [.lit (.string [118, 97, 108, 117, 101, 32, 111, 117, 116, 32, 111, 102, 32, 114, 97, 110, 103, 101])]))
def laid_strconv_ErrSyntax {H : Type} : DataW H := .iface "*errors.errorString" (.ptr (.agg [.lit (.string [105, 110, 118, 97, 108, 105, 100, 32, 115, 121, 110, 116, 97, 120])]))

/-- 'ambrylaw16.ModelApplies': WHATEVER THE INPUT: true; the input reads as it did. -/
def modelAppliesSpec : ChangeSpec := { name := "modelApplies", fn := fun _ => fun
  | [d1, d2, d3, d4] => { results := [.lit (.bool true)], args := [d1, d2, d3, d4] }
  | _ => none }
def modelAppliesRow : OpenClaim := { program := "ytpgljahomeebhaadoor", sum := "9afdeaa0e954ad7932456c5dd62abdae6a344d06f3934b5089b97b5d6a687040", func := "ambry/ambrylaw16.ModelApplies", spec := "modelApplies", inPlace := ["internal/bytealg.abigen_runtime_cmpstring", "slices.overlaps[ambry/api.Item]"], unfollowed := true, recurses := true, named := ["internal/strconv.uint64pow10", "math/bits.deBruijn32tab", "math/bits.deBruijn64tab", "strconv.ErrSyntax", "strconv.ErrRange"], apart := false, laid := [("math/bits.deBruijn32tab", laid_math_bits_deBruijn32tab), ("math/bits.deBruijn64tab", laid_math_bits_deBruijn64tab), ("internal/strconv.uint64pow10", laid_internal_strconv_uint64pow10), ("strconv.ErrRange", laid_strconv_ErrRange), ("strconv.ErrSyntax", laid_strconv_ErrSyntax)] }
def ModelAppliesSaid : Prop := modelAppliesRow.holds Tryd.pinned (OpenSpec.ofChange modelAppliesSpec)

/-- ITS FALSE NEIGHBOUR: 'it returns false'. Refute it at one input. -/
def modelAppliesWrong : ChangeSpec := { name := "modelApplies", fn := fun _ => fun
  | [d1, d2, d3, d4] => { results := [.lit (.bool false)], args := [d1, d2, d3, d4] }
  | _ => none }
def ModelAppliesWrongFalsely : Prop := modelAppliesRow.holds Tryd.pinned (OpenSpec.ofChange modelAppliesWrong)

/-- 'ambrylaw16.ModelSets': WHATEVER THE INPUT: true; the input reads as it did. -/
def modelSetsSpec : ChangeSpec := { name := "modelSets", fn := fun _ => fun
  | [d1, d2, d3, d4, d5, d6] => { results := [.lit (.bool true)], args := [d1, d2, d3, d4, d5, d6] }
  | _ => none }
def modelSetsRow : OpenClaim := { program := "ytpgljahomeebhaadoor", sum := "9afdeaa0e954ad7932456c5dd62abdae6a344d06f3934b5089b97b5d6a687040", func := "ambry/ambrylaw16.ModelSets", spec := "modelSets", inPlace := ["internal/bytealg.abigen_runtime_cmpstring", "slices.overlaps[ambry/api.Item]"], unfollowed := true, recurses := true, named := ["internal/strconv.uint64pow10", "math/bits.deBruijn32tab", "math/bits.deBruijn64tab", "strconv.ErrSyntax", "strconv.ErrRange"], apart := false, laid := [("math/bits.deBruijn32tab", laid_math_bits_deBruijn32tab), ("math/bits.deBruijn64tab", laid_math_bits_deBruijn64tab), ("internal/strconv.uint64pow10", laid_internal_strconv_uint64pow10), ("strconv.ErrRange", laid_strconv_ErrRange), ("strconv.ErrSyntax", laid_strconv_ErrSyntax)] }
def ModelSetsSaid : Prop := modelSetsRow.holds Tryd.pinned (OpenSpec.ofChange modelSetsSpec)

/-- ITS FALSE NEIGHBOUR: 'it returns false'. Refute it at one input. -/
def modelSetsWrong : ChangeSpec := { name := "modelSets", fn := fun _ => fun
  | [d1, d2, d3, d4, d5, d6] => { results := [.lit (.bool false)], args := [d1, d2, d3, d4, d5, d6] }
  | _ => none }
def ModelSetsWrongFalsely : Prop := modelSetsRow.holds Tryd.pinned (OpenSpec.ofChange modelSetsWrong)

/-- 'ambrylaw16.ModelCas': WHATEVER THE INPUT: true; the input reads as it did. -/
def modelCasSpec : ChangeSpec := { name := "modelCas", fn := fun _ => fun
  | [d1, d2, d3, d4] => { results := [.lit (.bool true)], args := [d1, d2, d3, d4] }
  | _ => none }
def modelCasRow : OpenClaim := { program := "ytpgljahomeebhaadoor", sum := "9afdeaa0e954ad7932456c5dd62abdae6a344d06f3934b5089b97b5d6a687040", func := "ambry/ambrylaw16.ModelCas", spec := "modelCas", inPlace := ["internal/bytealg.abigen_runtime_cmpstring", "slices.overlaps[ambry/api.Item]"], unfollowed := true, recurses := true, named := ["internal/strconv.uint64pow10", "math/bits.deBruijn32tab", "math/bits.deBruijn64tab", "strconv.ErrSyntax", "strconv.ErrRange"], apart := false, laid := [("math/bits.deBruijn32tab", laid_math_bits_deBruijn32tab), ("math/bits.deBruijn64tab", laid_math_bits_deBruijn64tab), ("internal/strconv.uint64pow10", laid_internal_strconv_uint64pow10), ("strconv.ErrRange", laid_strconv_ErrRange), ("strconv.ErrSyntax", laid_strconv_ErrSyntax)] }
def ModelCasSaid : Prop := modelCasRow.holds Tryd.pinned (OpenSpec.ofChange modelCasSpec)

/-- ITS FALSE NEIGHBOUR: 'it returns false'. Refute it at one input. -/
def modelCasWrong : ChangeSpec := { name := "modelCas", fn := fun _ => fun
  | [d1, d2, d3, d4] => { results := [.lit (.bool false)], args := [d1, d2, d3, d4] }
  | _ => none }
def ModelCasWrongFalsely : Prop := modelCasRow.holds Tryd.pinned (OpenSpec.ofChange modelCasWrong)

/-- 'ambrylaw16.ModelSums': WHATEVER THE INPUT: true; the input reads as it did. -/
def modelSumsSpec : ChangeSpec := { name := "modelSums", fn := fun _ => fun
  | [d1, d2, d3, d4] => { results := [.lit (.bool true)], args := [d1, d2, d3, d4] }
  | _ => none }
def modelSumsRow : OpenClaim := { program := "ytpgljahomeebhaadoor", sum := "9afdeaa0e954ad7932456c5dd62abdae6a344d06f3934b5089b97b5d6a687040", func := "ambry/ambrylaw16.ModelSums", spec := "modelSums", inPlace := ["internal/bytealg.abigen_runtime_cmpstring", "slices.overlaps[ambry/api.Item]"], unfollowed := true, recurses := true, named := ["internal/strconv.uint64pow10", "math/bits.deBruijn32tab", "math/bits.deBruijn64tab", "strconv.ErrSyntax", "strconv.ErrRange"], apart := false, laid := [("math/bits.deBruijn32tab", laid_math_bits_deBruijn32tab), ("math/bits.deBruijn64tab", laid_math_bits_deBruijn64tab), ("internal/strconv.uint64pow10", laid_internal_strconv_uint64pow10), ("strconv.ErrRange", laid_strconv_ErrRange), ("strconv.ErrSyntax", laid_strconv_ErrSyntax)] }
def ModelSumsSaid : Prop := modelSumsRow.holds Tryd.pinned (OpenSpec.ofChange modelSumsSpec)

/-- ITS FALSE NEIGHBOUR: 'it returns false'. Refute it at one input. -/
def modelSumsWrong : ChangeSpec := { name := "modelSums", fn := fun _ => fun
  | [d1, d2, d3, d4] => { results := [.lit (.bool false)], args := [d1, d2, d3, d4] }
  | _ => none }
def ModelSumsWrongFalsely : Prop := modelSumsRow.holds Tryd.pinned (OpenSpec.ofChange modelSumsWrong)

/-- 'ambrylaw16.ModelWins': WHATEVER THE INPUT: true; the input reads as it did. -/
def modelWinsSpec : ChangeSpec := { name := "modelWins", fn := fun _ => fun
  | [d1, d2, d3] => { results := [.lit (.bool true)], args := [d1, d2, d3] }
  | _ => none }
def modelWinsRow : OpenClaim := { program := "ytpgljahomeebhaadoor", sum := "9afdeaa0e954ad7932456c5dd62abdae6a344d06f3934b5089b97b5d6a687040", func := "ambry/ambrylaw16.ModelWins", spec := "modelWins", inPlace := ["internal/bytealg.abigen_runtime_cmpstring", "slices.overlaps[ambry/api.Item]"], unfollowed := true, recurses := true, named := ["internal/strconv.uint64pow10", "math/bits.deBruijn32tab", "math/bits.deBruijn64tab", "strconv.ErrSyntax", "strconv.ErrRange"], apart := false, laid := [("math/bits.deBruijn32tab", laid_math_bits_deBruijn32tab), ("math/bits.deBruijn64tab", laid_math_bits_deBruijn64tab), ("internal/strconv.uint64pow10", laid_internal_strconv_uint64pow10), ("strconv.ErrRange", laid_strconv_ErrRange), ("strconv.ErrSyntax", laid_strconv_ErrSyntax)] }
def ModelWinsSaid : Prop := modelWinsRow.holds Tryd.pinned (OpenSpec.ofChange modelWinsSpec)

/-- ITS FALSE NEIGHBOUR: 'it returns false'. Refute it at one input. -/
def modelWinsWrong : ChangeSpec := { name := "modelWins", fn := fun _ => fun
  | [d1, d2, d3] => { results := [.lit (.bool false)], args := [d1, d2, d3] }
  | _ => none }
def ModelWinsWrongFalsely : Prop := modelWinsRow.holds Tryd.pinned (OpenSpec.ofChange modelWinsWrong)

/-- 'ambrylaw16.ModelApart': WHATEVER THE INPUT: true; the input reads as it did. -/
def modelApartSpec : ChangeSpec := { name := "modelApart", fn := fun _ => fun
  | [d1, d2] => { results := [.lit (.bool true)], args := [d1, d2] }
  | _ => none }
def modelApartRow : OpenClaim := { program := "ytpgljahomeebhaadoor", sum := "9afdeaa0e954ad7932456c5dd62abdae6a344d06f3934b5089b97b5d6a687040", func := "ambry/ambrylaw16.ModelApart", spec := "modelApart", inPlace := ["internal/bytealg.abigen_runtime_cmpstring", "slices.overlaps[ambry/api.Item]"], unfollowed := true, recurses := true, named := ["internal/strconv.uint64pow10", "math/bits.deBruijn32tab", "math/bits.deBruijn64tab", "strconv.ErrSyntax", "strconv.ErrRange"], apart := false, laid := [("math/bits.deBruijn32tab", laid_math_bits_deBruijn32tab), ("math/bits.deBruijn64tab", laid_math_bits_deBruijn64tab), ("internal/strconv.uint64pow10", laid_internal_strconv_uint64pow10), ("strconv.ErrRange", laid_strconv_ErrRange), ("strconv.ErrSyntax", laid_strconv_ErrSyntax)] }
def ModelApartSaid : Prop := modelApartRow.holds Tryd.pinned (OpenSpec.ofChange modelApartSpec)

/-- ITS FALSE NEIGHBOUR: 'it returns false'. Refute it at one input. -/
def modelApartWrong : ChangeSpec := { name := "modelApart", fn := fun _ => fun
  | [d1, d2] => { results := [.lit (.bool false)], args := [d1, d2] }
  | _ => none }
def ModelApartWrongFalsely : Prop := modelApartRow.holds Tryd.pinned (OpenSpec.ofChange modelApartWrong)

/-- 'ambrylaw16.ModelFlushes': WHATEVER THE INPUT: true; the input reads as it did. -/
def modelFlushesSpec : ChangeSpec := { name := "modelFlushes", fn := fun _ => fun
  | [d1, d2] => { results := [.lit (.bool true)], args := [d1, d2] }
  | _ => none }
def modelFlushesRow : OpenClaim := { program := "ytpgljahomeebhaadoor", sum := "9afdeaa0e954ad7932456c5dd62abdae6a344d06f3934b5089b97b5d6a687040", func := "ambry/ambrylaw16.ModelFlushes", spec := "modelFlushes", inPlace := ["internal/bytealg.abigen_runtime_cmpstring", "slices.overlaps[ambry/api.Item]"], unfollowed := true, recurses := true, named := ["internal/strconv.uint64pow10", "math/bits.deBruijn32tab", "math/bits.deBruijn64tab", "strconv.ErrSyntax", "strconv.ErrRange"], apart := false, laid := [("math/bits.deBruijn32tab", laid_math_bits_deBruijn32tab), ("math/bits.deBruijn64tab", laid_math_bits_deBruijn64tab), ("internal/strconv.uint64pow10", laid_internal_strconv_uint64pow10), ("strconv.ErrRange", laid_strconv_ErrRange), ("strconv.ErrSyntax", laid_strconv_ErrSyntax)] }
def ModelFlushesSaid : Prop := modelFlushesRow.holds Tryd.pinned (OpenSpec.ofChange modelFlushesSpec)

/-- ITS FALSE NEIGHBOUR: 'it returns false'. Refute it at one input. -/
def modelFlushesWrong : ChangeSpec := { name := "modelFlushes", fn := fun _ => fun
  | [d1, d2] => { results := [.lit (.bool false)], args := [d1, d2] }
  | _ => none }
def ModelFlushesWrongFalsely : Prop := modelFlushesRow.holds Tryd.pinned (OpenSpec.ofChange modelFlushesWrong)

/-- 'ambrylaw16.ModelTouches': WHATEVER THE INPUT: true; the input reads as it did. -/
def modelTouchesSpec : ChangeSpec := { name := "modelTouches", fn := fun _ => fun
  | [d1, d2, d3, d4] => { results := [.lit (.bool true)], args := [d1, d2, d3, d4] }
  | _ => none }
def modelTouchesRow : OpenClaim := { program := "ytpgljahomeebhaadoor", sum := "9afdeaa0e954ad7932456c5dd62abdae6a344d06f3934b5089b97b5d6a687040", func := "ambry/ambrylaw16.ModelTouches", spec := "modelTouches", inPlace := ["internal/bytealg.abigen_runtime_cmpstring", "slices.overlaps[ambry/api.Item]"], unfollowed := true, recurses := true, named := ["internal/strconv.uint64pow10", "math/bits.deBruijn32tab", "math/bits.deBruijn64tab", "strconv.ErrSyntax", "strconv.ErrRange"], apart := false, laid := [("math/bits.deBruijn32tab", laid_math_bits_deBruijn32tab), ("math/bits.deBruijn64tab", laid_math_bits_deBruijn64tab), ("internal/strconv.uint64pow10", laid_internal_strconv_uint64pow10), ("strconv.ErrRange", laid_strconv_ErrRange), ("strconv.ErrSyntax", laid_strconv_ErrSyntax)] }
def ModelTouchesSaid : Prop := modelTouchesRow.holds Tryd.pinned (OpenSpec.ofChange modelTouchesSpec)

/-- ITS FALSE NEIGHBOUR: 'it returns false'. Refute it at one input. -/
def modelTouchesWrong : ChangeSpec := { name := "modelTouches", fn := fun _ => fun
  | [d1, d2, d3, d4] => { results := [.lit (.bool false)], args := [d1, d2, d3, d4] }
  | _ => none }
def ModelTouchesWrongFalsely : Prop := modelTouchesRow.holds Tryd.pinned (OpenSpec.ofChange modelTouchesWrong)

/-- 'ambrylaw16.ModelLooks': WHATEVER THE INPUT: true; the input reads as it did. -/
def modelLooksSpec : ChangeSpec := { name := "modelLooks", fn := fun _ => fun
  | [d1, d2] => { results := [.lit (.bool true)], args := [d1, d2] }
  | _ => none }
def modelLooksRow : OpenClaim := { program := "ytpgljahomeebhaadoor", sum := "9afdeaa0e954ad7932456c5dd62abdae6a344d06f3934b5089b97b5d6a687040", func := "ambry/ambrylaw16.ModelLooks", spec := "modelLooks", inPlace := ["internal/bytealg.abigen_runtime_cmpstring", "slices.overlaps[ambry/api.Item]"], unfollowed := true, recurses := true, named := ["internal/strconv.uint64pow10", "math/bits.deBruijn32tab", "math/bits.deBruijn64tab", "strconv.ErrSyntax", "strconv.ErrRange"], apart := false, laid := [("math/bits.deBruijn32tab", laid_math_bits_deBruijn32tab), ("math/bits.deBruijn64tab", laid_math_bits_deBruijn64tab), ("internal/strconv.uint64pow10", laid_internal_strconv_uint64pow10), ("strconv.ErrRange", laid_strconv_ErrRange), ("strconv.ErrSyntax", laid_strconv_ErrSyntax)] }
def ModelLooksSaid : Prop := modelLooksRow.holds Tryd.pinned (OpenSpec.ofChange modelLooksSpec)

/-- ITS FALSE NEIGHBOUR: 'it returns false'. Refute it at one input. -/
def modelLooksWrong : ChangeSpec := { name := "modelLooks", fn := fun _ => fun
  | [d1, d2] => { results := [.lit (.bool false)], args := [d1, d2] }
  | _ => none }
def ModelLooksWrongFalsely : Prop := modelLooksRow.holds Tryd.pinned (OpenSpec.ofChange modelLooksWrong)

/- THE SECOND FORM. 'bulk': how many values and letters a reading holds, each counted each time it is reached (what is shared counts as often as it is met; a slice's spare places count too). A statement '..UptoSaid' is the law's where the arguments, and the package variables that the reading takes, are together of bulk at most 1048576: NARROWER than '..Said'. Prove '..Said' where nothing that the law and all that it calls make is longer than what came in: it says more and counts as full. Else prove '..UptoSaid'. A law counts once. -/
mutual
def uptoBulk {H : Type} : DataW H → Nat
  | .lit (.string bytes) => bytes.length + 1
  | .lit _ => 1
  | .nil => 1
  | .ptr d => uptoBulk d + 1
  | .slice elems spare => uptoBulkAll elems + uptoBulkAll spare + 1
  | .agg parts => uptoBulkAll parts + 1
  | .iface _ d => uptoBulk d + 1
  | .map entries => uptoBulkEntries entries + 1
  | .held _ => 1
def uptoBulkAll {H : Type} : List (DataW H) → Nat
  | [] => 0
  | d :: r => uptoBulk d + uptoBulkAll r
def uptoBulkEntries {H : Type} : List (Lit × DataW H) → Nat
  | [] => 0
  | x :: r => uptoBulkEntry x + uptoBulkEntries r
def uptoBulkEntry {H : Type} : Lit × DataW H → Nat
  | (.string bytes, d) => bytes.length + uptoBulk d + 1
  | (_, d) => uptoBulk d + 1
 end
def uptoSmall : (H : Type) → List (DataW H) → Bool := fun _ ds => decide (uptoBulkAll ds ≤ 1048576)
def OpenSpec.upto (s : _root_.Go.ChangeSpec) : _root_.Go.OpenSpec := { _root_.Go.OpenSpec.ofChange s with cond := some uptoSmall }

/-- 'ambrylaw16.ModelApplies', WHERE WHAT IT READS IS OF BULK AT MOST 1048576: true; the input reads as it did. -/
def modelAppliesUptoRow : OpenClaim := { program := "ytpgljahomeebhaadoor", sum := "9afdeaa0e954ad7932456c5dd62abdae6a344d06f3934b5089b97b5d6a687040", func := "ambry/ambrylaw16.ModelApplies", spec := "modelApplies", inPlace := ["internal/bytealg.abigen_runtime_cmpstring", "slices.overlaps[ambry/api.Item]"], unfollowed := true, recurses := true, named := ["internal/strconv.uint64pow10", "math/bits.deBruijn32tab", "math/bits.deBruijn64tab", "strconv.ErrSyntax", "strconv.ErrRange"], apart := false, laid := [("math/bits.deBruijn32tab", laid_math_bits_deBruijn32tab), ("math/bits.deBruijn64tab", laid_math_bits_deBruijn64tab), ("internal/strconv.uint64pow10", laid_internal_strconv_uint64pow10), ("strconv.ErrRange", laid_strconv_ErrRange), ("strconv.ErrSyntax", laid_strconv_ErrSyntax)], narrowed := true }
def ModelAppliesUptoSaid : Prop := modelAppliesUptoRow.holds Tryd.pinned (OpenSpec.upto modelAppliesSpec)

/-- 'ambrylaw16.ModelSets', WHERE WHAT IT READS IS OF BULK AT MOST 1048576: true; the input reads as it did. -/
def modelSetsUptoRow : OpenClaim := { program := "ytpgljahomeebhaadoor", sum := "9afdeaa0e954ad7932456c5dd62abdae6a344d06f3934b5089b97b5d6a687040", func := "ambry/ambrylaw16.ModelSets", spec := "modelSets", inPlace := ["internal/bytealg.abigen_runtime_cmpstring", "slices.overlaps[ambry/api.Item]"], unfollowed := true, recurses := true, named := ["internal/strconv.uint64pow10", "math/bits.deBruijn32tab", "math/bits.deBruijn64tab", "strconv.ErrSyntax", "strconv.ErrRange"], apart := false, laid := [("math/bits.deBruijn32tab", laid_math_bits_deBruijn32tab), ("math/bits.deBruijn64tab", laid_math_bits_deBruijn64tab), ("internal/strconv.uint64pow10", laid_internal_strconv_uint64pow10), ("strconv.ErrRange", laid_strconv_ErrRange), ("strconv.ErrSyntax", laid_strconv_ErrSyntax)], narrowed := true }
def ModelSetsUptoSaid : Prop := modelSetsUptoRow.holds Tryd.pinned (OpenSpec.upto modelSetsSpec)

/-- 'ambrylaw16.ModelCas', WHERE WHAT IT READS IS OF BULK AT MOST 1048576: true; the input reads as it did. -/
def modelCasUptoRow : OpenClaim := { program := "ytpgljahomeebhaadoor", sum := "9afdeaa0e954ad7932456c5dd62abdae6a344d06f3934b5089b97b5d6a687040", func := "ambry/ambrylaw16.ModelCas", spec := "modelCas", inPlace := ["internal/bytealg.abigen_runtime_cmpstring", "slices.overlaps[ambry/api.Item]"], unfollowed := true, recurses := true, named := ["internal/strconv.uint64pow10", "math/bits.deBruijn32tab", "math/bits.deBruijn64tab", "strconv.ErrSyntax", "strconv.ErrRange"], apart := false, laid := [("math/bits.deBruijn32tab", laid_math_bits_deBruijn32tab), ("math/bits.deBruijn64tab", laid_math_bits_deBruijn64tab), ("internal/strconv.uint64pow10", laid_internal_strconv_uint64pow10), ("strconv.ErrRange", laid_strconv_ErrRange), ("strconv.ErrSyntax", laid_strconv_ErrSyntax)], narrowed := true }
def ModelCasUptoSaid : Prop := modelCasUptoRow.holds Tryd.pinned (OpenSpec.upto modelCasSpec)

/-- 'ambrylaw16.ModelSums', WHERE WHAT IT READS IS OF BULK AT MOST 1048576: true; the input reads as it did. -/
def modelSumsUptoRow : OpenClaim := { program := "ytpgljahomeebhaadoor", sum := "9afdeaa0e954ad7932456c5dd62abdae6a344d06f3934b5089b97b5d6a687040", func := "ambry/ambrylaw16.ModelSums", spec := "modelSums", inPlace := ["internal/bytealg.abigen_runtime_cmpstring", "slices.overlaps[ambry/api.Item]"], unfollowed := true, recurses := true, named := ["internal/strconv.uint64pow10", "math/bits.deBruijn32tab", "math/bits.deBruijn64tab", "strconv.ErrSyntax", "strconv.ErrRange"], apart := false, laid := [("math/bits.deBruijn32tab", laid_math_bits_deBruijn32tab), ("math/bits.deBruijn64tab", laid_math_bits_deBruijn64tab), ("internal/strconv.uint64pow10", laid_internal_strconv_uint64pow10), ("strconv.ErrRange", laid_strconv_ErrRange), ("strconv.ErrSyntax", laid_strconv_ErrSyntax)], narrowed := true }
def ModelSumsUptoSaid : Prop := modelSumsUptoRow.holds Tryd.pinned (OpenSpec.upto modelSumsSpec)

/-- 'ambrylaw16.ModelWins', WHERE WHAT IT READS IS OF BULK AT MOST 1048576: true; the input reads as it did. -/
def modelWinsUptoRow : OpenClaim := { program := "ytpgljahomeebhaadoor", sum := "9afdeaa0e954ad7932456c5dd62abdae6a344d06f3934b5089b97b5d6a687040", func := "ambry/ambrylaw16.ModelWins", spec := "modelWins", inPlace := ["internal/bytealg.abigen_runtime_cmpstring", "slices.overlaps[ambry/api.Item]"], unfollowed := true, recurses := true, named := ["internal/strconv.uint64pow10", "math/bits.deBruijn32tab", "math/bits.deBruijn64tab", "strconv.ErrSyntax", "strconv.ErrRange"], apart := false, laid := [("math/bits.deBruijn32tab", laid_math_bits_deBruijn32tab), ("math/bits.deBruijn64tab", laid_math_bits_deBruijn64tab), ("internal/strconv.uint64pow10", laid_internal_strconv_uint64pow10), ("strconv.ErrRange", laid_strconv_ErrRange), ("strconv.ErrSyntax", laid_strconv_ErrSyntax)], narrowed := true }
def ModelWinsUptoSaid : Prop := modelWinsUptoRow.holds Tryd.pinned (OpenSpec.upto modelWinsSpec)

/-- 'ambrylaw16.ModelApart', WHERE WHAT IT READS IS OF BULK AT MOST 1048576: true; the input reads as it did. -/
def modelApartUptoRow : OpenClaim := { program := "ytpgljahomeebhaadoor", sum := "9afdeaa0e954ad7932456c5dd62abdae6a344d06f3934b5089b97b5d6a687040", func := "ambry/ambrylaw16.ModelApart", spec := "modelApart", inPlace := ["internal/bytealg.abigen_runtime_cmpstring", "slices.overlaps[ambry/api.Item]"], unfollowed := true, recurses := true, named := ["internal/strconv.uint64pow10", "math/bits.deBruijn32tab", "math/bits.deBruijn64tab", "strconv.ErrSyntax", "strconv.ErrRange"], apart := false, laid := [("math/bits.deBruijn32tab", laid_math_bits_deBruijn32tab), ("math/bits.deBruijn64tab", laid_math_bits_deBruijn64tab), ("internal/strconv.uint64pow10", laid_internal_strconv_uint64pow10), ("strconv.ErrRange", laid_strconv_ErrRange), ("strconv.ErrSyntax", laid_strconv_ErrSyntax)], narrowed := true }
def ModelApartUptoSaid : Prop := modelApartUptoRow.holds Tryd.pinned (OpenSpec.upto modelApartSpec)

/-- 'ambrylaw16.ModelFlushes', WHERE WHAT IT READS IS OF BULK AT MOST 1048576: true; the input reads as it did. -/
def modelFlushesUptoRow : OpenClaim := { program := "ytpgljahomeebhaadoor", sum := "9afdeaa0e954ad7932456c5dd62abdae6a344d06f3934b5089b97b5d6a687040", func := "ambry/ambrylaw16.ModelFlushes", spec := "modelFlushes", inPlace := ["internal/bytealg.abigen_runtime_cmpstring", "slices.overlaps[ambry/api.Item]"], unfollowed := true, recurses := true, named := ["internal/strconv.uint64pow10", "math/bits.deBruijn32tab", "math/bits.deBruijn64tab", "strconv.ErrSyntax", "strconv.ErrRange"], apart := false, laid := [("math/bits.deBruijn32tab", laid_math_bits_deBruijn32tab), ("math/bits.deBruijn64tab", laid_math_bits_deBruijn64tab), ("internal/strconv.uint64pow10", laid_internal_strconv_uint64pow10), ("strconv.ErrRange", laid_strconv_ErrRange), ("strconv.ErrSyntax", laid_strconv_ErrSyntax)], narrowed := true }
def ModelFlushesUptoSaid : Prop := modelFlushesUptoRow.holds Tryd.pinned (OpenSpec.upto modelFlushesSpec)

/-- 'ambrylaw16.ModelTouches', WHERE WHAT IT READS IS OF BULK AT MOST 1048576: true; the input reads as it did. -/
def modelTouchesUptoRow : OpenClaim := { program := "ytpgljahomeebhaadoor", sum := "9afdeaa0e954ad7932456c5dd62abdae6a344d06f3934b5089b97b5d6a687040", func := "ambry/ambrylaw16.ModelTouches", spec := "modelTouches", inPlace := ["internal/bytealg.abigen_runtime_cmpstring", "slices.overlaps[ambry/api.Item]"], unfollowed := true, recurses := true, named := ["internal/strconv.uint64pow10", "math/bits.deBruijn32tab", "math/bits.deBruijn64tab", "strconv.ErrSyntax", "strconv.ErrRange"], apart := false, laid := [("math/bits.deBruijn32tab", laid_math_bits_deBruijn32tab), ("math/bits.deBruijn64tab", laid_math_bits_deBruijn64tab), ("internal/strconv.uint64pow10", laid_internal_strconv_uint64pow10), ("strconv.ErrRange", laid_strconv_ErrRange), ("strconv.ErrSyntax", laid_strconv_ErrSyntax)], narrowed := true }
def ModelTouchesUptoSaid : Prop := modelTouchesUptoRow.holds Tryd.pinned (OpenSpec.upto modelTouchesSpec)

/-- 'ambrylaw16.ModelLooks', WHERE WHAT IT READS IS OF BULK AT MOST 1048576: true; the input reads as it did. -/
def modelLooksUptoRow : OpenClaim := { program := "ytpgljahomeebhaadoor", sum := "9afdeaa0e954ad7932456c5dd62abdae6a344d06f3934b5089b97b5d6a687040", func := "ambry/ambrylaw16.ModelLooks", spec := "modelLooks", inPlace := ["internal/bytealg.abigen_runtime_cmpstring", "slices.overlaps[ambry/api.Item]"], unfollowed := true, recurses := true, named := ["internal/strconv.uint64pow10", "math/bits.deBruijn32tab", "math/bits.deBruijn64tab", "strconv.ErrSyntax", "strconv.ErrRange"], apart := false, laid := [("math/bits.deBruijn32tab", laid_math_bits_deBruijn32tab), ("math/bits.deBruijn64tab", laid_math_bits_deBruijn64tab), ("internal/strconv.uint64pow10", laid_internal_strconv_uint64pow10), ("strconv.ErrRange", laid_strconv_ErrRange), ("strconv.ErrSyntax", laid_strconv_ErrSyntax)], narrowed := true }
def ModelLooksUptoSaid : Prop := modelLooksUptoRow.holds Tryd.pinned (OpenSpec.upto modelLooksSpec)

end Rows
end Go.Proofs.YtpgljahomeebhaaDoor
