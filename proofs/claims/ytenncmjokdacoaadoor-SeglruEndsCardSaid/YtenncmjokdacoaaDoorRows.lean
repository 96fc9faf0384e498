/-
  NARROWER THAN 'FOR EVERY INPUT', by the rows' own cells (each row's printed sentence says how): SeglruPlays: laid · SeglruEnds: laid · SeglruPasses: laid · SeglruFirst: laid · SeglruKeeps: laid.
  DERIVED. THE GIVEN ROWS OF THIS SEAT. 5 by the template 'for every input the law returns true; each argument reads behind the call as it read before'; 0 by the template 'total and deterministic' (their statements: YtenncmjokdacoaaDoorTotals.lean).
  GIVEN WITH THE SEED: the statements are not yours to turn. If you find one false, say at which input.
  Laid BY PROGRAM, IN A SANDBOX (cutbox-rows.mjs): the forced cells as the released guide's own fill.sh prints them over the translation c574002fd2fce853… (all of the seat's roots in one cut). By AI agents, Wed Nov 11 2026. No macro, syntax, notation, axiom, sorry.
-/
import Derived.Test.YtenncmjokdacoaaDoorChecked
import GoSem.Claim
import GoSem.ClaimJoined
import GoSem.ClaimMapViews
import Derived.JoinedTies
import Derived.KernelRfl
namespace Go.Proofs.YtenncmjokdacoaaDoor
/- THE CELL 'sum', in the pinned program and in every row, IS THE sha256 OF THE DUMP (.gsa) THAT YtenncmjokdacoaaDoorProg.lean LOADS. Nothing in Lean hashes anything: it is a label: what it is worth is what the hold of that sum in a sandbox is worth. -/
noncomputable def Tryd.pinned : Pinned := { name := "ytenncmjokdacoaadoor", sum := "c574002fd2fce853a4978d22d04e1f6e37e5b9f33df8b465c13f84ca68cae448", checked := Tryd.checked }
namespace Rows
def none {H : Type} : Left H := { results := [], args := [] }

/- WHAT THE LISTED PACKAGE-LEVEL VARIABLES READ AS WHEN THE CALL BEGINS. Each datum BY PROGRAM (the guide's laid-datum.mjs) off the statement by which the dump's own 'gosem.cut.vars' lays the variable. In a bare row this is a premise. The card (YtenncmjokdacoaaDoorCards.lean) ties it to the program's text. -/
def laid_ambry_seglru_shares {H : Type} : DataW H := .agg [.lit (.int .i64 20), .lit (.int .i64 40)]

/-- 'ambrylaw12.SeglruPlays': WHATEVER THE INPUT: true; the input reads as it did. -/
def seglruPlaysSpec : ChangeSpec := { name := "seglruPlays", fn := fun _ => fun
  | [d] => { results := [.lit (.bool true)], args := [d] }
  | _ => none }
def seglruPlaysRow : OpenClaim := { program := "ytenncmjokdacoaadoor", sum := "c574002fd2fce853a4978d22d04e1f6e37e5b9f33df8b465c13f84ca68cae448", func := "ambry/ambrylaw12.SeglruPlays", spec := "seglruPlays", named := ["ambry/seglru.shares"], apart := false, laid := [("ambry/seglru.shares", laid_ambry_seglru_shares)] }
def SeglruPlaysSaid : Prop := seglruPlaysRow.holds Tryd.pinned (OpenSpec.ofChange seglruPlaysSpec)

/-- ITS FALSE NEIGHBOUR: 'it returns false'. Refute it at one input. -/
def seglruPlaysWrong : ChangeSpec := { name := "seglruPlays", fn := fun _ => fun
  | [d] => { results := [.lit (.bool false)], args := [d] }
  | _ => none }
def SeglruPlaysWrongFalsely : Prop := seglruPlaysRow.holds Tryd.pinned (OpenSpec.ofChange seglruPlaysWrong)

/-- 'ambrylaw12.SeglruEnds': WHATEVER THE INPUT: true; the input reads as it did. -/
def seglruEndsSpec : ChangeSpec := { name := "seglruEnds", fn := fun _ => fun
  | [d1, d2] => { results := [.lit (.bool true)], args := [d1, d2] }
  | _ => none }
def seglruEndsRow : OpenClaim := { program := "ytenncmjokdacoaadoor", sum := "c574002fd2fce853a4978d22d04e1f6e37e5b9f33df8b465c13f84ca68cae448", func := "ambry/ambrylaw12.SeglruEnds", spec := "seglruEnds", named := ["ambry/seglru.shares"], apart := false, laid := [("ambry/seglru.shares", laid_ambry_seglru_shares)] }
def SeglruEndsSaid : Prop := seglruEndsRow.holds Tryd.pinned (OpenSpec.ofChange seglruEndsSpec)

/-- ITS FALSE NEIGHBOUR: 'it returns false'. Refute it at one input. -/
def seglruEndsWrong : ChangeSpec := { name := "seglruEnds", fn := fun _ => fun
  | [d1, d2] => { results := [.lit (.bool false)], args := [d1, d2] }
  | _ => none }
def SeglruEndsWrongFalsely : Prop := seglruEndsRow.holds Tryd.pinned (OpenSpec.ofChange seglruEndsWrong)

/-- 'ambrylaw12.SeglruPasses': WHATEVER THE INPUT: true; the input reads as it did. -/
def seglruPassesSpec : ChangeSpec := { name := "seglruPasses", fn := fun _ => fun
  | [d1, d2] => { results := [.lit (.bool true)], args := [d1, d2] }
  | _ => none }
def seglruPassesRow : OpenClaim := { program := "ytenncmjokdacoaadoor", sum := "c574002fd2fce853a4978d22d04e1f6e37e5b9f33df8b465c13f84ca68cae448", func := "ambry/ambrylaw12.SeglruPasses", spec := "seglruPasses", named := ["ambry/seglru.shares"], apart := false, laid := [("ambry/seglru.shares", laid_ambry_seglru_shares)] }
def SeglruPassesSaid : Prop := seglruPassesRow.holds Tryd.pinned (OpenSpec.ofChange seglruPassesSpec)

/-- ITS FALSE NEIGHBOUR: 'it returns false'. Refute it at one input. -/
def seglruPassesWrong : ChangeSpec := { name := "seglruPasses", fn := fun _ => fun
  | [d1, d2] => { results := [.lit (.bool false)], args := [d1, d2] }
  | _ => none }
def SeglruPassesWrongFalsely : Prop := seglruPassesRow.holds Tryd.pinned (OpenSpec.ofChange seglruPassesWrong)

/-- 'ambrylaw12.SeglruFirst': WHATEVER THE INPUT: true; the input reads as it did. -/
def seglruFirstSpec : ChangeSpec := { name := "seglruFirst", fn := fun _ => fun
  | [d] => { results := [.lit (.bool true)], args := [d] }
  | _ => none }
def seglruFirstRow : OpenClaim := { program := "ytenncmjokdacoaadoor", sum := "c574002fd2fce853a4978d22d04e1f6e37e5b9f33df8b465c13f84ca68cae448", func := "ambry/ambrylaw12.SeglruFirst", spec := "seglruFirst", named := ["ambry/seglru.shares"], apart := false, laid := [("ambry/seglru.shares", laid_ambry_seglru_shares)] }
def SeglruFirstSaid : Prop := seglruFirstRow.holds Tryd.pinned (OpenSpec.ofChange seglruFirstSpec)

/-- ITS FALSE NEIGHBOUR: 'it returns false'. Refute it at one input. -/
def seglruFirstWrong : ChangeSpec := { name := "seglruFirst", fn := fun _ => fun
  | [d] => { results := [.lit (.bool false)], args := [d] }
  | _ => none }
def SeglruFirstWrongFalsely : Prop := seglruFirstRow.holds Tryd.pinned (OpenSpec.ofChange seglruFirstWrong)

/-- 'ambrylaw12.SeglruKeeps': WHATEVER THE INPUT: true; the input reads as it did. -/
def seglruKeepsSpec : ChangeSpec := { name := "seglruKeeps", fn := fun _ => fun
  | [d1, d2, d3] => { results := [.lit (.bool true)], args := [d1, d2, d3] }
  | _ => none }
def seglruKeepsRow : OpenClaim := { program := "ytenncmjokdacoaadoor", sum := "c574002fd2fce853a4978d22d04e1f6e37e5b9f33df8b465c13f84ca68cae448", func := "ambry/ambrylaw12.SeglruKeeps", spec := "seglruKeeps", named := ["ambry/seglru.shares"], apart := false, laid := [("ambry/seglru.shares", laid_ambry_seglru_shares)] }
def SeglruKeepsSaid : Prop := seglruKeepsRow.holds Tryd.pinned (OpenSpec.ofChange seglruKeepsSpec)

/-- ITS FALSE NEIGHBOUR: 'it returns false'. Refute it at one input. -/
def seglruKeepsWrong : ChangeSpec := { name := "seglruKeeps", fn := fun _ => fun
  | [d1, d2, d3] => { results := [.lit (.bool false)], args := [d1, d2, d3] }
  | _ => none }
def SeglruKeepsWrongFalsely : Prop := seglruKeepsRow.holds Tryd.pinned (OpenSpec.ofChange seglruKeepsWrong)

/- THE SECOND FORM. 'bulk': how many values and letters a reading holds, each counted each time it is reached (what is shared counts as often as it is met; a slice's spare places count too). A statement '..UptoSaid' is the law's where the arguments, and the package variables that the reading takes, are together of bulk at most 1048576: NARROWER than '..Said'. Prove '..Said' where nothing that the law and all that it calls make is longer than what came in: it says more and counts as full. Else prove '..UptoSaid'. A law counts once. -/
mutual
def uptoBulk {H : Type} : DataW H → Nat
  | .lit (.string bytes) => bytes.length + 1
  | .lit _ => 1
  | .nil => 1
  | .ptr d => uptoBulk d + 1
  | .slice elems spare => uptoBulkAll elems + uptoBulkAll spare + 1
  | .agg parts => uptoBulkAll parts + 1
  | .iface _ d => uptoBulk d + 1
  | .map entries => uptoBulkEntries entries + 1
  | .held _ => 1
def uptoBulkAll {H : Type} : List (DataW H) → Nat
  | [] => 0
  | d :: r => uptoBulk d + uptoBulkAll r
def uptoBulkEntries {H : Type} : List (Lit × DataW H) → Nat
  | [] => 0
  | x :: r => uptoBulkEntry x + uptoBulkEntries r
def uptoBulkEntry {H : Type} : Lit × DataW H → Nat
  | (.string bytes, d) => bytes.length + uptoBulk d + 1
  | (_, d) => uptoBulk d + 1
 end
def uptoSmall : (H : Type) → List (DataW H) → Bool := fun _ ds => decide (uptoBulkAll ds ≤ 1048576)
def OpenSpec.upto (s : _root_.Go.ChangeSpec) : _root_.Go.OpenSpec := { _root_.Go.OpenSpec.ofChange s with cond := some uptoSmall }

/-- 'ambrylaw12.SeglruPlays', WHERE WHAT IT READS IS OF BULK AT MOST 1048576: true; the input reads as it did. -/
def seglruPlaysUptoRow : OpenClaim := { program := "ytenncmjokdacoaadoor", sum := "c574002fd2fce853a4978d22d04e1f6e37e5b9f33df8b465c13f84ca68cae448", func := "ambry/ambrylaw12.SeglruPlays", spec := "seglruPlays", named := ["ambry/seglru.shares"], apart := false, laid := [("ambry/seglru.shares", laid_ambry_seglru_shares)], narrowed := true }
def SeglruPlaysUptoSaid : Prop := seglruPlaysUptoRow.holds Tryd.pinned (OpenSpec.upto seglruPlaysSpec)

/-- 'ambrylaw12.SeglruEnds', WHERE WHAT IT READS IS OF BULK AT MOST 1048576: true; the input reads as it did. -/
def seglruEndsUptoRow : OpenClaim := { program := "ytenncmjokdacoaadoor", sum := "c574002fd2fce853a4978d22d04e1f6e37e5b9f33df8b465c13f84ca68cae448", func := "ambry/ambrylaw12.SeglruEnds", spec := "seglruEnds", named := ["ambry/seglru.shares"], apart := false, laid := [("ambry/seglru.shares", laid_ambry_seglru_shares)], narrowed := true }
def SeglruEndsUptoSaid : Prop := seglruEndsUptoRow.holds Tryd.pinned (OpenSpec.upto seglruEndsSpec)

/-- 'ambrylaw12.SeglruPasses', WHERE WHAT IT READS IS OF BULK AT MOST 1048576: true; the input reads as it did. -/
def seglruPassesUptoRow : OpenClaim := { program := "ytenncmjokdacoaadoor", sum := "c574002fd2fce853a4978d22d04e1f6e37e5b9f33df8b465c13f84ca68cae448", func := "ambry/ambrylaw12.SeglruPasses", spec := "seglruPasses", named := ["ambry/seglru.shares"], apart := false, laid := [("ambry/seglru.shares", laid_ambry_seglru_shares)], narrowed := true }
def SeglruPassesUptoSaid : Prop := seglruPassesUptoRow.holds Tryd.pinned (OpenSpec.upto seglruPassesSpec)

/-- 'ambrylaw12.SeglruFirst', WHERE WHAT IT READS IS OF BULK AT MOST 1048576: true; the input reads as it did. -/
def seglruFirstUptoRow : OpenClaim := { program := "ytenncmjokdacoaadoor", sum := "c574002fd2fce853a4978d22d04e1f6e37e5b9f33df8b465c13f84ca68cae448", func := "ambry/ambrylaw12.SeglruFirst", spec := "seglruFirst", named := ["ambry/seglru.shares"], apart := false, laid := [("ambry/seglru.shares", laid_ambry_seglru_shares)], narrowed := true }
def SeglruFirstUptoSaid : Prop := seglruFirstUptoRow.holds Tryd.pinned (OpenSpec.upto seglruFirstSpec)

/-- 'ambrylaw12.SeglruKeeps', WHERE WHAT IT READS IS OF BULK AT MOST 1048576: true; the input reads as it did. -/
def seglruKeepsUptoRow : OpenClaim := { program := "ytenncmjokdacoaadoor", sum := "c574002fd2fce853a4978d22d04e1f6e37e5b9f33df8b465c13f84ca68cae448", func := "ambry/ambrylaw12.SeglruKeeps", spec := "seglruKeeps", named := ["ambry/seglru.shares"], apart := false, laid := [("ambry/seglru.shares", laid_ambry_seglru_shares)], narrowed := true }
def SeglruKeepsUptoSaid : Prop := seglruKeepsUptoRow.holds Tryd.pinned (OpenSpec.upto seglruKeepsSpec)

end Rows
end Go.Proofs.YtenncmjokdacoaaDoor
