/-
  No cell of these rows narrows 'for every input' (looked for: loops, veiled, ifaces, maps, wideKeys, modest, calm, conditions, laid).
  DERIVED. THE GIVEN ROWS OF THIS SEAT. 5 by the template 'for every input the law returns true; each argument reads behind the call as it read before'; 0 by the template 'total and deterministic' (their statements: YtkhmgigllcgpnaaTotals.lean).
  GIVEN WITH THE SEED: the statements are not yours to turn. If you find one false, say at which input.
  Laid BY PROGRAM, IN A SANDBOX (cutbox-rows.mjs): the forced cells as the released guide's own fill.sh prints them over the translation 715b2db2431bdf28… (all of the seat's roots in one cut). By AI agents, Wed Nov 11 2026. No macro, syntax, notation, axiom, sorry.
-/
import Derived.Test.YtkhmgigllcgpnaaChecked
import GoSem.Claim
import GoSem.ClaimJoined
import GoSem.ClaimMapViews
import Derived.JoinedTies
import Derived.KernelRfl
namespace Go.Proofs.Ytkhmgigllcgpnaa
/- THE CELL 'sum', in the pinned program and in every row, IS THE sha256 OF THE DUMP (.gsa) THAT YtkhmgigllcgpnaaProg.lean LOADS. Nothing in Lean hashes anything: it is a label: what it is worth is what the hold of that sum in a sandbox is worth. -/
noncomputable def Try.pinned : Pinned := { name := "ytkhmgigllcgpnaa", sum := "715b2db2431bdf288e0ad00a3593a1f6e50a0cc15fbdf3497e522e4acdf510a2", checked := Try.checked }
namespace Rows
def none {H : Type} : Left H := { results := [], args := [] }

/-- 'ambrylaw14.SthreePlays': WHATEVER THE INPUT: true; the input reads as it did. -/
def sthreePlaysSpec : ChangeSpec := { name := "sthreePlays", fn := fun _ => fun
  | [d] => { results := [.lit (.bool true)], args := [d] }
  | _ => none }
def sthreePlaysRow : OpenClaim := { program := "ytkhmgigllcgpnaa", sum := "715b2db2431bdf288e0ad00a3593a1f6e50a0cc15fbdf3497e522e4acdf510a2", func := "ambry/ambrylaw14.SthreePlays", spec := "sthreePlays", apart := false }
def SthreePlaysSaid : Prop := sthreePlaysRow.holds Try.pinned (OpenSpec.ofChange sthreePlaysSpec)

/-- ITS FALSE NEIGHBOUR: 'it returns false'. Refute it at one input. -/
def sthreePlaysWrong : ChangeSpec := { name := "sthreePlays", fn := fun _ => fun
  | [d] => { results := [.lit (.bool false)], args := [d] }
  | _ => none }
def SthreePlaysWrongFalsely : Prop := sthreePlaysRow.holds Try.pinned (OpenSpec.ofChange sthreePlaysWrong)

/-- 'ambrylaw14.SthreeTells': WHATEVER THE INPUT: true; the input reads as it did. -/
def sthreeTellsSpec : ChangeSpec := { name := "sthreeTells", fn := fun _ => fun
  | [d1, d2, d3] => { results := [.lit (.bool true)], args := [d1, d2, d3] }
  | _ => none }
def sthreeTellsRow : OpenClaim := { program := "ytkhmgigllcgpnaa", sum := "715b2db2431bdf288e0ad00a3593a1f6e50a0cc15fbdf3497e522e4acdf510a2", func := "ambry/ambrylaw14.SthreeTells", spec := "sthreeTells", apart := false }
def SthreeTellsSaid : Prop := sthreeTellsRow.holds Try.pinned (OpenSpec.ofChange sthreeTellsSpec)

/-- ITS FALSE NEIGHBOUR: 'it returns false'. Refute it at one input. -/
def sthreeTellsWrong : ChangeSpec := { name := "sthreeTells", fn := fun _ => fun
  | [d1, d2, d3] => { results := [.lit (.bool false)], args := [d1, d2, d3] }
  | _ => none }
def SthreeTellsWrongFalsely : Prop := sthreeTellsRow.holds Try.pinned (OpenSpec.ofChange sthreeTellsWrong)

/-- 'ambrylaw14.SthreeScan': WHATEVER THE INPUT: true; the input reads as it did. -/
def sthreeScanSpec : ChangeSpec := { name := "sthreeScan", fn := fun _ => fun
  | [d] => { results := [.lit (.bool true)], args := [d] }
  | _ => none }
def sthreeScanRow : OpenClaim := { program := "ytkhmgigllcgpnaa", sum := "715b2db2431bdf288e0ad00a3593a1f6e50a0cc15fbdf3497e522e4acdf510a2", func := "ambry/ambrylaw14.SthreeScan", spec := "sthreeScan", apart := false }
def SthreeScanSaid : Prop := sthreeScanRow.holds Try.pinned (OpenSpec.ofChange sthreeScanSpec)

/-- ITS FALSE NEIGHBOUR: 'it returns false'. Refute it at one input. -/
def sthreeScanWrong : ChangeSpec := { name := "sthreeScan", fn := fun _ => fun
  | [d] => { results := [.lit (.bool false)], args := [d] }
  | _ => none }
def SthreeScanWrongFalsely : Prop := sthreeScanRow.holds Try.pinned (OpenSpec.ofChange sthreeScanWrong)

/-- 'ambrylaw14.SthreeFirst': WHATEVER THE INPUT: true; the input reads as it did. -/
def sthreeFirstSpec : ChangeSpec := { name := "sthreeFirst", fn := fun _ => fun
  | [d1, d2] => { results := [.lit (.bool true)], args := [d1, d2] }
  | _ => none }
def sthreeFirstRow : OpenClaim := { program := "ytkhmgigllcgpnaa", sum := "715b2db2431bdf288e0ad00a3593a1f6e50a0cc15fbdf3497e522e4acdf510a2", func := "ambry/ambrylaw14.SthreeFirst", spec := "sthreeFirst", apart := false }
def SthreeFirstSaid : Prop := sthreeFirstRow.holds Try.pinned (OpenSpec.ofChange sthreeFirstSpec)

/-- ITS FALSE NEIGHBOUR: 'it returns false'. Refute it at one input. -/
def sthreeFirstWrong : ChangeSpec := { name := "sthreeFirst", fn := fun _ => fun
  | [d1, d2] => { results := [.lit (.bool false)], args := [d1, d2] }
  | _ => none }
def SthreeFirstWrongFalsely : Prop := sthreeFirstRow.holds Try.pinned (OpenSpec.ofChange sthreeFirstWrong)

/-- 'ambrylaw14.SthreeBack': WHATEVER THE INPUT: true; the input reads as it did. -/
def sthreeBackSpec : ChangeSpec := { name := "sthreeBack", fn := fun _ => fun
  | [d1, d2] => { results := [.lit (.bool true)], args := [d1, d2] }
  | _ => none }
def sthreeBackRow : OpenClaim := { program := "ytkhmgigllcgpnaa", sum := "715b2db2431bdf288e0ad00a3593a1f6e50a0cc15fbdf3497e522e4acdf510a2", func := "ambry/ambrylaw14.SthreeBack", spec := "sthreeBack", apart := false }
def SthreeBackSaid : Prop := sthreeBackRow.holds Try.pinned (OpenSpec.ofChange sthreeBackSpec)

/-- ITS FALSE NEIGHBOUR: 'it returns false'. Refute it at one input. -/
def sthreeBackWrong : ChangeSpec := { name := "sthreeBack", fn := fun _ => fun
  | [d1, d2] => { results := [.lit (.bool false)], args := [d1, d2] }
  | _ => none }
def SthreeBackWrongFalsely : Prop := sthreeBackRow.holds Try.pinned (OpenSpec.ofChange sthreeBackWrong)

/- THE SECOND FORM. 'bulk': how many values and letters a reading holds, each counted each time it is reached (what is shared counts as often as it is met; a slice's spare places count too). A statement '..UptoSaid' is the law's where the arguments, and the package variables that the reading takes, are together of bulk at most 1048576: NARROWER than '..Said'. Prove '..Said' where nothing that the law and all that it calls make is longer than what came in: it says more and counts as full. Else prove '..UptoSaid'. A law counts once. -/
mutual
def uptoBulk {H : Type} : DataW H → Nat
  | .lit (.string bytes) => bytes.length + 1
  | .lit _ => 1
  | .nil => 1
  | .ptr d => uptoBulk d + 1
  | .slice elems spare => uptoBulkAll elems + uptoBulkAll spare + 1
  | .agg parts => uptoBulkAll parts + 1
  | .iface _ d => uptoBulk d + 1
  | .map entries => uptoBulkEntries entries + 1
  | .held _ => 1
def uptoBulkAll {H : Type} : List (DataW H) → Nat
  | [] => 0
  | d :: r => uptoBulk d + uptoBulkAll r
def uptoBulkEntries {H : Type} : List (Lit × DataW H) → Nat
  | [] => 0
  | x :: r => uptoBulkEntry x + uptoBulkEntries r
def uptoBulkEntry {H : Type} : Lit × DataW H → Nat
  | (.string bytes, d) => bytes.length + uptoBulk d + 1
  | (_, d) => uptoBulk d + 1
 end
def uptoSmall : (H : Type) → List (DataW H) → Bool := fun _ ds => decide (uptoBulkAll ds ≤ 1048576)
def OpenSpec.upto (s : _root_.Go.ChangeSpec) : _root_.Go.OpenSpec := { _root_.Go.OpenSpec.ofChange s with cond := some uptoSmall }

/-- 'ambrylaw14.SthreePlays', WHERE WHAT IT READS IS OF BULK AT MOST 1048576: true; the input reads as it did. -/
def sthreePlaysUptoRow : OpenClaim := { program := "ytkhmgigllcgpnaa", sum := "715b2db2431bdf288e0ad00a3593a1f6e50a0cc15fbdf3497e522e4acdf510a2", func := "ambry/ambrylaw14.SthreePlays", spec := "sthreePlays", apart := false, narrowed := true }
def SthreePlaysUptoSaid : Prop := sthreePlaysUptoRow.holds Try.pinned (OpenSpec.upto sthreePlaysSpec)

/-- 'ambrylaw14.SthreeTells', WHERE WHAT IT READS IS OF BULK AT MOST 1048576: true; the input reads as it did. -/
def sthreeTellsUptoRow : OpenClaim := { program := "ytkhmgigllcgpnaa", sum := "715b2db2431bdf288e0ad00a3593a1f6e50a0cc15fbdf3497e522e4acdf510a2", func := "ambry/ambrylaw14.SthreeTells", spec := "sthreeTells", apart := false, narrowed := true }
def SthreeTellsUptoSaid : Prop := sthreeTellsUptoRow.holds Try.pinned (OpenSpec.upto sthreeTellsSpec)

/-- 'ambrylaw14.SthreeScan', WHERE WHAT IT READS IS OF BULK AT MOST 1048576: true; the input reads as it did. -/
def sthreeScanUptoRow : OpenClaim := { program := "ytkhmgigllcgpnaa", sum := "715b2db2431bdf288e0ad00a3593a1f6e50a0cc15fbdf3497e522e4acdf510a2", func := "ambry/ambrylaw14.SthreeScan", spec := "sthreeScan", apart := false, narrowed := true }
def SthreeScanUptoSaid : Prop := sthreeScanUptoRow.holds Try.pinned (OpenSpec.upto sthreeScanSpec)

/-- 'ambrylaw14.SthreeFirst', WHERE WHAT IT READS IS OF BULK AT MOST 1048576: true; the input reads as it did. -/
def sthreeFirstUptoRow : OpenClaim := { program := "ytkhmgigllcgpnaa", sum := "715b2db2431bdf288e0ad00a3593a1f6e50a0cc15fbdf3497e522e4acdf510a2", func := "ambry/ambrylaw14.SthreeFirst", spec := "sthreeFirst", apart := false, narrowed := true }
def SthreeFirstUptoSaid : Prop := sthreeFirstUptoRow.holds Try.pinned (OpenSpec.upto sthreeFirstSpec)

/-- 'ambrylaw14.SthreeBack', WHERE WHAT IT READS IS OF BULK AT MOST 1048576: true; the input reads as it did. -/
def sthreeBackUptoRow : OpenClaim := { program := "ytkhmgigllcgpnaa", sum := "715b2db2431bdf288e0ad00a3593a1f6e50a0cc15fbdf3497e522e4acdf510a2", func := "ambry/ambrylaw14.SthreeBack", spec := "sthreeBack", apart := false, narrowed := true }
def SthreeBackUptoSaid : Prop := sthreeBackUptoRow.holds Try.pinned (OpenSpec.upto sthreeBackSpec)

end Rows
end Go.Proofs.Ytkhmgigllcgpnaa
