/-
  No cell of these rows narrows 'for every input' (looked for: loops, veiled, ifaces, maps, wideKeys, modest, calm, conditions, laid).
  DERIVED. THE GIVEN ROWS OF THIS SEAT. 4 by the template 'for every input the law returns true; each argument reads behind the call as it read before'; 0 by the template 'total and deterministic' (their statements: YtclddaacbfgnlaaTotals.lean).
  GIVEN WITH THE SEED: the statements are not yours to turn. If you find one false, say at which input.
  Laid BY PROGRAM, IN A SANDBOX (cutbox-rows.mjs): the forced cells as the released guide's own fill.sh prints them over the translation 8f534f8ffc9983c3… (all of the seat's roots in one cut). By AI agents, Wed Nov 11 2026. No macro, syntax, notation, axiom, sorry.
-/
import Derived.Test.YtclddaacbfgnlaaChecked
import GoSem.Claim
import GoSem.ClaimJoined
import GoSem.ClaimMapViews
import Derived.JoinedTies
import Derived.KernelRfl
namespace Go.Proofs.Ytclddaacbfgnlaa
/- THE CELL 'sum', in the pinned program and in every row, IS THE sha256 OF THE DUMP (.gsa) THAT YtclddaacbfgnlaaProg.lean LOADS. Nothing in Lean hashes anything: it is a label: what it is worth is what the hold of that sum in a sandbox is worth. -/
noncomputable def Try.pinned : Pinned := { name := "ytclddaacbfgnlaa", sum := "8f534f8ffc9983c32d2ac79eb8ffec230b9a7f9676d7c2f08718442f18f66755", checked := Try.checked }
namespace Rows
def none {H : Type} : Left H := { results := [], args := [] }

/-- 'ambrylaw06.ArenaPlays': WHATEVER THE INPUT: true; the input reads as it did. -/
def arenaPlaysSpec : ChangeSpec := { name := "arenaPlays", fn := fun _ => fun
  | [d1, d2, d3, d4] => { results := [.lit (.bool true)], args := [d1, d2, d3, d4] }
  | _ => none }
def arenaPlaysRow : OpenClaim := { program := "ytclddaacbfgnlaa", sum := "8f534f8ffc9983c32d2ac79eb8ffec230b9a7f9676d7c2f08718442f18f66755", func := "ambry/ambrylaw06.ArenaPlays", spec := "arenaPlays", apart := false }
def ArenaPlaysSaid : Prop := arenaPlaysRow.holds Try.pinned (OpenSpec.ofChange arenaPlaysSpec)

/-- ITS FALSE NEIGHBOUR: 'it returns false'. Refute it at one input. -/
def arenaPlaysWrong : ChangeSpec := { name := "arenaPlays", fn := fun _ => fun
  | [d1, d2, d3, d4] => { results := [.lit (.bool false)], args := [d1, d2, d3, d4] }
  | _ => none }
def ArenaPlaysWrongFalsely : Prop := arenaPlaysRow.holds Try.pinned (OpenSpec.ofChange arenaPlaysWrong)

/-- 'ambrylaw06.ArenaGrants': WHATEVER THE INPUT: true; the input reads as it did. -/
def arenaGrantsSpec : ChangeSpec := { name := "arenaGrants", fn := fun _ => fun
  | [d1, d2] => { results := [.lit (.bool true)], args := [d1, d2] }
  | _ => none }
def arenaGrantsRow : OpenClaim := { program := "ytclddaacbfgnlaa", sum := "8f534f8ffc9983c32d2ac79eb8ffec230b9a7f9676d7c2f08718442f18f66755", func := "ambry/ambrylaw06.ArenaGrants", spec := "arenaGrants", apart := false }
def ArenaGrantsSaid : Prop := arenaGrantsRow.holds Try.pinned (OpenSpec.ofChange arenaGrantsSpec)

/-- ITS FALSE NEIGHBOUR: 'it returns false'. Refute it at one input. -/
def arenaGrantsWrong : ChangeSpec := { name := "arenaGrants", fn := fun _ => fun
  | [d1, d2] => { results := [.lit (.bool false)], args := [d1, d2] }
  | _ => none }
def ArenaGrantsWrongFalsely : Prop := arenaGrantsRow.holds Try.pinned (OpenSpec.ofChange arenaGrantsWrong)

/-- 'ambrylaw06.ArenaFull': WHATEVER THE INPUT: true; the input reads as it did. -/
def arenaFullSpec : ChangeSpec := { name := "arenaFull", fn := fun _ => fun
  | [d1, d2] => { results := [.lit (.bool true)], args := [d1, d2] }
  | _ => none }
def arenaFullRow : OpenClaim := { program := "ytclddaacbfgnlaa", sum := "8f534f8ffc9983c32d2ac79eb8ffec230b9a7f9676d7c2f08718442f18f66755", func := "ambry/ambrylaw06.ArenaFull", spec := "arenaFull", apart := false }
def ArenaFullSaid : Prop := arenaFullRow.holds Try.pinned (OpenSpec.ofChange arenaFullSpec)

/-- ITS FALSE NEIGHBOUR: 'it returns false'. Refute it at one input. -/
def arenaFullWrong : ChangeSpec := { name := "arenaFull", fn := fun _ => fun
  | [d1, d2] => { results := [.lit (.bool false)], args := [d1, d2] }
  | _ => none }
def ArenaFullWrongFalsely : Prop := arenaFullRow.holds Try.pinned (OpenSpec.ofChange arenaFullWrong)

/-- 'ambrylaw06.ArenaPasses': WHATEVER THE INPUT: true; the input reads as it did. -/
def arenaPassesSpec : ChangeSpec := { name := "arenaPasses", fn := fun _ => fun
  | [d1, d2] => { results := [.lit (.bool true)], args := [d1, d2] }
  | _ => none }
def arenaPassesRow : OpenClaim := { program := "ytclddaacbfgnlaa", sum := "8f534f8ffc9983c32d2ac79eb8ffec230b9a7f9676d7c2f08718442f18f66755", func := "ambry/ambrylaw06.ArenaPasses", spec := "arenaPasses", apart := false }
def ArenaPassesSaid : Prop := arenaPassesRow.holds Try.pinned (OpenSpec.ofChange arenaPassesSpec)

/-- ITS FALSE NEIGHBOUR: 'it returns false'. Refute it at one input. -/
def arenaPassesWrong : ChangeSpec := { name := "arenaPasses", fn := fun _ => fun
  | [d1, d2] => { results := [.lit (.bool false)], args := [d1, d2] }
  | _ => none }
def ArenaPassesWrongFalsely : Prop := arenaPassesRow.holds Try.pinned (OpenSpec.ofChange arenaPassesWrong)

/- THE SECOND FORM. 'bulk': how many values and letters a reading holds, each counted each time it is reached (what is shared counts as often as it is met; a slice's spare places count too). A statement '..UptoSaid' is the law's where the arguments, and the package variables that the reading takes, are together of bulk at most 1048576: NARROWER than '..Said'. Prove '..Said' where nothing that the law and all that it calls make is longer than what came in: it says more and counts as full. Else prove '..UptoSaid'. A law counts once. -/
mutual
def uptoBulk {H : Type} : DataW H → Nat
  | .lit (.string bytes) => bytes.length + 1
  | .lit _ => 1
  | .nil => 1
  | .ptr d => uptoBulk d + 1
  | .slice elems spare => uptoBulkAll elems + uptoBulkAll spare + 1
  | .agg parts => uptoBulkAll parts + 1
  | .iface _ d => uptoBulk d + 1
  | .map entries => uptoBulkEntries entries + 1
  | .held _ => 1
def uptoBulkAll {H : Type} : List (DataW H) → Nat
  | [] => 0
  | d :: r => uptoBulk d + uptoBulkAll r
def uptoBulkEntries {H : Type} : List (Lit × DataW H) → Nat
  | [] => 0
  | x :: r => uptoBulkEntry x + uptoBulkEntries r
def uptoBulkEntry {H : Type} : Lit × DataW H → Nat
  | (.string bytes, d) => bytes.length + uptoBulk d + 1
  | (_, d) => uptoBulk d + 1
 end
def uptoSmall : (H : Type) → List (DataW H) → Bool := fun _ ds => decide (uptoBulkAll ds ≤ 1048576)
def OpenSpec.upto (s : _root_.Go.ChangeSpec) : _root_.Go.OpenSpec := { _root_.Go.OpenSpec.ofChange s with cond := some uptoSmall }

/-- 'ambrylaw06.ArenaPlays', WHERE WHAT IT READS IS OF BULK AT MOST 1048576: true; the input reads as it did. -/
def arenaPlaysUptoRow : OpenClaim := { program := "ytclddaacbfgnlaa", sum := "8f534f8ffc9983c32d2ac79eb8ffec230b9a7f9676d7c2f08718442f18f66755", func := "ambry/ambrylaw06.ArenaPlays", spec := "arenaPlays", apart := false, narrowed := true }
def ArenaPlaysUptoSaid : Prop := arenaPlaysUptoRow.holds Try.pinned (OpenSpec.upto arenaPlaysSpec)

/-- 'ambrylaw06.ArenaGrants', WHERE WHAT IT READS IS OF BULK AT MOST 1048576: true; the input reads as it did. -/
def arenaGrantsUptoRow : OpenClaim := { program := "ytclddaacbfgnlaa", sum := "8f534f8ffc9983c32d2ac79eb8ffec230b9a7f9676d7c2f08718442f18f66755", func := "ambry/ambrylaw06.ArenaGrants", spec := "arenaGrants", apart := false, narrowed := true }
def ArenaGrantsUptoSaid : Prop := arenaGrantsUptoRow.holds Try.pinned (OpenSpec.upto arenaGrantsSpec)

/-- 'ambrylaw06.ArenaFull', WHERE WHAT IT READS IS OF BULK AT MOST 1048576: true; the input reads as it did. -/
def arenaFullUptoRow : OpenClaim := { program := "ytclddaacbfgnlaa", sum := "8f534f8ffc9983c32d2ac79eb8ffec230b9a7f9676d7c2f08718442f18f66755", func := "ambry/ambrylaw06.ArenaFull", spec := "arenaFull", apart := false, narrowed := true }
def ArenaFullUptoSaid : Prop := arenaFullUptoRow.holds Try.pinned (OpenSpec.upto arenaFullSpec)

/-- 'ambrylaw06.ArenaPasses', WHERE WHAT IT READS IS OF BULK AT MOST 1048576: true; the input reads as it did. -/
def arenaPassesUptoRow : OpenClaim := { program := "ytclddaacbfgnlaa", sum := "8f534f8ffc9983c32d2ac79eb8ffec230b9a7f9676d7c2f08718442f18f66755", func := "ambry/ambrylaw06.ArenaPasses", spec := "arenaPasses", apart := false, narrowed := true }
def ArenaPassesUptoSaid : Prop := arenaPassesUptoRow.holds Try.pinned (OpenSpec.upto arenaPassesSpec)

end Rows
end Go.Proofs.Ytclddaacbfgnlaa
