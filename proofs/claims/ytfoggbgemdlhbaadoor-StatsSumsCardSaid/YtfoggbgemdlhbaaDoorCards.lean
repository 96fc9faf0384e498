/-
  DERIVED. GIVEN WITH THE SEED: THE CARDS: each row of YtfoggbgemdlhbaaDoorRows.lean that lists a variable, with what it lists TIED to the program's text (the seventh form; the later family's looks); each row that meets fmt, with fmt's text TOLD by the authors' own Lean function (tested against real Go, not proved from fmt's source: count such statements apart). THE CARD IS WHAT COUNTS. Prove the row's statement (the work); the ties are given (YtfoggbgemdlhbaaDoorTie.lean); close each card by the builder's one call (the guide's Derived/Test/ToyasCard.lean, 'card_holds'). Laid BY PROGRAM, IN A SANDBOX (cutbox-door.mjs). By AI agents, Wed Nov 11 2026. No macro, syntax, notation, axiom, sorry.
-/
import Derived.Test.YtfoggbgemdlhbaaDoorRows
import GoSem.ClaimSeven
namespace Go.Proofs.YtfoggbgemdlhbaaDoor
namespace Rows

/-- THE TIED CARD OF 'ambrylaw19.StatsPlays'. -/
def statsPlaysCard : Claim7 := { stood := { row := statsPlaysRow, standIns := [], harness := (true, "dbab667d795df309919c47afb0bcfe36ce48dbf0ebc6d5e45b0c801efd95abad"), looks := true }, kinds := [], alts := [], laidByText := true, laidKinds := [.data, .data, .data], laidTests := true, laidLooks := .later }
def StatsPlaysCardSaid : Prop := Claim7.holds Tryd.pinned (.plain (OpenSpec.ofChange statsPlaysSpec)) statsPlaysCard

/-- THE TIED CARD OF 'ambrylaw19.StatsSums'. -/
def statsSumsCard : Claim7 := { stood := { row := statsSumsRow, standIns := [], harness := (true, "dbab667d795df309919c47afb0bcfe36ce48dbf0ebc6d5e45b0c801efd95abad"), looks := true }, kinds := [], alts := [], laidByText := true, laidKinds := [.data, .data, .data, .data, .sentinel, .sentinel, .pinned], laidTests := true, laidLooks := .later }
def StatsSumsCardSaid : Prop := Claim7.holds Tryd.pinned (.plain (OpenSpec.ofChange statsSumsSpec)) statsSumsCard

/-- THE TIED CARD OF 'ambrylaw19.StatsResets'. -/
def statsResetsCard : Claim7 := { stood := { row := statsResetsRow, standIns := [], harness := (true, "dbab667d795df309919c47afb0bcfe36ce48dbf0ebc6d5e45b0c801efd95abad"), looks := true }, kinds := [], alts := [], laidByText := true, laidKinds := [.data, .data, .data], laidTests := true, laidLooks := .later }
def StatsResetsCardSaid : Prop := Claim7.holds Tryd.pinned (.plain (OpenSpec.ofChange statsResetsSpec)) statsResetsCard

/-- THE SECOND FORM's CARD OF 'ambrylaw19.StatsPlays'. -/
def statsPlaysUptoCard : Claim7 := { stood := { row := statsPlaysUptoRow, standIns := [], harness := (true, "dbab667d795df309919c47afb0bcfe36ce48dbf0ebc6d5e45b0c801efd95abad"), looks := true }, kinds := [], alts := [], laidByText := true, laidKinds := [.data, .data, .data], laidTests := true, laidLooks := .later }
def StatsPlaysUptoCardSaid : Prop := Claim7.holds Tryd.pinned (.plain (OpenSpec.upto statsPlaysSpec)) statsPlaysUptoCard

/-- THE SECOND FORM's CARD OF 'ambrylaw19.StatsSums'. -/
def statsSumsUptoCard : Claim7 := { stood := { row := statsSumsUptoRow, standIns := [], harness := (true, "dbab667d795df309919c47afb0bcfe36ce48dbf0ebc6d5e45b0c801efd95abad"), looks := true }, kinds := [], alts := [], laidByText := true, laidKinds := [.data, .data, .data, .data, .sentinel, .sentinel, .pinned], laidTests := true, laidLooks := .later }
def StatsSumsUptoCardSaid : Prop := Claim7.holds Tryd.pinned (.plain (OpenSpec.upto statsSumsSpec)) statsSumsUptoCard

/-- THE SECOND FORM's CARD OF 'ambrylaw19.StatsResets'. -/
def statsResetsUptoCard : Claim7 := { stood := { row := statsResetsUptoRow, standIns := [], harness := (true, "dbab667d795df309919c47afb0bcfe36ce48dbf0ebc6d5e45b0c801efd95abad"), looks := true }, kinds := [], alts := [], laidByText := true, laidKinds := [.data, .data, .data], laidTests := true, laidLooks := .later }
def StatsResetsUptoCardSaid : Prop := Claim7.holds Tryd.pinned (.plain (OpenSpec.upto statsResetsSpec)) statsResetsUptoCard
end Rows
end Go.Proofs.YtfoggbgemdlhbaaDoor
