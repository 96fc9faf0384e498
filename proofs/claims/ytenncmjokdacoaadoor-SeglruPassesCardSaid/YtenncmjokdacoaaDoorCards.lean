/-
  DERIVED. GIVEN WITH THE SEED: THE CARDS: each row of YtenncmjokdacoaaDoorRows.lean that lists a variable, with what it lists TIED to the program's text (the seventh form; the later family's looks); each row that meets fmt, with fmt's text TOLD by the authors' own Lean function (tested against real Go, not proved from fmt's source: count such statements apart). THE CARD IS WHAT COUNTS. Prove the row's statement (the work); the ties are given (YtenncmjokdacoaaDoorTie.lean); close each card by the builder's one call (the guide's Derived/Test/ToyasCard.lean, 'card_holds'). Laid BY PROGRAM, IN A SANDBOX (cutbox-door.mjs). By AI agents, Wed Nov 11 2026. No macro, syntax, notation, axiom, sorry.
-/
import Derived.Test.YtenncmjokdacoaaDoorRows
import GoSem.ClaimSeven
namespace Go.Proofs.YtenncmjokdacoaaDoor
namespace Rows

/-- THE TIED CARD OF 'ambrylaw12.SeglruPlays'. -/
def seglruPlaysCard : Claim7 := { stood := { row := seglruPlaysRow, standIns := [], harness := (true, "7b64274b1ce3ebe8b66f5ebe8838245b918b21b637349b93e4c580042b1555a3"), looks := false }, kinds := [], alts := [], laidByText := true, laidKinds := [.data], laidTests := true, laidLooks := .later }
def SeglruPlaysCardSaid : Prop := Claim7.holds Tryd.pinned (.plain (OpenSpec.ofChange seglruPlaysSpec)) seglruPlaysCard

/-- THE TIED CARD OF 'ambrylaw12.SeglruEnds'. -/
def seglruEndsCard : Claim7 := { stood := { row := seglruEndsRow, standIns := [], harness := (true, "7b64274b1ce3ebe8b66f5ebe8838245b918b21b637349b93e4c580042b1555a3"), looks := false }, kinds := [], alts := [], laidByText := true, laidKinds := [.data], laidTests := true, laidLooks := .later }
def SeglruEndsCardSaid : Prop := Claim7.holds Tryd.pinned (.plain (OpenSpec.ofChange seglruEndsSpec)) seglruEndsCard

/-- THE TIED CARD OF 'ambrylaw12.SeglruPasses'. -/
def seglruPassesCard : Claim7 := { stood := { row := seglruPassesRow, standIns := [], harness := (true, "7b64274b1ce3ebe8b66f5ebe8838245b918b21b637349b93e4c580042b1555a3"), looks := false }, kinds := [], alts := [], laidByText := true, laidKinds := [.data], laidTests := true, laidLooks := .later }
def SeglruPassesCardSaid : Prop := Claim7.holds Tryd.pinned (.plain (OpenSpec.ofChange seglruPassesSpec)) seglruPassesCard

/-- THE TIED CARD OF 'ambrylaw12.SeglruFirst'. -/
def seglruFirstCard : Claim7 := { stood := { row := seglruFirstRow, standIns := [], harness := (true, "7b64274b1ce3ebe8b66f5ebe8838245b918b21b637349b93e4c580042b1555a3"), looks := false }, kinds := [], alts := [], laidByText := true, laidKinds := [.data], laidTests := true, laidLooks := .later }
def SeglruFirstCardSaid : Prop := Claim7.holds Tryd.pinned (.plain (OpenSpec.ofChange seglruFirstSpec)) seglruFirstCard

/-- THE TIED CARD OF 'ambrylaw12.SeglruKeeps'. -/
def seglruKeepsCard : Claim7 := { stood := { row := seglruKeepsRow, standIns := [], harness := (true, "7b64274b1ce3ebe8b66f5ebe8838245b918b21b637349b93e4c580042b1555a3"), looks := false }, kinds := [], alts := [], laidByText := true, laidKinds := [.data], laidTests := true, laidLooks := .later }
def SeglruKeepsCardSaid : Prop := Claim7.holds Tryd.pinned (.plain (OpenSpec.ofChange seglruKeepsSpec)) seglruKeepsCard

/-- THE SECOND FORM's CARD OF 'ambrylaw12.SeglruPlays'. -/
def seglruPlaysUptoCard : Claim7 := { stood := { row := seglruPlaysUptoRow, standIns := [], harness := (true, "7b64274b1ce3ebe8b66f5ebe8838245b918b21b637349b93e4c580042b1555a3"), looks := false }, kinds := [], alts := [], laidByText := true, laidKinds := [.data], laidTests := true, laidLooks := .later }
def SeglruPlaysUptoCardSaid : Prop := Claim7.holds Tryd.pinned (.plain (OpenSpec.upto seglruPlaysSpec)) seglruPlaysUptoCard

/-- THE SECOND FORM's CARD OF 'ambrylaw12.SeglruEnds'. -/
def seglruEndsUptoCard : Claim7 := { stood := { row := seglruEndsUptoRow, standIns := [], harness := (true, "7b64274b1ce3ebe8b66f5ebe8838245b918b21b637349b93e4c580042b1555a3"), looks := false }, kinds := [], alts := [], laidByText := true, laidKinds := [.data], laidTests := true, laidLooks := .later }
def SeglruEndsUptoCardSaid : Prop := Claim7.holds Tryd.pinned (.plain (OpenSpec.upto seglruEndsSpec)) seglruEndsUptoCard

/-- THE SECOND FORM's CARD OF 'ambrylaw12.SeglruPasses'. -/
def seglruPassesUptoCard : Claim7 := { stood := { row := seglruPassesUptoRow, standIns := [], harness := (true, "7b64274b1ce3ebe8b66f5ebe8838245b918b21b637349b93e4c580042b1555a3"), looks := false }, kinds := [], alts := [], laidByText := true, laidKinds := [.data], laidTests := true, laidLooks := .later }
def SeglruPassesUptoCardSaid : Prop := Claim7.holds Tryd.pinned (.plain (OpenSpec.upto seglruPassesSpec)) seglruPassesUptoCard

/-- THE SECOND FORM's CARD OF 'ambrylaw12.SeglruFirst'. -/
def seglruFirstUptoCard : Claim7 := { stood := { row := seglruFirstUptoRow, standIns := [], harness := (true, "7b64274b1ce3ebe8b66f5ebe8838245b918b21b637349b93e4c580042b1555a3"), looks := false }, kinds := [], alts := [], laidByText := true, laidKinds := [.data], laidTests := true, laidLooks := .later }
def SeglruFirstUptoCardSaid : Prop := Claim7.holds Tryd.pinned (.plain (OpenSpec.upto seglruFirstSpec)) seglruFirstUptoCard

/-- THE SECOND FORM's CARD OF 'ambrylaw12.SeglruKeeps'. -/
def seglruKeepsUptoCard : Claim7 := { stood := { row := seglruKeepsUptoRow, standIns := [], harness := (true, "7b64274b1ce3ebe8b66f5ebe8838245b918b21b637349b93e4c580042b1555a3"), looks := false }, kinds := [], alts := [], laidByText := true, laidKinds := [.data], laidTests := true, laidLooks := .later }
def SeglruKeepsUptoCardSaid : Prop := Claim7.holds Tryd.pinned (.plain (OpenSpec.upto seglruKeepsSpec)) seglruKeepsUptoCard
end Rows
end Go.Proofs.YtenncmjokdacoaaDoor
