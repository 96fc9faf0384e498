/-
  DERIVED. GIVEN WITH THE SEED: THE CARDS: each row of YtkodgfbalclaeaaDoorRows.lean that lists a variable, with what it lists TIED to the program's text (the seventh form; the later family's looks); each row that meets fmt, with fmt's text TOLD by the authors' own Lean function (tested against real Go, not proved from fmt's source: count such statements apart). THE CARD IS WHAT COUNTS. Prove the row's statement (the work); the ties are given (YtkodgfbalclaeaaDoorTie.lean); close each card by the builder's one call (the guide's Derived/Test/ToyasCard.lean, 'card_holds'). Laid BY PROGRAM, IN A SANDBOX (cutbox-door.mjs). By AI agents, Wed Nov 11 2026. No macro, syntax, notation, axiom, sorry.
-/
import Derived.Test.YtkodgfbalclaeaaDoorRows
import GoSem.ClaimSeven
namespace Go.Proofs.YtkodgfbalclaeaaDoor
namespace Rows

/-- THE TIED CARD OF 'ambrylaw01.NumsParses'. -/
def numsParsesCard : Claim7 := { stood := { row := numsParsesRow, standIns := [], harness := (true, "337c397d342652e261e3cc693110d85f0e97ae991a8a93ef719061792629d5f4"), looks := true }, kinds := [], alts := [], laidByText := true, laidKinds := [.data, .data, .data, .sentinel, .sentinel], laidTests := true, laidLooks := .later }
def NumsParsesCardSaid : Prop := Claim7.holds Tryd.pinned (.plain (OpenSpec.ofChange numsParsesSpec)) numsParsesCard

/-- THE TIED CARD OF 'ambrylaw01.NumsSigned'. -/
def numsSignedCard : Claim7 := { stood := { row := numsSignedRow, standIns := [], harness := (true, "337c397d342652e261e3cc693110d85f0e97ae991a8a93ef719061792629d5f4"), looks := true }, kinds := [], alts := [], laidByText := true, laidKinds := [.data, .data, .data, .sentinel, .sentinel], laidTests := true, laidLooks := .later }
def NumsSignedCardSaid : Prop := Claim7.holds Tryd.pinned (.plain (OpenSpec.ofChange numsSignedSpec)) numsSignedCard

/-- THE TIED CARD OF 'ambrylaw01.NumsTexts'. -/
def numsTextsCard : Claim7 := { stood := { row := numsTextsRow, standIns := [], harness := (true, "337c397d342652e261e3cc693110d85f0e97ae991a8a93ef719061792629d5f4"), looks := true }, kinds := [], alts := [], laidByText := true, laidKinds := [.data, .data, .data, .sentinel, .sentinel], laidTests := true, laidLooks := .later }
def NumsTextsCardSaid : Prop := Claim7.holds Tryd.pinned (.plain (OpenSpec.ofChange numsTextsSpec)) numsTextsCard

/-- THE TIED CARD OF 'ambrylaw01.NumsBack'. -/
def numsBackCard : Claim7 := { stood := { row := numsBackRow, standIns := [], harness := (true, "337c397d342652e261e3cc693110d85f0e97ae991a8a93ef719061792629d5f4"), looks := true }, kinds := [], alts := [], laidByText := true, laidKinds := [.data, .data, .data, .sentinel, .sentinel], laidTests := true, laidLooks := .later }
def NumsBackCardSaid : Prop := Claim7.holds Tryd.pinned (.plain (OpenSpec.ofChange numsBackSpec)) numsBackCard

/-- THE TIED CARD OF 'ambrylaw01.NumsSums'. -/
def numsSumsCard : Claim7 := { stood := { row := numsSumsRow, standIns := [], harness := (true, "337c397d342652e261e3cc693110d85f0e97ae991a8a93ef719061792629d5f4"), looks := true }, kinds := [], alts := [], laidByText := true, laidKinds := [.data, .data, .data, .sentinel, .sentinel], laidTests := true, laidLooks := .later }
def NumsSumsCardSaid : Prop := Claim7.holds Tryd.pinned (.plain (OpenSpec.ofChange numsSumsSpec)) numsSumsCard

/-- THE TIED CARD OF 'ambrylaw01.NumsUndo'. -/
def numsUndoCard : Claim7 := { stood := { row := numsUndoRow, standIns := [], harness := (true, "337c397d342652e261e3cc693110d85f0e97ae991a8a93ef719061792629d5f4"), looks := true }, kinds := [], alts := [], laidByText := true, laidKinds := [.data, .data, .data, .sentinel, .sentinel], laidTests := true, laidLooks := .later }
def NumsUndoCardSaid : Prop := Claim7.holds Tryd.pinned (.plain (OpenSpec.ofChange numsUndoSpec)) numsUndoCard

/-- THE TIED CARD OF 'ambrylaw01.NumsOrder'. -/
def numsOrderCard : Claim7 := { stood := { row := numsOrderRow, standIns := [], harness := (true, "337c397d342652e261e3cc693110d85f0e97ae991a8a93ef719061792629d5f4"), looks := true }, kinds := [], alts := [], laidByText := true, laidKinds := [.data, .data, .data, .sentinel, .sentinel], laidTests := true, laidLooks := .later }
def NumsOrderCardSaid : Prop := Claim7.holds Tryd.pinned (.plain (OpenSpec.ofChange numsOrderSpec)) numsOrderCard

/-- THE TIED CARD OF 'ambrylaw01.NumsBad'. -/
def numsBadCard : Claim7 := { stood := { row := numsBadRow, standIns := [], harness := (true, "337c397d342652e261e3cc693110d85f0e97ae991a8a93ef719061792629d5f4"), looks := true }, kinds := [], alts := [], laidByText := true, laidKinds := [.data, .data, .data, .sentinel, .sentinel], laidTests := true, laidLooks := .later }
def NumsBadCardSaid : Prop := Claim7.holds Tryd.pinned (.plain (OpenSpec.ofChange numsBadSpec)) numsBadCard

/-- THE SECOND FORM's CARD OF 'ambrylaw01.NumsParses'. -/
def numsParsesUptoCard : Claim7 := { stood := { row := numsParsesUptoRow, standIns := [], harness := (true, "337c397d342652e261e3cc693110d85f0e97ae991a8a93ef719061792629d5f4"), looks := true }, kinds := [], alts := [], laidByText := true, laidKinds := [.data, .data, .data, .sentinel, .sentinel], laidTests := true, laidLooks := .later }
def NumsParsesUptoCardSaid : Prop := Claim7.holds Tryd.pinned (.plain (OpenSpec.upto numsParsesSpec)) numsParsesUptoCard

/-- THE SECOND FORM's CARD OF 'ambrylaw01.NumsSigned'. -/
def numsSignedUptoCard : Claim7 := { stood := { row := numsSignedUptoRow, standIns := [], harness := (true, "337c397d342652e261e3cc693110d85f0e97ae991a8a93ef719061792629d5f4"), looks := true }, kinds := [], alts := [], laidByText := true, laidKinds := [.data, .data, .data, .sentinel, .sentinel], laidTests := true, laidLooks := .later }
def NumsSignedUptoCardSaid : Prop := Claim7.holds Tryd.pinned (.plain (OpenSpec.upto numsSignedSpec)) numsSignedUptoCard

/-- THE SECOND FORM's CARD OF 'ambrylaw01.NumsTexts'. -/
def numsTextsUptoCard : Claim7 := { stood := { row := numsTextsUptoRow, standIns := [], harness := (true, "337c397d342652e261e3cc693110d85f0e97ae991a8a93ef719061792629d5f4"), looks := true }, kinds := [], alts := [], laidByText := true, laidKinds := [.data, .data, .data, .sentinel, .sentinel], laidTests := true, laidLooks := .later }
def NumsTextsUptoCardSaid : Prop := Claim7.holds Tryd.pinned (.plain (OpenSpec.upto numsTextsSpec)) numsTextsUptoCard

/-- THE SECOND FORM's CARD OF 'ambrylaw01.NumsBack'. -/
def numsBackUptoCard : Claim7 := { stood := { row := numsBackUptoRow, standIns := [], harness := (true, "337c397d342652e261e3cc693110d85f0e97ae991a8a93ef719061792629d5f4"), looks := true }, kinds := [], alts := [], laidByText := true, laidKinds := [.data, .data, .data, .sentinel, .sentinel], laidTests := true, laidLooks := .later }
def NumsBackUptoCardSaid : Prop := Claim7.holds Tryd.pinned (.plain (OpenSpec.upto numsBackSpec)) numsBackUptoCard

/-- THE SECOND FORM's CARD OF 'ambrylaw01.NumsSums'. -/
def numsSumsUptoCard : Claim7 := { stood := { row := numsSumsUptoRow, standIns := [], harness := (true, "337c397d342652e261e3cc693110d85f0e97ae991a8a93ef719061792629d5f4"), looks := true }, kinds := [], alts := [], laidByText := true, laidKinds := [.data, .data, .data, .sentinel, .sentinel], laidTests := true, laidLooks := .later }
def NumsSumsUptoCardSaid : Prop := Claim7.holds Tryd.pinned (.plain (OpenSpec.upto numsSumsSpec)) numsSumsUptoCard

/-- THE SECOND FORM's CARD OF 'ambrylaw01.NumsUndo'. -/
def numsUndoUptoCard : Claim7 := { stood := { row := numsUndoUptoRow, standIns := [], harness := (true, "337c397d342652e261e3cc693110d85f0e97ae991a8a93ef719061792629d5f4"), looks := true }, kinds := [], alts := [], laidByText := true, laidKinds := [.data, .data, .data, .sentinel, .sentinel], laidTests := true, laidLooks := .later }
def NumsUndoUptoCardSaid : Prop := Claim7.holds Tryd.pinned (.plain (OpenSpec.upto numsUndoSpec)) numsUndoUptoCard

/-- THE SECOND FORM's CARD OF 'ambrylaw01.NumsOrder'. -/
def numsOrderUptoCard : Claim7 := { stood := { row := numsOrderUptoRow, standIns := [], harness := (true, "337c397d342652e261e3cc693110d85f0e97ae991a8a93ef719061792629d5f4"), looks := true }, kinds := [], alts := [], laidByText := true, laidKinds := [.data, .data, .data, .sentinel, .sentinel], laidTests := true, laidLooks := .later }
def NumsOrderUptoCardSaid : Prop := Claim7.holds Tryd.pinned (.plain (OpenSpec.upto numsOrderSpec)) numsOrderUptoCard

/-- THE SECOND FORM's CARD OF 'ambrylaw01.NumsBad'. -/
def numsBadUptoCard : Claim7 := { stood := { row := numsBadUptoRow, standIns := [], harness := (true, "337c397d342652e261e3cc693110d85f0e97ae991a8a93ef719061792629d5f4"), looks := true }, kinds := [], alts := [], laidByText := true, laidKinds := [.data, .data, .data, .sentinel, .sentinel], laidTests := true, laidLooks := .later }
def NumsBadUptoCardSaid : Prop := Claim7.holds Tryd.pinned (.plain (OpenSpec.upto numsBadSpec)) numsBadUptoCard
end Rows
end Go.Proofs.YtkodgfbalclaeaaDoor
