/-
  DERIVED. GIVEN WITH THE SEED: THE CARDS: each row of YteenpdjanlcipaaDoorRows.lean that lists a variable, with what it lists TIED to the program's text (the seventh form; the later family's looks); each row that meets fmt, with fmt's text TOLD by the authors' own Lean function (tested against real Go, not proved from fmt's source: count such statements apart). THE CARD IS WHAT COUNTS. Prove the row's statement (the work); the ties are given (YteenpdjanlcipaaDoorTie.lean); close each card by the builder's one call (the guide's Derived/Test/ToyasCard.lean, 'card_holds'). Laid BY PROGRAM, IN A SANDBOX (cutbox-door.mjs). By AI agents, Wed Nov 11 2026. No macro, syntax, notation, axiom, sorry.
-/
import Derived.Test.YteenpdjanlcipaaDoorRows
import GoSem.ClaimSeven
namespace Go.Proofs.YteenpdjanlcipaaDoor
namespace Rows

/-- THE TIED CARD OF 'witanlaw05.DrawScalars'. -/
def drawScalarsCard : Claim7 := { stood := { row := drawScalarsRow, standIns := [], harness := (true, "1f25741902455d87b862edad228ffe6c3bab1c95069e821eb897ca1d87f8868f"), looks := false }, kinds := [], alts := [], laidByText := true, laidKinds := [.data], laidTests := true, laidLooks := .later }
def DrawScalarsCardSaid : Prop := Claim7.holds Tryd.pinned (.plain (OpenSpec.ofChange drawScalarsSpec)) drawScalarsCard

/-- THE TIED CARD OF 'witanlaw05.DrawPoints'. -/
def drawPointsCard : Claim7 := { stood := { row := drawPointsRow, standIns := [], harness := (true, "1f25741902455d87b862edad228ffe6c3bab1c95069e821eb897ca1d87f8868f"), looks := false }, kinds := [], alts := [], laidByText := true, laidKinds := [.data], laidTests := true, laidLooks := .later }
def DrawPointsCardSaid : Prop := Claim7.holds Tryd.pinned (.plain (OpenSpec.ofChange drawPointsSpec)) drawPointsCard

/-- THE TIED CARD OF 'witanlaw05.DrawStreams'. -/
def drawStreamsCard : Claim7 := { stood := { row := drawStreamsRow, standIns := [], harness := (true, "1f25741902455d87b862edad228ffe6c3bab1c95069e821eb897ca1d87f8868f"), looks := false }, kinds := [], alts := [], laidByText := true, laidKinds := [.data], laidTests := true, laidLooks := .later }
def DrawStreamsCardSaid : Prop := Claim7.holds Tryd.pinned (.plain (OpenSpec.ofChange drawStreamsSpec)) drawStreamsCard

/-- THE TIED CARD OF 'witanlaw05.DrawLong'. -/
def drawLongCard : Claim7 := { stood := { row := drawLongRow, standIns := [], harness := (true, "1f25741902455d87b862edad228ffe6c3bab1c95069e821eb897ca1d87f8868f"), looks := false }, kinds := [], alts := [], laidByText := true, laidKinds := [.data], laidTests := true, laidLooks := .later }
def DrawLongCardSaid : Prop := Claim7.holds Tryd.pinned (.plain (OpenSpec.ofChange drawLongSpec)) drawLongCard

/-- THE TIED CARD OF 'witanlaw05.DrawTries'. -/
def drawTriesCard : Claim7 := { stood := { row := drawTriesRow, standIns := [], harness := (true, "1f25741902455d87b862edad228ffe6c3bab1c95069e821eb897ca1d87f8868f"), looks := false }, kinds := [], alts := [], laidByText := true, laidKinds := [.data], laidTests := true, laidLooks := .later }
def DrawTriesCardSaid : Prop := Claim7.holds Tryd.pinned (.plain (OpenSpec.ofChange drawTriesSpec)) drawTriesCard

/-- THE TIED CARD OF 'witanlaw05.DrawParts'. -/
def drawPartsCard : Claim7 := { stood := { row := drawPartsRow, standIns := [], harness := (true, "1f25741902455d87b862edad228ffe6c3bab1c95069e821eb897ca1d87f8868f"), looks := false }, kinds := [], alts := [], laidByText := true, laidKinds := [.data], laidTests := true, laidLooks := .later }
def DrawPartsCardSaid : Prop := Claim7.holds Tryd.pinned (.plain (OpenSpec.ofChange drawPartsSpec)) drawPartsCard

/-- THE SECOND FORM's CARD OF 'witanlaw05.DrawScalars'. -/
def drawScalarsUptoCard : Claim7 := { stood := { row := drawScalarsUptoRow, standIns := [], harness := (true, "1f25741902455d87b862edad228ffe6c3bab1c95069e821eb897ca1d87f8868f"), looks := false }, kinds := [], alts := [], laidByText := true, laidKinds := [.data], laidTests := true, laidLooks := .later }
def DrawScalarsUptoCardSaid : Prop := Claim7.holds Tryd.pinned (.plain (OpenSpec.upto drawScalarsSpec)) drawScalarsUptoCard

/-- THE SECOND FORM's CARD OF 'witanlaw05.DrawPoints'. -/
def drawPointsUptoCard : Claim7 := { stood := { row := drawPointsUptoRow, standIns := [], harness := (true, "1f25741902455d87b862edad228ffe6c3bab1c95069e821eb897ca1d87f8868f"), looks := false }, kinds := [], alts := [], laidByText := true, laidKinds := [.data], laidTests := true, laidLooks := .later }
def DrawPointsUptoCardSaid : Prop := Claim7.holds Tryd.pinned (.plain (OpenSpec.upto drawPointsSpec)) drawPointsUptoCard

/-- THE SECOND FORM's CARD OF 'witanlaw05.DrawStreams'. -/
def drawStreamsUptoCard : Claim7 := { stood := { row := drawStreamsUptoRow, standIns := [], harness := (true, "1f25741902455d87b862edad228ffe6c3bab1c95069e821eb897ca1d87f8868f"), looks := false }, kinds := [], alts := [], laidByText := true, laidKinds := [.data], laidTests := true, laidLooks := .later }
def DrawStreamsUptoCardSaid : Prop := Claim7.holds Tryd.pinned (.plain (OpenSpec.upto drawStreamsSpec)) drawStreamsUptoCard

/-- THE SECOND FORM's CARD OF 'witanlaw05.DrawLong'. -/
def drawLongUptoCard : Claim7 := { stood := { row := drawLongUptoRow, standIns := [], harness := (true, "1f25741902455d87b862edad228ffe6c3bab1c95069e821eb897ca1d87f8868f"), looks := false }, kinds := [], alts := [], laidByText := true, laidKinds := [.data], laidTests := true, laidLooks := .later }
def DrawLongUptoCardSaid : Prop := Claim7.holds Tryd.pinned (.plain (OpenSpec.upto drawLongSpec)) drawLongUptoCard

/-- THE SECOND FORM's CARD OF 'witanlaw05.DrawTries'. -/
def drawTriesUptoCard : Claim7 := { stood := { row := drawTriesUptoRow, standIns := [], harness := (true, "1f25741902455d87b862edad228ffe6c3bab1c95069e821eb897ca1d87f8868f"), looks := false }, kinds := [], alts := [], laidByText := true, laidKinds := [.data], laidTests := true, laidLooks := .later }
def DrawTriesUptoCardSaid : Prop := Claim7.holds Tryd.pinned (.plain (OpenSpec.upto drawTriesSpec)) drawTriesUptoCard

/-- THE SECOND FORM's CARD OF 'witanlaw05.DrawParts'. -/
def drawPartsUptoCard : Claim7 := { stood := { row := drawPartsUptoRow, standIns := [], harness := (true, "1f25741902455d87b862edad228ffe6c3bab1c95069e821eb897ca1d87f8868f"), looks := false }, kinds := [], alts := [], laidByText := true, laidKinds := [.data], laidTests := true, laidLooks := .later }
def DrawPartsUptoCardSaid : Prop := Claim7.holds Tryd.pinned (.plain (OpenSpec.upto drawPartsSpec)) drawPartsUptoCard
end Rows
end Go.Proofs.YteenpdjanlcipaaDoor
