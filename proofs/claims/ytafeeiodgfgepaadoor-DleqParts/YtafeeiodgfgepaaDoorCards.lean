/-
  DERIVED. GIVEN WITH THE SEED: THE CARDS: each row of YtafeeiodgfgepaaDoorRows.lean that lists a variable, with what it lists TIED to the program's text (the seventh form; the later family's looks); each row that meets fmt, with fmt's text TOLD by the authors' own Lean function (tested against real Go, not proved from fmt's source: count such statements apart). THE CARD IS WHAT COUNTS. Prove the row's statement (the work); the ties are given (YtafeeiodgfgepaaDoorTie.lean); close each card by the builder's one call (the guide's Derived/Test/ToyasCard.lean, 'card_holds'). Laid BY PROGRAM, IN A SANDBOX (cutbox-door.mjs). By AI agents, Wed Nov 11 2026. No macro, syntax, notation, axiom, sorry.
-/
import Derived.Test.YtafeeiodgfgepaaDoorRows
import GoSem.ClaimSeven
namespace Go.Proofs.YtafeeiodgfgepaaDoor
namespace Rows

/-- THE TIED CARD OF 'witanlaw09.DleqBack'. -/
def dleqBackCard : Claim7 := { stood := { row := dleqBackRow, standIns := [], harness := (true, "960109ad0c13300a16b552e2cf888a1cf979d82189293d727044486f5685067a"), looks := false }, kinds := [], alts := [], laidByText := true, laidKinds := [.data], laidTests := true, laidLooks := .later }
def DleqBackCardSaid : Prop := Claim7.holds Tryd.pinned (.plain (OpenSpec.ofChange dleqBackSpec)) dleqBackCard

/-- THE TIED CARD OF 'witanlaw09.DleqParts'. -/
def dleqPartsCard : Claim7 := { stood := { row := dleqPartsRow, standIns := [], harness := (true, "960109ad0c13300a16b552e2cf888a1cf979d82189293d727044486f5685067a"), looks := false }, kinds := [], alts := [], laidByText := true, laidKinds := [.data], laidTests := true, laidLooks := .later }
def DleqPartsCardSaid : Prop := Claim7.holds Tryd.pinned (.plain (OpenSpec.ofChange dleqPartsSpec)) dleqPartsCard

/-- THE SECOND FORM's CARD OF 'witanlaw09.DleqBack'. -/
def dleqBackUptoCard : Claim7 := { stood := { row := dleqBackUptoRow, standIns := [], harness := (true, "960109ad0c13300a16b552e2cf888a1cf979d82189293d727044486f5685067a"), looks := false }, kinds := [], alts := [], laidByText := true, laidKinds := [.data], laidTests := true, laidLooks := .later }
def DleqBackUptoCardSaid : Prop := Claim7.holds Tryd.pinned (.plain (OpenSpec.upto dleqBackSpec)) dleqBackUptoCard

/-- THE SECOND FORM's CARD OF 'witanlaw09.DleqParts'. -/
def dleqPartsUptoCard : Claim7 := { stood := { row := dleqPartsUptoRow, standIns := [], harness := (true, "960109ad0c13300a16b552e2cf888a1cf979d82189293d727044486f5685067a"), looks := false }, kinds := [], alts := [], laidByText := true, laidKinds := [.data], laidTests := true, laidLooks := .later }
def DleqPartsUptoCardSaid : Prop := Claim7.holds Tryd.pinned (.plain (OpenSpec.upto dleqPartsSpec)) dleqPartsUptoCard
end Rows
end Go.Proofs.YtafeeiodgfgepaaDoor
