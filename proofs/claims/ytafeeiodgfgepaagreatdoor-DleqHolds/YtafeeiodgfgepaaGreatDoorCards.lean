/-
  DERIVED. GIVEN WITH THE SEED: THE CARDS: each row of YtafeeiodgfgepaaGreatDoorRows.lean that lists a variable, with what it lists TIED to the program's text (the seventh form; the later family's looks); each row that meets fmt, with fmt's text TOLD by the authors' own Lean function (tested against real Go, not proved from fmt's source: count such statements apart). THE CARD IS WHAT COUNTS. Prove the row's statement (the work); the ties are given (YtafeeiodgfgepaaGreatDoorTie.lean); close each card by the builder's one call (the guide's Derived/Test/ToyasCard.lean, 'card_holds'). Laid BY PROGRAM, IN A SANDBOX (cutbox-door.mjs). By AI agents, Wed Nov 11 2026. No macro, syntax, notation, axiom, sorry.
-/
import Derived.Test.YtafeeiodgfgepaaGreatDoorRows
import GoSem.ClaimSeven
namespace Go.Proofs.YtafeeiodgfgepaaGreatDoor
namespace Rows

/-- THE TIED CARD OF 'witanlaw09.DleqProves'. -/
def dleqProvesCard : Claim7 := { stood := { row := dleqProvesRow, standIns := [], harness := (true, "138266d5d1da23345a2813ffc43bc01dcd2643787cbe554e99e67135fcfe65d1"), looks := false }, kinds := [], alts := [], laidByText := true, laidKinds := [.data], laidTests := true, laidLooks := .later }
def DleqProvesCardSaid : Prop := Claim7.holds Tryz.pinned (.plain (OpenSpec.ofChange dleqProvesSpec)) dleqProvesCard

/-- THE TIED CARD OF 'witanlaw09.DleqHolds'. -/
def dleqHoldsCard : Claim7 := { stood := { row := dleqHoldsRow, standIns := [], harness := (true, "138266d5d1da23345a2813ffc43bc01dcd2643787cbe554e99e67135fcfe65d1"), looks := false }, kinds := [], alts := [], laidByText := true, laidKinds := [.data], laidTests := true, laidLooks := .later }
def DleqHoldsCardSaid : Prop := Claim7.holds Tryz.pinned (.plain (OpenSpec.ofChange dleqHoldsSpec)) dleqHoldsCard

/-- THE SECOND FORM's CARD OF 'witanlaw09.DleqProves'. -/
def dleqProvesUptoCard : Claim7 := { stood := { row := dleqProvesUptoRow, standIns := [], harness := (true, "138266d5d1da23345a2813ffc43bc01dcd2643787cbe554e99e67135fcfe65d1"), looks := false }, kinds := [], alts := [], laidByText := true, laidKinds := [.data], laidTests := true, laidLooks := .later }
def DleqProvesUptoCardSaid : Prop := Claim7.holds Tryz.pinned (.plain (OpenSpec.upto dleqProvesSpec)) dleqProvesUptoCard

/-- THE SECOND FORM's CARD OF 'witanlaw09.DleqHolds'. -/
def dleqHoldsUptoCard : Claim7 := { stood := { row := dleqHoldsUptoRow, standIns := [], harness := (true, "138266d5d1da23345a2813ffc43bc01dcd2643787cbe554e99e67135fcfe65d1"), looks := false }, kinds := [], alts := [], laidByText := true, laidKinds := [.data], laidTests := true, laidLooks := .later }
def DleqHoldsUptoCardSaid : Prop := Claim7.holds Tryz.pinned (.plain (OpenSpec.upto dleqHoldsSpec)) dleqHoldsUptoCard
end Rows
end Go.Proofs.YtafeeiodgfgepaaGreatDoor
