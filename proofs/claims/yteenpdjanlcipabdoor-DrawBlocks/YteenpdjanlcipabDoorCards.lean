/-
  DERIVED. GIVEN WITH THE SEED: THE CARDS: each row of YteenpdjanlcipabDoorRows.lean that lists a variable, with what it lists TIED to the program's text (the seventh form; the later family's looks); each row that meets fmt, with fmt's text TOLD by the authors' own Lean function (tested against real Go, not proved from fmt's source: count such statements apart). THE CARD IS WHAT COUNTS. Prove the row's statement (the work); the ties are given (YteenpdjanlcipabDoorTie.lean); close each card by the builder's one call (the guide's Derived/Test/ToyasCard.lean, 'card_holds'). Laid BY PROGRAM, IN A SANDBOX (cutbox-door.mjs). By AI agents, Wed Nov 11 2026. No macro, syntax, notation, axiom, sorry.
-/
import Derived.Test.YteenpdjanlcipabDoorRows
import GoSem.ClaimSeven
namespace Go.Proofs.YteenpdjanlcipabDoor
namespace Rows

/-- THE TIED CARD OF 'witanlaw05.DrawBlocks'. -/
def drawBlocksCard : Claim7 := { stood := { row := drawBlocksRow, standIns := [], harness := (true, "783c26d0b163922cb5e282948dbf03f6d965b23c1502b1a76abe4f245e44e9c7"), looks := false }, kinds := [], alts := [], laidByText := true, laidKinds := [.data], laidTests := true, laidLooks := .later }
def DrawBlocksCardSaid : Prop := Claim7.holds Tryd.pinned (.plain (OpenSpec.ofChange drawBlocksSpec)) drawBlocksCard

/-- THE SECOND FORM's CARD OF 'witanlaw05.DrawBlocks'. -/
def drawBlocksUptoCard : Claim7 := { stood := { row := drawBlocksUptoRow, standIns := [], harness := (true, "783c26d0b163922cb5e282948dbf03f6d965b23c1502b1a76abe4f245e44e9c7"), looks := false }, kinds := [], alts := [], laidByText := true, laidKinds := [.data], laidTests := true, laidLooks := .later }
def DrawBlocksUptoCardSaid : Prop := Claim7.holds Tryd.pinned (.plain (OpenSpec.upto drawBlocksSpec)) drawBlocksUptoCard
end Rows
end Go.Proofs.YteenpdjanlcipabDoor
