/-
  DERIVED. GIVEN WITH THE SEED: THE CARDS: each row of YtdcgjjhngnkbmaaGreatDoorRows.lean that lists a variable, with what it lists TIED to the program's text (the seventh form; the later family's looks); each row that meets fmt, with fmt's text TOLD by the authors' own Lean function (tested against real Go, not proved from fmt's source: count such statements apart). THE CARD IS WHAT COUNTS. Prove the row's statement (the work); the ties are given (YtdcgjjhngnkbmaaGreatDoorTie.lean); close each card by the builder's one call (the guide's Derived/Test/ToyasCard.lean, 'card_holds'). Laid BY PROGRAM, IN A SANDBOX (cutbox-door.mjs). By AI agents, Wed Nov 11 2026. No macro, syntax, notation, axiom, sorry.
-/
import Derived.Test.YtdcgjjhngnkbmaaGreatDoorRows
import GoSem.ClaimSeven
namespace Go.Proofs.YtdcgjjhngnkbmaaGreatDoor
namespace Rows

/-- THE TIED CARD OF 'witanlaw08.PairExact'. -/
def pairExactCard : Claim7 := { stood := { row := pairExactRow, standIns := [], harness := (true, "0897696aae295bd0a76736151c95117eef751b7712216f97c3f9a21b11138026"), looks := false }, kinds := [], alts := [], laidByText := true, laidKinds := [.data], laidTests := true, laidLooks := .later }
def PairExactCardSaid : Prop := Claim7.holds Tryz.pinned (.plain (OpenSpec.ofChange pairExactSpec)) pairExactCard

/-- THE SECOND FORM's CARD OF 'witanlaw08.PairExact'. -/
def pairExactUptoCard : Claim7 := { stood := { row := pairExactUptoRow, standIns := [], harness := (true, "0897696aae295bd0a76736151c95117eef751b7712216f97c3f9a21b11138026"), looks := false }, kinds := [], alts := [], laidByText := true, laidKinds := [.data], laidTests := true, laidLooks := .later }
def PairExactUptoCardSaid : Prop := Claim7.holds Tryz.pinned (.plain (OpenSpec.upto pairExactSpec)) pairExactUptoCard
end Rows
end Go.Proofs.YtdcgjjhngnkbmaaGreatDoor
