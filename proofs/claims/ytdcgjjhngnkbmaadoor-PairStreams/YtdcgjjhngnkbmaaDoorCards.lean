/-
  DERIVED. GIVEN WITH THE SEED: THE CARDS: each row of YtdcgjjhngnkbmaaDoorRows.lean that lists a variable, with what it lists TIED to the program's text (the seventh form; the later family's looks); each row that meets fmt, with fmt's text TOLD by the authors' own Lean function (tested against real Go, not proved from fmt's source: count such statements apart). THE CARD IS WHAT COUNTS. Prove the row's statement (the work); the ties are given (YtdcgjjhngnkbmaaDoorTie.lean); close each card by the builder's one call (the guide's Derived/Test/ToyasCard.lean, 'card_holds'). Laid BY PROGRAM, IN A SANDBOX (cutbox-door.mjs). By AI agents, Wed Nov 11 2026. No macro, syntax, notation, axiom, sorry.
-/
import Derived.Test.YtdcgjjhngnkbmaaDoorRows
import GoSem.ClaimSeven
namespace Go.Proofs.YtdcgjjhngnkbmaaDoor
namespace Rows

/-- THE TIED CARD OF 'witanlaw08.PairBack'. -/
def pairBackCard : Claim7 := { stood := { row := pairBackRow, standIns := [], harness := (true, "77e958b531bd7c88d3a2079d513bea8fc5e6d6b8bd04816486f73e15f61b7b88"), looks := false }, kinds := [], alts := [], laidByText := true, laidKinds := [.data], laidTests := true, laidLooks := .later }
def PairBackCardSaid : Prop := Claim7.holds Tryd.pinned (.plain (OpenSpec.ofChange pairBackSpec)) pairBackCard

/-- THE TIED CARD OF 'witanlaw08.PairStreams'. -/
def pairStreamsCard : Claim7 := { stood := { row := pairStreamsRow, standIns := [], harness := (true, "77e958b531bd7c88d3a2079d513bea8fc5e6d6b8bd04816486f73e15f61b7b88"), looks := false }, kinds := [], alts := [], laidByText := true, laidKinds := [.data], laidTests := true, laidLooks := .later }
def PairStreamsCardSaid : Prop := Claim7.holds Tryd.pinned (.plain (OpenSpec.ofChange pairStreamsSpec)) pairStreamsCard

/-- THE SECOND FORM's CARD OF 'witanlaw08.PairBack'. -/
def pairBackUptoCard : Claim7 := { stood := { row := pairBackUptoRow, standIns := [], harness := (true, "77e958b531bd7c88d3a2079d513bea8fc5e6d6b8bd04816486f73e15f61b7b88"), looks := false }, kinds := [], alts := [], laidByText := true, laidKinds := [.data], laidTests := true, laidLooks := .later }
def PairBackUptoCardSaid : Prop := Claim7.holds Tryd.pinned (.plain (OpenSpec.upto pairBackSpec)) pairBackUptoCard

/-- THE SECOND FORM's CARD OF 'witanlaw08.PairStreams'. -/
def pairStreamsUptoCard : Claim7 := { stood := { row := pairStreamsUptoRow, standIns := [], harness := (true, "77e958b531bd7c88d3a2079d513bea8fc5e6d6b8bd04816486f73e15f61b7b88"), looks := false }, kinds := [], alts := [], laidByText := true, laidKinds := [.data], laidTests := true, laidLooks := .later }
def PairStreamsUptoCardSaid : Prop := Claim7.holds Tryd.pinned (.plain (OpenSpec.upto pairStreamsSpec)) pairStreamsUptoCard
end Rows
end Go.Proofs.YtdcgjjhngnkbmaaDoor
