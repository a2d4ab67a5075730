/-
  No cell of these rows narrows 'for every input' (looked for: loops, veiled, ifaces, maps, wideKeys, modest, calm, conditions, laid).
  DERIVED. THE GIVEN ROWS OF THIS SEAT. 6 by the template 'for every input the law returns true; each argument reads behind the call as it read before'; 0 by the template 'total and deterministic' (their statements: YtpkoldooncpggaaTotals.lean).
  GIVEN WITH THE SEED: the statements are not yours to turn. If you find one false, say at which input.
  Laid BY PROGRAM, IN A SANDBOX (cutbox-rows.mjs): the forced cells as the released guide's own fill.sh prints them over the translation 5d6a5cf1fed760cc… (all of the seat's roots in one cut). By AI agents, Wed Nov 11 2026. No macro, syntax, notation, axiom, sorry.
-/
import Derived.Test.YtpkoldooncpggaaChecked
import GoSem.Claim
import GoSem.ClaimJoined
import GoSem.ClaimMapViews
import Derived.JoinedTies
import Derived.KernelRfl
namespace Go.Proofs.Ytpkoldooncpggaa
/- THE CELL 'sum', in the pinned program and in every row, IS THE sha256 OF THE DUMP (.gsa) THAT YtpkoldooncpggaaProg.lean LOADS. Nothing in Lean hashes anything: it is a label: what it is worth is what the hold of that sum in a sandbox is worth. -/
noncomputable def Try.pinned : Pinned := { name := "ytpkoldooncpggaa", sum := "5d6a5cf1fed760cc1375597533e71d3b1dbbf4783906f9946486818c31ec0242", checked := Try.checked }
namespace Rows
def none {H : Type} : Left H := { results := [], args := [] }

/-- 'witanlaw06.PolyExact': WHATEVER THE INPUT: true; the input reads as it did. -/
def polyExactSpec : ChangeSpec := { name := "polyExact", fn := fun _ => fun
  | [d1, d2, d3] => { results := [.lit (.bool true)], args := [d1, d2, d3] }
  | _ => none }
def polyExactRow : OpenClaim := { program := "ytpkoldooncpggaa", sum := "5d6a5cf1fed760cc1375597533e71d3b1dbbf4783906f9946486818c31ec0242", func := "witan/witanlaw06.PolyExact", spec := "polyExact", inPlace := ["math/bits.Add64", "math/bits.Sub64"], apart := false }
def PolyExactSaid : Prop := polyExactRow.holds Try.pinned (OpenSpec.ofChange polyExactSpec)

/-- ITS FALSE NEIGHBOUR: 'it returns false'. Refute it at one input. -/
def polyExactWrong : ChangeSpec := { name := "polyExact", fn := fun _ => fun
  | [d1, d2, d3] => { results := [.lit (.bool false)], args := [d1, d2, d3] }
  | _ => none }
def PolyExactWrongFalsely : Prop := polyExactRow.holds Try.pinned (OpenSpec.ofChange polyExactWrong)

/-- 'witanlaw06.PolyZero': WHATEVER THE INPUT: true; the input reads as it did. -/
def polyZeroSpec : ChangeSpec := { name := "polyZero", fn := fun _ => fun
  | [d1, d2] => { results := [.lit (.bool true)], args := [d1, d2] }
  | _ => none }
def polyZeroRow : OpenClaim := { program := "ytpkoldooncpggaa", sum := "5d6a5cf1fed760cc1375597533e71d3b1dbbf4783906f9946486818c31ec0242", func := "witan/witanlaw06.PolyZero", spec := "polyZero", inPlace := ["math/bits.Add64", "math/bits.Sub64"], apart := false }
def PolyZeroSaid : Prop := polyZeroRow.holds Try.pinned (OpenSpec.ofChange polyZeroSpec)

/-- ITS FALSE NEIGHBOUR: 'it returns false'. Refute it at one input. -/
def polyZeroWrong : ChangeSpec := { name := "polyZero", fn := fun _ => fun
  | [d1, d2] => { results := [.lit (.bool false)], args := [d1, d2] }
  | _ => none }
def PolyZeroWrongFalsely : Prop := polyZeroRow.holds Try.pinned (OpenSpec.ofChange polyZeroWrong)

/-- 'witanlaw06.PolySums': WHATEVER THE INPUT: true; the input reads as it did. -/
def polySumsSpec : ChangeSpec := { name := "polySums", fn := fun _ => fun
  | [d1, d2, d3, d4] => { results := [.lit (.bool true)], args := [d1, d2, d3, d4] }
  | _ => none }
def polySumsRow : OpenClaim := { program := "ytpkoldooncpggaa", sum := "5d6a5cf1fed760cc1375597533e71d3b1dbbf4783906f9946486818c31ec0242", func := "witan/witanlaw06.PolySums", spec := "polySums", inPlace := ["math/bits.Add64", "math/bits.Sub64"], apart := false }
def PolySumsSaid : Prop := polySumsRow.holds Try.pinned (OpenSpec.ofChange polySumsSpec)

/-- ITS FALSE NEIGHBOUR: 'it returns false'. Refute it at one input. -/
def polySumsWrong : ChangeSpec := { name := "polySums", fn := fun _ => fun
  | [d1, d2, d3, d4] => { results := [.lit (.bool false)], args := [d1, d2, d3, d4] }
  | _ => none }
def PolySumsWrongFalsely : Prop := polySumsRow.holds Try.pinned (OpenSpec.ofChange polySumsWrong)

/-- 'witanlaw06.PolyBounds': WHATEVER THE INPUT: true; the input reads as it did. -/
def polyBoundsSpec : ChangeSpec := { name := "polyBounds", fn := fun _ => fun
  | [d1, d2, d3] => { results := [.lit (.bool true)], args := [d1, d2, d3] }
  | _ => none }
def polyBoundsRow : OpenClaim := { program := "ytpkoldooncpggaa", sum := "5d6a5cf1fed760cc1375597533e71d3b1dbbf4783906f9946486818c31ec0242", func := "witan/witanlaw06.PolyBounds", spec := "polyBounds", inPlace := ["math/bits.Sub64", "math/bits.Add64"], apart := false }
def PolyBoundsSaid : Prop := polyBoundsRow.holds Try.pinned (OpenSpec.ofChange polyBoundsSpec)

/-- ITS FALSE NEIGHBOUR: 'it returns false'. Refute it at one input. -/
def polyBoundsWrong : ChangeSpec := { name := "polyBounds", fn := fun _ => fun
  | [d1, d2, d3] => { results := [.lit (.bool false)], args := [d1, d2, d3] }
  | _ => none }
def PolyBoundsWrongFalsely : Prop := polyBoundsRow.holds Try.pinned (OpenSpec.ofChange polyBoundsWrong)

/-- 'witanlaw06.PolyThrough': WHATEVER THE INPUT: true; the input reads as it did. -/
def polyThroughSpec : ChangeSpec := { name := "polyThrough", fn := fun _ => fun
  | [d1, d2] => { results := [.lit (.bool true)], args := [d1, d2] }
  | _ => none }
def polyThroughRow : OpenClaim := { program := "ytpkoldooncpggaa", sum := "5d6a5cf1fed760cc1375597533e71d3b1dbbf4783906f9946486818c31ec0242", func := "witan/witanlaw06.PolyThrough", spec := "polyThrough", inPlace := ["math/bits.Sub64", "math/bits.Add64"], apart := false }
def PolyThroughSaid : Prop := polyThroughRow.holds Try.pinned (OpenSpec.ofChange polyThroughSpec)

/-- ITS FALSE NEIGHBOUR: 'it returns false'. Refute it at one input. -/
def polyThroughWrong : ChangeSpec := { name := "polyThrough", fn := fun _ => fun
  | [d1, d2] => { results := [.lit (.bool false)], args := [d1, d2] }
  | _ => none }
def PolyThroughWrongFalsely : Prop := polyThroughRow.holds Try.pinned (OpenSpec.ofChange polyThroughWrong)

/-- 'witanlaw06.PolyOrder': WHATEVER THE INPUT: true; the input reads as it did. -/
def polyOrderSpec : ChangeSpec := { name := "polyOrder", fn := fun _ => fun
  | [d1, d2, d3] => { results := [.lit (.bool true)], args := [d1, d2, d3] }
  | _ => none }
def polyOrderRow : OpenClaim := { program := "ytpkoldooncpggaa", sum := "5d6a5cf1fed760cc1375597533e71d3b1dbbf4783906f9946486818c31ec0242", func := "witan/witanlaw06.PolyOrder", spec := "polyOrder", inPlace := ["math/bits.Add64", "math/bits.Sub64"], apart := false }
def PolyOrderSaid : Prop := polyOrderRow.holds Try.pinned (OpenSpec.ofChange polyOrderSpec)

/-- ITS FALSE NEIGHBOUR: 'it returns false'. Refute it at one input. -/
def polyOrderWrong : ChangeSpec := { name := "polyOrder", fn := fun _ => fun
  | [d1, d2, d3] => { results := [.lit (.bool false)], args := [d1, d2, d3] }
  | _ => none }
def PolyOrderWrongFalsely : Prop := polyOrderRow.holds Try.pinned (OpenSpec.ofChange polyOrderWrong)

/- THE SECOND FORM. 'bulk': how many values and letters a reading holds, each counted each time it is reached (what is shared counts as often as it is met; a slice's spare places count too). A statement '..UptoSaid' is the law's where the arguments, and the package variables that the reading takes, are together of bulk at most 1048576: NARROWER than '..Said'. Prove '..Said' where nothing that the law and all that it calls make is longer than what came in: it says more and counts as full. Else prove '..UptoSaid'. A law counts once. -/
mutual
def uptoBulk {H : Type} : DataW H → Nat
  | .lit (.string bytes) => bytes.length + 1
  | .lit _ => 1
  | .nil => 1
  | .ptr d => uptoBulk d + 1
  | .slice elems spare => uptoBulkAll elems + uptoBulkAll spare + 1
  | .agg parts => uptoBulkAll parts + 1
  | .iface _ d => uptoBulk d + 1
  | .map entries => uptoBulkEntries entries + 1
  | .held _ => 1
def uptoBulkAll {H : Type} : List (DataW H) → Nat
  | [] => 0
  | d :: r => uptoBulk d + uptoBulkAll r
def uptoBulkEntries {H : Type} : List (Lit × DataW H) → Nat
  | [] => 0
  | x :: r => uptoBulkEntry x + uptoBulkEntries r
def uptoBulkEntry {H : Type} : Lit × DataW H → Nat
  | (.string bytes, d) => bytes.length + uptoBulk d + 1
  | (_, d) => uptoBulk d + 1
 end
def uptoSmall : (H : Type) → List (DataW H) → Bool := fun _ ds => decide (uptoBulkAll ds ≤ 1048576)
def OpenSpec.upto (s : _root_.Go.ChangeSpec) : _root_.Go.OpenSpec := { _root_.Go.OpenSpec.ofChange s with cond := some uptoSmall }

/-- 'witanlaw06.PolyExact', WHERE WHAT IT READS IS OF BULK AT MOST 1048576: true; the input reads as it did. -/
def polyExactUptoRow : OpenClaim := { program := "ytpkoldooncpggaa", sum := "5d6a5cf1fed760cc1375597533e71d3b1dbbf4783906f9946486818c31ec0242", func := "witan/witanlaw06.PolyExact", spec := "polyExact", inPlace := ["math/bits.Add64", "math/bits.Sub64"], apart := false, narrowed := true }
def PolyExactUptoSaid : Prop := polyExactUptoRow.holds Try.pinned (OpenSpec.upto polyExactSpec)

/-- 'witanlaw06.PolyZero', WHERE WHAT IT READS IS OF BULK AT MOST 1048576: true; the input reads as it did. -/
def polyZeroUptoRow : OpenClaim := { program := "ytpkoldooncpggaa", sum := "5d6a5cf1fed760cc1375597533e71d3b1dbbf4783906f9946486818c31ec0242", func := "witan/witanlaw06.PolyZero", spec := "polyZero", inPlace := ["math/bits.Add64", "math/bits.Sub64"], apart := false, narrowed := true }
def PolyZeroUptoSaid : Prop := polyZeroUptoRow.holds Try.pinned (OpenSpec.upto polyZeroSpec)

/-- 'witanlaw06.PolySums', WHERE WHAT IT READS IS OF BULK AT MOST 1048576: true; the input reads as it did. -/
def polySumsUptoRow : OpenClaim := { program := "ytpkoldooncpggaa", sum := "5d6a5cf1fed760cc1375597533e71d3b1dbbf4783906f9946486818c31ec0242", func := "witan/witanlaw06.PolySums", spec := "polySums", inPlace := ["math/bits.Add64", "math/bits.Sub64"], apart := false, narrowed := true }
def PolySumsUptoSaid : Prop := polySumsUptoRow.holds Try.pinned (OpenSpec.upto polySumsSpec)

/-- 'witanlaw06.PolyBounds', WHERE WHAT IT READS IS OF BULK AT MOST 1048576: true; the input reads as it did. -/
def polyBoundsUptoRow : OpenClaim := { program := "ytpkoldooncpggaa", sum := "5d6a5cf1fed760cc1375597533e71d3b1dbbf4783906f9946486818c31ec0242", func := "witan/witanlaw06.PolyBounds", spec := "polyBounds", inPlace := ["math/bits.Sub64", "math/bits.Add64"], apart := false, narrowed := true }
def PolyBoundsUptoSaid : Prop := polyBoundsUptoRow.holds Try.pinned (OpenSpec.upto polyBoundsSpec)

/-- 'witanlaw06.PolyThrough', WHERE WHAT IT READS IS OF BULK AT MOST 1048576: true; the input reads as it did. -/
def polyThroughUptoRow : OpenClaim := { program := "ytpkoldooncpggaa", sum := "5d6a5cf1fed760cc1375597533e71d3b1dbbf4783906f9946486818c31ec0242", func := "witan/witanlaw06.PolyThrough", spec := "polyThrough", inPlace := ["math/bits.Sub64", "math/bits.Add64"], apart := false, narrowed := true }
def PolyThroughUptoSaid : Prop := polyThroughUptoRow.holds Try.pinned (OpenSpec.upto polyThroughSpec)

/-- 'witanlaw06.PolyOrder', WHERE WHAT IT READS IS OF BULK AT MOST 1048576: true; the input reads as it did. -/
def polyOrderUptoRow : OpenClaim := { program := "ytpkoldooncpggaa", sum := "5d6a5cf1fed760cc1375597533e71d3b1dbbf4783906f9946486818c31ec0242", func := "witan/witanlaw06.PolyOrder", spec := "polyOrder", inPlace := ["math/bits.Add64", "math/bits.Sub64"], apart := false, narrowed := true }
def PolyOrderUptoSaid : Prop := polyOrderUptoRow.holds Try.pinned (OpenSpec.upto polyOrderSpec)

end Rows
end Go.Proofs.Ytpkoldooncpggaa
