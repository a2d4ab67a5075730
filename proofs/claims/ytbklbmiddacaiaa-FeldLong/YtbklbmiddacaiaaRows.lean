/-
  No cell of these rows narrows 'for every input' (looked for: loops, veiled, ifaces, maps, wideKeys, modest, calm, conditions, laid).
  DERIVED. THE GIVEN ROWS OF THIS SEAT. 6 by the template 'for every input the law returns true; each argument reads behind the call as it read before'; 0 by the template 'total and deterministic' (their statements: YtbklbmiddacaiaaTotals.lean).
  GIVEN WITH THE SEED: the statements are not yours to turn. If you find one false, say at which input.
  Laid BY PROGRAM, IN A SANDBOX (cutbox-rows.mjs): the forced cells as the released guide's own fill.sh prints them over the translation 46bc4479cdba3973… (all of the seat's roots in one cut). By AI agents, Wed Nov 11 2026. No macro, syntax, notation, axiom, sorry.
-/
import Derived.Test.YtbklbmiddacaiaaChecked
import GoSem.Claim
import GoSem.ClaimJoined
import GoSem.ClaimMapViews
import Derived.JoinedTies
import Derived.KernelRfl
namespace Go.Proofs.Ytbklbmiddacaiaa
/- THE CELL 'sum', in the pinned program and in every row, IS THE sha256 OF THE DUMP (.gsa) THAT YtbklbmiddacaiaaProg.lean LOADS. Nothing in Lean hashes anything: it is a label: what it is worth is what the hold of that sum in a sandbox is worth. -/
noncomputable def Try.pinned : Pinned := { name := "ytbklbmiddacaiaa", sum := "46bc4479cdba3973a6d40d7a879e52089b20501120ae37582e81c7f9d4ca9b21", checked := Try.checked }
namespace Rows
def none {H : Type} : Left H := { results := [], args := [] }

/-- 'witanlaw06.PolyExact': WHATEVER THE INPUT: true; the input reads as it did. -/
def polyExactSpec : ChangeSpec := { name := "polyExact", fn := fun _ => fun
  | [d1, d2, d3] => { results := [.lit (.bool true)], args := [d1, d2, d3] }
  | _ => none }
def polyExactRow : OpenClaim := { program := "ytbklbmiddacaiaa", sum := "46bc4479cdba3973a6d40d7a879e52089b20501120ae37582e81c7f9d4ca9b21", func := "witan/witanlaw06.PolyExact", spec := "polyExact", inPlace := ["math/bits.Add64", "math/bits.Sub64"], apart := false }
def PolyExactSaid : Prop := polyExactRow.holds Try.pinned (OpenSpec.ofChange polyExactSpec)

/-- ITS FALSE NEIGHBOUR: 'it returns false'. Refute it at one input. -/
def polyExactWrong : ChangeSpec := { name := "polyExact", fn := fun _ => fun
  | [d1, d2, d3] => { results := [.lit (.bool false)], args := [d1, d2, d3] }
  | _ => none }
def PolyExactWrongFalsely : Prop := polyExactRow.holds Try.pinned (OpenSpec.ofChange polyExactWrong)

/-- 'witanlaw07.FeldExact': WHATEVER THE INPUT: true; the input reads as it did. -/
def feldExactSpec : ChangeSpec := { name := "feldExact", fn := fun _ => fun
  | [d1, d2, d3, d4] => { results := [.lit (.bool true)], args := [d1, d2, d3, d4] }
  | _ => none }
def feldExactRow : OpenClaim := { program := "ytbklbmiddacaiaa", sum := "46bc4479cdba3973a6d40d7a879e52089b20501120ae37582e81c7f9d4ca9b21", func := "witan/witanlaw07.FeldExact", spec := "feldExact", inPlace := ["math/bits.Add64", "math/bits.Sub64"], apart := false }
def FeldExactSaid : Prop := feldExactRow.holds Try.pinned (OpenSpec.ofChange feldExactSpec)

/-- ITS FALSE NEIGHBOUR: 'it returns false'. Refute it at one input. -/
def feldExactWrong : ChangeSpec := { name := "feldExact", fn := fun _ => fun
  | [d1, d2, d3, d4] => { results := [.lit (.bool false)], args := [d1, d2, d3, d4] }
  | _ => none }
def FeldExactWrongFalsely : Prop := feldExactRow.holds Try.pinned (OpenSpec.ofChange feldExactWrong)

/-- 'witanlaw07.FeldFits': WHATEVER THE INPUT: true; the input reads as it did. -/
def feldFitsSpec : ChangeSpec := { name := "feldFits", fn := fun _ => fun
  | [d1, d2, d3] => { results := [.lit (.bool true)], args := [d1, d2, d3] }
  | _ => none }
def feldFitsRow : OpenClaim := { program := "ytbklbmiddacaiaa", sum := "46bc4479cdba3973a6d40d7a879e52089b20501120ae37582e81c7f9d4ca9b21", func := "witan/witanlaw07.FeldFits", spec := "feldFits", inPlace := ["math/bits.Add64", "math/bits.Sub64"], apart := false }
def FeldFitsSaid : Prop := feldFitsRow.holds Try.pinned (OpenSpec.ofChange feldFitsSpec)

/-- ITS FALSE NEIGHBOUR: 'it returns false'. Refute it at one input. -/
def feldFitsWrong : ChangeSpec := { name := "feldFits", fn := fun _ => fun
  | [d1, d2, d3] => { results := [.lit (.bool false)], args := [d1, d2, d3] }
  | _ => none }
def FeldFitsWrongFalsely : Prop := feldFitsRow.holds Try.pinned (OpenSpec.ofChange feldFitsWrong)

/-- 'witanlaw07.FeldSums': WHATEVER THE INPUT: true; the input reads as it did. -/
def feldSumsSpec : ChangeSpec := { name := "feldSums", fn := fun _ => fun
  | [d1, d2, d3, d4] => { results := [.lit (.bool true)], args := [d1, d2, d3, d4] }
  | _ => none }
def feldSumsRow : OpenClaim := { program := "ytbklbmiddacaiaa", sum := "46bc4479cdba3973a6d40d7a879e52089b20501120ae37582e81c7f9d4ca9b21", func := "witan/witanlaw07.FeldSums", spec := "feldSums", inPlace := ["math/bits.Add64", "math/bits.Sub64"], apart := false }
def FeldSumsSaid : Prop := feldSumsRow.holds Try.pinned (OpenSpec.ofChange feldSumsSpec)

/-- ITS FALSE NEIGHBOUR: 'it returns false'. Refute it at one input. -/
def feldSumsWrong : ChangeSpec := { name := "feldSums", fn := fun _ => fun
  | [d1, d2, d3, d4] => { results := [.lit (.bool false)], args := [d1, d2, d3, d4] }
  | _ => none }
def FeldSumsWrongFalsely : Prop := feldSumsRow.holds Try.pinned (OpenSpec.ofChange feldSumsWrong)

/-- 'witanlaw07.FeldLong': WHATEVER THE INPUT: true; the input reads as it did. -/
def feldLongSpec : ChangeSpec := { name := "feldLong", fn := fun _ => fun
  | [d1, d2] => { results := [.lit (.bool true)], args := [d1, d2] }
  | _ => none }
def feldLongRow : OpenClaim := { program := "ytbklbmiddacaiaa", sum := "46bc4479cdba3973a6d40d7a879e52089b20501120ae37582e81c7f9d4ca9b21", func := "witan/witanlaw07.FeldLong", spec := "feldLong", inPlace := ["math/bits.Add64", "math/bits.Sub64"], apart := false }
def FeldLongSaid : Prop := feldLongRow.holds Try.pinned (OpenSpec.ofChange feldLongSpec)

/-- ITS FALSE NEIGHBOUR: 'it returns false'. Refute it at one input. -/
def feldLongWrong : ChangeSpec := { name := "feldLong", fn := fun _ => fun
  | [d1, d2] => { results := [.lit (.bool false)], args := [d1, d2] }
  | _ => none }
def FeldLongWrongFalsely : Prop := feldLongRow.holds Try.pinned (OpenSpec.ofChange feldLongWrong)

/-- 'witanlaw07.FeldAt': WHATEVER THE INPUT: true; the input reads as it did. -/
def feldAtSpec : ChangeSpec := { name := "feldAt", fn := fun _ => fun
  | [d1, d2] => { results := [.lit (.bool true)], args := [d1, d2] }
  | _ => none }
def feldAtRow : OpenClaim := { program := "ytbklbmiddacaiaa", sum := "46bc4479cdba3973a6d40d7a879e52089b20501120ae37582e81c7f9d4ca9b21", func := "witan/witanlaw07.FeldAt", spec := "feldAt", inPlace := ["math/bits.Add64", "math/bits.Sub64"], apart := false }
def FeldAtSaid : Prop := feldAtRow.holds Try.pinned (OpenSpec.ofChange feldAtSpec)

/-- ITS FALSE NEIGHBOUR: 'it returns false'. Refute it at one input. -/
def feldAtWrong : ChangeSpec := { name := "feldAt", fn := fun _ => fun
  | [d1, d2] => { results := [.lit (.bool false)], args := [d1, d2] }
  | _ => none }
def FeldAtWrongFalsely : Prop := feldAtRow.holds Try.pinned (OpenSpec.ofChange feldAtWrong)

/- THE SECOND FORM. 'bulk': how many values and letters a reading holds, each counted each time it is reached (what is shared counts as often as it is met; a slice's spare places count too). A statement '..UptoSaid' is the law's where the arguments, and the package variables that the reading takes, are together of bulk at most 1048576: NARROWER than '..Said'. Prove '..Said' where nothing that the law and all that it calls make is longer than what came in: it says more and counts as full. Else prove '..UptoSaid'. A law counts once. -/
mutual
def uptoBulk {H : Type} : DataW H → Nat
  | .lit (.string bytes) => bytes.length + 1
  | .lit _ => 1
  | .nil => 1
  | .ptr d => uptoBulk d + 1
  | .slice elems spare => uptoBulkAll elems + uptoBulkAll spare + 1
  | .agg parts => uptoBulkAll parts + 1
  | .iface _ d => uptoBulk d + 1
  | .map entries => uptoBulkEntries entries + 1
  | .held _ => 1
def uptoBulkAll {H : Type} : List (DataW H) → Nat
  | [] => 0
  | d :: r => uptoBulk d + uptoBulkAll r
def uptoBulkEntries {H : Type} : List (Lit × DataW H) → Nat
  | [] => 0
  | x :: r => uptoBulkEntry x + uptoBulkEntries r
def uptoBulkEntry {H : Type} : Lit × DataW H → Nat
  | (.string bytes, d) => bytes.length + uptoBulk d + 1
  | (_, d) => uptoBulk d + 1
 end
def uptoSmall : (H : Type) → List (DataW H) → Bool := fun _ ds => decide (uptoBulkAll ds ≤ 1048576)
def OpenSpec.upto (s : _root_.Go.ChangeSpec) : _root_.Go.OpenSpec := { _root_.Go.OpenSpec.ofChange s with cond := some uptoSmall }

/-- 'witanlaw06.PolyExact', WHERE WHAT IT READS IS OF BULK AT MOST 1048576: true; the input reads as it did. -/
def polyExactUptoRow : OpenClaim := { program := "ytbklbmiddacaiaa", sum := "46bc4479cdba3973a6d40d7a879e52089b20501120ae37582e81c7f9d4ca9b21", func := "witan/witanlaw06.PolyExact", spec := "polyExact", inPlace := ["math/bits.Add64", "math/bits.Sub64"], apart := false, narrowed := true }
def PolyExactUptoSaid : Prop := polyExactUptoRow.holds Try.pinned (OpenSpec.upto polyExactSpec)

/-- 'witanlaw07.FeldExact', WHERE WHAT IT READS IS OF BULK AT MOST 1048576: true; the input reads as it did. -/
def feldExactUptoRow : OpenClaim := { program := "ytbklbmiddacaiaa", sum := "46bc4479cdba3973a6d40d7a879e52089b20501120ae37582e81c7f9d4ca9b21", func := "witan/witanlaw07.FeldExact", spec := "feldExact", inPlace := ["math/bits.Add64", "math/bits.Sub64"], apart := false, narrowed := true }
def FeldExactUptoSaid : Prop := feldExactUptoRow.holds Try.pinned (OpenSpec.upto feldExactSpec)

/-- 'witanlaw07.FeldFits', WHERE WHAT IT READS IS OF BULK AT MOST 1048576: true; the input reads as it did. -/
def feldFitsUptoRow : OpenClaim := { program := "ytbklbmiddacaiaa", sum := "46bc4479cdba3973a6d40d7a879e52089b20501120ae37582e81c7f9d4ca9b21", func := "witan/witanlaw07.FeldFits", spec := "feldFits", inPlace := ["math/bits.Add64", "math/bits.Sub64"], apart := false, narrowed := true }
def FeldFitsUptoSaid : Prop := feldFitsUptoRow.holds Try.pinned (OpenSpec.upto feldFitsSpec)

/-- 'witanlaw07.FeldSums', WHERE WHAT IT READS IS OF BULK AT MOST 1048576: true; the input reads as it did. -/
def feldSumsUptoRow : OpenClaim := { program := "ytbklbmiddacaiaa", sum := "46bc4479cdba3973a6d40d7a879e52089b20501120ae37582e81c7f9d4ca9b21", func := "witan/witanlaw07.FeldSums", spec := "feldSums", inPlace := ["math/bits.Add64", "math/bits.Sub64"], apart := false, narrowed := true }
def FeldSumsUptoSaid : Prop := feldSumsUptoRow.holds Try.pinned (OpenSpec.upto feldSumsSpec)

/-- 'witanlaw07.FeldLong', WHERE WHAT IT READS IS OF BULK AT MOST 1048576: true; the input reads as it did. -/
def feldLongUptoRow : OpenClaim := { program := "ytbklbmiddacaiaa", sum := "46bc4479cdba3973a6d40d7a879e52089b20501120ae37582e81c7f9d4ca9b21", func := "witan/witanlaw07.FeldLong", spec := "feldLong", inPlace := ["math/bits.Add64", "math/bits.Sub64"], apart := false, narrowed := true }
def FeldLongUptoSaid : Prop := feldLongUptoRow.holds Try.pinned (OpenSpec.upto feldLongSpec)

/-- 'witanlaw07.FeldAt', WHERE WHAT IT READS IS OF BULK AT MOST 1048576: true; the input reads as it did. -/
def feldAtUptoRow : OpenClaim := { program := "ytbklbmiddacaiaa", sum := "46bc4479cdba3973a6d40d7a879e52089b20501120ae37582e81c7f9d4ca9b21", func := "witan/witanlaw07.FeldAt", spec := "feldAt", inPlace := ["math/bits.Add64", "math/bits.Sub64"], apart := false, narrowed := true }
def FeldAtUptoSaid : Prop := feldAtUptoRow.holds Try.pinned (OpenSpec.upto feldAtSpec)

end Rows
end Go.Proofs.Ytbklbmiddacaiaa
