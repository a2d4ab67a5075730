/-
  No cell of these rows narrows 'for every input' (looked for: loops, veiled, ifaces, maps, wideKeys, modest, calm, conditions, laid).
  DERIVED. THE GIVEN ROWS OF THIS SEAT. 4 by the template 'for every input the law returns true; each argument reads behind the call as it read before'; 0 by the template 'total and deterministic' (their statements: YtkgkdjecmnhdmaaTotals.lean).
  GIVEN WITH THE SEED: the statements are not yours to turn. If you find one false, say at which input.
  Laid BY PROGRAM, IN A SANDBOX (cutbox-rows.mjs): the forced cells as the released guide's own fill.sh prints them over the translation d54d9e4b5aa18341… (all of the seat's roots in one cut). By AI agents, Wed Nov 11 2026. No macro, syntax, notation, axiom, sorry.
-/
import Derived.Test.YtkgkdjecmnhdmaaChecked
import GoSem.Claim
import GoSem.ClaimJoined
import GoSem.ClaimMapViews
import Derived.JoinedTies
import Derived.KernelRfl
namespace Go.Proofs.Ytkgkdjecmnhdmaa
/- THE CELL 'sum', in the pinned program and in every row, IS THE sha256 OF THE DUMP (.gsa) THAT YtkgkdjecmnhdmaaProg.lean LOADS. Nothing in Lean hashes anything: it is a label: what it is worth is what the hold of that sum in a sandbox is worth. -/
noncomputable def Try.pinned : Pinned := { name := "ytkgkdjecmnhdmaa", sum := "d54d9e4b5aa1834125f91b21f82fe8ba74d33c5e62beada4d59c934da0e59bd6", checked := Try.checked }
namespace Rows
def none {H : Type} : Left H := { results := [], args := [] }

/-- 'witanlaw10.BinExact': WHATEVER THE INPUT: true; the input reads as it did. -/
def binExactSpec : ChangeSpec := { name := "binExact", fn := fun _ => fun
  | [d1, d2, d3, d4, d5] => { results := [.lit (.bool true)], args := [d1, d2, d3, d4, d5] }
  | _ => none }
def binExactRow : OpenClaim := { program := "ytkgkdjecmnhdmaa", sum := "d54d9e4b5aa1834125f91b21f82fe8ba74d33c5e62beada4d59c934da0e59bd6", func := "witan/witanlaw10.BinExact", spec := "binExact", apart := false }
def BinExactSaid : Prop := binExactRow.holds Try.pinned (OpenSpec.ofChange binExactSpec)

/-- ITS FALSE NEIGHBOUR: 'it returns false'. Refute it at one input. -/
def binExactWrong : ChangeSpec := { name := "binExact", fn := fun _ => fun
  | [d1, d2, d3, d4, d5] => { results := [.lit (.bool false)], args := [d1, d2, d3, d4, d5] }
  | _ => none }
def BinExactWrongFalsely : Prop := binExactRow.holds Try.pinned (OpenSpec.ofChange binExactWrong)

/-- 'witanlaw10.BinBack': WHATEVER THE INPUT: true; the input reads as it did. -/
def binBackSpec : ChangeSpec := { name := "binBack", fn := fun _ => fun
  | [d1, d2, d3] => { results := [.lit (.bool true)], args := [d1, d2, d3] }
  | _ => none }
def binBackRow : OpenClaim := { program := "ytkgkdjecmnhdmaa", sum := "d54d9e4b5aa1834125f91b21f82fe8ba74d33c5e62beada4d59c934da0e59bd6", func := "witan/witanlaw10.BinBack", spec := "binBack", apart := false }
def BinBackSaid : Prop := binBackRow.holds Try.pinned (OpenSpec.ofChange binBackSpec)

/-- ITS FALSE NEIGHBOUR: 'it returns false'. Refute it at one input. -/
def binBackWrong : ChangeSpec := { name := "binBack", fn := fun _ => fun
  | [d1, d2, d3] => { results := [.lit (.bool false)], args := [d1, d2, d3] }
  | _ => none }
def BinBackWrongFalsely : Prop := binBackRow.holds Try.pinned (OpenSpec.ofChange binBackWrong)

/-- 'witanlaw10.BinEnds': WHATEVER THE INPUT: true; the input reads as it did. -/
def binEndsSpec : ChangeSpec := { name := "binEnds", fn := fun _ => fun
  | [d1, d2, d3] => { results := [.lit (.bool true)], args := [d1, d2, d3] }
  | _ => none }
def binEndsRow : OpenClaim := { program := "ytkgkdjecmnhdmaa", sum := "d54d9e4b5aa1834125f91b21f82fe8ba74d33c5e62beada4d59c934da0e59bd6", func := "witan/witanlaw10.BinEnds", spec := "binEnds", apart := false }
def BinEndsSaid : Prop := binEndsRow.holds Try.pinned (OpenSpec.ofChange binEndsSpec)

/-- ITS FALSE NEIGHBOUR: 'it returns false'. Refute it at one input. -/
def binEndsWrong : ChangeSpec := { name := "binEnds", fn := fun _ => fun
  | [d1, d2, d3] => { results := [.lit (.bool false)], args := [d1, d2, d3] }
  | _ => none }
def BinEndsWrongFalsely : Prop := binEndsRow.holds Try.pinned (OpenSpec.ofChange binEndsWrong)

/-- 'witanlaw10.BinOrder': WHATEVER THE INPUT: true; the input reads as it did. -/
def binOrderSpec : ChangeSpec := { name := "binOrder", fn := fun _ => fun
  | [d1, d2, d3] => { results := [.lit (.bool true)], args := [d1, d2, d3] }
  | _ => none }
def binOrderRow : OpenClaim := { program := "ytkgkdjecmnhdmaa", sum := "d54d9e4b5aa1834125f91b21f82fe8ba74d33c5e62beada4d59c934da0e59bd6", func := "witan/witanlaw10.BinOrder", spec := "binOrder", apart := false }
def BinOrderSaid : Prop := binOrderRow.holds Try.pinned (OpenSpec.ofChange binOrderSpec)

/-- ITS FALSE NEIGHBOUR: 'it returns false'. Refute it at one input. -/
def binOrderWrong : ChangeSpec := { name := "binOrder", fn := fun _ => fun
  | [d1, d2, d3] => { results := [.lit (.bool false)], args := [d1, d2, d3] }
  | _ => none }
def BinOrderWrongFalsely : Prop := binOrderRow.holds Try.pinned (OpenSpec.ofChange binOrderWrong)

/- THE SECOND FORM. 'bulk': how many values and letters a reading holds, each counted each time it is reached (what is shared counts as often as it is met; a slice's spare places count too). A statement '..UptoSaid' is the law's where the arguments, and the package variables that the reading takes, are together of bulk at most 1048576: NARROWER than '..Said'. Prove '..Said' where nothing that the law and all that it calls make is longer than what came in: it says more and counts as full. Else prove '..UptoSaid'. A law counts once. -/
mutual
def uptoBulk {H : Type} : DataW H → Nat
  | .lit (.string bytes) => bytes.length + 1
  | .lit _ => 1
  | .nil => 1
  | .ptr d => uptoBulk d + 1
  | .slice elems spare => uptoBulkAll elems + uptoBulkAll spare + 1
  | .agg parts => uptoBulkAll parts + 1
  | .iface _ d => uptoBulk d + 1
  | .map entries => uptoBulkEntries entries + 1
  | .held _ => 1
def uptoBulkAll {H : Type} : List (DataW H) → Nat
  | [] => 0
  | d :: r => uptoBulk d + uptoBulkAll r
def uptoBulkEntries {H : Type} : List (Lit × DataW H) → Nat
  | [] => 0
  | x :: r => uptoBulkEntry x + uptoBulkEntries r
def uptoBulkEntry {H : Type} : Lit × DataW H → Nat
  | (.string bytes, d) => bytes.length + uptoBulk d + 1
  | (_, d) => uptoBulk d + 1
 end
def uptoSmall : (H : Type) → List (DataW H) → Bool := fun _ ds => decide (uptoBulkAll ds ≤ 1048576)
def OpenSpec.upto (s : _root_.Go.ChangeSpec) : _root_.Go.OpenSpec := { _root_.Go.OpenSpec.ofChange s with cond := some uptoSmall }

/-- 'witanlaw10.BinExact', WHERE WHAT IT READS IS OF BULK AT MOST 1048576: true; the input reads as it did. -/
def binExactUptoRow : OpenClaim := { program := "ytkgkdjecmnhdmaa", sum := "d54d9e4b5aa1834125f91b21f82fe8ba74d33c5e62beada4d59c934da0e59bd6", func := "witan/witanlaw10.BinExact", spec := "binExact", apart := false, narrowed := true }
def BinExactUptoSaid : Prop := binExactUptoRow.holds Try.pinned (OpenSpec.upto binExactSpec)

/-- 'witanlaw10.BinBack', WHERE WHAT IT READS IS OF BULK AT MOST 1048576: true; the input reads as it did. -/
def binBackUptoRow : OpenClaim := { program := "ytkgkdjecmnhdmaa", sum := "d54d9e4b5aa1834125f91b21f82fe8ba74d33c5e62beada4d59c934da0e59bd6", func := "witan/witanlaw10.BinBack", spec := "binBack", apart := false, narrowed := true }
def BinBackUptoSaid : Prop := binBackUptoRow.holds Try.pinned (OpenSpec.upto binBackSpec)

/-- 'witanlaw10.BinEnds', WHERE WHAT IT READS IS OF BULK AT MOST 1048576: true; the input reads as it did. -/
def binEndsUptoRow : OpenClaim := { program := "ytkgkdjecmnhdmaa", sum := "d54d9e4b5aa1834125f91b21f82fe8ba74d33c5e62beada4d59c934da0e59bd6", func := "witan/witanlaw10.BinEnds", spec := "binEnds", apart := false, narrowed := true }
def BinEndsUptoSaid : Prop := binEndsUptoRow.holds Try.pinned (OpenSpec.upto binEndsSpec)

/-- 'witanlaw10.BinOrder', WHERE WHAT IT READS IS OF BULK AT MOST 1048576: true; the input reads as it did. -/
def binOrderUptoRow : OpenClaim := { program := "ytkgkdjecmnhdmaa", sum := "d54d9e4b5aa1834125f91b21f82fe8ba74d33c5e62beada4d59c934da0e59bd6", func := "witan/witanlaw10.BinOrder", spec := "binOrder", apart := false, narrowed := true }
def BinOrderUptoSaid : Prop := binOrderUptoRow.holds Try.pinned (OpenSpec.upto binOrderSpec)

end Rows
end Go.Proofs.Ytkgkdjecmnhdmaa
