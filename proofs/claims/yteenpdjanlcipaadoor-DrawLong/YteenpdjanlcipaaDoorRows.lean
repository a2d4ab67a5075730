/-
  NARROWER THAN 'FOR EVERY INPUT', by the rows' own cells (each row's printed sentence says how): DrawScalars: laid · DrawPoints: laid · DrawStreams: laid · DrawLong: laid · DrawTries: laid · DrawParts: laid.
  DERIVED. THE GIVEN ROWS OF THIS SEAT. 6 by the template 'for every input the law returns true; each argument reads behind the call as it read before'; 0 by the template 'total and deterministic' (their statements: YteenpdjanlcipaaDoorTotals.lean).
  GIVEN WITH THE SEED: the statements are not yours to turn. If you find one false, say at which input.
  Laid BY PROGRAM, IN A SANDBOX (cutbox-rows.mjs): the forced cells as the released guide's own fill.sh prints them over the translation 791d2c83c1630c71… (all of the seat's roots in one cut). By AI agents, Wed Nov 11 2026. No macro, syntax, notation, axiom, sorry.
-/
import Derived.Test.YteenpdjanlcipaaDoorChecked
import GoSem.Claim
import GoSem.ClaimJoined
import GoSem.ClaimMapViews
import Derived.JoinedTies
import Derived.KernelRfl
namespace Go.Proofs.YteenpdjanlcipaaDoor
/- THE CELL 'sum', in the pinned program and in every row, IS THE sha256 OF THE DUMP (.gsa) THAT YteenpdjanlcipaaDoorProg.lean LOADS. Nothing in Lean hashes anything: it is a label: what it is worth is what the hold of that sum in a sandbox is worth. -/
noncomputable def Tryd.pinned : Pinned := { name := "yteenpdjanlcipaadoor", sum := "791d2c83c1630c7148a3a802f819f853d85aa870ff2a0567106d9eb82affaecf", checked := Tryd.checked }
namespace Rows
def none {H : Type} : Left H := { results := [], args := [] }

/- WHAT THE LISTED PACKAGE-LEVEL VARIABLES READ AS WHEN THE CALL BEGINS. Each datum BY PROGRAM (the guide's laid-datum.mjs) off the statement by which the dump's own 'gosem.cut.vars' lays the variable. In a bare row this is a premise. The card (YteenpdjanlcipaaDoorCards.lean) ties it to the program's text. -/
def laid_witan_sha_roots {H : Type} : DataW H := .agg [.lit (.int .u32 1116352408), .lit (.int .u32 1899447441), .lit (.int .u32 3049323471), .lit (.int .u32 3921009573), .lit (.int .u32 961987163), .lit (.int .u32 1508970993), .lit (.int .u32 2453635748), .lit (.int .u32 2870763221), .lit (.int .u32 3624381080), .lit (.int .u32 310598401), .lit (.int .u32 607225278), .lit (.int .u32 1426881987), .lit (.int .u32 1925078388), .lit (.int .u32 2162078206), .lit (.int .u32 2614888103), .lit (.int .u32 3248222580), .lit (.int .u32 3835390401), .lit (.int .u32 4022224774), .lit (.int .u32 264347078), .lit (.int .u32 604807628), .lit (.int .u32 770255983), .lit (.int .u32 1249150122), .lit (.int .u32 1555081692), .lit (.int .u32 1996064986), .lit (.int .u32 2554220882), .lit (.int .u32 2821834349), .lit (.int .u32 2952996808), .lit (.int .u32 3210313671), .lit (.int .u32 3336571891), .lit (.int .u32 3584528711), .lit (.int .u32 113926993), .lit (.int .u32 338241895), .lit (.int .u32 666307205), .lit (.int .u32 773529912), .lit (.int .u32 1294757372), .lit (.int .u32 1396182291), .lit (.int .u32 1695183700), .lit (.int .u32 1986661051), .lit (.int .u32 2177026350), .lit (.int .u32 2456956037), .lit (.int .u32 2730485921), .lit (.int .u32 2820302411), .lit (.int .u32 3259730800), .lit (.int .u32 3345764771), .lit (.int .u32 3516065817), .lit (.int .u32 3600352804), .lit (.int .u32 4094571909), .lit (.int .u32 275423344), .lit (.int .u32 430227734), .lit (.int .u32 506948616), .lit (.int .u32 659060556), .lit (.int .u32 883997877), .lit (.int .u32 958139571), .lit (.int .u32 1322822218), .lit (.int .u32 1537002063), .lit (.int .u32 1747873779), .lit (.int .u32 1955562222), .lit (.int .u32 2024104815), .lit (.int .u32 2227730452), .lit (.int .u32 2361852424), .lit (.int .u32 2428436474), .lit (.int .u32 2756734187), .lit (.int .u32 3204031479), .lit (.int .u32 3329325298)]

/-- 'witanlaw05.DrawScalars': WHATEVER THE INPUT: true; the input reads as it did. -/
def drawScalarsSpec : ChangeSpec := { name := "drawScalars", fn := fun _ => fun
  | [d1, d2] => { results := [.lit (.bool true)], args := [d1, d2] }
  | _ => none }
def drawScalarsRow : OpenClaim := { program := "yteenpdjanlcipaadoor", sum := "791d2c83c1630c7148a3a802f819f853d85aa870ff2a0567106d9eb82affaecf", func := "witan/witanlaw05.DrawScalars", spec := "drawScalars", inPlace := ["math/bits.Add64", "math/bits.Sub64"], named := ["witan/sha.roots"], apart := false, laid := [("witan/sha.roots", laid_witan_sha_roots)] }
def DrawScalarsSaid : Prop := drawScalarsRow.holds Tryd.pinned (OpenSpec.ofChange drawScalarsSpec)

/-- ITS FALSE NEIGHBOUR: 'it returns false'. Refute it at one input. -/
def drawScalarsWrong : ChangeSpec := { name := "drawScalars", fn := fun _ => fun
  | [d1, d2] => { results := [.lit (.bool false)], args := [d1, d2] }
  | _ => none }
def DrawScalarsWrongFalsely : Prop := drawScalarsRow.holds Tryd.pinned (OpenSpec.ofChange drawScalarsWrong)

/-- 'witanlaw05.DrawPoints': WHATEVER THE INPUT: true; the input reads as it did. -/
def drawPointsSpec : ChangeSpec := { name := "drawPoints", fn := fun _ => fun
  | [d1, d2] => { results := [.lit (.bool true)], args := [d1, d2] }
  | _ => none }
def drawPointsRow : OpenClaim := { program := "yteenpdjanlcipaadoor", sum := "791d2c83c1630c7148a3a802f819f853d85aa870ff2a0567106d9eb82affaecf", func := "witan/witanlaw05.DrawPoints", spec := "drawPoints", inPlace := ["math/bits.Add64", "math/bits.Sub64"], named := ["witan/sha.roots"], apart := false, laid := [("witan/sha.roots", laid_witan_sha_roots)] }
def DrawPointsSaid : Prop := drawPointsRow.holds Tryd.pinned (OpenSpec.ofChange drawPointsSpec)

/-- ITS FALSE NEIGHBOUR: 'it returns false'. Refute it at one input. -/
def drawPointsWrong : ChangeSpec := { name := "drawPoints", fn := fun _ => fun
  | [d1, d2] => { results := [.lit (.bool false)], args := [d1, d2] }
  | _ => none }
def DrawPointsWrongFalsely : Prop := drawPointsRow.holds Tryd.pinned (OpenSpec.ofChange drawPointsWrong)

/-- 'witanlaw05.DrawStreams': WHATEVER THE INPUT: true; the input reads as it did. -/
def drawStreamsSpec : ChangeSpec := { name := "drawStreams", fn := fun _ => fun
  | [d1, d2, d3] => { results := [.lit (.bool true)], args := [d1, d2, d3] }
  | _ => none }
def drawStreamsRow : OpenClaim := { program := "yteenpdjanlcipaadoor", sum := "791d2c83c1630c7148a3a802f819f853d85aa870ff2a0567106d9eb82affaecf", func := "witan/witanlaw05.DrawStreams", spec := "drawStreams", inPlace := ["math/bits.Add64", "math/bits.Sub64"], named := ["witan/sha.roots"], apart := false, laid := [("witan/sha.roots", laid_witan_sha_roots)] }
def DrawStreamsSaid : Prop := drawStreamsRow.holds Tryd.pinned (OpenSpec.ofChange drawStreamsSpec)

/-- ITS FALSE NEIGHBOUR: 'it returns false'. Refute it at one input. -/
def drawStreamsWrong : ChangeSpec := { name := "drawStreams", fn := fun _ => fun
  | [d1, d2, d3] => { results := [.lit (.bool false)], args := [d1, d2, d3] }
  | _ => none }
def DrawStreamsWrongFalsely : Prop := drawStreamsRow.holds Tryd.pinned (OpenSpec.ofChange drawStreamsWrong)

/-- 'witanlaw05.DrawLong': WHATEVER THE INPUT: true; the input reads as it did. -/
def drawLongSpec : ChangeSpec := { name := "drawLong", fn := fun _ => fun
  | [d1, d2] => { results := [.lit (.bool true)], args := [d1, d2] }
  | _ => none }
def drawLongRow : OpenClaim := { program := "yteenpdjanlcipaadoor", sum := "791d2c83c1630c7148a3a802f819f853d85aa870ff2a0567106d9eb82affaecf", func := "witan/witanlaw05.DrawLong", spec := "drawLong", inPlace := ["math/bits.Add64", "math/bits.Sub64"], named := ["witan/sha.roots"], apart := false, laid := [("witan/sha.roots", laid_witan_sha_roots)] }
def DrawLongSaid : Prop := drawLongRow.holds Tryd.pinned (OpenSpec.ofChange drawLongSpec)

/-- ITS FALSE NEIGHBOUR: 'it returns false'. Refute it at one input. -/
def drawLongWrong : ChangeSpec := { name := "drawLong", fn := fun _ => fun
  | [d1, d2] => { results := [.lit (.bool false)], args := [d1, d2] }
  | _ => none }
def DrawLongWrongFalsely : Prop := drawLongRow.holds Tryd.pinned (OpenSpec.ofChange drawLongWrong)

/-- 'witanlaw05.DrawTries': WHATEVER THE INPUT: true; the input reads as it did. -/
def drawTriesSpec : ChangeSpec := { name := "drawTries", fn := fun _ => fun
  | [d1, d2] => { results := [.lit (.bool true)], args := [d1, d2] }
  | _ => none }
def drawTriesRow : OpenClaim := { program := "yteenpdjanlcipaadoor", sum := "791d2c83c1630c7148a3a802f819f853d85aa870ff2a0567106d9eb82affaecf", func := "witan/witanlaw05.DrawTries", spec := "drawTries", inPlace := ["math/bits.Add64", "math/bits.Sub64"], named := ["witan/sha.roots"], apart := false, laid := [("witan/sha.roots", laid_witan_sha_roots)] }
def DrawTriesSaid : Prop := drawTriesRow.holds Tryd.pinned (OpenSpec.ofChange drawTriesSpec)

/-- ITS FALSE NEIGHBOUR: 'it returns false'. Refute it at one input. -/
def drawTriesWrong : ChangeSpec := { name := "drawTries", fn := fun _ => fun
  | [d1, d2] => { results := [.lit (.bool false)], args := [d1, d2] }
  | _ => none }
def DrawTriesWrongFalsely : Prop := drawTriesRow.holds Tryd.pinned (OpenSpec.ofChange drawTriesWrong)

/-- 'witanlaw05.DrawParts': WHATEVER THE INPUT: true; the input reads as it did. -/
def drawPartsSpec : ChangeSpec := { name := "drawParts", fn := fun _ => fun
  | [d1, d2, d3] => { results := [.lit (.bool true)], args := [d1, d2, d3] }
  | _ => none }
def drawPartsRow : OpenClaim := { program := "yteenpdjanlcipaadoor", sum := "791d2c83c1630c7148a3a802f819f853d85aa870ff2a0567106d9eb82affaecf", func := "witan/witanlaw05.DrawParts", spec := "drawParts", inPlace := ["math/bits.Add64", "math/bits.Sub64"], named := ["witan/sha.roots"], apart := false, laid := [("witan/sha.roots", laid_witan_sha_roots)] }
def DrawPartsSaid : Prop := drawPartsRow.holds Tryd.pinned (OpenSpec.ofChange drawPartsSpec)

/-- ITS FALSE NEIGHBOUR: 'it returns false'. Refute it at one input. -/
def drawPartsWrong : ChangeSpec := { name := "drawParts", fn := fun _ => fun
  | [d1, d2, d3] => { results := [.lit (.bool false)], args := [d1, d2, d3] }
  | _ => none }
def DrawPartsWrongFalsely : Prop := drawPartsRow.holds Tryd.pinned (OpenSpec.ofChange drawPartsWrong)

/- THE SECOND FORM. 'bulk': how many values and letters a reading holds, each counted each time it is reached (what is shared counts as often as it is met; a slice's spare places count too). A statement '..UptoSaid' is the law's where the arguments, and the package variables that the reading takes, are together of bulk at most 1048576: NARROWER than '..Said'. Prove '..Said' where nothing that the law and all that it calls make is longer than what came in: it says more and counts as full. Else prove '..UptoSaid'. A law counts once. -/
mutual
def uptoBulk {H : Type} : DataW H → Nat
  | .lit (.string bytes) => bytes.length + 1
  | .lit _ => 1
  | .nil => 1
  | .ptr d => uptoBulk d + 1
  | .slice elems spare => uptoBulkAll elems + uptoBulkAll spare + 1
  | .agg parts => uptoBulkAll parts + 1
  | .iface _ d => uptoBulk d + 1
  | .map entries => uptoBulkEntries entries + 1
  | .held _ => 1
def uptoBulkAll {H : Type} : List (DataW H) → Nat
  | [] => 0
  | d :: r => uptoBulk d + uptoBulkAll r
def uptoBulkEntries {H : Type} : List (Lit × DataW H) → Nat
  | [] => 0
  | x :: r => uptoBulkEntry x + uptoBulkEntries r
def uptoBulkEntry {H : Type} : Lit × DataW H → Nat
  | (.string bytes, d) => bytes.length + uptoBulk d + 1
  | (_, d) => uptoBulk d + 1
 end
def uptoSmall : (H : Type) → List (DataW H) → Bool := fun _ ds => decide (uptoBulkAll ds ≤ 1048576)
def OpenSpec.upto (s : _root_.Go.ChangeSpec) : _root_.Go.OpenSpec := { _root_.Go.OpenSpec.ofChange s with cond := some uptoSmall }

/-- 'witanlaw05.DrawScalars', WHERE WHAT IT READS IS OF BULK AT MOST 1048576: true; the input reads as it did. -/
def drawScalarsUptoRow : OpenClaim := { program := "yteenpdjanlcipaadoor", sum := "791d2c83c1630c7148a3a802f819f853d85aa870ff2a0567106d9eb82affaecf", func := "witan/witanlaw05.DrawScalars", spec := "drawScalars", inPlace := ["math/bits.Add64", "math/bits.Sub64"], named := ["witan/sha.roots"], apart := false, laid := [("witan/sha.roots", laid_witan_sha_roots)], narrowed := true }
def DrawScalarsUptoSaid : Prop := drawScalarsUptoRow.holds Tryd.pinned (OpenSpec.upto drawScalarsSpec)

/-- 'witanlaw05.DrawPoints', WHERE WHAT IT READS IS OF BULK AT MOST 1048576: true; the input reads as it did. -/
def drawPointsUptoRow : OpenClaim := { program := "yteenpdjanlcipaadoor", sum := "791d2c83c1630c7148a3a802f819f853d85aa870ff2a0567106d9eb82affaecf", func := "witan/witanlaw05.DrawPoints", spec := "drawPoints", inPlace := ["math/bits.Add64", "math/bits.Sub64"], named := ["witan/sha.roots"], apart := false, laid := [("witan/sha.roots", laid_witan_sha_roots)], narrowed := true }
def DrawPointsUptoSaid : Prop := drawPointsUptoRow.holds Tryd.pinned (OpenSpec.upto drawPointsSpec)

/-- 'witanlaw05.DrawStreams', WHERE WHAT IT READS IS OF BULK AT MOST 1048576: true; the input reads as it did. -/
def drawStreamsUptoRow : OpenClaim := { program := "yteenpdjanlcipaadoor", sum := "791d2c83c1630c7148a3a802f819f853d85aa870ff2a0567106d9eb82affaecf", func := "witan/witanlaw05.DrawStreams", spec := "drawStreams", inPlace := ["math/bits.Add64", "math/bits.Sub64"], named := ["witan/sha.roots"], apart := false, laid := [("witan/sha.roots", laid_witan_sha_roots)], narrowed := true }
def DrawStreamsUptoSaid : Prop := drawStreamsUptoRow.holds Tryd.pinned (OpenSpec.upto drawStreamsSpec)

/-- 'witanlaw05.DrawLong', WHERE WHAT IT READS IS OF BULK AT MOST 1048576: true; the input reads as it did. -/
def drawLongUptoRow : OpenClaim := { program := "yteenpdjanlcipaadoor", sum := "791d2c83c1630c7148a3a802f819f853d85aa870ff2a0567106d9eb82affaecf", func := "witan/witanlaw05.DrawLong", spec := "drawLong", inPlace := ["math/bits.Add64", "math/bits.Sub64"], named := ["witan/sha.roots"], apart := false, laid := [("witan/sha.roots", laid_witan_sha_roots)], narrowed := true }
def DrawLongUptoSaid : Prop := drawLongUptoRow.holds Tryd.pinned (OpenSpec.upto drawLongSpec)

/-- 'witanlaw05.DrawTries', WHERE WHAT IT READS IS OF BULK AT MOST 1048576: true; the input reads as it did. -/
def drawTriesUptoRow : OpenClaim := { program := "yteenpdjanlcipaadoor", sum := "791d2c83c1630c7148a3a802f819f853d85aa870ff2a0567106d9eb82affaecf", func := "witan/witanlaw05.DrawTries", spec := "drawTries", inPlace := ["math/bits.Add64", "math/bits.Sub64"], named := ["witan/sha.roots"], apart := false, laid := [("witan/sha.roots", laid_witan_sha_roots)], narrowed := true }
def DrawTriesUptoSaid : Prop := drawTriesUptoRow.holds Tryd.pinned (OpenSpec.upto drawTriesSpec)

/-- 'witanlaw05.DrawParts', WHERE WHAT IT READS IS OF BULK AT MOST 1048576: true; the input reads as it did. -/
def drawPartsUptoRow : OpenClaim := { program := "yteenpdjanlcipaadoor", sum := "791d2c83c1630c7148a3a802f819f853d85aa870ff2a0567106d9eb82affaecf", func := "witan/witanlaw05.DrawParts", spec := "drawParts", inPlace := ["math/bits.Add64", "math/bits.Sub64"], named := ["witan/sha.roots"], apart := false, laid := [("witan/sha.roots", laid_witan_sha_roots)], narrowed := true }
def DrawPartsUptoSaid : Prop := drawPartsUptoRow.holds Tryd.pinned (OpenSpec.upto drawPartsSpec)

end Rows
end Go.Proofs.YteenpdjanlcipaaDoor
