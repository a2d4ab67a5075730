/-
  What is laid, as the engine wants it.
-/
import Derived.Test.YtafeeiodgfgepaaGreatDoorRows
import Derived.Test.YtafeeiodgfgepaaGreatDoorSa
import Derived.Test.YtafeeiodgfgepaaGreatDoorEf
namespace Go.Proofs.YtafeeiodgfgepaaGreatDoor
set_option maxRecDepth 100000
open Go.W
open Go.ChangeShapes Go.WideShapes Go.ChangeAt Go.RowKit

def rootsI : List Int := [1116352408, 1899447441, 3049323471, 3921009573, 961987163, 1508970993, 2453635748, 2870763221, 3624381080, 310598401, 607225278, 1426881987, 1925078388, 2162078206, 2614888103, 3248222580, 3835390401, 4022224774, 264347078, 604807628, 770255983, 1249150122, 1555081692, 1996064986, 2554220882, 2821834349, 2952996808, 3210313671, 3336571891, 3584528711, 113926993, 338241895, 666307205, 773529912, 1294757372, 1396182291, 1695183700, 1986661051, 2177026350, 2456956037, 2730485921, 2820302411, 3259730800, 3345764771, 3516065817, 3600352804, 4094571909, 275423344, 430227734, 506948616, 659060556, 883997877, 958139571, 1322822218, 1537002063, 1747873779, 1955562222, 2024104815, 2227730452, 2361852424, 2428436474, 2756734187, 3204031479, 3329325298]
def rootN : String := Rows.dleqProvesRow.named.headD default
def laid1 : List (String × DataW Unit) := [(rootN, Rows.laid_witan_sha_roots)]
theorem gRoots : Tryz.prog.globalNamed rootN = some 0 := by kernel_rfl
theorem tRoots : (Tryz.prog.globals[0]?).map (·.type) = some 114 := by kernel_rfl
theorem zRoots : ((begin Tryz.prog (fun _ _ => 0) default).world.heap[0]?).bind Obj.row? = some (Array.replicate 64 (.int .u32 0), 114) := by kernel_rfl
theorem rootsLaid : Rows.laid_witan_sha_roots (H := Unit) = .agg (rootsI.map fun x => .lit (.int .u32 x)) := by kernel_rfl
theorem rootsLay : lay Tryz.prog = [(0, rootsI.map fun x => Value.int .u32 x, 114)] := by kernel_rfl
theorem laid_ok {W : World} (hsh : W.ShapedOpen Tryz.prog) (h : laidMetH Tryz.prog laid1 W) : GOk (lay Tryz.prog) W := by
  rw [MakeChecks.laidMetH_plain _ _ _ (by kernel_rfl)] at h
  obtain ⟨ps, ⟨g0, t0, cs0, f0, p0, q0, hg0, ht0, hv0, hd0, _, _⟩, _, _⟩ := h
  obtain rfl := Option.some.inj (gRoots.symm.trans hg0)
  obtain rfl := Option.some.inj (tRoots.symm.trans ht0)
  rw [rootsLaid] at hd0
  have hcs := laid_cells Tryz.underlying114 Tryz.underlying113 (by kernel_rfl) (by kernel_rfl) hd0
  obtain ⟨cs, h1, _, _⟩ := hsh.1 0 _ _ (by decide +kernel) zRoots
  unfold World.var? at hv0
  rw [hg0] at hv0
  simp only [Option.bind_some, h1] at hv0
  have hv0 := Option.some.inj hv0
  subst hv0
  rw [rootsLay]
  intro x hx
  rw [List.mem_singleton] at hx
  subst hx
  refine ⟨(0, 0), ?_⟩
  show W.heap[0]? = some (.cells (rootsI.map fun x => Value.int .u32 x).toArray 114 (0, 0))
  rw [h1, ← hcs]
theorem door_met (os : Os) (args : Array Value) : laidMetH Tryz.prog laid1 ((World.doorLaid Tryz.prog 400 os).forCall (fun _ _ => 0) ⟨#[], args, []⟩).memory :=
  laidMetH_of_parts3 (fuel := 8) (laidMet_of_run' 8 (by kernel_rfl) (by kernel_rfl)) (by kernel_rfl) (by kernel_rfl)
theorem door_shaped (os : Os) (args : Array Value) : ((World.doorLaid Tryz.prog 400 os).forCall (fun _ _ => 0) ⟨#[], args, []⟩).Shaped Tryz.prog := World.shaped_of_RefB (by kernel_rfl) (by kernel_rfl)

end Go.Proofs.YtafeeiodgfgepaaGreatDoor
