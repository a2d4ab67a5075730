/-
  The types of this program, as the engine wants them.
-/
import Derived.Test.YtdhbnidobpkkfaaChecked
import Derived.Test.YtdhbnidobpkkfaaW11
import Derived.KernelRfl
namespace Go.Proofs.Ytdhbnidobpkkfaa
open Go.W

theorem tt2 : TOk Try.prog 2 ⟨.int .i64, 1, .int .i64 0, false, [], false⟩ := tok_plain (by kernel_rfl) (by kernel_rfl)
theorem tt3 : TOk Try.prog 3 ⟨.int .i64, 1, .int .i64 0, false, [], false⟩ := tok_plain (by kernel_rfl) (by kernel_rfl)
theorem tt4 : TOk Try.prog 4 ⟨.bool, 1, .bool false, false, [], false⟩ := tok_plain (by kernel_rfl) (by kernel_rfl)
theorem tt5 : TOk Try.prog 5 ⟨.int .u8, 1, .int .u8 0, false, [], false⟩ := tok_plain (by kernel_rfl) (by kernel_rfl)
theorem tt9 : TOk Try.prog 9 ⟨.string, 1, .string ⟨#[]⟩, false, [], false⟩ := tok_plain (by kernel_rfl) (by kernel_rfl)
theorem tt12 : TOk Try.prog 12 ⟨.int .u64, 1, .int .u64 0, false, [], false⟩ := tok_plain (by kernel_rfl) (by kernel_rfl)
theorem tt21 : TOk Try.prog 21 ⟨.int .i32, 1, .int .i32 0, false, [], false⟩ := tok_plain (by kernel_rfl) (by kernel_rfl)
theorem tt22 : TOk Try.prog 22 ⟨.int .u64, 1, .int .u64 0, false, [], false⟩ := tok_plain (by kernel_rfl) (by kernel_rfl)
theorem tt23 : TOk Try.prog 23 ⟨.array 4 22, 4, .agg #[.int .u64 0, .int .u64 0, .int .u64 0, .int .u64 0], false, [], true⟩ := tok_eq (by kernel_rfl) (by kernel_rfl) (by kernel_rfl)
theorem tt24 : TOk Try.prog 24 ⟨.array 4 22, 4, .agg #[.int .u64 0, .int .u64 0, .int .u64 0, .int .u64 0], false, [], true⟩ := tok_eq (by kernel_rfl) (by kernel_rfl) (by kernel_rfl)
theorem tt34 : TOk Try.prog 34 ⟨.int .i64, 1, .int .i64 0, false, [], false⟩ := tok_plain (by kernel_rfl) (by kernel_rfl)
theorem tt39 : TOk Try.prog 39 ⟨.array 32 5, 32, .agg #[.int .u8 0, .int .u8 0, .int .u8 0, .int .u8 0, .int .u8 0, .int .u8 0, .int .u8 0, .int .u8 0, .int .u8 0, .int .u8 0, .int .u8 0, .int .u8 0, .int .u8 0, .int .u8 0, .int .u8 0, .int .u8 0, .int .u8 0, .int .u8 0, .int .u8 0, .int .u8 0, .int .u8 0, .int .u8 0, .int .u8 0, .int .u8 0, .int .u8 0, .int .u8 0, .int .u8 0, .int .u8 0, .int .u8 0, .int .u8 0, .int .u8 0, .int .u8 0], false, [], true⟩ := tok_eq (by kernel_rfl) (by kernel_rfl) (by kernel_rfl)
theorem tt42 : TOk Try.prog 42 ⟨.int .u64, 1, .int .u64 0, false, [], false⟩ := tok_plain (by kernel_rfl) (by kernel_rfl)
theorem tt49 : TOk Try.prog 49 ⟨.array 8 22, 8, .agg #[.int .u64 0, .int .u64 0, .int .u64 0, .int .u64 0, .int .u64 0, .int .u64 0, .int .u64 0, .int .u64 0], false, [], true⟩ := tok_eq (by kernel_rfl) (by kernel_rfl) (by kernel_rfl)
theorem tt61 : TOk Try.prog 61 ⟨.int .u32, 1, .int .u32 0, false, [], false⟩ := tok_plain (by kernel_rfl) (by kernel_rfl)

def tab : Tab := [(2, ⟨.int .i64, 1, .int .i64 0, false, [], false⟩),
  (3, ⟨.int .i64, 1, .int .i64 0, false, [], false⟩),
  (4, ⟨.bool, 1, .bool false, false, [], false⟩),
  (5, ⟨.int .u8, 1, .int .u8 0, false, [], false⟩),
  (9, ⟨.string, 1, .string ⟨#[]⟩, false, [], false⟩),
  (12, ⟨.int .u64, 1, .int .u64 0, false, [], false⟩),
  (21, ⟨.int .i32, 1, .int .i32 0, false, [], false⟩),
  (22, ⟨.int .u64, 1, .int .u64 0, false, [], false⟩),
  (23, ⟨.array 4 22, 4, .agg #[.int .u64 0, .int .u64 0, .int .u64 0, .int .u64 0], false, [], true⟩),
  (24, ⟨.array 4 22, 4, .agg #[.int .u64 0, .int .u64 0, .int .u64 0, .int .u64 0], false, [], true⟩),
  (34, ⟨.int .i64, 1, .int .i64 0, false, [], false⟩),
  (39, ⟨.array 32 5, 32, .agg #[.int .u8 0, .int .u8 0, .int .u8 0, .int .u8 0, .int .u8 0, .int .u8 0, .int .u8 0, .int .u8 0, .int .u8 0, .int .u8 0, .int .u8 0, .int .u8 0, .int .u8 0, .int .u8 0, .int .u8 0, .int .u8 0, .int .u8 0, .int .u8 0, .int .u8 0, .int .u8 0, .int .u8 0, .int .u8 0, .int .u8 0, .int .u8 0, .int .u8 0, .int .u8 0, .int .u8 0, .int .u8 0, .int .u8 0, .int .u8 0, .int .u8 0, .int .u8 0], false, [], true⟩),
  (42, ⟨.int .u64, 1, .int .u64 0, false, [], false⟩),
  (49, ⟨.array 8 22, 8, .agg #[.int .u64 0, .int .u64 0, .int .u64 0, .int .u64 0, .int .u64 0, .int .u64 0, .int .u64 0, .int .u64 0], false, [], true⟩),
  (61, ⟨.int .u32, 1, .int .u32 0, false, [], false⟩)]
theorem tabOk : TabOk Try.prog tab := (tab_cons tt2 (tab_cons tt3 (tab_cons tt4 (tab_cons tt5 (tab_cons tt9 (tab_cons tt12 (tab_cons tt21 (tab_cons tt22 (tab_cons tt23 (tab_cons tt24 (tab_cons tt34 (tab_cons tt39 (tab_cons tt42 (tab_cons tt49 (tab_cons tt61 tab_nil)))))))))))))))

theorem mixed : Try.prog.follows .mixedOrders = true := by kernel_rfl
def bodyOf (f : Func) : Code :=
  match f.body with
  | some c => c
  | none => .skip

theorem noL {P : Program} {n : Nat} {c : Code} : ∀ p F, lookP ([] : List (List Nat × (St → List (Bool × Exit × St)))) p = some F → LoopOk P n (loopAt p c) F := by
  intro p F h; simp [lookP] at h

end Go.Proofs.Ytdhbnidobpkkfaa
