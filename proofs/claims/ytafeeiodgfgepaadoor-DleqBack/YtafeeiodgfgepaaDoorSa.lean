/-
  Several texts in one.
-/
import Derived.Test.YtafeeiodgfgepaaDoorChecked
import Derived.Test.YtafeeiodgfgepaaDoorEe
import Derived.KernelRfl
import Derived.Test.YtafeeiodgfgepaaDoorEb
import Derived.Laws.Externs
/-
  The types of this program, as the engine wants them.
-/
namespace Go.Proofs.YtafeeiodgfgepaaDoor
set_option maxRecDepth 100000
open Go.W
theorem tt2 : TOk Tryd.prog 2 ⟨.int .i64, 1, .int .i64 0, false, [], [.i .i64], 8⟩ := tok_eq (by kernel_rfl) (by kernel_rfl) (by kernel_rfl) (by kernel_rfl)
theorem tt3 : TOk Tryd.prog 3 ⟨.int .i64, 1, .int .i64 0, false, [], [.i .i64], 8⟩ := tok_eq (by kernel_rfl) (by kernel_rfl) (by kernel_rfl) (by kernel_rfl)
theorem tt4 : TOk Tryd.prog 4 ⟨.bool, 1, .bool false, false, [], [.b], 1⟩ := tok_eq (by kernel_rfl) (by kernel_rfl) (by kernel_rfl) (by kernel_rfl)
theorem tt5 : TOk Tryd.prog 5 ⟨.int .u8, 1, .int .u8 0, false, [], [.i .u8], 1⟩ := tok_eq (by kernel_rfl) (by kernel_rfl) (by kernel_rfl) (by kernel_rfl)
theorem tt9 : TOk Tryd.prog 9 ⟨.string, 1, .string ⟨#[]⟩, false, [], [.s], 16⟩ := tok_eq (by kernel_rfl) (by kernel_rfl) (by kernel_rfl) (by kernel_rfl)
theorem tt12 : TOk Tryd.prog 12 ⟨.int .u64, 1, .int .u64 0, false, [], [.i .u64], 8⟩ := tok_eq (by kernel_rfl) (by kernel_rfl) (by kernel_rfl) (by kernel_rfl)
theorem tt21 : TOk Tryd.prog 21 ⟨.int .i32, 1, .int .i32 0, false, [], [.i .i32], 4⟩ := tok_eq (by kernel_rfl) (by kernel_rfl) (by kernel_rfl) (by kernel_rfl)
theorem tt22 : TOk Tryd.prog 22 ⟨.int .u64, 1, .int .u64 0, false, [], [.i .u64], 8⟩ := tok_eq (by kernel_rfl) (by kernel_rfl) (by kernel_rfl) (by kernel_rfl)
theorem tt23 : TOk Tryd.prog 23 ⟨.array 4 22, 4, .agg #[.int .u64 0, .int .u64 0, .int .u64 0, .int .u64 0], false, [], [.i .u64, .i .u64, .i .u64, .i .u64], 32⟩ := tok_eq (by kernel_rfl) (by kernel_rfl) (by kernel_rfl) (by kernel_rfl)
theorem tt24 : TOk Tryd.prog 24 ⟨.array 4 22, 4, .agg #[.int .u64 0, .int .u64 0, .int .u64 0, .int .u64 0], false, [], [.i .u64, .i .u64, .i .u64, .i .u64], 32⟩ := tok_eq (by kernel_rfl) (by kernel_rfl) (by kernel_rfl) (by kernel_rfl)
theorem tt25 : TOk Tryd.prog 25 ⟨.bool, 9, .agg #[.bool false, .int .u64 0, .int .u64 0, .int .u64 0, .int .u64 0, .int .u64 0, .int .u64 0, .int .u64 0, .int .u64 0], true, [(0, 4), (1, 24), (5, 24)], [.b, .i .u64, .i .u64, .i .u64, .i .u64, .i .u64, .i .u64, .i .u64, .i .u64], 72⟩ := tok_structE (by kernel_rfl) (by kernel_rfl) (by kernel_rfl) (by kernel_rfl)
theorem tt26 : TOk Tryd.prog 26 ⟨.bool, 9, .agg #[.bool false, .int .u64 0, .int .u64 0, .int .u64 0, .int .u64 0, .int .u64 0, .int .u64 0, .int .u64 0, .int .u64 0], true, [(0, 4), (1, 24), (5, 24)], [.b, .i .u64, .i .u64, .i .u64, .i .u64, .i .u64, .i .u64, .i .u64, .i .u64], 72⟩ := tok_structE (by kernel_rfl) (by kernel_rfl) (by kernel_rfl) (by kernel_rfl)
theorem tt28 : TOk Tryd.prog 28 ⟨.int .i64, 1, .int .i64 0, false, [], [.i .i64], 8⟩ := tok_eq (by kernel_rfl) (by kernel_rfl) (by kernel_rfl) (by kernel_rfl)
theorem tt31 : TOk Tryd.prog 31 ⟨.bool, 8, .agg #[.int .u64 0, .int .u64 0, .int .u64 0, .int .u64 0, .int .u64 0, .int .u64 0, .int .u64 0, .int .u64 0], true, [(0, 24), (4, 24)], [.i .u64, .i .u64, .i .u64, .i .u64, .i .u64, .i .u64, .i .u64, .i .u64], 64⟩ := tok_structE (by kernel_rfl) (by kernel_rfl) (by kernel_rfl) (by kernel_rfl)
theorem tt32 : TOk Tryd.prog 32 ⟨.bool, 8, .agg #[.int .u64 0, .int .u64 0, .int .u64 0, .int .u64 0, .int .u64 0, .int .u64 0, .int .u64 0, .int .u64 0], true, [(0, 24), (4, 24)], [.i .u64, .i .u64, .i .u64, .i .u64, .i .u64, .i .u64, .i .u64, .i .u64], 64⟩ := tok_structE (by kernel_rfl) (by kernel_rfl) (by kernel_rfl) (by kernel_rfl)
theorem tt42 : TOk Tryd.prog 42 ⟨.slice 44, 1, .slice none 0 0, false, [], [], 24⟩ := tok_plain (by kernel_rfl) (by kernel_rfl)
theorem tt43 : TOk Tryd.prog 43 ⟨.slice 26, 1, .slice none 0 0, false, [], [], 24⟩ := tok_plain (by kernel_rfl) (by kernel_rfl)
theorem tt44 : TOk Tryd.prog 44 ⟨.slice 5, 1, .slice none 0 0, false, [], [], 24⟩ := tok_plain (by kernel_rfl) (by kernel_rfl)
theorem tt56 : TOk Tryd.prog 56 ⟨.array 3 26, 27, .agg #[.bool false, .int .u64 0, .int .u64 0, .int .u64 0, .int .u64 0, .int .u64 0, .int .u64 0, .int .u64 0, .int .u64 0, .bool false, .int .u64 0, .int .u64 0, .int .u64 0, .int .u64 0, .int .u64 0, .int .u64 0, .int .u64 0, .int .u64 0, .bool false, .int .u64 0, .int .u64 0, .int .u64 0, .int .u64 0, .int .u64 0, .int .u64 0, .int .u64 0, .int .u64 0], false, [], [.b, .i .u64, .i .u64, .i .u64, .i .u64, .i .u64, .i .u64, .i .u64, .i .u64, .b, .i .u64, .i .u64, .i .u64, .i .u64, .i .u64, .i .u64, .i .u64, .i .u64, .b, .i .u64, .i .u64, .i .u64, .i .u64, .i .u64, .i .u64, .i .u64, .i .u64], 216⟩ := tok_eq (by kernel_rfl) (by kernel_rfl) (by kernel_rfl) (by kernel_rfl)
theorem tt61 : TOk Tryd.prog 61 ⟨.array 32 5, 32, .agg #[.int .u8 0, .int .u8 0, .int .u8 0, .int .u8 0, .int .u8 0, .int .u8 0, .int .u8 0, .int .u8 0, .int .u8 0, .int .u8 0, .int .u8 0, .int .u8 0, .int .u8 0, .int .u8 0, .int .u8 0, .int .u8 0, .int .u8 0, .int .u8 0, .int .u8 0, .int .u8 0, .int .u8 0, .int .u8 0, .int .u8 0, .int .u8 0, .int .u8 0, .int .u8 0, .int .u8 0, .int .u8 0, .int .u8 0, .int .u8 0, .int .u8 0, .int .u8 0], false, [], [.i .u8, .i .u8, .i .u8, .i .u8, .i .u8, .i .u8, .i .u8, .i .u8, .i .u8, .i .u8, .i .u8, .i .u8, .i .u8, .i .u8, .i .u8, .i .u8, .i .u8, .i .u8, .i .u8, .i .u8, .i .u8, .i .u8, .i .u8, .i .u8, .i .u8, .i .u8, .i .u8, .i .u8, .i .u8, .i .u8, .i .u8, .i .u8], 32⟩ := tok_eq (by kernel_rfl) (by kernel_rfl) (by kernel_rfl) (by kernel_rfl)
theorem tt74 : TOk Tryd.prog 74 ⟨.bool, 12, .agg #[.int .u64 0, .int .u64 0, .int .u64 0, .int .u64 0, .int .u64 0, .int .u64 0, .int .u64 0, .int .u64 0, .int .u64 0, .int .u64 0, .int .u64 0, .int .u64 0], true, [(0, 24), (4, 24), (8, 24)], [.i .u64, .i .u64, .i .u64, .i .u64, .i .u64, .i .u64, .i .u64, .i .u64, .i .u64, .i .u64, .i .u64, .i .u64], 96⟩ := tok_structE (by kernel_rfl) (by kernel_rfl) (by kernel_rfl) (by kernel_rfl)
theorem tt75 : TOk Tryd.prog 75 ⟨.bool, 12, .agg #[.int .u64 0, .int .u64 0, .int .u64 0, .int .u64 0, .int .u64 0, .int .u64 0, .int .u64 0, .int .u64 0, .int .u64 0, .int .u64 0, .int .u64 0, .int .u64 0], true, [(0, 24), (4, 24), (8, 24)], [.i .u64, .i .u64, .i .u64, .i .u64, .i .u64, .i .u64, .i .u64, .i .u64, .i .u64, .i .u64, .i .u64, .i .u64], 96⟩ := tok_structE (by kernel_rfl) (by kernel_rfl) (by kernel_rfl) (by kernel_rfl)
theorem tt80 : TOk Tryd.prog 80 ⟨.array 5 26, 45, .agg #[.bool false, .int .u64 0, .int .u64 0, .int .u64 0, .int .u64 0, .int .u64 0, .int .u64 0, .int .u64 0, .int .u64 0, .bool false, .int .u64 0, .int .u64 0, .int .u64 0, .int .u64 0, .int .u64 0, .int .u64 0, .int .u64 0, .int .u64 0, .bool false, .int .u64 0, .int .u64 0, .int .u64 0, .int .u64 0, .int .u64 0, .int .u64 0, .int .u64 0, .int .u64 0, .bool false, .int .u64 0, .int .u64 0, .int .u64 0, .int .u64 0, .int .u64 0, .int .u64 0, .int .u64 0, .int .u64 0, .bool false, .int .u64 0, .int .u64 0, .int .u64 0, .int .u64 0, .int .u64 0, .int .u64 0, .int .u64 0, .int .u64 0], false, [], [.b, .i .u64, .i .u64, .i .u64, .i .u64, .i .u64, .i .u64, .i .u64, .i .u64, .b, .i .u64, .i .u64, .i .u64, .i .u64, .i .u64, .i .u64, .i .u64, .i .u64, .b, .i .u64, .i .u64, .i .u64, .i .u64, .i .u64, .i .u64, .i .u64, .i .u64, .b, .i .u64, .i .u64, .i .u64, .i .u64, .i .u64, .i .u64, .i .u64, .i .u64, .b, .i .u64, .i .u64, .i .u64, .i .u64, .i .u64, .i .u64, .i .u64, .i .u64], 360⟩ := tok_eq (by kernel_rfl) (by kernel_rfl) (by kernel_rfl) (by kernel_rfl)
theorem tt92 : TOk Tryd.prog 92 ⟨.int .u32, 1, .int .u32 0, false, [], [.i .u32], 4⟩ := tok_eq (by kernel_rfl) (by kernel_rfl) (by kernel_rfl) (by kernel_rfl)
theorem tt93 : TOk Tryd.prog 93 ⟨.array 8 92, 8, .agg #[.int .u32 0, .int .u32 0, .int .u32 0, .int .u32 0, .int .u32 0, .int .u32 0, .int .u32 0, .int .u32 0], false, [], [.i .u32, .i .u32, .i .u32, .i .u32, .i .u32, .i .u32, .i .u32, .i .u32], 32⟩ := tok_eq (by kernel_rfl) (by kernel_rfl) (by kernel_rfl) (by kernel_rfl)
theorem tt97 : TOk Tryd.prog 97 ⟨.int .u64, 1, .int .u64 0, false, [], [.i .u64], 8⟩ := tok_eq (by kernel_rfl) (by kernel_rfl) (by kernel_rfl) (by kernel_rfl)
theorem tt99 : TOk Tryd.prog 99 ⟨.array 128 5, 128, .agg #[.int .u8 0, .int .u8 0, .int .u8 0, .int .u8 0, .int .u8 0, .int .u8 0, .int .u8 0, .int .u8 0, .int .u8 0, .int .u8 0, .int .u8 0, .int .u8 0, .int .u8 0, .int .u8 0, .int .u8 0, .int .u8 0, .int .u8 0, .int .u8 0, .int .u8 0, .int .u8 0, .int .u8 0, .int .u8 0, .int .u8 0, .int .u8 0, .int .u8 0, .int .u8 0, .int .u8 0, .int .u8 0, .int .u8 0, .int .u8 0, .int .u8 0, .int .u8 0, .int .u8 0, .int .u8 0, .int .u8 0, .int .u8 0, .int .u8 0, .int .u8 0, .int .u8 0, .int .u8 0, .int .u8 0, .int .u8 0, .int .u8 0, .int .u8 0, .int .u8 0, .int .u8 0, .int .u8 0, .int .u8 0, .int .u8 0, .int .u8 0, .int .u8 0, .int .u8 0, .int .u8 0, .int .u8 0, .int .u8 0, .int .u8 0, .int .u8 0, .int .u8 0, .int .u8 0, .int .u8 0, .int .u8 0, .int .u8 0, .int .u8 0, .int .u8 0, .int .u8 0, .int .u8 0, .int .u8 0, .int .u8 0, .int .u8 0, .int .u8 0, .int .u8 0, .int .u8 0, .int .u8 0, .int .u8 0, .int .u8 0, .int .u8 0, .int .u8 0, .int .u8 0, .int .u8 0, .int .u8 0, .int .u8 0, .int .u8 0, .int .u8 0, .int .u8 0, .int .u8 0, .int .u8 0, .int .u8 0, .int .u8 0, .int .u8 0, .int .u8 0, .int .u8 0, .int .u8 0, .int .u8 0, .int .u8 0, .int .u8 0, .int .u8 0, .int .u8 0, .int .u8 0, .int .u8 0, .int .u8 0, .int .u8 0, .int .u8 0, .int .u8 0, .int .u8 0, .int .u8 0, .int .u8 0, .int .u8 0, .int .u8 0, .int .u8 0, .int .u8 0, .int .u8 0, .int .u8 0, .int .u8 0, .int .u8 0, .int .u8 0, .int .u8 0, .int .u8 0, .int .u8 0, .int .u8 0, .int .u8 0, .int .u8 0, .int .u8 0, .int .u8 0, .int .u8 0, .int .u8 0, .int .u8 0, .int .u8 0, .int .u8 0], false, [], [], 128⟩ := tok_plain (by kernel_rfl) (by kernel_rfl)
theorem tt101 : TOk Tryd.prog 101 ⟨.array 64 92, 64, .agg #[.int .u32 0, .int .u32 0, .int .u32 0, .int .u32 0, .int .u32 0, .int .u32 0, .int .u32 0, .int .u32 0, .int .u32 0, .int .u32 0, .int .u32 0, .int .u32 0, .int .u32 0, .int .u32 0, .int .u32 0, .int .u32 0, .int .u32 0, .int .u32 0, .int .u32 0, .int .u32 0, .int .u32 0, .int .u32 0, .int .u32 0, .int .u32 0, .int .u32 0, .int .u32 0, .int .u32 0, .int .u32 0, .int .u32 0, .int .u32 0, .int .u32 0, .int .u32 0, .int .u32 0, .int .u32 0, .int .u32 0, .int .u32 0, .int .u32 0, .int .u32 0, .int .u32 0, .int .u32 0, .int .u32 0, .int .u32 0, .int .u32 0, .int .u32 0, .int .u32 0, .int .u32 0, .int .u32 0, .int .u32 0, .int .u32 0, .int .u32 0, .int .u32 0, .int .u32 0, .int .u32 0, .int .u32 0, .int .u32 0, .int .u32 0, .int .u32 0, .int .u32 0, .int .u32 0, .int .u32 0, .int .u32 0, .int .u32 0, .int .u32 0, .int .u32 0], false, [], [.i .u32, .i .u32, .i .u32, .i .u32, .i .u32, .i .u32, .i .u32, .i .u32, .i .u32, .i .u32, .i .u32, .i .u32, .i .u32, .i .u32, .i .u32, .i .u32, .i .u32, .i .u32, .i .u32, .i .u32, .i .u32, .i .u32, .i .u32, .i .u32, .i .u32, .i .u32, .i .u32, .i .u32, .i .u32, .i .u32, .i .u32, .i .u32, .i .u32, .i .u32, .i .u32, .i .u32, .i .u32, .i .u32, .i .u32, .i .u32, .i .u32, .i .u32, .i .u32, .i .u32, .i .u32, .i .u32, .i .u32, .i .u32, .i .u32, .i .u32, .i .u32, .i .u32, .i .u32, .i .u32, .i .u32, .i .u32, .i .u32, .i .u32, .i .u32, .i .u32, .i .u32, .i .u32, .i .u32, .i .u32], 256⟩ := tok_eq (by kernel_rfl) (by kernel_rfl) (by kernel_rfl) (by kernel_rfl)
def tab : Tab := [(2, ⟨.int .i64, 1, .int .i64 0, false, [], [.i .i64], 8⟩),
  (3, ⟨.int .i64, 1, .int .i64 0, false, [], [.i .i64], 8⟩),
  (4, ⟨.bool, 1, .bool false, false, [], [.b], 1⟩),
  (5, ⟨.int .u8, 1, .int .u8 0, false, [], [.i .u8], 1⟩),
  (9, ⟨.string, 1, .string ⟨#[]⟩, false, [], [.s], 16⟩),
  (12, ⟨.int .u64, 1, .int .u64 0, false, [], [.i .u64], 8⟩),
  (21, ⟨.int .i32, 1, .int .i32 0, false, [], [.i .i32], 4⟩),
  (22, ⟨.int .u64, 1, .int .u64 0, false, [], [.i .u64], 8⟩),
  (23, ⟨.array 4 22, 4, .agg #[.int .u64 0, .int .u64 0, .int .u64 0, .int .u64 0], false, [], [.i .u64, .i .u64, .i .u64, .i .u64], 32⟩),
  (24, ⟨.array 4 22, 4, .agg #[.int .u64 0, .int .u64 0, .int .u64 0, .int .u64 0], false, [], [.i .u64, .i .u64, .i .u64, .i .u64], 32⟩),
  (25, ⟨.bool, 9, .agg #[.bool false, .int .u64 0, .int .u64 0, .int .u64 0, .int .u64 0, .int .u64 0, .int .u64 0, .int .u64 0, .int .u64 0], true, [(0, 4), (1, 24), (5, 24)], [.b, .i .u64, .i .u64, .i .u64, .i .u64, .i .u64, .i .u64, .i .u64, .i .u64], 72⟩),
  (26, ⟨.bool, 9, .agg #[.bool false, .int .u64 0, .int .u64 0, .int .u64 0, .int .u64 0, .int .u64 0, .int .u64 0, .int .u64 0, .int .u64 0], true, [(0, 4), (1, 24), (5, 24)], [.b, .i .u64, .i .u64, .i .u64, .i .u64, .i .u64, .i .u64, .i .u64, .i .u64], 72⟩),
  (28, ⟨.int .i64, 1, .int .i64 0, false, [], [.i .i64], 8⟩),
  (31, ⟨.bool, 8, .agg #[.int .u64 0, .int .u64 0, .int .u64 0, .int .u64 0, .int .u64 0, .int .u64 0, .int .u64 0, .int .u64 0], true, [(0, 24), (4, 24)], [.i .u64, .i .u64, .i .u64, .i .u64, .i .u64, .i .u64, .i .u64, .i .u64], 64⟩),
  (32, ⟨.bool, 8, .agg #[.int .u64 0, .int .u64 0, .int .u64 0, .int .u64 0, .int .u64 0, .int .u64 0, .int .u64 0, .int .u64 0], true, [(0, 24), (4, 24)], [.i .u64, .i .u64, .i .u64, .i .u64, .i .u64, .i .u64, .i .u64, .i .u64], 64⟩),
  (42, ⟨.slice 44, 1, .slice none 0 0, false, [], [], 24⟩),
  (43, ⟨.slice 26, 1, .slice none 0 0, false, [], [], 24⟩),
  (44, ⟨.slice 5, 1, .slice none 0 0, false, [], [], 24⟩),
  (56, ⟨.array 3 26, 27, .agg #[.bool false, .int .u64 0, .int .u64 0, .int .u64 0, .int .u64 0, .int .u64 0, .int .u64 0, .int .u64 0, .int .u64 0, .bool false, .int .u64 0, .int .u64 0, .int .u64 0, .int .u64 0, .int .u64 0, .int .u64 0, .int .u64 0, .int .u64 0, .bool false, .int .u64 0, .int .u64 0, .int .u64 0, .int .u64 0, .int .u64 0, .int .u64 0, .int .u64 0, .int .u64 0], false, [], [.b, .i .u64, .i .u64, .i .u64, .i .u64, .i .u64, .i .u64, .i .u64, .i .u64, .b, .i .u64, .i .u64, .i .u64, .i .u64, .i .u64, .i .u64, .i .u64, .i .u64, .b, .i .u64, .i .u64, .i .u64, .i .u64, .i .u64, .i .u64, .i .u64, .i .u64], 216⟩),
  (61, ⟨.array 32 5, 32, .agg #[.int .u8 0, .int .u8 0, .int .u8 0, .int .u8 0, .int .u8 0, .int .u8 0, .int .u8 0, .int .u8 0, .int .u8 0, .int .u8 0, .int .u8 0, .int .u8 0, .int .u8 0, .int .u8 0, .int .u8 0, .int .u8 0, .int .u8 0, .int .u8 0, .int .u8 0, .int .u8 0, .int .u8 0, .int .u8 0, .int .u8 0, .int .u8 0, .int .u8 0, .int .u8 0, .int .u8 0, .int .u8 0, .int .u8 0, .int .u8 0, .int .u8 0, .int .u8 0], false, [], [.i .u8, .i .u8, .i .u8, .i .u8, .i .u8, .i .u8, .i .u8, .i .u8, .i .u8, .i .u8, .i .u8, .i .u8, .i .u8, .i .u8, .i .u8, .i .u8, .i .u8, .i .u8, .i .u8, .i .u8, .i .u8, .i .u8, .i .u8, .i .u8, .i .u8, .i .u8, .i .u8, .i .u8, .i .u8, .i .u8, .i .u8, .i .u8], 32⟩),
  (74, ⟨.bool, 12, .agg #[.int .u64 0, .int .u64 0, .int .u64 0, .int .u64 0, .int .u64 0, .int .u64 0, .int .u64 0, .int .u64 0, .int .u64 0, .int .u64 0, .int .u64 0, .int .u64 0], true, [(0, 24), (4, 24), (8, 24)], [.i .u64, .i .u64, .i .u64, .i .u64, .i .u64, .i .u64, .i .u64, .i .u64, .i .u64, .i .u64, .i .u64, .i .u64], 96⟩),
  (75, ⟨.bool, 12, .agg #[.int .u64 0, .int .u64 0, .int .u64 0, .int .u64 0, .int .u64 0, .int .u64 0, .int .u64 0, .int .u64 0, .int .u64 0, .int .u64 0, .int .u64 0, .int .u64 0], true, [(0, 24), (4, 24), (8, 24)], [.i .u64, .i .u64, .i .u64, .i .u64, .i .u64, .i .u64, .i .u64, .i .u64, .i .u64, .i .u64, .i .u64, .i .u64], 96⟩),
  (80, ⟨.array 5 26, 45, .agg #[.bool false, .int .u64 0, .int .u64 0, .int .u64 0, .int .u64 0, .int .u64 0, .int .u64 0, .int .u64 0, .int .u64 0, .bool false, .int .u64 0, .int .u64 0, .int .u64 0, .int .u64 0, .int .u64 0, .int .u64 0, .int .u64 0, .int .u64 0, .bool false, .int .u64 0, .int .u64 0, .int .u64 0, .int .u64 0, .int .u64 0, .int .u64 0, .int .u64 0, .int .u64 0, .bool false, .int .u64 0, .int .u64 0, .int .u64 0, .int .u64 0, .int .u64 0, .int .u64 0, .int .u64 0, .int .u64 0, .bool false, .int .u64 0, .int .u64 0, .int .u64 0, .int .u64 0, .int .u64 0, .int .u64 0, .int .u64 0, .int .u64 0], false, [], [.b, .i .u64, .i .u64, .i .u64, .i .u64, .i .u64, .i .u64, .i .u64, .i .u64, .b, .i .u64, .i .u64, .i .u64, .i .u64, .i .u64, .i .u64, .i .u64, .i .u64, .b, .i .u64, .i .u64, .i .u64, .i .u64, .i .u64, .i .u64, .i .u64, .i .u64, .b, .i .u64, .i .u64, .i .u64, .i .u64, .i .u64, .i .u64, .i .u64, .i .u64, .b, .i .u64, .i .u64, .i .u64, .i .u64, .i .u64, .i .u64, .i .u64, .i .u64], 360⟩),
  (92, ⟨.int .u32, 1, .int .u32 0, false, [], [.i .u32], 4⟩),
  (93, ⟨.array 8 92, 8, .agg #[.int .u32 0, .int .u32 0, .int .u32 0, .int .u32 0, .int .u32 0, .int .u32 0, .int .u32 0, .int .u32 0], false, [], [.i .u32, .i .u32, .i .u32, .i .u32, .i .u32, .i .u32, .i .u32, .i .u32], 32⟩),
  (97, ⟨.int .u64, 1, .int .u64 0, false, [], [.i .u64], 8⟩),
  (99, ⟨.array 128 5, 128, .agg #[.int .u8 0, .int .u8 0, .int .u8 0, .int .u8 0, .int .u8 0, .int .u8 0, .int .u8 0, .int .u8 0, .int .u8 0, .int .u8 0, .int .u8 0, .int .u8 0, .int .u8 0, .int .u8 0, .int .u8 0, .int .u8 0, .int .u8 0, .int .u8 0, .int .u8 0, .int .u8 0, .int .u8 0, .int .u8 0, .int .u8 0, .int .u8 0, .int .u8 0, .int .u8 0, .int .u8 0, .int .u8 0, .int .u8 0, .int .u8 0, .int .u8 0, .int .u8 0, .int .u8 0, .int .u8 0, .int .u8 0, .int .u8 0, .int .u8 0, .int .u8 0, .int .u8 0, .int .u8 0, .int .u8 0, .int .u8 0, .int .u8 0, .int .u8 0, .int .u8 0, .int .u8 0, .int .u8 0, .int .u8 0, .int .u8 0, .int .u8 0, .int .u8 0, .int .u8 0, .int .u8 0, .int .u8 0, .int .u8 0, .int .u8 0, .int .u8 0, .int .u8 0, .int .u8 0, .int .u8 0, .int .u8 0, .int .u8 0, .int .u8 0, .int .u8 0, .int .u8 0, .int .u8 0, .int .u8 0, .int .u8 0, .int .u8 0, .int .u8 0, .int .u8 0, .int .u8 0, .int .u8 0, .int .u8 0, .int .u8 0, .int .u8 0, .int .u8 0, .int .u8 0, .int .u8 0, .int .u8 0, .int .u8 0, .int .u8 0, .int .u8 0, .int .u8 0, .int .u8 0, .int .u8 0, .int .u8 0, .int .u8 0, .int .u8 0, .int .u8 0, .int .u8 0, .int .u8 0, .int .u8 0, .int .u8 0, .int .u8 0, .int .u8 0, .int .u8 0, .int .u8 0, .int .u8 0, .int .u8 0, .int .u8 0, .int .u8 0, .int .u8 0, .int .u8 0, .int .u8 0, .int .u8 0, .int .u8 0, .int .u8 0, .int .u8 0, .int .u8 0, .int .u8 0, .int .u8 0, .int .u8 0, .int .u8 0, .int .u8 0, .int .u8 0, .int .u8 0, .int .u8 0, .int .u8 0, .int .u8 0, .int .u8 0, .int .u8 0, .int .u8 0, .int .u8 0, .int .u8 0, .int .u8 0, .int .u8 0, .int .u8 0], false, [], [], 128⟩),
  (101, ⟨.array 64 92, 64, .agg #[.int .u32 0, .int .u32 0, .int .u32 0, .int .u32 0, .int .u32 0, .int .u32 0, .int .u32 0, .int .u32 0, .int .u32 0, .int .u32 0, .int .u32 0, .int .u32 0, .int .u32 0, .int .u32 0, .int .u32 0, .int .u32 0, .int .u32 0, .int .u32 0, .int .u32 0, .int .u32 0, .int .u32 0, .int .u32 0, .int .u32 0, .int .u32 0, .int .u32 0, .int .u32 0, .int .u32 0, .int .u32 0, .int .u32 0, .int .u32 0, .int .u32 0, .int .u32 0, .int .u32 0, .int .u32 0, .int .u32 0, .int .u32 0, .int .u32 0, .int .u32 0, .int .u32 0, .int .u32 0, .int .u32 0, .int .u32 0, .int .u32 0, .int .u32 0, .int .u32 0, .int .u32 0, .int .u32 0, .int .u32 0, .int .u32 0, .int .u32 0, .int .u32 0, .int .u32 0, .int .u32 0, .int .u32 0, .int .u32 0, .int .u32 0, .int .u32 0, .int .u32 0, .int .u32 0, .int .u32 0, .int .u32 0, .int .u32 0, .int .u32 0, .int .u32 0], false, [], [.i .u32, .i .u32, .i .u32, .i .u32, .i .u32, .i .u32, .i .u32, .i .u32, .i .u32, .i .u32, .i .u32, .i .u32, .i .u32, .i .u32, .i .u32, .i .u32, .i .u32, .i .u32, .i .u32, .i .u32, .i .u32, .i .u32, .i .u32, .i .u32, .i .u32, .i .u32, .i .u32, .i .u32, .i .u32, .i .u32, .i .u32, .i .u32, .i .u32, .i .u32, .i .u32, .i .u32, .i .u32, .i .u32, .i .u32, .i .u32, .i .u32, .i .u32, .i .u32, .i .u32, .i .u32, .i .u32, .i .u32, .i .u32, .i .u32, .i .u32, .i .u32, .i .u32, .i .u32, .i .u32, .i .u32, .i .u32, .i .u32, .i .u32, .i .u32, .i .u32, .i .u32, .i .u32, .i .u32, .i .u32], 256⟩)]
theorem tabOk : TabOk Tryd.prog tab := (tab_cons tt2 (tab_cons tt3 (tab_cons tt4 (tab_cons tt5 (tab_cons tt9 (tab_cons tt12 (tab_cons tt21 (tab_cons tt22 (tab_cons tt23 (tab_cons tt24 (tab_cons tt25 (tab_cons tt26 (tab_cons tt28 (tab_cons tt31 (tab_cons tt32 (tab_cons tt42 (tab_cons tt43 (tab_cons tt44 (tab_cons tt56 (tab_cons tt61 (tab_cons tt74 (tab_cons tt75 (tab_cons tt80 (tab_cons tt92 (tab_cons tt93 (tab_cons tt97 (tab_cons tt99 (tab_cons tt101 tab_nil))))))))))))))))))))))))))))
instance laidRows : Laid Tryd.prog := ⟨[(0, [.int .u32 1116352408, .int .u32 1899447441, .int .u32 3049323471, .int .u32 3921009573, .int .u32 961987163, .int .u32 1508970993, .int .u32 2453635748, .int .u32 2870763221, .int .u32 3624381080, .int .u32 310598401, .int .u32 607225278, .int .u32 1426881987, .int .u32 1925078388, .int .u32 2162078206, .int .u32 2614888103, .int .u32 3248222580, .int .u32 3835390401, .int .u32 4022224774, .int .u32 264347078, .int .u32 604807628, .int .u32 770255983, .int .u32 1249150122, .int .u32 1555081692, .int .u32 1996064986, .int .u32 2554220882, .int .u32 2821834349, .int .u32 2952996808, .int .u32 3210313671, .int .u32 3336571891, .int .u32 3584528711, .int .u32 113926993, .int .u32 338241895, .int .u32 666307205, .int .u32 773529912, .int .u32 1294757372, .int .u32 1396182291, .int .u32 1695183700, .int .u32 1986661051, .int .u32 2177026350, .int .u32 2456956037, .int .u32 2730485921, .int .u32 2820302411, .int .u32 3259730800, .int .u32 3345764771, .int .u32 3516065817, .int .u32 3600352804, .int .u32 4094571909, .int .u32 275423344, .int .u32 430227734, .int .u32 506948616, .int .u32 659060556, .int .u32 883997877, .int .u32 958139571, .int .u32 1322822218, .int .u32 1537002063, .int .u32 1747873779, .int .u32 1955562222, .int .u32 2024104815, .int .u32 2227730452, .int .u32 2361852424, .int .u32 2428436474, .int .u32 2756734187, .int .u32 3204031479, .int .u32 3329325298], 101)]⟩
theorem mixed : Tryd.prog.follows .mixedOrders = true := by kernel_rfl
def bodyOf (f : Func) : Code :=
  match f.body with
  | some c => c
  | none => .skip
theorem noL {P : Program} [Laid P] {n : Nat} {c : Code} : ∀ p F, lookP ([] : List (List Nat × (St → List (Bool × Exit × St)))) p = some F → LoopOk P n (loopAt p c) F := by
  intro p F h; simp [lookP] at h
theorem noneL2 {C : Code} {n : Nat} {p : List Nat} : ∀ q F, lookP [(p, fun _ : St => ([] : List (Bool × Exit × St)))] q = some F → LoopOk Tryd.prog n (loopAt q C) F := by
  refine oneL ?_
  intro w0 R s a w hrel e' s' hp
  simp [pickL] at hp
end Go.Proofs.YtafeeiodgfgepaaDoor
/-
  Contracts of package limb, first part: sums, differences, comparisons.
-/
namespace Go.Proofs.YtafeeiodgfgepaaDoor
set_option maxRecDepth 100000
open Go.W
open Go.RowKit (Below)
noncomputable def eAdd64 : Array Value → Sem Value := (Extern.find Tryd.f24).getD fun _ => pure undef
noncomputable def eSub64 : Array Value → Sem Value := (Extern.find Tryd.f50).getD fun _ => pure undef
theorem Add64_find : Extern.find Tryd.f24 = some eAdd64 := by kernel_rfl
theorem Sub64_find : Extern.find Tryd.f50 = some eSub64 := by kernel_rfl
theorem Add64_next : Extern.findNext Tryd.f24 = none := by kernel_rfl
theorem Sub64_next : Extern.findNext Tryd.f50 = none := by kernel_rfl
theorem run_eAdd64 {P : Program} (k1 k2 k3 : IntKind) (x y : Int) : ∀ (c : Int), c.toNat ≤ 1 → ∀ w, (eAdd64 #[.int k1 x, .int k2 y, .int k3 c]).run P w = .ok (.tuple #[u64 (s64 x.toNat y.toNat c.toNat), u64 (c64 x.toNat y.toNat c.toNat)]) w
  | .ofNat 0, _, _ => rfl
  | .ofNat 1, _, _ => rfl
  | .ofNat (n + 2), h, _ => absurd h (by show ¬ (n + 2 ≤ 1); omega)
  | .negSucc n, _, _ => rfl
theorem run_eSub64 {P : Program} (k1 k2 k3 : IntKind) (x y : Int) : ∀ (c : Int), c.toNat ≤ 1 → ∀ w, (eSub64 #[.int k1 x, .int k2 y, .int k3 c]).run P w = .ok (.tuple #[u64 (d64 x.toNat y.toNat c.toNat), u64 (b64 x.toNat y.toNat c.toNat)]) w
  | .ofNat 0, _, _ => rfl
  | .ofNat 1, _, _ => rfl
  | .ofNat (n + 2), h, _ => absurd h (by show ¬ (n + 2 ≤ 1); omega)
  | .negSucc n, _, _ => rfl
theorem Add64_sum : Sum Tryd.prog 24 Add64F := by
  intro args v h hp w _
  unfold Add64F at h
  split at h
  · rename_i k1 x k2 y k3 c
    simp only [Option.some.injEq, Prod.mk.injEq, Nat.ble_eq] at h
    have hc := h.1
    rw [← h.2]
    unfold Invokes
    rw [run_callFunc_extern Tryd.func24 (by kernel_rfl) (by kernel_rfl) Add64_next Add64_find]
    rw [run_eAdd64 k1 k2 k3 x y c hc]
    exact ⟨rfl, Below.refl _ _⟩
  · simp at h
theorem Sub64_sum : Sum Tryd.prog 50 Sub64F := by
  intro args v h hp w _
  unfold Sub64F at h
  split at h
  · rename_i k1 x k2 y k3 c
    simp only [Option.some.injEq, Prod.mk.injEq, Nat.ble_eq] at h
    have hc := h.1
    rw [← h.2]
    unfold Invokes
    rw [run_callFunc_extern Tryd.func50 (by kernel_rfl) (by kernel_rfl) Sub64_next Sub64_find]
    rw [run_eSub64 k1 k2 k3 x y c hc]
    exact ⟨rfl, Below.refl _ _⟩
  · simp at h
def AddC : Cfg := ⟨tab, [(24, Add64F)], 26, []⟩
theorem AddOk : CfgOk Tryd.prog AddC (bodyOf Tryd.f53) := ⟨mixed, tabOk, sums_cons Add64_sum sums_nil, noL⟩
theorem Add_ev (x0 x1 x2 x3 y0 y1 y2 y3 : Nat) : fnS AddC 60 Tryd.f53 (bodyOf Tryd.f53) [numd x0 x1 x2 x3, numd y0 y1 y2 y3] = AddT x0 x1 x2 x3 y0 y1 y2 y3 := by kernel_rfl
theorem Add_sum : Sum Tryd.prog 53 AddF := by
  refine sum_of AddOk Tryd.func53 (by kernel_rfl) (by kernel_rfl) rfl (fuel := 60) fun args v h _ => ?_
  obtain ⟨X, Y, hX, hY, rfl, rfl⟩ := arg2 (f := fun x y => addV (unnum x) (unnum y)) h
  refine ⟨by show 2 ≤ Tryd.f53.ntmps; decide +kernel, ?_, rfl⟩
  obtain ⟨x0, x1, x2, x3, h0, h1, h2, h3, e1, e2⟩ := digits hX
  obtain ⟨y0, y1, y2, y3, k0, k1, k2, k3, e3, e4⟩ := digits hY
  rw [unnum_lt hX, unnum_lt hY, e2, e4, Add_ev, AddT_eq h0 h1 h2 h3 k0 k1 k2 k3, e1, e3]
def SubC : Cfg := ⟨tab, [(50, Sub64F)], 26, []⟩
theorem SubOk : CfgOk Tryd.prog SubC (bodyOf Tryd.f33) := ⟨mixed, tabOk, sums_cons Sub64_sum sums_nil, noL⟩
theorem Sub_ev (x0 x1 x2 x3 y0 y1 y2 y3 : Nat) : fnS SubC 60 Tryd.f33 (bodyOf Tryd.f33) [numd x0 x1 x2 x3, numd y0 y1 y2 y3] = SubT x0 x1 x2 x3 y0 y1 y2 y3 := by kernel_rfl
theorem Sub_sum : Sum Tryd.prog 33 SubF := by
  refine sum_of SubOk Tryd.func33 (by kernel_rfl) (by kernel_rfl) rfl (fuel := 60) fun args v h _ => ?_
  obtain ⟨X, Y, hX, hY, rfl, rfl⟩ := arg2 (f := fun x y => subV (unnum x) (unnum y)) h
  refine ⟨by show 2 ≤ Tryd.f33.ntmps; decide +kernel, ?_, rfl⟩
  obtain ⟨x0, x1, x2, x3, h0, h1, h2, h3, e1, e2⟩ := digits hX
  obtain ⟨y0, y1, y2, y3, k0, k1, k2, k3, e3, e4⟩ := digits hY
  rw [unnum_lt hX, unnum_lt hY, e2, e4, Sub_ev, SubT_eq h0 h1 h2 h3 k0 k1 k2 k3, e1, e3]
def CmpC : Cfg := ⟨tab, [], 24, []⟩
theorem CmpOk : CfgOk Tryd.prog CmpC (bodyOf Tryd.f46) := ⟨mixed, tabOk, sums_nil, noL⟩
theorem Cmp_ev (x0 x1 x2 x3 y0 y1 y2 y3 : Nat) : fnS CmpC 60 Tryd.f46 (bodyOf Tryd.f46) [numd x0 x1 x2 x3, numd y0 y1 y2 y3] = CmpT x0 x1 x2 x3 y0 y1 y2 y3 := by kernel_rfl
theorem Cmp_sum : Sum Tryd.prog 46 CmpF := by
  refine sum_of CmpOk Tryd.func46 (by kernel_rfl) (by kernel_rfl) rfl (fuel := 60) fun args v h _ => ?_
  obtain ⟨X, Y, hX, hY, rfl, rfl⟩ := arg2 (f := fun x y => i64 (cmpI (unnum x) (unnum y))) h
  refine ⟨by show 2 ≤ Tryd.f46.ntmps; decide +kernel, ?_, rfl⟩
  obtain ⟨x0, x1, x2, x3, h0, h1, h2, h3, e1, e2⟩ := digits hX
  obtain ⟨y0, y1, y2, y3, k0, k1, k2, k3, e3, e4⟩ := digits hY
  rw [unnum_lt hX, unnum_lt hY, e2, e4, Cmp_ev, CmpT_eq h0 h1 h2 k0 k1 k2, e1, e3]
end Go.Proofs.YtafeeiodgfgepaaDoor
/-
  Contracts of package limb, second part: products.
-/
namespace Go.Proofs.YtafeeiodgfgepaaDoor
set_option maxRecDepth 100000
open Go.W
open Go.RowKit (Below)
def Mul64C : Cfg := ⟨tab, [], 51, []⟩
theorem Mul64Ok : CfgOk Tryd.prog Mul64C (bodyOf Tryd.f52) := ⟨mixed, tabOk, sums_nil, noL⟩
theorem Mul64_ev (x y : Nat) : fnS Mul64C 60 Tryd.f52 (bodyOf Tryd.f52) [u64 x, u64 y] = Mul64T x y := by kernel_rfl
theorem Mul64_sum : Sum Tryd.prog 52 Mul64F := by
  refine sum_of Mul64Ok Tryd.func52 (by kernel_rfl) (by kernel_rfl) rfl (fuel := 60) fun args v h _ => ?_
  obtain ⟨x, y, hx, hy, rfl, rfl⟩ := argU2 (f := fun x y => mul64V (intN x) (intN y)) h
  refine ⟨by show 2 ≤ Tryd.f52.ntmps; decide +kernel, ?_, rfl⟩
  rw [Mul64_ev, Mul64T_eq hx hy]; rfl
def mulAddC : Cfg := ⟨tab, [(52, Mul64F), (24, Add64F)], 36, []⟩
theorem mulAddOk : CfgOk Tryd.prog mulAddC (bodyOf Tryd.f65) := ⟨mixed, tabOk, sums_cons Mul64_sum (sums_cons Add64_sum sums_nil), noL⟩
theorem mulAdd_ev (x y c d : Nat) : fnS mulAddC 60 Tryd.f65 (bodyOf Tryd.f65) [u64 x, u64 y, u64 c, u64 d] = mulAddT x y c d := by kernel_rfl
theorem mulAdd_sum : Sum Tryd.prog 65 mulAddF := by
  refine sum_of mulAddOk Tryd.func65 (by kernel_rfl) (by kernel_rfl) rfl (fuel := 60) fun args v h _ => ?_
  obtain ⟨x, y, c, d, hx, hy, hc, hd, rfl, rfl⟩ := argU4 (f := fun x y c d => mulAddV (intN x) (intN y) (intN c) (intN d)) h
  refine ⟨by show 4 ≤ Tryd.f65.ntmps; decide +kernel, ?_, rfl⟩
  rw [mulAdd_ev, mulAddT_eq hx hy hc hd]; rfl
def addRowC : Cfg := ⟨tab, [(65, mulAddF)], 58, []⟩
theorem addRowOk : CfgOk Tryd.prog addRowC (bodyOf Tryd.f51) := ⟨mixed, tabOk, sums_cons mulAdd_sum sums_nil, noL⟩
theorem addRow_ev (s0 s1 s2 s3 d b0 b1 b2 b3 : Nat) : fnS addRowC 60 Tryd.f51 (bodyOf Tryd.f51) [u64 s0, u64 s1, u64 s2, u64 s3, u64 d, numd b0 b1 b2 b3] = row5T s0 s1 s2 s3 d b0 b1 b2 b3 := by kernel_rfl
theorem addRow_sum : Sum Tryd.prog 51 row5F := by
  refine sum_of addRowOk Tryd.func51 (by kernel_rfl) (by kernel_rfl) rfl (fuel := 60) fun args v h _ => ?_
  unfold row5F at h
  split at h
  · simp only [Option.some.injEq, Prod.mk.injEq] at h
    obtain ⟨h1, rfl⟩ := h
    obtain ⟨x0, x1, x2, x3, y, Y, l0, l1, l2, l3, l4, l5, rfl, rfl, rfl, rfl, rfl, rfl⟩ := r5P_some h1
    obtain ⟨y0, y1, y2, y3, m0, m1, m2, m3, e3, e4⟩ := digits l5
    refine ⟨by show 6 ≤ Tryd.f51.ntmps; decide +kernel, ?_, rfl⟩
    rw [e4]
    exact (addRow_ev _ _ _ _ _ _ _ _ _).trans (row5T_eq l4 m0 m1 m2 m3 l0 l1 l2 l3)
  · simp at h
def MulC : Cfg := ⟨tab, [(51, row5F)], 76, []⟩
theorem MulOk : CfgOk Tryd.prog MulC (bodyOf Tryd.f36) := ⟨mixed, tabOk, sums_cons addRow_sum sums_nil, noL⟩
theorem Mul_ev (x0 x1 x2 x3 y0 y1 y2 y3 : Nat) : fnS MulC 60 Tryd.f36 (bodyOf Tryd.f36) [numd x0 x1 x2 x3, numd y0 y1 y2 y3] = mul5 (numd y0 y1 y2 y3) x0 x1 x2 x3 := by kernel_rfl
theorem Mul_sum : Sum Tryd.prog 36 MulF := by
  refine sum_of MulOk Tryd.func36 (by kernel_rfl) (by kernel_rfl) rfl (fuel := 60) fun args v h _ => ?_
  obtain ⟨X, Y, hX, hY, rfl, rfl⟩ := arg2 (f := fun x y => mulV (unnum x) (unnum y)) h
  obtain ⟨x0, x1, x2, x3, h0, h1, h2, h3, e1, e2⟩ := digits hX
  obtain ⟨y0, y1, y2, y3, k0, k1, k2, k3, e3, e4⟩ := digits hY
  refine ⟨by show 2 ≤ Tryd.f36.ntmps; decide +kernel, ?_, rfl⟩
  have key := mul5_eq h0 h1 h2 h3 hY
  rw [unnum_lt hX, unnum_lt hY, e2, e4]
  rw [e4, ← e1] at key
  exact (Mul_ev _ _ _ _ _ _ _ _).trans key
end Go.Proofs.YtafeeiodgfgepaaDoor
/-
  Contracts of package limb, third part: bits, and what is left.
-/
namespace Go.Proofs.YtafeeiodgfgepaaDoor
set_option maxRecDepth 100000
open Go.W
open Go.RowKit (Below)
def bitOf (v : Value) (r : Int) : Option Value :=
  binK tab .shr 22 v (.int .i64 r) (fun u => binK tab .and 22 u (.int .u64 1) (fun z => intK z (fun _ n => some (i64 (IntKind.i64.wrap n))) none) none) none
def BitT (a0 a1 a2 a3 : Nat) (i : Int) : Option Value :=
  bif decide (i < 0) then some (i64 0) else bif decide (i > 255) then some (i64 0) else
    bif inR (IntKind.i64.wrap (i.tdiv 64)) 4 then oK ([u64 a0, u64 a1, u64 a2, u64 a3][0 + (IntKind.i64.wrap (i.tdiv 64)).toNat * 1]?) (fun v => bitOf v (i.tmod 64)) none else none
def BitC : Cfg := ⟨tab, [], 20, []⟩
theorem BitOk : CfgOk Tryd.prog BitC (bodyOf Tryd.f26) := ⟨mixed, tabOk, sums_nil, noL⟩
theorem Bit_ev (a0 a1 a2 a3 : Nat) (i : Int) : fnS BitC 60 Tryd.f26 (bodyOf Tryd.f26) [numd a0 a1 a2 a3, i64 i] = BitT a0 a1 a2 a3 i := by kernel_rfl
theorem bitOf_eq {a r : Nat} (ha : a < 18446744073709551616) (hr : r < 64) : bitOf (u64 a) (r : Int) = some (i64 ((a / 2 ^ r % 2 : Nat) : Int)) := by
  rw [← u64_bit ha hr]
  have hn : decide ((r : Int) < 0) = false := decide_eq_false (by omega)
  unfold bitOf u64
  simp only [binK, intK, binI, hn, cond_false, decide_true, cond_true]
  rfl
theorem BitT_eq {a b c d : Nat} (ha : a < 18446744073709551616) (hb : b < 18446744073709551616) (hc : c < 18446744073709551616) (hd : d < 18446744073709551616) (i : Int) : BitT a b c d i = some (i64 (bitI (hor a b c d) i)) := by
  unfold BitT
  by_cases h0 : i < 0
  · rw [decide_eq_true h0, cond_true]
    unfold bitI; rw [if_neg (by omega)]
  · rw [decide_eq_false h0, cond_false]
    by_cases h1 : i > 255
    · rw [decide_eq_true h1, cond_true]
      unfold bitI; rw [if_neg (by omega)]
    · rw [decide_eq_false h1, cond_false]
      obtain ⟨n, rfl⟩ := Int.eq_ofNat_of_zero_le (by omega : 0 ≤ i)
      have e1 : (n : Int).tdiv 64 = ((n / 64 : Nat) : Int) := by rw [Int.tdiv_eq_ediv_of_nonneg (by omega)]; omega
      have e2 : (n : Int).tmod 64 = ((n % 64 : Nat) : Int) := by rw [Int.tmod_eq_emod_of_nonneg (by omega)]; omega
      have hq : n / 64 < 4 := by omega
      have hr : n % 64 < 64 := Nat.mod_lt _ (by decide)
      rw [e1, e2, wrap_i64 (by omega)]
      have hin : inR ((n / 64 : Nat) : Int) 4 = true := by simp only [inR, Bool.and_eq_true, decide_eq_true_eq]; omega
      rw [hin, cond_true, Int.toNat_natCast, bitI_nat (by omega), show n = 64 * (n / 64) + n % 64 from by omega, hor_bit ha hb hc _ _ hr hq]
      rw [← show n = 64 * (n / 64) + n % 64 from by omega, Nat.zero_add, Nat.mul_one]
      generalize n / 64 = q at hq
      match q, hq with
      | 0, _ => exact bitOf_eq ha hr
      | 1, _ => exact bitOf_eq hb hr
      | 2, _ => exact bitOf_eq hc hr
      | 3, _ => exact bitOf_eq hd hr
theorem Bit_sum : Sum Tryd.prog 26 BitF := by
  refine sum_of BitOk Tryd.func26 (by kernel_rfl) (by kernel_rfl) rfl (fuel := 60) fun args v h _ => ?_
  unfold BitF at h
  split at h
  · simp only [Option.some.injEq, Prod.mk.injEq] at h
    obtain ⟨h1, rfl⟩ := h
    obtain ⟨X, hX, rfl⟩ := isNum_some h1
    refine ⟨by show 2 ≤ Tryd.f26.ntmps; decide +kernel, ?_, rfl⟩
    obtain ⟨x0, x1, x2, x3, h0, h1, h2, h3, e1, e2⟩ := digits hX
    rw [unnum_lt hX, e2, e1]
    exact (Bit_ev _ _ _ _ _).trans (BitT_eq h0 h1 h2 h3 _)
  · simp at h
def takeBitC : Cfg := ⟨tab, [(53, AddF), (33, SubF)], 36, []⟩
theorem takeBitOk : CfgOk Tryd.prog takeBitC (bodyOf Tryd.f64) := ⟨mixed, tabOk, sums_cons Add_sum (sums_cons Sub_sum sums_nil), noL⟩
theorem takeBit_ev (l0 l1 l2 l3 : Nat) (b : Int) (m0 m1 m2 m3 : Nat) : fnS takeBitC 60 Tryd.f64 (bodyOf Tryd.f64) [numd l0 l1 l2 l3, .int .u64 b, numd m0 m1 m2 m3] =
    takeBitT (numd l0 l1 l2 l3) b (numd m0 m1 m2 m3) := by kernel_rfl
theorem takeBit_sum : Sum Tryd.prog 64 takeBitF := by
  refine sum_of takeBitOk Tryd.func64 (by kernel_rfl) (by kernel_rfl) rfl (fuel := 60) fun args v h _ => ?_
  unfold takeBitF at h
  split at h
  · simp only [Option.some.injEq, Prod.mk.injEq] at h
    obtain ⟨h1, rfl⟩ := h
    obtain ⟨L, b, M, rfl, rfl, rfl, hb, hL, hM⟩ := tbP_some h1
    refine ⟨by show 3 ≤ Tryd.f64.ntmps; decide +kernel, ?_, rfl⟩
    have hL' : L < 2 ^ 256 := by omega
    rw [unnum_lt hL', unnum_lt hM, Int.toNat_natCast]
    obtain ⟨x0, x1, x2, x3, h0, h1, h2, h3, e1, e2⟩ := digits hL'
    obtain ⟨y0, y1, y2, y3, k0, k1, k2, k3, e3, e4⟩ := digits hM
    rw [← takeBitT_eq hL hM hb, e2, e4]
    exact takeBit_ev _ _ _ _ _ _ _ _ _
  · simp at h
def tbsNt : List Nat := [3, 4, 5, 6, 7]
def tbsNi : List Nat := [0, 1, 2, 3]
def tbsSt (L a0 a1 a2 a3 m0 m1 m2 m3 : Nat) (i : Int) : St :=
  ⟨[(3, ptr 0), (4, ptr 1), (5, ptr 2), (6, ptr 3), (7, i64 i)],
   [(0, ⟨[u64 (dig L 0), u64 (dig L 1), u64 (dig L 2), u64 (dig L 3)], 24, true⟩), (1, ⟨[u64 a0, u64 a1, u64 a2, u64 a3], 24, true⟩), (2, ⟨[u64 m0, u64 m1, u64 m2, u64 m3], 24, true⟩),
    (3, ⟨[u64 0, u64 0, u64 0, u64 0], 24, true⟩)], 5⟩
def tbsC0 : Cfg := ⟨tab, [(26, BitF), (64, takeBitF)], 20, []⟩
theorem tbsOk0 : CfgOk Tryd.prog tbsC0 (bodyOf Tryd.f49) := ⟨mixed, tabOk, sums_cons Bit_sum (sums_cons takeBit_sum sums_nil), noL⟩
theorem tbs_at : codeAt [1, 0, 1, 0] (bodyOf Tryd.f49) = some (.loop (loopAt [1, 0, 1, 0] (bodyOf Tryd.f49))) := by kernel_rfl
theorem tbs_r (L a0 a1 a2 a3 m0 m1 m2 m3 : Nat) (i : Int) : roundS tbsC0 40 [1, 0, 1, 0, 0] (loopAt [1, 0, 1, 0] (bodyOf Tryd.f49)) tbsNt tbsNi 5 tbsNt tbsNi 5 (tbsSt L a0 a1 a2 a3 m0 m1 m2 m3 i) =
    bif decide (i ≥ 0) then (req (isNum (numd a0 a1 a2 a3)) <| req (tbP (num L) (IntKind.u64.wrap (bitI (unnum (numd a0 a1 a2 a3)) i)) (numd m0 m1 m2 m3)) <|
      some (.normal, tbsSt (tbN (unnum (num L)) (IntKind.u64.wrap (bitI (unnum (numd a0 a1 a2 a3)) i)).toNat (unnum (numd m0 m1 m2 m3))) a0 a1 a2 a3 m0 m1 m2 m3 (IntKind.i64.wrap (i - 1))))
    else some (.exit 0, tbsSt L a0 a1 a2 a3 m0 m1 m2 m3 i) := by kernel_rfl
noncomputable def tbsC (L a0 a1 a2 a3 m0 m1 m2 m3 L' : Nat) : Cfg := ⟨tab, [], 20, [([1, 0, 1, 0], atSt tbsNt tbsNi 5 (tbsSt L a0 a1 a2 a3 m0 m1 m2 m3 255) (.exit 0) (tbsSt L' a0 a1 a2 a3 m0 m1 m2 m3 (-1)))]⟩
theorem takeBits_ev (L a0 a1 a2 a3 m0 m1 m2 m3 L' : Nat) : fnS (tbsC L a0 a1 a2 a3 m0 m1 m2 m3 L') 60 Tryd.f49 (bodyOf Tryd.f49) [num L, numd a0 a1 a2 a3, numd m0 m1 m2 m3] =
    req (stEq (tbsSt L a0 a1 a2 a3 m0 m1 m2 m3 255) (tbsSt L a0 a1 a2 a3 m0 m1 m2 m3 255)) (some (num L')) := by kernel_rfl
theorem takeBits_sum : Sum Tryd.prog 49 takeBitsF := by
  intro args v h
  unfold takeBitsF at h
  split at h
  · simp only [Option.some.injEq, Prod.mk.injEq, tbsP, Bool.and_eq_true] at h
    obtain ⟨⟨⟨⟨h1, h2⟩, h3⟩, h4⟩, rfl⟩ := h
    obtain ⟨L, hL, rfl⟩ := isNum_some h1
    obtain ⟨A, hA, rfl⟩ := isNum_some h2
    obtain ⟨M, hM, rfl⟩ := isNum_some h3
    rw [unnum_lt hL, unnum_lt hM, Nat.blt_eq] at h4
    rw [unnum_lt hL, unnum_lt hA, unnum_lt hM]
    obtain ⟨a0, a1, a2, a3, p0, p1, p2, p3, e1, e2⟩ := digits hA
    obtain ⟨m0, m1, m2, m3, q0, q1, q2, q3, e3, e4⟩ := digits hM
    have hL : LoopOk Tryd.prog 20 (loopAt [1, 0, 1, 0] (bodyOf Tryd.f49)) (atSt tbsNt tbsNi 5 (tbsSt L a0 a1 a2 a3 m0 m1 m2 m3 255) (.exit 0) (tbsSt (tbK L A M 256) a0 a1 a2 a3 m0 m1 m2 m3 (-1))) := by
      refine atSt_ok fun w0 R a w hrel => ?_
      refine loop_rounds (R := R) (C := tbsC0) tbsOk0 tbs_at (m := 40) (nt := tbsNt) (ni := tbsNi) (et := tbsNt) (ei := tbsNi) (nx := 5) (ex := 5) (e := .exit 0) (sf := tbsSt (tbK L A M 256) a0 a1 a2 a3 m0 m1 m2 m3 (-1))
        (fun k => tbsSt (tbK L A M k) a0 a1 a2 a3 m0 m1 m2 m3 (255 - (k : Int))) 256 (by intro h; cases h) ?_ ?_ ?_
      · intro k hk
        refine (tbs_r _ _ _ _ _ _ _ _ _ _).trans ?_
        have hd : decide (255 - (k : Int) ≥ 0) = true := decide_eq_true (by omega)
        rw [hd, cond_true, ← e2, ← e4, isNum_num, req_true rfl, unnum_lt hA, unnum_lt hM]
        have hi : (255 - (k : Int)) = ((255 - k : Nat) : Int) := by omega
        rw [hi, bit_u64 (by omega), req_true (tbP_true (bitN_le _ _) (tbK_lt (by omega)) hM), Int.toNat_natCast, unnum_lt (Nat.lt_trans (tbK_lt (by omega : 0 < M)) hM), tbK_succ hk, wrap_i64 (by omega)]
        rw [show (((255 - k : Nat) : Int) - 1) = 255 - ((k + 1 : Nat) : Int) from by omega]
      · refine (tbs_r _ _ _ _ _ _ _ _ _ _).trans ?_
        have hd : decide (255 - ((256 : Nat) : Int) ≥ 0) = false := by decide
        rw [hd]; rfl
      · have : tbsSt (tbK L A M 0) a0 a1 a2 a3 m0 m1 m2 m3 (255 - ((0 : Nat) : Int)) = tbsSt L a0 a1 a2 a3 m0 m1 m2 m3 255 := by rw [tbK_zero hA h4]; rfl
        rw [this]; exact hrel
    have hOk : CfgOk Tryd.prog (tbsC L a0 a1 a2 a3 m0 m1 m2 m3 (tbK L A M 256)) (bodyOf Tryd.f49) := ⟨mixed, tabOk, sums_nil, oneL hL⟩
    refine sum_at hOk Tryd.func49 (by kernel_rfl) (by kernel_rfl) rfl (fuel := 60) (by show 3 ≤ Tryd.f49.ntmps; decide +kernel) ?_ rfl
    rw [e2, e4, takeBits_ev, req_true (stEq_refl rfl), tbK_last]
  · simp at h
def ModC : Cfg := ⟨tab, [(46, CmpF), (49, takeBitsF)], 26, []⟩
theorem ModOk : CfgOk Tryd.prog ModC (bodyOf Tryd.f30) := ⟨mixed, tabOk, sums_cons Cmp_sum (sums_cons takeBits_sum sums_nil), noL⟩
theorem Mod_ev (h0 h1 h2 h3 l0 l1 l2 l3 m0 m1 m2 m3 : Nat) : fnS ModC 60 Tryd.f30 (bodyOf Tryd.f30) [numd h0 h1 h2 h3, numd l0 l1 l2 l3, numd m0 m1 m2 m3] =
    ModT (numd h0 h1 h2 h3) (numd l0 l1 l2 l3) (numd m0 m1 m2 m3) (eqL [u64 m0, u64 m1, u64 m2, u64 m3] [u64 0, u64 0, u64 0, u64 0]) := by kernel_rfl
theorem Mod_sum : Sum Tryd.prog 30 ModF := by
  refine sum_of ModOk Tryd.func30 (by kernel_rfl) (by kernel_rfl) rfl (fuel := 60) fun args v h _ => ?_
  obtain ⟨H, L, M, hH, hL, hM, rfl, rfl⟩ := arg3 (f := fun x y z => modV (unnum x) (unnum y) (unnum z)) h
  refine ⟨by show 3 ≤ Tryd.f30.ntmps; decide +kernel, ?_, rfl⟩
  rw [unnum_lt hH, unnum_lt hL, unnum_lt hM, ← ModT_eq hH hL hM]
  have e0 := eq_num M 0
  obtain ⟨h0, h1, h2, h3, _, _, _, _, _, e2⟩ := digits hH
  obtain ⟨l0, l1, l2, l3, _, _, _, _, _, e4⟩ := digits hL
  obtain ⟨m0, m1, m2, m3, _, _, _, _, _, e6⟩ := digits hM
  rw [← e0, e2, e4, e6]
  exact Mod_ev _ _ _ _ _ _ _ _ _ _ _ _
end Go.Proofs.YtafeeiodgfgepaaDoor
/-
  Contracts of package limb, fourth part: lengths, bytes.
-/
namespace Go.Proofs.YtafeeiodgfgepaaDoor
set_option maxRecDepth 100000
open Go.W
open Go.RowKit (Below)
def Len64C : Cfg := ⟨tab, [], 25, []⟩
theorem Len64Ok : CfgOk Tryd.prog Len64C (bodyOf Tryd.f55) := ⟨mixed, tabOk, sums_nil, noL⟩
theorem Len64_ev (x : Nat) : fnS Len64C 60 Tryd.f55 (bodyOf Tryd.f55) [u64 x] = Len64T x := by kernel_rfl
theorem Len64_sum : Sum Tryd.prog 55 Len64F := by
  refine sum_of Len64Ok Tryd.func55 (by kernel_rfl) (by kernel_rfl) rfl (fuel := 60) fun args v h _ => ?_
  unfold Len64F at h
  split at h
  · simp only [Option.some.injEq, Prod.mk.injEq] at h
    obtain ⟨h1, rfl⟩ := h
    obtain ⟨x, hx, rfl⟩ := isU64_some h1
    exact ⟨by show 1 ≤ Tryd.f55.ntmps; decide +kernel, (Len64_ev x).trans (Len64T_eq hx), rfl⟩
  · simp at h
def LenC : Cfg := ⟨tab, [(55, Len64F)], 19, []⟩
theorem LenOk : CfgOk Tryd.prog LenC (bodyOf Tryd.f39) := ⟨mixed, tabOk, sums_cons Len64_sum sums_nil, noL⟩
theorem Len_ev (a b c d : Nat) : fnS LenC 60 Tryd.f39 (bodyOf Tryd.f39) [numd a b c d] = LenT a b c d := by kernel_rfl
theorem Len_sum : Sum Tryd.prog 39 LenF := by
  refine sum_of LenOk Tryd.func39 (by kernel_rfl) (by kernel_rfl) rfl (fuel := 60) fun args v h _ => ?_
  obtain ⟨X, hX, rfl, rfl⟩ := arg1 (f := fun x => i64 (bitLen (unnum x) : Int)) h
  refine ⟨by show 1 ≤ Tryd.f39.ntmps; decide +kernel, ?_, rfl⟩
  obtain ⟨a, b, c, d, h0, h1, h2, h3, e1, e2⟩ := digits hX
  rw [unnum_lt hX, e2, Len_ev, LenT_eq h0 h1 h2 h3, e1]
def BytesC : Cfg := ⟨tab, [], 24, []⟩
theorem BytesOk : CfgOk Tryd.prog BytesC (bodyOf Tryd.f25) := ⟨mixed, tabOk, sums_nil, noL⟩
theorem Bytes_ev (a b c d : Nat) : fnS BytesC 100 Tryd.f25 (bodyOf Tryd.f25) [numd a b c d] = BytesT a b c d := by kernel_rfl
theorem Bytes_sum : Sum Tryd.prog 25 BytesF := by
  refine sum_of BytesOk Tryd.func25 (by kernel_rfl) (by kernel_rfl) rfl (fuel := 100) fun args v h _ => ?_
  obtain ⟨X, hX, rfl, rfl⟩ := arg1 (f := fun x => bytesV (unnum x)) h
  refine ⟨by show 1 ≤ Tryd.f25.ntmps; decide +kernel, ?_, by kernel_rfl⟩
  obtain ⟨a, b, c, d, h0, h1, h2, h3, e1, e2⟩ := digits hX
  rw [unnum_lt hX, e2, Bytes_ev, BytesT_eq h0 h1 h2, e1]
end Go.Proofs.YtafeeiodgfgepaaDoor
/-
  Contracts of package limb, fifth part: bytes to a number.
-/
namespace Go.Proofs.YtafeeiodgfgepaaDoor
set_option maxRecDepth 100000
open Go.W
open Go.RowKit (Below)
def OfC : Cfg := ⟨tab, [], 28, []⟩
theorem OfOk : CfgOk Tryd.prog OfC (bodyOf Tryd.f31) := ⟨mixed, tabOk, sums_nil, noL⟩
theorem Of_ev (a0 a1 a2 a3 a4 a5 a6 a7 b0 b1 b2 b3 b4 b5 b6 b7 c0 c1 c2 c3 c4 c5 c6 c7 d0 d1 d2 d3 d4 d5 d6 d7 : Nat) : fnS OfC 100 Tryd.f31 (bodyOf Tryd.f31) [by32 a0 a1 a2 a3 a4 a5 a6 a7 b0 b1 b2 b3 b4 b5 b6 b7 c0 c1 c2 c3 c4 c5 c6 c7 d0 d1 d2 d3 d4 d5 d6 d7] = OfT a0 a1 a2 a3 a4 a5 a6 a7 b0 b1 b2 b3 b4 b5 b6 b7 c0 c1 c2 c3 c4 c5 c6 c7 d0 d1 d2 d3 d4 d5 d6 d7 := by kernel_rfl
theorem Of_sum : Sum Tryd.prog 31 OfF := by
  refine sum_of OfOk Tryd.func31 (by kernel_rfl) (by kernel_rfl) rfl (fuel := 100) fun args v h _ => ?_
  unfold OfF at h
  split at h
  · simp only [Option.some.injEq, Prod.mk.injEq] at h
    obtain ⟨h1, rfl⟩ := h
    obtain ⟨X, hX, rfl, h2⟩ := isB32_some h1
    refine ⟨by show 1 ≤ Tryd.f31.ntmps; decide +kernel, ?_, rfl⟩
    rw [h2]
    obtain ⟨a, b, c, d, k0, k1, k2, k3, e1, e2⟩ := digits hX
    rw [e2, e1, bytesV_by32 k0 k1 k2]
    refine (Of_ev (d / 2 ^ 56 % 256) (d / 2 ^ 48 % 256) (d / 2 ^ 40 % 256) (d / 2 ^ 32 % 256) (d / 2 ^ 24 % 256) (d / 2 ^ 16 % 256) (d / 2 ^ 8 % 256) (d % 256) (c / 2 ^ 56 % 256) (c / 2 ^ 48 % 256) (c / 2 ^ 40 % 256) (c / 2 ^ 32 % 256) (c / 2 ^ 24 % 256) (c / 2 ^ 16 % 256) (c / 2 ^ 8 % 256) (c % 256) (b / 2 ^ 56 % 256) (b / 2 ^ 48 % 256) (b / 2 ^ 40 % 256) (b / 2 ^ 32 % 256) (b / 2 ^ 24 % 256) (b / 2 ^ 16 % 256) (b / 2 ^ 8 % 256) (b % 256) (a / 2 ^ 56 % 256) (a / 2 ^ 48 % 256) (a / 2 ^ 40 % 256) (a / 2 ^ 32 % 256) (a / 2 ^ 24 % 256) (a / 2 ^ 16 % 256) (a / 2 ^ 8 % 256) (a % 256)).trans ?_
    unfold OfT
    rw [of8_dig k0, of8_dig k1, of8_dig k2, of8_dig k3]
    rfl
  · simp at h
end Go.Proofs.YtafeeiodgfgepaaDoor
