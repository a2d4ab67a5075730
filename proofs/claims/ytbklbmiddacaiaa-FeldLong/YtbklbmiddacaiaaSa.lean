/-
  Several texts in one.
-/
import Derived.Test.YtbklbmiddacaiaaChecked
import Derived.Test.YtbklbmiddacaiaaEe
import Derived.KernelRfl
import Derived.Test.YtbklbmiddacaiaaEb
import Derived.Laws.Externs
/-
  The types of this program, as the engine wants them.
-/
namespace Go.Proofs.Ytbklbmiddacaiaa
set_option maxRecDepth 100000
open Go.W

theorem tt2 : TOk Try.prog 2 ⟨.int .i64, 1, .int .i64 0, false, [], [.i .i64], 8⟩ := tok_eq (by kernel_rfl) (by kernel_rfl) (by kernel_rfl) (by kernel_rfl)
theorem tt3 : TOk Try.prog 3 ⟨.int .i64, 1, .int .i64 0, false, [], [.i .i64], 8⟩ := tok_eq (by kernel_rfl) (by kernel_rfl) (by kernel_rfl) (by kernel_rfl)
theorem tt4 : TOk Try.prog 4 ⟨.bool, 1, .bool false, false, [], [.b], 1⟩ := tok_eq (by kernel_rfl) (by kernel_rfl) (by kernel_rfl) (by kernel_rfl)
theorem tt5 : TOk Try.prog 5 ⟨.int .u8, 1, .int .u8 0, false, [], [.i .u8], 1⟩ := tok_eq (by kernel_rfl) (by kernel_rfl) (by kernel_rfl) (by kernel_rfl)
theorem tt9 : TOk Try.prog 9 ⟨.string, 1, .string ⟨#[]⟩, false, [], [.s], 16⟩ := tok_eq (by kernel_rfl) (by kernel_rfl) (by kernel_rfl) (by kernel_rfl)
theorem tt12 : TOk Try.prog 12 ⟨.int .u64, 1, .int .u64 0, false, [], [.i .u64], 8⟩ := tok_eq (by kernel_rfl) (by kernel_rfl) (by kernel_rfl) (by kernel_rfl)
theorem tt21 : TOk Try.prog 21 ⟨.int .i32, 1, .int .i32 0, false, [], [.i .i32], 4⟩ := tok_eq (by kernel_rfl) (by kernel_rfl) (by kernel_rfl) (by kernel_rfl)
theorem tt22 : TOk Try.prog 22 ⟨.slice 25, 1, .slice none 0 0, false, [], [], 24⟩ := tok_plain (by kernel_rfl) (by kernel_rfl)
theorem tt23 : TOk Try.prog 23 ⟨.int .u64, 1, .int .u64 0, false, [], [.i .u64], 8⟩ := tok_eq (by kernel_rfl) (by kernel_rfl) (by kernel_rfl) (by kernel_rfl)
theorem tt24 : TOk Try.prog 24 ⟨.array 4 23, 4, .agg #[.int .u64 0, .int .u64 0, .int .u64 0, .int .u64 0], false, [], [.i .u64, .i .u64, .i .u64, .i .u64], 32⟩ := tok_eq (by kernel_rfl) (by kernel_rfl) (by kernel_rfl) (by kernel_rfl)
theorem tt25 : TOk Try.prog 25 ⟨.array 4 23, 4, .agg #[.int .u64 0, .int .u64 0, .int .u64 0, .int .u64 0], false, [], [.i .u64, .i .u64, .i .u64, .i .u64], 32⟩ := tok_eq (by kernel_rfl) (by kernel_rfl) (by kernel_rfl) (by kernel_rfl)
theorem tt26 : TOk Try.prog 26 ⟨.slice 29, 1, .slice none 0 0, false, [], [], 24⟩ := tok_plain (by kernel_rfl) (by kernel_rfl)
theorem tt28 : TOk Try.prog 28 ⟨.bool, 8, .agg #[.int .u64 0, .int .u64 0, .int .u64 0, .int .u64 0, .int .u64 0, .int .u64 0, .int .u64 0, .int .u64 0], true, [(0, 25), (4, 25)], [.i .u64, .i .u64, .i .u64, .i .u64, .i .u64, .i .u64, .i .u64, .i .u64], 64⟩ := tok_structE (by kernel_rfl) (by kernel_rfl) (by kernel_rfl) (by kernel_rfl)
theorem tt29 : TOk Try.prog 29 ⟨.bool, 8, .agg #[.int .u64 0, .int .u64 0, .int .u64 0, .int .u64 0, .int .u64 0, .int .u64 0, .int .u64 0, .int .u64 0], true, [(0, 25), (4, 25)], [.i .u64, .i .u64, .i .u64, .i .u64, .i .u64, .i .u64, .i .u64, .i .u64], 64⟩ := tok_structE (by kernel_rfl) (by kernel_rfl) (by kernel_rfl) (by kernel_rfl)
theorem tt32 : TOk Try.prog 32 ⟨.int .i64, 1, .int .i64 0, false, [], [.i .i64], 8⟩ := tok_eq (by kernel_rfl) (by kernel_rfl) (by kernel_rfl) (by kernel_rfl)
theorem tt40 : TOk Try.prog 40 ⟨.slice 45, 1, .slice none 0 0, false, [], [], 24⟩ := tok_plain (by kernel_rfl) (by kernel_rfl)
theorem tt44 : TOk Try.prog 44 ⟨.bool, 9, .agg #[.bool false, .int .u64 0, .int .u64 0, .int .u64 0, .int .u64 0, .int .u64 0, .int .u64 0, .int .u64 0, .int .u64 0], true, [(0, 4), (1, 25), (5, 25)], [.b, .i .u64, .i .u64, .i .u64, .i .u64, .i .u64, .i .u64, .i .u64, .i .u64], 72⟩ := tok_structE (by kernel_rfl) (by kernel_rfl) (by kernel_rfl) (by kernel_rfl)
theorem tt45 : TOk Try.prog 45 ⟨.bool, 9, .agg #[.bool false, .int .u64 0, .int .u64 0, .int .u64 0, .int .u64 0, .int .u64 0, .int .u64 0, .int .u64 0, .int .u64 0], true, [(0, 4), (1, 25), (5, 25)], [.b, .i .u64, .i .u64, .i .u64, .i .u64, .i .u64, .i .u64, .i .u64, .i .u64], 72⟩ := tok_structE (by kernel_rfl) (by kernel_rfl) (by kernel_rfl) (by kernel_rfl)
theorem tt60 : TOk Try.prog 60 ⟨.slice 40, 1, .slice none 0 0, false, [], [], 24⟩ := tok_plain (by kernel_rfl) (by kernel_rfl)
theorem tt88 : TOk Try.prog 88 ⟨.bool, 12, .agg #[.int .u64 0, .int .u64 0, .int .u64 0, .int .u64 0, .int .u64 0, .int .u64 0, .int .u64 0, .int .u64 0, .int .u64 0, .int .u64 0, .int .u64 0, .int .u64 0], true, [(0, 25), (4, 25), (8, 25)], [.i .u64, .i .u64, .i .u64, .i .u64, .i .u64, .i .u64, .i .u64, .i .u64, .i .u64, .i .u64, .i .u64, .i .u64], 96⟩ := tok_structE (by kernel_rfl) (by kernel_rfl) (by kernel_rfl) (by kernel_rfl)
theorem tt89 : TOk Try.prog 89 ⟨.bool, 12, .agg #[.int .u64 0, .int .u64 0, .int .u64 0, .int .u64 0, .int .u64 0, .int .u64 0, .int .u64 0, .int .u64 0, .int .u64 0, .int .u64 0, .int .u64 0, .int .u64 0], true, [(0, 25), (4, 25), (8, 25)], [.i .u64, .i .u64, .i .u64, .i .u64, .i .u64, .i .u64, .i .u64, .i .u64, .i .u64, .i .u64, .i .u64, .i .u64], 96⟩ := tok_structE (by kernel_rfl) (by kernel_rfl) (by kernel_rfl) (by kernel_rfl)
theorem tt93 : TOk Try.prog 93 ⟨.bool, 12, .agg #[.int .u64 0, .int .u64 0, .int .u64 0, .int .u64 0, .int .u64 0, .int .u64 0, .int .u64 0, .int .u64 0, .int .u64 0, .int .u64 0, .int .u64 0, .int .u64 0], true, [(0, 25), (4, 25), (8, 25)], [.i .u64, .i .u64, .i .u64, .i .u64, .i .u64, .i .u64, .i .u64, .i .u64, .i .u64, .i .u64, .i .u64, .i .u64], 96⟩ := tok_structE (by kernel_rfl) (by kernel_rfl) (by kernel_rfl) (by kernel_rfl)
theorem tt94 : TOk Try.prog 94 ⟨.bool, 12, .agg #[.int .u64 0, .int .u64 0, .int .u64 0, .int .u64 0, .int .u64 0, .int .u64 0, .int .u64 0, .int .u64 0, .int .u64 0, .int .u64 0, .int .u64 0, .int .u64 0], true, [(0, 25), (4, 25), (8, 25)], [.i .u64, .i .u64, .i .u64, .i .u64, .i .u64, .i .u64, .i .u64, .i .u64, .i .u64, .i .u64, .i .u64, .i .u64], 96⟩ := tok_structE (by kernel_rfl) (by kernel_rfl) (by kernel_rfl) (by kernel_rfl)
theorem tt111 : TOk Try.prog 111 ⟨.array 8 23, 8, .agg #[.int .u64 0, .int .u64 0, .int .u64 0, .int .u64 0, .int .u64 0, .int .u64 0, .int .u64 0, .int .u64 0], false, [], [.i .u64, .i .u64, .i .u64, .i .u64, .i .u64, .i .u64, .i .u64, .i .u64], 64⟩ := tok_eq (by kernel_rfl) (by kernel_rfl) (by kernel_rfl) (by kernel_rfl)
theorem tt112 : TOk Try.prog 112 ⟨.int .u64, 1, .int .u64 0, false, [], [.i .u64], 8⟩ := tok_eq (by kernel_rfl) (by kernel_rfl) (by kernel_rfl) (by kernel_rfl)
theorem tt121 : TOk Try.prog 121 ⟨.int .u32, 1, .int .u32 0, false, [], [.i .u32], 4⟩ := tok_eq (by kernel_rfl) (by kernel_rfl) (by kernel_rfl) (by kernel_rfl)

def tab : Tab := [(2, ⟨.int .i64, 1, .int .i64 0, false, [], [.i .i64], 8⟩),
  (3, ⟨.int .i64, 1, .int .i64 0, false, [], [.i .i64], 8⟩),
  (4, ⟨.bool, 1, .bool false, false, [], [.b], 1⟩),
  (5, ⟨.int .u8, 1, .int .u8 0, false, [], [.i .u8], 1⟩),
  (9, ⟨.string, 1, .string ⟨#[]⟩, false, [], [.s], 16⟩),
  (12, ⟨.int .u64, 1, .int .u64 0, false, [], [.i .u64], 8⟩),
  (21, ⟨.int .i32, 1, .int .i32 0, false, [], [.i .i32], 4⟩),
  (22, ⟨.slice 25, 1, .slice none 0 0, false, [], [], 24⟩),
  (23, ⟨.int .u64, 1, .int .u64 0, false, [], [.i .u64], 8⟩),
  (24, ⟨.array 4 23, 4, .agg #[.int .u64 0, .int .u64 0, .int .u64 0, .int .u64 0], false, [], [.i .u64, .i .u64, .i .u64, .i .u64], 32⟩),
  (25, ⟨.array 4 23, 4, .agg #[.int .u64 0, .int .u64 0, .int .u64 0, .int .u64 0], false, [], [.i .u64, .i .u64, .i .u64, .i .u64], 32⟩),
  (26, ⟨.slice 29, 1, .slice none 0 0, false, [], [], 24⟩),
  (28, ⟨.bool, 8, .agg #[.int .u64 0, .int .u64 0, .int .u64 0, .int .u64 0, .int .u64 0, .int .u64 0, .int .u64 0, .int .u64 0], true, [(0, 25), (4, 25)], [.i .u64, .i .u64, .i .u64, .i .u64, .i .u64, .i .u64, .i .u64, .i .u64], 64⟩),
  (29, ⟨.bool, 8, .agg #[.int .u64 0, .int .u64 0, .int .u64 0, .int .u64 0, .int .u64 0, .int .u64 0, .int .u64 0, .int .u64 0], true, [(0, 25), (4, 25)], [.i .u64, .i .u64, .i .u64, .i .u64, .i .u64, .i .u64, .i .u64, .i .u64], 64⟩),
  (32, ⟨.int .i64, 1, .int .i64 0, false, [], [.i .i64], 8⟩),
  (40, ⟨.slice 45, 1, .slice none 0 0, false, [], [], 24⟩),
  (44, ⟨.bool, 9, .agg #[.bool false, .int .u64 0, .int .u64 0, .int .u64 0, .int .u64 0, .int .u64 0, .int .u64 0, .int .u64 0, .int .u64 0], true, [(0, 4), (1, 25), (5, 25)], [.b, .i .u64, .i .u64, .i .u64, .i .u64, .i .u64, .i .u64, .i .u64, .i .u64], 72⟩),
  (45, ⟨.bool, 9, .agg #[.bool false, .int .u64 0, .int .u64 0, .int .u64 0, .int .u64 0, .int .u64 0, .int .u64 0, .int .u64 0, .int .u64 0], true, [(0, 4), (1, 25), (5, 25)], [.b, .i .u64, .i .u64, .i .u64, .i .u64, .i .u64, .i .u64, .i .u64, .i .u64], 72⟩),
  (60, ⟨.slice 40, 1, .slice none 0 0, false, [], [], 24⟩),
  (88, ⟨.bool, 12, .agg #[.int .u64 0, .int .u64 0, .int .u64 0, .int .u64 0, .int .u64 0, .int .u64 0, .int .u64 0, .int .u64 0, .int .u64 0, .int .u64 0, .int .u64 0, .int .u64 0], true, [(0, 25), (4, 25), (8, 25)], [.i .u64, .i .u64, .i .u64, .i .u64, .i .u64, .i .u64, .i .u64, .i .u64, .i .u64, .i .u64, .i .u64, .i .u64], 96⟩),
  (89, ⟨.bool, 12, .agg #[.int .u64 0, .int .u64 0, .int .u64 0, .int .u64 0, .int .u64 0, .int .u64 0, .int .u64 0, .int .u64 0, .int .u64 0, .int .u64 0, .int .u64 0, .int .u64 0], true, [(0, 25), (4, 25), (8, 25)], [.i .u64, .i .u64, .i .u64, .i .u64, .i .u64, .i .u64, .i .u64, .i .u64, .i .u64, .i .u64, .i .u64, .i .u64], 96⟩),
  (93, ⟨.bool, 12, .agg #[.int .u64 0, .int .u64 0, .int .u64 0, .int .u64 0, .int .u64 0, .int .u64 0, .int .u64 0, .int .u64 0, .int .u64 0, .int .u64 0, .int .u64 0, .int .u64 0], true, [(0, 25), (4, 25), (8, 25)], [.i .u64, .i .u64, .i .u64, .i .u64, .i .u64, .i .u64, .i .u64, .i .u64, .i .u64, .i .u64, .i .u64, .i .u64], 96⟩),
  (94, ⟨.bool, 12, .agg #[.int .u64 0, .int .u64 0, .int .u64 0, .int .u64 0, .int .u64 0, .int .u64 0, .int .u64 0, .int .u64 0, .int .u64 0, .int .u64 0, .int .u64 0, .int .u64 0], true, [(0, 25), (4, 25), (8, 25)], [.i .u64, .i .u64, .i .u64, .i .u64, .i .u64, .i .u64, .i .u64, .i .u64, .i .u64, .i .u64, .i .u64, .i .u64], 96⟩),
  (111, ⟨.array 8 23, 8, .agg #[.int .u64 0, .int .u64 0, .int .u64 0, .int .u64 0, .int .u64 0, .int .u64 0, .int .u64 0, .int .u64 0], false, [], [.i .u64, .i .u64, .i .u64, .i .u64, .i .u64, .i .u64, .i .u64, .i .u64], 64⟩),
  (112, ⟨.int .u64, 1, .int .u64 0, false, [], [.i .u64], 8⟩),
  (121, ⟨.int .u32, 1, .int .u32 0, false, [], [.i .u32], 4⟩)]
theorem tabOk : TabOk Try.prog tab := (tab_cons tt2 (tab_cons tt3 (tab_cons tt4 (tab_cons tt5 (tab_cons tt9 (tab_cons tt12 (tab_cons tt21 (tab_cons tt22 (tab_cons tt23 (tab_cons tt24 (tab_cons tt25 (tab_cons tt26 (tab_cons tt28 (tab_cons tt29 (tab_cons tt32 (tab_cons tt40 (tab_cons tt44 (tab_cons tt45 (tab_cons tt60 (tab_cons tt88 (tab_cons tt89 (tab_cons tt93 (tab_cons tt94 (tab_cons tt111 (tab_cons tt112 (tab_cons tt121 tab_nil))))))))))))))))))))))))))

instance laidRows : Laid Try.prog := ⟨[]⟩
theorem mixed : Try.prog.follows .mixedOrders = true := by kernel_rfl
def bodyOf (f : Func) : Code :=
  match f.body with
  | some c => c
  | none => .skip

theorem noL {P : Program} [Laid P] {n : Nat} {c : Code} : ∀ p F, lookP ([] : List (List Nat × (St → List (Bool × Exit × St)))) p = some F → LoopOk P n (loopAt p c) F := by
  intro p F h; simp [lookP] at h

theorem noneL2 {C : Code} {n : Nat} {p : List Nat} : ∀ q F, lookP [(p, fun _ : St => ([] : List (Bool × Exit × St)))] q = some F → LoopOk Try.prog n (loopAt q C) F := by
  refine oneL ?_
  intro w0 R s a w hrel e' s' hp
  simp [pickL] at hp

end Go.Proofs.Ytbklbmiddacaiaa

/-
  Contracts of package limb, first part: sums, differences, comparisons.
-/
namespace Go.Proofs.Ytbklbmiddacaiaa
set_option maxRecDepth 100000
open Go.W
open Go.RowKit (Below)

noncomputable def eAdd64 : Array Value → Sem Value := (Extern.find Try.f110).getD fun _ => pure undef
noncomputable def eSub64 : Array Value → Sem Value := (Extern.find Try.f104).getD fun _ => pure undef

theorem Add64_find : Extern.find Try.f110 = some eAdd64 := by kernel_rfl
theorem Sub64_find : Extern.find Try.f104 = some eSub64 := by kernel_rfl
theorem Add64_next : Extern.findNext Try.f110 = none := by kernel_rfl
theorem Sub64_next : Extern.findNext Try.f104 = none := by kernel_rfl

theorem run_eAdd64 {P : Program} (k1 k2 k3 : IntKind) (x y : Int) : ∀ (c : Int), c.toNat ≤ 1 → ∀ w, (eAdd64 #[.int k1 x, .int k2 y, .int k3 c]).run P w = .ok (.tuple #[u64 (s64 x.toNat y.toNat c.toNat), u64 (c64 x.toNat y.toNat c.toNat)]) w
  | .ofNat 0, _, _ => rfl
  | .ofNat 1, _, _ => rfl
  | .ofNat (n + 2), h, _ => absurd h (by show ¬ (n + 2 ≤ 1); omega)
  | .negSucc n, _, _ => rfl

theorem run_eSub64 {P : Program} (k1 k2 k3 : IntKind) (x y : Int) : ∀ (c : Int), c.toNat ≤ 1 → ∀ w, (eSub64 #[.int k1 x, .int k2 y, .int k3 c]).run P w = .ok (.tuple #[u64 (d64 x.toNat y.toNat c.toNat), u64 (b64 x.toNat y.toNat c.toNat)]) w
  | .ofNat 0, _, _ => rfl
  | .ofNat 1, _, _ => rfl
  | .ofNat (n + 2), h, _ => absurd h (by show ¬ (n + 2 ≤ 1); omega)
  | .negSucc n, _, _ => rfl

theorem Add64_sum : Sum Try.prog 110 Add64F := by
  intro args v h hp w _
  unfold Add64F at h
  split at h
  · rename_i k1 x k2 y k3 c
    simp only [Option.some.injEq, Prod.mk.injEq, Nat.ble_eq] at h
    have hc := h.1
    rw [← h.2]
    unfold Invokes
    rw [run_callFunc_extern Try.func110 (by kernel_rfl) (by kernel_rfl) Add64_next Add64_find]
    rw [run_eAdd64 k1 k2 k3 x y c hc]
    exact ⟨rfl, Below.refl _ _⟩
  · simp at h

theorem Sub64_sum : Sum Try.prog 104 Sub64F := by
  intro args v h hp w _
  unfold Sub64F at h
  split at h
  · rename_i k1 x k2 y k3 c
    simp only [Option.some.injEq, Prod.mk.injEq, Nat.ble_eq] at h
    have hc := h.1
    rw [← h.2]
    unfold Invokes
    rw [run_callFunc_extern Try.func104 (by kernel_rfl) (by kernel_rfl) Sub64_next Sub64_find]
    rw [run_eSub64 k1 k2 k3 x y c hc]
    exact ⟨rfl, Below.refl _ _⟩
  · simp at h

def AddC : Cfg := ⟨tab, [(110, Add64F)], 26, []⟩
theorem AddOk : CfgOk Try.prog AddC (bodyOf Try.f87) := ⟨mixed, tabOk, sums_cons Add64_sum sums_nil, noL⟩
theorem Add_ev (x0 x1 x2 x3 y0 y1 y2 y3 : Nat) : fnS AddC 60 Try.f87 (bodyOf Try.f87) [numd x0 x1 x2 x3, numd y0 y1 y2 y3] = AddT x0 x1 x2 x3 y0 y1 y2 y3 := by kernel_rfl
theorem Add_sum : Sum Try.prog 87 AddF := by
  refine sum_of AddOk Try.func87 (by kernel_rfl) (by kernel_rfl) rfl (fuel := 60) fun args v h _ => ?_
  obtain ⟨X, Y, hX, hY, rfl, rfl⟩ := arg2 (f := fun x y => addV (unnum x) (unnum y)) h
  refine ⟨by show 2 ≤ Try.f87.ntmps; decide +kernel, ?_, rfl⟩
  obtain ⟨x0, x1, x2, x3, h0, h1, h2, h3, e1, e2⟩ := digits hX
  obtain ⟨y0, y1, y2, y3, k0, k1, k2, k3, e3, e4⟩ := digits hY
  rw [unnum_lt hX, unnum_lt hY, e2, e4, Add_ev, AddT_eq h0 h1 h2 h3 k0 k1 k2 k3, e1, e3]

def SubC : Cfg := ⟨tab, [(104, Sub64F)], 26, []⟩
theorem SubOk : CfgOk Try.prog SubC (bodyOf Try.f86) := ⟨mixed, tabOk, sums_cons Sub64_sum sums_nil, noL⟩
theorem Sub_ev (x0 x1 x2 x3 y0 y1 y2 y3 : Nat) : fnS SubC 60 Try.f86 (bodyOf Try.f86) [numd x0 x1 x2 x3, numd y0 y1 y2 y3] = SubT x0 x1 x2 x3 y0 y1 y2 y3 := by kernel_rfl
theorem Sub_sum : Sum Try.prog 86 SubF := by
  refine sum_of SubOk Try.func86 (by kernel_rfl) (by kernel_rfl) rfl (fuel := 60) fun args v h _ => ?_
  obtain ⟨X, Y, hX, hY, rfl, rfl⟩ := arg2 (f := fun x y => subV (unnum x) (unnum y)) h
  refine ⟨by show 2 ≤ Try.f86.ntmps; decide +kernel, ?_, rfl⟩
  obtain ⟨x0, x1, x2, x3, h0, h1, h2, h3, e1, e2⟩ := digits hX
  obtain ⟨y0, y1, y2, y3, k0, k1, k2, k3, e3, e4⟩ := digits hY
  rw [unnum_lt hX, unnum_lt hY, e2, e4, Sub_ev, SubT_eq h0 h1 h2 h3 k0 k1 k2 k3, e1, e3]

def CmpC : Cfg := ⟨tab, [], 24, []⟩
theorem CmpOk : CfgOk Try.prog CmpC (bodyOf Try.f115) := ⟨mixed, tabOk, sums_nil, noL⟩
theorem Cmp_ev (x0 x1 x2 x3 y0 y1 y2 y3 : Nat) : fnS CmpC 60 Try.f115 (bodyOf Try.f115) [numd x0 x1 x2 x3, numd y0 y1 y2 y3] = CmpT x0 x1 x2 x3 y0 y1 y2 y3 := by kernel_rfl
theorem Cmp_sum : Sum Try.prog 115 CmpF := by
  refine sum_of CmpOk Try.func115 (by kernel_rfl) (by kernel_rfl) rfl (fuel := 60) fun args v h _ => ?_
  obtain ⟨X, Y, hX, hY, rfl, rfl⟩ := arg2 (f := fun x y => i64 (cmpI (unnum x) (unnum y))) h
  refine ⟨by show 2 ≤ Try.f115.ntmps; decide +kernel, ?_, rfl⟩
  obtain ⟨x0, x1, x2, x3, h0, h1, h2, h3, e1, e2⟩ := digits hX
  obtain ⟨y0, y1, y2, y3, k0, k1, k2, k3, e3, e4⟩ := digits hY
  rw [unnum_lt hX, unnum_lt hY, e2, e4, Cmp_ev, CmpT_eq h0 h1 h2 k0 k1 k2, e1, e3]

end Go.Proofs.Ytbklbmiddacaiaa

/-
  Contracts of package limb, second part: products.
-/
namespace Go.Proofs.Ytbklbmiddacaiaa
set_option maxRecDepth 100000
open Go.W
open Go.RowKit (Below)

def Mul64C : Cfg := ⟨tab, [], 51, []⟩
theorem Mul64Ok : CfgOk Try.prog Mul64C (bodyOf Try.f118) := ⟨mixed, tabOk, sums_nil, noL⟩
theorem Mul64_ev (x y : Nat) : fnS Mul64C 60 Try.f118 (bodyOf Try.f118) [u64 x, u64 y] = Mul64T x y := by kernel_rfl
theorem Mul64_sum : Sum Try.prog 118 Mul64F := by
  refine sum_of Mul64Ok Try.func118 (by kernel_rfl) (by kernel_rfl) rfl (fuel := 60) fun args v h _ => ?_
  obtain ⟨x, y, hx, hy, rfl, rfl⟩ := argU2 (f := fun x y => mul64V (intN x) (intN y)) h
  refine ⟨by show 2 ≤ Try.f118.ntmps; decide +kernel, ?_, rfl⟩
  rw [Mul64_ev, Mul64T_eq hx hy]; rfl

def mulAddC : Cfg := ⟨tab, [(118, Mul64F), (110, Add64F)], 36, []⟩
theorem mulAddOk : CfgOk Try.prog mulAddC (bodyOf Try.f119) := ⟨mixed, tabOk, sums_cons Mul64_sum (sums_cons Add64_sum sums_nil), noL⟩
theorem mulAdd_ev (x y c d : Nat) : fnS mulAddC 60 Try.f119 (bodyOf Try.f119) [u64 x, u64 y, u64 c, u64 d] = mulAddT x y c d := by kernel_rfl
theorem mulAdd_sum : Sum Try.prog 119 mulAddF := by
  refine sum_of mulAddOk Try.func119 (by kernel_rfl) (by kernel_rfl) rfl (fuel := 60) fun args v h _ => ?_
  obtain ⟨x, y, c, d, hx, hy, hc, hd, rfl, rfl⟩ := argU4 (f := fun x y c d => mulAddV (intN x) (intN y) (intN c) (intN d)) h
  refine ⟨by show 4 ≤ Try.f119.ntmps; decide +kernel, ?_, rfl⟩
  rw [mulAdd_ev, mulAddT_eq hx hy hc hd]; rfl

def addRowC : Cfg := ⟨tab, [(119, mulAddF)], 58, []⟩
theorem addRowOk : CfgOk Try.prog addRowC (bodyOf Try.f117) := ⟨mixed, tabOk, sums_cons mulAdd_sum sums_nil, noL⟩
theorem addRow_ev (s0 s1 s2 s3 d b0 b1 b2 b3 : Nat) : fnS addRowC 60 Try.f117 (bodyOf Try.f117) [u64 s0, u64 s1, u64 s2, u64 s3, u64 d, numd b0 b1 b2 b3] = row5T s0 s1 s2 s3 d b0 b1 b2 b3 := by kernel_rfl
theorem addRow_sum : Sum Try.prog 117 row5F := by
  refine sum_of addRowOk Try.func117 (by kernel_rfl) (by kernel_rfl) rfl (fuel := 60) fun args v h _ => ?_
  unfold row5F at h
  split at h
  · simp only [Option.some.injEq, Prod.mk.injEq] at h
    obtain ⟨h1, rfl⟩ := h
    obtain ⟨x0, x1, x2, x3, y, Y, l0, l1, l2, l3, l4, l5, rfl, rfl, rfl, rfl, rfl, rfl⟩ := r5P_some h1
    obtain ⟨y0, y1, y2, y3, m0, m1, m2, m3, e3, e4⟩ := digits l5
    refine ⟨by show 6 ≤ Try.f117.ntmps; decide +kernel, ?_, rfl⟩
    rw [e4]
    exact (addRow_ev _ _ _ _ _ _ _ _ _).trans (row5T_eq l4 m0 m1 m2 m3 l0 l1 l2 l3)
  · simp at h

def MulC : Cfg := ⟨tab, [(117, row5F)], 76, []⟩
theorem MulOk : CfgOk Try.prog MulC (bodyOf Try.f98) := ⟨mixed, tabOk, sums_cons addRow_sum sums_nil, noL⟩
theorem Mul_ev (x0 x1 x2 x3 y0 y1 y2 y3 : Nat) : fnS MulC 60 Try.f98 (bodyOf Try.f98) [numd x0 x1 x2 x3, numd y0 y1 y2 y3] = mul5 (numd y0 y1 y2 y3) x0 x1 x2 x3 := by kernel_rfl
theorem Mul_sum : Sum Try.prog 98 MulF := by
  refine sum_of MulOk Try.func98 (by kernel_rfl) (by kernel_rfl) rfl (fuel := 60) fun args v h _ => ?_
  obtain ⟨X, Y, hX, hY, rfl, rfl⟩ := arg2 (f := fun x y => mulV (unnum x) (unnum y)) h
  obtain ⟨x0, x1, x2, x3, h0, h1, h2, h3, e1, e2⟩ := digits hX
  obtain ⟨y0, y1, y2, y3, k0, k1, k2, k3, e3, e4⟩ := digits hY
  refine ⟨by show 2 ≤ Try.f98.ntmps; decide +kernel, ?_, rfl⟩
  have key := mul5_eq h0 h1 h2 h3 hY
  rw [unnum_lt hX, unnum_lt hY, e2, e4]
  rw [e4, ← e1] at key
  exact (Mul_ev _ _ _ _ _ _ _ _).trans key

end Go.Proofs.Ytbklbmiddacaiaa

/-
  Contracts of package limb, third part: bits, and what is left.
-/
namespace Go.Proofs.Ytbklbmiddacaiaa
set_option maxRecDepth 100000
open Go.W
open Go.RowKit (Below)

def bitOf (v : Value) (r : Int) : Option Value :=
  binK tab .shr 23 v (.int .i64 r) (fun u => binK tab .and 23 u (.int .u64 1) (fun z => intK z (fun _ n => some (i64 (IntKind.i64.wrap n))) none) none) none
def BitT (a0 a1 a2 a3 : Nat) (i : Int) : Option Value :=
  bif decide (i < 0) then some (i64 0) else bif decide (i > 255) then some (i64 0) else
    bif inR (IntKind.i64.wrap (i.tdiv 64)) 4 then oK ([u64 a0, u64 a1, u64 a2, u64 a3][0 + (IntKind.i64.wrap (i.tdiv 64)).toNat * 1]?) (fun v => bitOf v (i.tmod 64)) none else none
def BitC : Cfg := ⟨tab, [], 20, []⟩
theorem BitOk : CfgOk Try.prog BitC (bodyOf Try.f97) := ⟨mixed, tabOk, sums_nil, noL⟩
theorem Bit_ev (a0 a1 a2 a3 : Nat) (i : Int) : fnS BitC 60 Try.f97 (bodyOf Try.f97) [numd a0 a1 a2 a3, i64 i] = BitT a0 a1 a2 a3 i := by kernel_rfl

theorem bitOf_eq {a r : Nat} (ha : a < 18446744073709551616) (hr : r < 64) : bitOf (u64 a) (r : Int) = some (i64 ((a / 2 ^ r % 2 : Nat) : Int)) := by
  rw [← u64_bit ha hr]
  have hn : decide ((r : Int) < 0) = false := decide_eq_false (by omega)
  unfold bitOf u64
  simp only [binK, intK, binI, hn, cond_false, decide_true, cond_true]
  rfl

theorem BitT_eq {a b c d : Nat} (ha : a < 18446744073709551616) (hb : b < 18446744073709551616) (hc : c < 18446744073709551616) (hd : d < 18446744073709551616) (i : Int) : BitT a b c d i = some (i64 (bitI (hor a b c d) i)) := by
  unfold BitT
  by_cases h0 : i < 0
  · rw [decide_eq_true h0, cond_true]
    unfold bitI; rw [if_neg (by omega)]
  · rw [decide_eq_false h0, cond_false]
    by_cases h1 : i > 255
    · rw [decide_eq_true h1, cond_true]
      unfold bitI; rw [if_neg (by omega)]
    · rw [decide_eq_false h1, cond_false]
      obtain ⟨n, rfl⟩ := Int.eq_ofNat_of_zero_le (by omega : 0 ≤ i)
      have e1 : (n : Int).tdiv 64 = ((n / 64 : Nat) : Int) := by rw [Int.tdiv_eq_ediv_of_nonneg (by omega)]; omega
      have e2 : (n : Int).tmod 64 = ((n % 64 : Nat) : Int) := by rw [Int.tmod_eq_emod_of_nonneg (by omega)]; omega
      have hq : n / 64 < 4 := by omega
      have hr : n % 64 < 64 := Nat.mod_lt _ (by decide)
      rw [e1, e2, wrap_i64 (by omega)]
      have hin : inR ((n / 64 : Nat) : Int) 4 = true := by simp only [inR, Bool.and_eq_true, decide_eq_true_eq]; omega
      rw [hin, cond_true, Int.toNat_natCast, bitI_nat (by omega), show n = 64 * (n / 64) + n % 64 from by omega, hor_bit ha hb hc _ _ hr hq]
      rw [← show n = 64 * (n / 64) + n % 64 from by omega, Nat.zero_add, Nat.mul_one]
      generalize n / 64 = q at hq
      match q, hq with
      | 0, _ => exact bitOf_eq ha hr
      | 1, _ => exact bitOf_eq hb hr
      | 2, _ => exact bitOf_eq hc hr
      | 3, _ => exact bitOf_eq hd hr

theorem Bit_sum : Sum Try.prog 97 BitF := by
  refine sum_of BitOk Try.func97 (by kernel_rfl) (by kernel_rfl) rfl (fuel := 60) fun args v h _ => ?_
  unfold BitF at h
  split at h
  · simp only [Option.some.injEq, Prod.mk.injEq] at h
    obtain ⟨h1, rfl⟩ := h
    obtain ⟨X, hX, rfl⟩ := isNum_some h1
    refine ⟨by show 2 ≤ Try.f97.ntmps; decide +kernel, ?_, rfl⟩
    obtain ⟨x0, x1, x2, x3, h0, h1, h2, h3, e1, e2⟩ := digits hX
    rw [unnum_lt hX, e2, e1]
    exact (Bit_ev _ _ _ _ _).trans (BitT_eq h0 h1 h2 h3 _)
  · simp at h

end Go.Proofs.Ytbklbmiddacaiaa

/-
  Contracts of package limb, fourth part: lengths, bytes.
-/
namespace Go.Proofs.Ytbklbmiddacaiaa
set_option maxRecDepth 100000
open Go.W
open Go.RowKit (Below)

def Len64C : Cfg := ⟨tab, [], 25, []⟩
theorem Len64Ok : CfgOk Try.prog Len64C (bodyOf Try.f116) := ⟨mixed, tabOk, sums_nil, noL⟩
theorem Len64_ev (x : Nat) : fnS Len64C 60 Try.f116 (bodyOf Try.f116) [u64 x] = Len64T x := by kernel_rfl
theorem Len64_sum : Sum Try.prog 116 Len64F := by
  refine sum_of Len64Ok Try.func116 (by kernel_rfl) (by kernel_rfl) rfl (fuel := 60) fun args v h _ => ?_
  unfold Len64F at h
  split at h
  · simp only [Option.some.injEq, Prod.mk.injEq] at h
    obtain ⟨h1, rfl⟩ := h
    obtain ⟨x, hx, rfl⟩ := isU64_some h1
    exact ⟨by show 1 ≤ Try.f116.ntmps; decide +kernel, (Len64_ev x).trans (Len64T_eq hx), rfl⟩
  · simp at h

def LenC : Cfg := ⟨tab, [(116, Len64F)], 19, []⟩
theorem LenOk : CfgOk Try.prog LenC (bodyOf Try.f95) := ⟨mixed, tabOk, sums_cons Len64_sum sums_nil, noL⟩
theorem Len_ev (a b c d : Nat) : fnS LenC 60 Try.f95 (bodyOf Try.f95) [numd a b c d] = LenT a b c d := by kernel_rfl
theorem Len_sum : Sum Try.prog 95 LenF := by
  refine sum_of LenOk Try.func95 (by kernel_rfl) (by kernel_rfl) rfl (fuel := 60) fun args v h _ => ?_
  obtain ⟨X, hX, rfl, rfl⟩ := arg1 (f := fun x => i64 (bitLen (unnum x) : Int)) h
  refine ⟨by show 1 ≤ Try.f95.ntmps; decide +kernel, ?_, rfl⟩
  obtain ⟨a, b, c, d, h0, h1, h2, h3, e1, e2⟩ := digits hX
  rw [unnum_lt hX, e2, Len_ev, LenT_eq h0 h1 h2 h3, e1]

end Go.Proofs.Ytbklbmiddacaiaa

/-
  Contracts of package limb, fifth part: bytes to a number.
-/
namespace Go.Proofs.Ytbklbmiddacaiaa
set_option maxRecDepth 100000
open Go.W
open Go.RowKit (Below)


end Go.Proofs.Ytbklbmiddacaiaa
