/-
  The document's own answers, package limb: what is left of a division; the laws of P1.1 and P1.2.
-/
import Derived.Test.YtdhbnidobpkkfaaLg
import Derived.Test.YtdhbnidobpkkfaaW14
namespace Go.Proofs.Ytdhbnidobpkkfaa
open Go.W
open Go.RowKit (Below)

def rdNt : List Nat := [3, 4, 5, 6, 7, 8]
def rdNi : List Nat := [0, 1, 2, 3, 4]
def rdCells (A : Nat) : List Value := [u64 (dig A 0), u64 (dig A 1), u64 (dig A 2), u64 (dig A 3)]
def rdSt (H L M : Nat) (r : List Value) (k : Int) : St :=
  ⟨[(3, ptr 0), (4, ptr 1), (5, ptr 2), (6, ptr 3), (7, ptr 4), (8, i64 k)],
   [(0, ⟨rdCells H, 24, true⟩), (1, ⟨rdCells L, 24, true⟩), (2, ⟨rdCells M, 24, true⟩), (3, ⟨[u64 0, u64 0, u64 0, u64 0], 24, true⟩), (4, ⟨r, 24, true⟩)], 6⟩
def rdC0 : Cfg := ⟨tab, [(18, BitF), (10, AddF), (16, CmpF), (12, SubF)], 53, []⟩
theorem rdOk0 : CfgOk Try.prog rdC0 (bodyOf Try.f23) := ⟨mixed, tabOk, sums_cons BitR_sum (sums_cons AddR_sum (sums_cons CmpR_sum (sums_cons SubR_sum sums_nil))), noL⟩
theorem rd_at : codeAt [1, 1, 0, 1, 0] (bodyOf Try.f23) = some (.loop (loopAt [1, 1, 0, 1, 0] (bodyOf Try.f23))) := by kernel_rfl
theorem rd_r (H L M R : Nat) (i : Int) : roundS rdC0 60 [1, 1, 0, 1, 0, 0] (loopAt [1, 1, 0, 1, 0] (bodyOf Try.f23)) rdNt rdNi 6 rdNt rdNi 6 (rdSt H L M (rdCells R) i) =
    bif decide (i ≥ 0) then (req (isNum (num L)) <| bif decide (i ≥ 256) then
        (req (isNum (num H)) <| modK (num R) (num M) (IntKind.u64.wrap (bitI (unnum (num H)) (IntKind.i64.wrap (i - 256)))) (fun v => some (.normal, rdSt H L M v.cells.toList (IntKind.i64.wrap (i - 1)))))
      else modK (num R) (num M) (IntKind.u64.wrap (bitI (unnum (num L)) i)) (fun v => some (.normal, rdSt H L M v.cells.toList (IntKind.i64.wrap (i - 1)))))
    else some (.exit 0, rdSt H L M (rdCells R) i) := by kernel_rfl

def rdC (H L M R : Nat) : Cfg := ⟨tab, [], 53, [([1, 1, 0, 1, 0], atSt rdNt rdNi 6 (rdSt H L M (rdCells 0) 511) (.exit 0) (rdSt H L M (rdCells R) (-1)))]⟩
theorem ModR_ev (H L M R : Nat) : fnS (rdC H L M R) 60 Try.f23 (bodyOf Try.f23) [num H, num L, num M] =
    req (stEq (rdSt H L M (rdCells 0) 511) (rdSt H L M (rdCells 0) 511)) (some (num R)) := by kernel_rfl

theorem ModR_sum : Sum Try.prog 23 ModRF := by
  intro args v h
  unfold ModRF at h
  split at h
  · rename_i h0 l0 m0
    simp only [Option.some.injEq, Prod.mk.injEq, Bool.and_eq_true] at h
    obtain ⟨⟨⟨⟨h1, h2⟩, h3⟩, h4⟩, rfl⟩ := h
    obtain ⟨H, hH, rfl⟩ := isNum_some h1
    obtain ⟨L, hL, rfl⟩ := isNum_some h2
    obtain ⟨M, hM, rfl⟩ := isNum_some h3
    rw [unnum_lt hM, Nat.blt_eq] at h4
    rw [unnum_lt hH, unnum_lt hL, unnum_lt hM]
    have hL : LoopOk Try.prog 53 (loopAt [1, 1, 0, 1, 0] (bodyOf Try.f23)) (atSt rdNt rdNi 6 (rdSt H L M (rdCells 0) 511) (.exit 0) (rdSt H L M (rdCells (rK (H * 2 ^ 256 + L) M 512)) (-1))) := by
      refine atSt_ok fun w0 R a w hrel => ?_
      refine loop_rounds (R := R) (C := rdC0) rdOk0 rd_at (m := 60) (nt := rdNt) (ni := rdNi) (et := rdNt) (ei := rdNi) (nx := 6) (ex := 6) (e := .exit 0) (sf := rdSt H L M (rdCells (rK (H * 2 ^ 256 + L) M 512)) (-1))
        (fun k => rdSt H L M (rdCells (rK (H * 2 ^ 256 + L) M k)) (511 - (k : Int))) 512 (by intro h; cases h) ?_ ?_ ?_
      · intro k hk
        refine (rd_r _ _ _ _ _).trans ?_
        have hR : rK (H * 2 ^ 256 + L) M k < M := rK_lt h4
        have hi : (511 - (k : Int)) = ((511 - k : Nat) : Int) := by omega
        rw [decide_eq_true (by omega), cond_true, isNum_num, req_true rfl, isNum_num, req_true rfl, unnum_lt hH, unnum_lt hL, hi, wrap_i64 (n := ((511 - k : Nat) : Int) - 1) (by omega)]
        have hn : (((511 - k : Nat) : Int) - 1) = 511 - ((k + 1 : Nat) : Int) := by omega
        rw [hn, ← rK_succ hk]
        by_cases h256 : 256 ≤ 511 - k
        · have e1 : (((511 - k : Nat) : Int) - 256) = ((511 - k - 256 : Nat) : Int) := by omega
          have e2 : bitN (H * 2 ^ 256 + L) (511 - k) = bitN H (511 - k - 256) := by
            have e3 := bitN_hi (H := H) (n := 511 - k - 256) hL
            rwa [Nat.sub_add_cancel h256] at e3
          rw [decide_eq_true (by omega), cond_true, e1, wrap_i64 (by omega), bit_u64 (by omega), modK_eq hR hM (bitN_le _ _), e2]
          rfl
        · rw [decide_eq_false (by omega), cond_false, bit_u64 (by omega), modK_eq hR hM (bitN_le _ _), bitN_lo (by omega)]
          rfl
      · exact (rd_r _ _ _ _ _).trans rfl
      · have : rdSt H L M (rdCells (rK (H * 2 ^ 256 + L) M 0)) (511 - ((0 : Nat) : Int)) = rdSt H L M (rdCells 0) 511 := by rw [rK_zero hH hL]; rfl
        rw [this]; exact hrel
    have hOk : CfgOk Try.prog (rdC H L M (rK (H * 2 ^ 256 + L) M 512)) (bodyOf Try.f23) := ⟨mixed, tabOk, sums_nil, oneL hL⟩
    refine sum_at hOk Try.func23 (by kernel_rfl) (by kernel_rfl) rfl (fuel := 60) (by show 3 ≤ Try.f23.ntmps; decide +kernel) ?_ rfl
    rw [ModR_ev, req_true (stEq_refl rfl), rK_last]
    unfold modN
    rw [if_neg (by omega)]
  · simp at h

def ExC : Cfg := ⟨tab, [(9, AddF), (11, SubF), (13, MulF), (15, CmpF), (17, BitF), (19, LenF), (10, AddF), (12, SubF), (14, MulF),
  (16, CmpF), (18, BitF), (20, LenF), (21, wakesF)], 111, []⟩
theorem ExOk : CfgOk Try.prog ExC (bodyOf Try.f3) := ⟨mixed, tabOk, sums_cons Add_sum (sums_cons Sub_sum (sums_cons Mul_sum (sums_cons Cmp_sum (sums_cons Bit_sum (sums_cons Len_sum
  (sums_cons AddR_sum (sums_cons SubR_sum (sums_cons MulR_sum (sums_cons CmpR_sum (sums_cons BitR_sum (sums_cons LenR_sum (sums_cons wakes_sum sums_nil)))))))))))), noL⟩
theorem Ex_ev (A B : Nat) (i : Int) : fnS ExC 100 Try.f3 (bodyOf Try.f3) [num A, num B, i64 i] = ExT (num A) (num B) i := by kernel_rfl
theorem Ex_calls (A B : Nat) (i : Int) (w : World) : Calls Try.prog 3 #[num A, num B, i64 i] w fun e w' => e = .returned (.bool true) ∧ Below w.heap.size w w' := by
  refine fn_sound ExOk Try.func3 (by kernel_rfl) rfl (args := [num A, num B, i64 i]) (fuel := 100) (by show 3 ≤ Try.f3.ntmps; decide +kernel) rfl ?_ rfl w
  rw [Ex_ev, ExT_eq]; rfl

def ModsC : Cfg := ⟨tab, [(22, ModF), (23, ModRF), (15, CmpF), (21, wakesF)], 48, []⟩
theorem ModsOk : CfgOk Try.prog ModsC (bodyOf Try.f4) := ⟨mixed, tabOk, sums_cons Mod_sum (sums_cons ModR_sum (sums_cons Cmp_sum (sums_cons wakes_sum sums_nil))), noL⟩
theorem Mods_ev (H L M : Nat) : fnS ModsC 100 Try.f4 (bodyOf Try.f4) [num H, num L, num M] = ModsT (num H) (num L) (num M) (num 0) := by kernel_rfl
theorem Mods_calls {H L M : Nat} (hM : M < 2 ^ 256) (w : World) : Calls Try.prog 4 #[num H, num L, num M] w fun e w' => e = .returned (.bool true) ∧ Below w.heap.size w w' := by
  refine fn_sound ModsOk Try.func4 (by kernel_rfl) rfl (args := [num H, num L, num M]) (fuel := 100) (by show 3 ≤ Try.f4.ntmps; decide +kernel) rfl ?_ rfl w
  rw [Mods_ev, ModsT_eq hM]; rfl

end Go.Proofs.Ytdhbnidobpkkfaa
