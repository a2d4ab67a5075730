/-
  The law of bytes: what the engine says of its text.
-/
import Derived.Test.YtdhbnidobpkkfaaLo
import Derived.Test.YtdhbnidobpkkfaaM11
namespace Go.Proofs.Ytdhbnidobpkkfaa
open Go.W
open Go.RowKit (Below)

def byNt : List Nat := [1, 2, 3, 4, 5]
def byNi : List Nat := [0, 4]
def bySt (X : Nat) (len i : Int) : St :=
  ⟨[(1, ptr 0), (2, .bool false), (3, ptr 4), (4, i64 len), (5, i64 i)],
   [(0, ⟨bytesL 32 X, 39, true⟩), (4, ⟨[u64 (dig X 0), u64 (dig X 1), u64 (dig X 2), u64 (dig X 3)], 24, true⟩)], 19⟩
def byStW (Y X : Nat) (len i : Int) : St :=
  ⟨[(1, ptr 0), (2, .bool false), (3, ptr 4), (4, i64 len), (5, i64 i)],
   [(0, ⟨bytesL 32 Y, 39, true⟩), (4, ⟨[u64 (dig X 0), u64 (dig X 1), u64 (dig X 2), u64 (dig X 3)], 24, true⟩)], 19⟩
theorem byStW_same (X : Nat) (len i : Int) : byStW X X len i = bySt X len i := rfl
def byC0 : Cfg := ⟨tab, [(17, BitF)], 61, []⟩
theorem byOk0 : CfgOk Try.prog byC0 (bodyOf Try.f6) := ⟨mixed, tabOk, sums_cons Bit_sum sums_nil, noL⟩
theorem by_at : codeAt [1, 1, 1, 1, 0, 1, 0] (bodyOf Try.f6) = some (.loop (loopAt [1, 1, 1, 1, 0, 1, 0] (bodyOf Try.f6))) := by kernel_rfl

def byBit (X : Nat) (i : Int) (K : Int → Option (Exit × St)) : Option (Exit × St) :=
  bif inR (IntKind.i64.wrap (31 - IntKind.i64.wrap (i.tdiv 8))) 32 then oK ((bytesL 32 X)[0 + (IntKind.i64.wrap (31 - IntKind.i64.wrap (i.tdiv 8))).toNat * 1]?) (fun v =>
    binK tab .shr 5 v (.int .u64 (IntKind.u64.wrap (i.tmod 8))) (fun u => binK tab .and 5 u (.int .u8 1) (fun z => intK z (fun _ n => K (IntKind.i64.wrap n)) none) none) none) none else none
def byRound (X : Nat) (len i : Int) : Option (Exit × St) :=
  bif decide (i < 256) then byBit X i (fun bit => req (isNum (num X)) <| bif bitI (unnum (num X)) i != bit then some (.ret, bySt X len i) else
      bif bit == 1 then some (.normal, bySt X (IntKind.i64.wrap (i + 1)) (IntKind.i64.wrap (i + 1))) else some (.normal, bySt X len (IntKind.i64.wrap (i + 1))))
  else some (.exit 0, bySt X len i)
theorem by_r (X : Nat) (len i : Int) : roundS byC0 60 [1, 1, 1, 1, 0, 1, 0, 0] (loopAt [1, 1, 1, 1, 0, 1, 0] (bodyOf Try.f6)) byNt byNi 19 byNt byNi 19 (bySt X len i) = byRound X len i := by kernel_rfl

theorem byBit_eq {X i : Nat} (hi : i < 256) (K : Int → Option (Exit × St)) : byBit X (i : Int) K = K ((bitN X i : Nat) : Int) := by
  unfold byBit
  have e1 : (i : Int).tdiv 8 = ((i / 8 : Nat) : Int) := by rw [Int.tdiv_eq_ediv_of_nonneg (by omega)]; omega
  have e2 : (i : Int).tmod 8 = ((i % 8 : Nat) : Int) := by rw [Int.tmod_eq_emod_of_nonneg (by omega)]; omega
  have hq : i / 8 < 32 := by omega
  have hr : i % 8 < 8 := Nat.mod_lt _ (by decide)
  rw [e1, e2, wrap_i64 (n := ((i / 8 : Nat) : Int)) (by omega), show (31 - ((i / 8 : Nat) : Int)) = ((32 - 1 - i / 8 : Nat) : Int) from by omega, wrap_i64 (by omega)]
  have hin : inR ((32 - 1 - i / 8 : Nat) : Int) 32 = true := by simp only [inR, Bool.and_eq_true, decide_eq_true_eq]; omega
  have ew : IntKind.u64.wrap ((i % 8 : Nat) : Int) = ((i % 8 : Nat) : Int) := by rw [wrap_u64]; omega
  rw [hin, cond_true, Int.toNat_natCast, Nat.zero_add, Nat.mul_one, bytesL_get 32 X (i / 8) hq, ew]
  have hb := byte_bit X (i / 8) (i % 8) hr
  rw [show 8 * (i / 8) + i % 8 = i from by omega] at hb
  rw [← hb, ← u8_bit (Nat.mod_lt _ (by decide)) hr]
  have hn : decide (((i % 8 : Nat) : Int) < 0) = false := decide_eq_false (by omega)
  unfold u8
  simp only [oK, binK, intK, binI, hn, cond_false, decide_true, cond_true]
  rfl

theorem byRound_eq {X i : Nat} (hX : X < 2 ^ 256) (hi : i < 256) : byRound X (bitLen (X % 2 ^ i) : Int) (i : Int) = some (.normal, bySt X (bitLen (X % 2 ^ (i + 1)) : Int) ((i + 1 : Nat) : Int)) := by
  unfold byRound
  rw [decide_eq_true (by omega), cond_true, byBit_eq hi, isNum_num, req_true rfl, unnum_lt hX, bitI_nat (by omega), wrap_i64 (by omega), show ((i : Int) + 1) = ((i + 1 : Nat) : Int) from by omega, bitLen_step]
  have hne : (((bitN X i : Nat) : Int) != ((bitN X i : Nat) : Int)) = false := bne_self_eq_false _
  rw [hne, cond_false]
  rcases Nat.mod_two_eq_zero_or_one (X / 2 ^ i) with h0 | h1
  · have : bitN X i = 0 := h0
    rw [this, if_neg (by decide)]; rfl
  · have : bitN X i = 1 := h1
    rw [this, if_pos rfl]; rfl

def ByC (X : Nat) (len : Int) : Cfg := ⟨tab, [(24, OfF), (25, BytesF), (17, BitF), (19, LenF), (21, wakesF)], 61,
  [([1, 1, 1, 1, 0, 1, 0], atSt byNt byNi 19 (bySt X 0 0) (.exit 0) (bySt X len 256))]⟩
theorem By_ev (X : Nat) (len : Int) : fnS (ByC (unbytes (bytesV X)) len) 100 Try.f6 (bodyOf Try.f6) [bytesV X] =
    BytesT2 (bytesV X) (num (unbytes (bytesV X))) (req (stEq (byStW X (unbytes (bytesV X)) 0 0) (bySt (unbytes (bytesV X)) 0 0)) (BytesEnd (num (unbytes (bytesV X))) len)) := by kernel_rfl
theorem bySt_ok (X : Nat) (len i : Int) : stOk (bySt X len i) = true := by kernel_rfl

theorem By_calls {X : Nat} (hX : X < 2 ^ 256) (w : World) : Calls Try.prog 6 #[bytesV X] w fun e w' => e = .returned (.bool true) ∧ Below w.heap.size w w' := by
  have hL : LoopOk Try.prog 61 (loopAt [1, 1, 1, 1, 0, 1, 0] (bodyOf Try.f6)) (atSt byNt byNi 19 (bySt X 0 0) (.exit 0) (bySt X (bitLen X : Int) 256)) := by
    refine atSt_ok fun w0 R a w hrel => ?_
    refine loop_rounds (R := R) (C := byC0) byOk0 by_at (m := 60) (nt := byNt) (ni := byNi) (et := byNt) (ei := byNi) (nx := 19) (ex := 19) (e := .exit 0) (sf := bySt X (bitLen X : Int) 256)
      (fun k => bySt X (bitLen (X % 2 ^ k) : Int) (k : Int)) 256 (by intro h; cases h) ?_ ?_ ?_
    · intro k hk
      exact (by_r _ _ _).trans (byRound_eq hX hk)
    · refine (by_r _ _ _).trans ?_
      rw [Nat.mod_eq_of_lt hX]; rfl
    · have : bySt X (bitLen (X % 2 ^ 0) : Int) ((0 : Nat) : Int) = bySt X 0 0 := by rw [Nat.pow_zero, Nat.mod_one]; rfl
      rw [this]; exact hrel
  have hun : unbytes (bytesV X) = X := by rw [unbytes_bytesV, Nat.mod_eq_of_lt hX]
  have hOk : CfgOk Try.prog (ByC (unbytes (bytesV X)) (bitLen X : Int)) (bodyOf Try.f6) := by
    rw [hun]
    exact ⟨mixed, tabOk, sums_cons Of_sum (sums_cons Bytes_sum (sums_cons Bit_sum (sums_cons Len_sum (sums_cons wakes_sum sums_nil)))), oneL hL⟩
  refine fn_sound hOk Try.func6 (by kernel_rfl) rfl (args := [bytesV X]) (fuel := 100) (by show 1 ≤ Try.f6.ntmps; decide +kernel) (by kernel_rfl) ?_ (by kernel_rfl) w
  rw [By_ev, hun, BytesT2_eq hX, byStW_same, req_true (stEq_refl (bySt_ok _ _ _)), BytesEnd_eq hX]; rfl

end Go.Proofs.Ytdhbnidobpkkfaa
