/-
  The law of powers: what the engine says of its text.
-/
import Derived.Test.YtdhbnidobpkkfaaLd
import Derived.Test.YtdhbnidobpkkfaaM12
namespace Go.Proofs.Ytdhbnidobpkkfaa
open Go.W
open Go.RowKit (Below)

def pwNt : List Nat := [1, 2, 4, 5, 6, 7, 8, 10]
def pwNi : List Nat := [0, 7, 22, 23, 33]
def pwSt (A P X Y Z : Nat) (k i : Int) : St :=
  ⟨[(1, i64 k), (2, ptr 0), (4, .bool false), (5, ptr 7), (6, ptr 22), (7, ptr 23), (8, ptr 33), (10, i64 i)],
   [(0, ⟨cells4 A, 24, true⟩), (7, ⟨cells4 P, 24, true⟩), (22, ⟨cells4 X, 24, true⟩), (23, ⟨cells4 Y, 24, true⟩), (33, ⟨cells4 Z, 24, true⟩)], 39⟩
def pwC0 : Cfg := ⟨tab, [(17, BitF)], 82, []⟩
theorem pwOk0 : CfgOk Try.prog pwC0 (bodyOf Try.f8) := ⟨mixed, tabOk, sums_cons Bit_sum sums_nil, noL⟩
theorem pw_at : codeAt [1, 1, 1, 1, 1, 1, 1, 0, 1, 0] (bodyOf Try.f8) = some (.loop (loopAt [1, 1, 1, 1, 1, 1, 1, 0, 1, 0] (bodyOf Try.f8))) := by kernel_rfl
theorem pw_r (A P X Y Z : Nat) (k i : Int) : roundS pwC0 60 [1, 1, 1, 1, 1, 1, 1, 0, 1, 0, 0] (loopAt [1, 1, 1, 1, 1, 1, 1, 0, 1, 0] (bodyOf Try.f8)) pwNt pwNi 39 pwNt pwNi 39 (pwSt A P X Y Z k i) =
    pwRound (num A) (num X) (num Y) (num Z) k i (some (.ret, pwSt A P X Y Z k i)) (some (.normal, pwSt A P X Y Z k (IntKind.i64.wrap (i + 1)))) (some (.exit 0, pwSt A P X Y Z k i)) := by kernel_rfl

def PowC (A P X Y Z : Nat) (k : Int) : Cfg := ⟨tab, [(13, MulF), (22, ModF), (19, LenF), (21, wakesF)], 82,
  [([1, 1, 1, 1, 1, 1, 1, 0, 1, 0], atSt pwNt pwNi 39 (pwSt A P X Y Z k 0) (.exit 0) (pwSt A P X Y Z k 512))]⟩
/-- Behind the fourth statement. -/
def pw3 (A : Nat) (k0 k : Int) (cs : List Value) : St :=
  ⟨[(23, .pointer (some ⟨7, 0 + (pwI k).toNat * 1, none⟩)), (22, .int .u64 (iShl .u64 1 (pwR k))), (21, .int .u64 (pwR k)), (20, i64 (k.tmod 64)), (19, i64 k), (18, i64 (pwI k)), (17, i64 k), (5, ptr 7),
    (1, i64 k), (16, i64 k), (15, .int .u64 ((IntKind.u64.wrap k0).tmod 256)), (14, .int .u64 (IntKind.u64.wrap k0)), (13, i64 k0), (4, .bool false), (2, ptr 0), (0, num A), (1, i64 k0)],
   [(7, ⟨cs, 24, true⟩), (7, ⟨[u64 0, u64 0, u64 0, u64 0], 24, true⟩), (0, ⟨cells4 A, 24, true⟩)], 16⟩

theorem ev_seq_at {R : Type} {C : Cfg} {m : Nat} {p : List Nat} {x y : Code} {s s' : St} (h : evS C m (p ++ [0]) x s = some (.normal, s')) (k : Exit → St → R) (f : R) : evK C (m + 1) p (.seq x y) s k f = evK C m (p ++ [1]) y s' k f := by
  show evK C m (p ++ [0]) x s (fun e s' => thenK e s' (fun s' => evK C m (p ++ [1]) y s' k f) k) f = _
  rw [evK_eq, h]; rfl

theorem pw_body : bodyOf Try.f8 = .seq ((codeAt [0] (bodyOf Try.f8)).getD .skip) (.seq ((codeAt [1, 0] (bodyOf Try.f8)).getD .skip) (.seq ((codeAt [1, 1, 0] (bodyOf Try.f8)).getD .skip) (.seq ((codeAt [1, 1, 1, 0] (bodyOf Try.f8)).getD .skip) ((codeAt [1, 1, 1, 1] (bodyOf Try.f8)).getD .skip)))) := by kernel_rfl

def pw0 (A : Nat) (k0 : Int) : St := ⟨[(4, .bool false), (2, ptr 0), (0, num A), (1, i64 k0)], [(0, ⟨cells4 A, 24, true⟩)], 2⟩
def pw1 (A : Nat) (k0 k : Int) : St := ⟨[(1, i64 k), (16, i64 k), (15, .int .u64 ((IntKind.u64.wrap k0).tmod 256)), (14, .int .u64 (IntKind.u64.wrap k0)), (13, i64 k0), (4, .bool false), (2, ptr 0), (0, num A), (1, i64 k0)], [(0, ⟨cells4 A, 24, true⟩)], 7⟩
def pw2 (A : Nat) (k0 k : Int) : St := ⟨[(5, ptr 7), (1, i64 k), (16, i64 k), (15, .int .u64 ((IntKind.u64.wrap k0).tmod 256)), (14, .int .u64 (IntKind.u64.wrap k0)), (13, i64 k0), (4, .bool false), (2, ptr 0), (0, num A), (1, i64 k0)],
  [(7, ⟨[u64 0, u64 0, u64 0, u64 0], 24, true⟩), (0, ⟨cells4 A, 24, true⟩)], 8⟩
theorem pw_e0 (G : Sums) (L : List (List Nat × (St → List (Bool × Exit × St)))) (A : Nat) (k0 : Int) : evS ⟨tab, G, 82, L⟩ 99 [0] ((codeAt [0] (bodyOf Try.f8)).getD .skip) ⟨argSlots 0 [num A, i64 k0], [], 0⟩ = some (.normal, pw0 A k0) := by kernel_rfl
theorem pw_e1 (G : Sums) (L : List (List Nat × (St → List (Bool × Exit × St)))) (A : Nat) (k0 : Int) : evS ⟨tab, G, 82, L⟩ 98 [1, 0] ((codeAt [1, 0] (bodyOf Try.f8)).getD .skip) (pw0 A k0) = some (.normal, pw1 A k0 (pwK k0)) := by kernel_rfl
theorem pw_e2 (G : Sums) (L : List (List Nat × (St → List (Bool × Exit × St)))) (A : Nat) (k0 k : Int) : evS ⟨tab, G, 82, L⟩ 97 [1, 1, 0] ((codeAt [1, 1, 0] (bodyOf Try.f8)).getD .skip) (pw1 A k0 k) = some (.normal, pw2 A k0 k) := by kernel_rfl
theorem pw_e3 (G : Sums) (L : List (List Nat × (St → List (Bool × Exit × St)))) (A : Nat) (k0 k : Int) : evS ⟨tab, G, 82, L⟩ 96 [1, 1, 1, 0] ((codeAt [1, 1, 1, 0] (bodyOf Try.f8)).getD .skip) (pw2 A k0 k) =
    bif decide (pwR k < 0) then none else bif inR (pwI k) 4 then (bif Nat.ble (0 + (pwI k).toNat * 1 + 1) 4 then some (.normal, pw3 A k0 k (pwC k)) else none) else none := by kernel_rfl

theorem Pow_ev2 (A P : Nat) (k0 k : Int) : evK (PowC A P (unnum (num A) * unnum (num P)) (unnum (num A) * unnum (num P) / 2 ^ 256) (modN (unnum (num 0)) (unnum (num A)) (unnum (num P))) k) 96 [1, 1, 1, 1] ((codeAt [1, 1, 1, 1] (bodyOf Try.f8)).getD .skip) (pw3 A k0 k (cells4 P)) (fun e s => endK tab Try.f8 e s some none) none =
    PowT (num A) (num P) (num 0) (req (stEq (pwSt A P (unnum (num A) * unnum (num P)) (unnum (num A) * unnum (num P) / 2 ^ 256) (modN (unnum (num 0)) (unnum (num A)) (unnum (num P))) k 0) (pwSt A P (unnum (num A) * unnum (num P)) (unnum (num A) * unnum (num P) / 2 ^ 256) (modN (unnum (num 0)) (unnum (num A)) (unnum (num P))) k 0)) (PowEnd (num P) k)) := by kernel_rfl
theorem pwSt_ok (A P X Y Z : Nat) (k i : Int) : stOk (pwSt A P X Y Z k i) = true := by kernel_rfl

theorem Pow_calls {A : Nat} (hA : A < 2 ^ 256) (k : Int) (w : World) : Calls Try.prog 8 #[num A, i64 k] w fun e w' => e = .returned (.bool true) ∧ Below w.heap.size w w' := by
  obtain ⟨n, hn, hk⟩ := pwK_nat k
  have hP : (2 : Nat) ^ n < 2 ^ 256 := Nat.pow_lt_pow_right (by decide) hn
  have hP0 : (2 : Nat) ^ n ≠ 0 := Nat.pos_iff_ne_zero.1 (Nat.two_pow_pos n)
  obtain ⟨e1, e2⟩ := pw_parts hn
  have hX : unnum (num A) * unnum (num (2 ^ n)) = A * 2 ^ n := by rw [unnum_lt hA, unnum_lt hP]
  have hZ : modN (unnum (num 0)) (unnum (num A)) (unnum (num (2 ^ n))) = A % 2 ^ n := by
    unfold modN; rw [unnum_lt hA, unnum_lt hP, if_neg hP0, unnum_lt (show 0 < 2 ^ 256 by decide), Nat.zero_mul, Nat.zero_add]
  have hL : LoopOk Try.prog 82 (loopAt [1, 1, 1, 1, 1, 1, 1, 0, 1, 0] (bodyOf Try.f8)) (atSt pwNt pwNi 39 (pwSt A (2 ^ n) (A * 2 ^ n) (A * 2 ^ n / 2 ^ 256) (A % 2 ^ n) n 0) (.exit 0) (pwSt A (2 ^ n) (A * 2 ^ n) (A * 2 ^ n / 2 ^ 256) (A % 2 ^ n) n 512)) := by
    refine atSt_ok fun w0 R a w hrel => ?_
    refine loop_rounds (R := R) (C := pwC0) pwOk0 pw_at (m := 60) (nt := pwNt) (ni := pwNi) (et := pwNt) (ei := pwNi) (nx := 39) (ex := 39) (e := .exit 0) (sf := pwSt A (2 ^ n) (A * 2 ^ n) (A * 2 ^ n / 2 ^ 256) (A % 2 ^ n) n 512)
      (fun i => pwSt A (2 ^ n) (A * 2 ^ n) (A * 2 ^ n / 2 ^ 256) (A % 2 ^ n) n (i : Int)) 512 (by intro h; cases h) ?_ ?_ hrel
    · intro i hi
      refine (pw_r _ _ _ _ _ _ _).trans ?_
      rw [pwRound_eq hA hn hi, wrap_i64 (by omega)]
      rfl
    · refine (pw_r _ _ _ _ _ _ _).trans ?_
      unfold pwRound
      rw [show decide (((512 : Nat) : Int) < 512) = false from rfl]; rfl
  have hOk : CfgOk Try.prog (PowC A (2 ^ n) (unnum (num A) * unnum (num (2 ^ n))) (unnum (num A) * unnum (num (2 ^ n)) / 2 ^ 256) (modN (unnum (num 0)) (unnum (num A)) (unnum (num (2 ^ n)))) n) (bodyOf Try.f8) := by
    rw [hX, hZ]
    exact ⟨mixed, tabOk, sums_cons Mul_sum (sums_cons Mod_sum (sums_cons Len_sum (sums_cons wakes_sum sums_nil))), oneL hL⟩
  refine fn_sound hOk Try.func8 (by kernel_rfl) rfl (args := [num A, i64 k]) (fuel := 100) (by show 2 ≤ Try.f8.ntmps; decide +kernel) rfl (v := .bool true) ?_ rfl w
  have h3 := pw_e3 [(13, MulF), (22, ModF), (19, LenF), (21, wakesF)]
    [([1, 1, 1, 1, 1, 1, 1, 0, 1, 0], atSt pwNt pwNi 39 (pwSt A (2 ^ n) (unnum (num A) * unnum (num (2 ^ n))) (unnum (num A) * unnum (num (2 ^ n)) / 2 ^ 256) (modN (unnum (num 0)) (unnum (num A)) (unnum (num (2 ^ n)))) n 0) (.exit 0)
      (pwSt A (2 ^ n) (unnum (num A) * unnum (num (2 ^ n))) (unnum (num A) * unnum (num (2 ^ n)) / 2 ^ 256) (modN (unnum (num 0)) (unnum (num A)) (unnum (num (2 ^ n)))) n 512))] A k n
  rw [e1, e2, pwC_eq hn, decide_eq_false (show ¬ (((n % 64 : Nat) : Int) < 0) by omega), cond_false,
    show inR ((n / 64 : Nat) : Int) 4 = true from by simp only [inR, Bool.and_eq_true, decide_eq_true_eq]; omega, cond_true, Int.toNat_natCast, ble_true (show 0 + n / 64 * 1 + 1 ≤ 4 by omega), cond_true] at h3
  have h1 := pw_e1 [(13, MulF), (22, ModF), (19, LenF), (21, wakesF)]
    [([1, 1, 1, 1, 1, 1, 1, 0, 1, 0], atSt pwNt pwNi 39 (pwSt A (2 ^ n) (unnum (num A) * unnum (num (2 ^ n))) (unnum (num A) * unnum (num (2 ^ n)) / 2 ^ 256) (modN (unnum (num 0)) (unnum (num A)) (unnum (num (2 ^ n)))) n 0) (.exit 0)
      (pwSt A (2 ^ n) (unnum (num A) * unnum (num (2 ^ n))) (unnum (num A) * unnum (num (2 ^ n)) / 2 ^ 256) (modN (unnum (num 0)) (unnum (num A)) (unnum (num (2 ^ n)))) n 512))] A k
  rw [hk] at h1
  unfold fnS fnK
  rw [pw_body]
  refine (ev_seq_at (pw_e0 _ _ A k) _ _).trans ((ev_seq_at h1 _ _).trans ((ev_seq_at (pw_e2 _ _ A k n) _ _).trans ((ev_seq_at h3 _ _).trans ?_)))
  refine (Pow_ev2 A (2 ^ n) k n).trans ?_
  rw [PowT_eq hP hP0, req_true (stEq_refl (pwSt_ok _ _ _ _ _ _ _)), PowEnd_eq hn]; rfl

end Go.Proofs.Ytdhbnidobpkkfaa
