/-
  PolySums.
-/
import Derived.Test.YtpkoldooncpggaaSp
import Derived.Test.YtpkoldooncpggaaEi
namespace Go.Proofs.Ytpkoldooncpggaa
set_option maxRecDepth 100000
open Go.W

noncomputable def suS : Sums := [(10, EvF), (21, FAddF), (13, WskF 25), (19, Wk6F)]
theorem suS_ok : SumsOk Try.prog suS := sums_consM ev_msum (sums_cons FAdd_sum (sums_consM (MSum_sub ws_msum (WskF_sub _)) (sums_cons wk6_sum sums_nil)))
noncomputable def suS' : Sums := [(10, EvF), (21, FAddF), (13, WsnF), (19, Wk6F)]
theorem suS_ok' : SumsOk Try.prog suS' := sums_consM ev_msum (sums_cons FAdd_sum (sums_consM (MSum_sub ws_msum (WsnF_sub 25)) (sums_cons wk6_sum sums_nil)))
noncomputable def suC0 : Cfg := ⟨tab, suS, 162, []⟩
theorem su_at1 : codeAt [1, 1, 1, 0, 1, 0] (bodyOf Try.f5) = some (.loop (loopAt [1, 1, 1, 0, 1, 0] (bodyOf Try.f5))) := by kernel_rfl
theorem su_at2 : codeAt [1, 1, 1, 1, 1, 1, 0, 1, 0] (bodyOf Try.f5) = some (.loop (loopAt [1, 1, 1, 1, 1, 1, 0, 1, 0] (bodyOf Try.f5))) := by kernel_rfl
theorem su_at3 : codeAt [1, 1, 1, 1, 1, 1, 0, 1, 0, 0, 1, 0, 0, 1, 1, 0, 1, 0] (bodyOf Try.f5) = some (.loop (loopAt [1, 1, 1, 1, 1, 1, 0, 1, 0, 0, 1, 0, 0, 1, 1, 0, 1, 0] (bodyOf Try.f5))) := by kernel_rfl
theorem su_at4 : codeAt [1, 1, 1, 1, 1, 1, 1, 1, 1, 1, 0, 1, 0] (bodyOf Try.f5) = some (.loop (loopAt [1, 1, 1, 1, 1, 1, 1, 1, 1, 1, 0, 1, 0] (bodyOf Try.f5))) := by kernel_rfl
structure SuP where
  na : Nat
  A : Nat → Nat
  ea : Nat
  nb : Nat
  B : Nat → Nat
  eb : Nat
  X : Nat
  nz : Nat
  Z : Nat → Int
  ez : Nat
def suB1 : Nat := nid 0 0
def suN1 : List Nat := [0, 1, 3, 6, 9, 10]
def suIx (k : Nat) : Ren := [(0, 0), (suB1, nid k 0), (1500000, 1500000), (1500001, 1500001), (1500003, 1500003)]
def suE1 : Ren := [(0, 0), (suB1, suB1), (1500000, 1500000), (1500001, 1500001), (1500003, 1500003)]
def suZ1 : List Nat := [0, 1500000, 1500001, 1500003]
def suM (p : SuP) : List (Nat × Blk) := [(1500000, ⟨.row kN4 p.na (nmF p.A), p.ea, false⟩), (1500001, ⟨.row kN4 p.nb (nmF p.B), p.eb, false⟩), (1500003, ⟨.row kI1 p.nz (fun i => i1L (p.Z i)), p.ez, false⟩)]
def suA (p : SuP) (i : Int) : St := ⟨[(0, aSl 0 p.na), (1, aSl 1 p.nb), (3, aSl 3 p.nz), (6, ptr 0), (9, .slice none 0 0), (10, i64 i)], (0, ⟨cells4 p.X, 25, true⟩) :: suM p, 17⟩
def suB (p : SuP) (m : Nat) (g : Nat → List Value) (i : Int) : St := ⟨[(0, aSl 0 p.na), (1, aSl 1 p.nb), (3, aSl 3 p.nz), (6, ptr 0), (9, .slice (some ⟨suB1, 0, none⟩) m m), (10, i64 i)], (0, ⟨cells4 p.X, 25, true⟩) :: (suB1, ⟨.row kN4 m g, 25, true⟩) :: suM p, 17⟩
def sub2 {α : Type} (p : SuP) (i : Nat) (tt tf ft ff : Option α) (out : Option α) : Option α :=
  let body := bif decide ((i : Int) < (p.na : Int)) then rdR i p.na (bif decide ((i : Int) < (p.nb : Int)) then rdR i p.nb tt else tf) else (bif decide ((i : Int) < (p.nb : Int)) then rdR i p.nb ft else ff)
  bif decide ((i : Int) < (p.na : Int)) then body else bif decide ((i : Int) < (p.nb : Int)) then body else out
theorem su_r52 (p : SuP) : roundS suC0 60 [1, 1, 1, 0, 1, 0, 0] (loopAt [1, 1, 1, 0, 1, 0] (bodyOf Try.f5)) suN1 (suIx 52) 17 suN1 suZ1 17 (suA p 0) =
    sub2 p 0 (r2 (num (p.A 0)) (num (p.B 0)) (some (.normal, suB p 1 (lstF (num (faddN 1 (unnum (num (p.A 0))) (unnum (num (p.B 0))))).cells.toList 0 4) 1))) (r2 (num (p.A 0)) (num 0) none) (r2 (num 0) (num (p.B 0)) none) (r2 (num 0) (num 0) none) (some (.exit 0, suA p 0)) := by kernel_rfl
theorem su_r47 (p : SuP) : roundS suC0 60 [1, 1, 1, 0, 1, 0, 0] (loopAt [1, 1, 1, 0, 1, 0] (bodyOf Try.f5)) suN1 (suIx 47) 17 suN1 suZ1 17 (suA p 0) =
    sub2 p 0 (r2 (num (p.A 0)) (num (p.B 0)) none) (r2 (num (p.A 0)) (num 0) (some (.normal, suB p 1 (lstF (num (faddN 1 (unnum (num (p.A 0))) (unnum (num 0)))).cells.toList 0 4) 1))) (r2 (num 0) (num (p.B 0)) (some (.normal, suB p 1 (lstF (num (faddN 1 (unnum (num 0)) (unnum (num (p.B 0))))).cells.toList 0 4) 1))) (r2 (num 0) (num 0) none) (some (.exit 0, suA p 0)) := by kernel_rfl
theorem su_q52 (p : SuP) (S : Nat → Nat) (k : Nat) : roundS suC0 60 [1, 1, 1, 0, 1, 0, 0] (loopAt [1, 1, 1, 0, 1, 0] (bodyOf Try.f5)) suN1 (suIx 52) 17 suN1 suE1 17 (suB p (k + 1) (nmF S) ((k + 1 : Nat) : Int)) =
    sub2 p (k + 1) (r2 (num (p.A (0 + (k + 1)))) (num (p.B (0 + (k + 1)))) (apq4 (k + 1) (some (.normal, suB p (k + 1 + 1) (appF (k + 1) (nmF S) (lstF (num (faddN 1 (unnum (num (p.A (0 + (k + 1))))) (unnum (num (p.B (0 + (k + 1))))))).cells.toList 0 4)) (IntKind.i64.wrap (((k + 1 : Nat) : Int) + 1)))))) (r2 (num (p.A (0 + (k + 1)))) (num 0) (apq4 (k + 1) none)) (r2 (num 0) (num (p.B (0 + (k + 1)))) (apq4 (k + 1) none)) (r2 (num 0) (num 0) (apq4 (k + 1) none)) (some (.exit 0, suB p (k + 1) (nmF S) ((k + 1 : Nat) : Int))) := by kernel_rfl
theorem su_q47 (p : SuP) (S : Nat → Nat) (k : Nat) : roundS suC0 60 [1, 1, 1, 0, 1, 0, 0] (loopAt [1, 1, 1, 0, 1, 0] (bodyOf Try.f5)) suN1 (suIx 47) 17 suN1 suE1 17 (suB p (k + 1) (nmF S) ((k + 1 : Nat) : Int)) =
    sub2 p (k + 1) (r2 (num (p.A (0 + (k + 1)))) (num (p.B (0 + (k + 1)))) (apq4 (k + 1) none)) (r2 (num (p.A (0 + (k + 1)))) (num 0) (apq4 (k + 1) (some (.normal, suB p (k + 1 + 1) (appF (k + 1) (nmF S) (lstF (num (faddN 1 (unnum (num (p.A (0 + (k + 1))))) (unnum (num 0)))).cells.toList 0 4)) (IntKind.i64.wrap (((k + 1 : Nat) : Int) + 1)))))) (r2 (num 0) (num (p.B (0 + (k + 1)))) (apq4 (k + 1) (some (.normal, suB p (k + 1 + 1) (appF (k + 1) (nmF S) (lstF (num (faddN 1 (unnum (num 0)) (unnum (num (p.B (0 + (k + 1))))))).cells.toList 0 4)) (IntKind.i64.wrap (((k + 1 : Nat) : Int) + 1)))))) (r2 (num 0) (num 0) (apq4 (k + 1) none)) (some (.exit 0, suB p (k + 1) (nmF S) ((k + 1 : Nat) : Int))) := by kernel_rfl
/-! places, each once -/
def suB2 : Nat := nid 1 0
def syN : List Nat := [3, 13, 14]
def syIa : Ren := [(suB2, nid 51 0), (1500003, 1500003)]
def syId : Ren := [(suB2, suB2), (1500003, 1500003)]
def syZ : List Nat := [1500003]
def syM (p : SuP) : List (Nat × Blk) := [(1500003, ⟨.row kI1 p.nz (fun i => i1L (p.Z i)), p.ez, false⟩)]
def syA (p : SuP) (i : Int) : St := ⟨[(3, aSl 3 p.nz), (13, .slice none 0 0), (14, i64 i)], syM p, 30⟩
def syB (p : SuP) (m : Nat) (g : Nat → List Value) (i : Int) : St := ⟨[(3, aSl 3 p.nz), (13, .slice (some ⟨suB2, 0, none⟩) m m), (14, i64 i)], (suB2, ⟨.row kN4 m g, 25, true⟩) :: syM p, 30⟩
def sjN : List Nat := [3, 13, 14, 15, 16, 17]
def sjI : List Nat := [42, suB2, 1500003]
def sjZ : List Nat := [42, 1500003]
def sjA (p : SuP) (i : Int) (x : List Value) : St := ⟨[(3, aSl 3 p.nz), (13, .slice none 0 0), (14, i64 i), (15, ptr 42), (16, .bool false), (17, i64 0)], (42, ⟨.lst x, 25, true⟩) :: syM p, 46⟩
def sjB (p : SuP) (m : Nat) (g : Nat → List Value) (i : Int) (x : List Value) (tw : Bool) (k : Int) : St := ⟨[(3, aSl 3 p.nz), (13, .slice (some ⟨suB2, 0, none⟩) m m), (14, i64 i), (15, ptr 42), (16, .bool tw), (17, i64 k)], (42, ⟨.lst x, 25, true⟩) :: (suB2, ⟨.row kN4 m g, 25, true⟩) :: syM p, 46⟩
theorem sj_z (p : SuP) (i : Int) (x : Nat) : roundS suC0 60 [1, 1, 1, 1, 1, 1, 0, 1, 0, 0, 1, 0, 0, 1, 1, 0, 1, 0, 0] (loopAt [1, 1, 1, 1, 1, 1, 0, 1, 0, 0, 1, 0, 0, 1, 1, 0, 1, 0] (bodyOf Try.f5)) sjN sjZ 46 sjN sjZ 46 (sjA p i (cells4 x)) = some (.exit 4, sjA p i (cells4 x)) := by kernel_rfl
theorem sj_r (p : SuP) (m : Nat) (S : Nat → Nat) (i : Int) (x : Nat) (tw : Bool) (j : Nat) : roundS suC0 60 [1, 1, 1, 1, 1, 1, 0, 1, 0, 0, 1, 0, 0, 1, 1, 0, 1, 0, 0] (loopAt [1, 1, 1, 1, 1, 1, 0, 1, 0, 0, 1, 0, 0, 1, 1, 0, 1, 0] (bodyOf Try.f5)) sjN sjI 46 sjN sjI 46 (sjB p m (nmF S) i (cells4 x) tw (j : Int)) =
    bif decide ((j : Int) < (m : Int)) then (bif tw then some (.normal, sjB p m (nmF S) i (cells4 x) true (IntKind.i64.wrap ((j : Int) + 1))) else rdR j m (some (.normal, sjB p m (nmF S) i (cells4 x) (eqV (num (S (0 + j))) (num x)) (IntKind.i64.wrap ((j : Int) + 1)))))
    else some (.exit 4, sjB p m (nmF S) i (cells4 x) tw (j : Int)) := by kernel_rfl
noncomputable def syCa (p : SuP) (i : Int) (x : Nat) : Cfg := ⟨tab, suS, 162, [([1, 1, 1, 1, 1, 1, 0, 1, 0, 0, 1, 0, 0, 1, 1, 0, 1, 0], atSt sjN sjZ 46 (sjA p i (cells4 x)) (.exit 4) (sjA p i (cells4 x)))]⟩
noncomputable def syCb (p : SuP) (m : Nat) (S : Nat → Nat) (i : Int) (x : Nat) (b : Bool) : Cfg := ⟨tab, suS, 162, [([1, 1, 1, 1, 1, 1, 0, 1, 0, 0, 1, 0, 0, 1, 1, 0, 1, 0], atSt sjN sjI 46 (sjB p m (nmF S) i (cells4 x) false 0) (.exit 4) (sjB p m (nmF S) i (cells4 x) b (m : Int)))]⟩
noncomputable def syC1 : Cfg := ⟨tab, suS, 162, [([1, 1, 1, 1, 1, 1, 0, 1, 0, 0, 1, 0, 0, 1, 1, 0, 1, 0], fun _ => [])]⟩
def syw {α : Type} (p : SuP) (i : Nat) (k out : Option α) : Option α := bif decide ((i : Int) < (p.nz : Int)) then rdR i p.nz k else out
theorem sy_r0 (p : SuP) (x i : Nat) : roundS (syCa p (i : Int) x) 60 [1, 1, 1, 1, 1, 1, 0, 1, 0, 0] (loopAt [1, 1, 1, 1, 1, 1, 0, 1, 0] (bodyOf Try.f5)) syN syIa 30 syN syZ 30 (syA p (i : Int)) =
    syw p i (req (stEq (sjA p (i : Int) (smL (qI 40 (p.Z (0 + i))))) (sjA p (i : Int) (cells4 x))) (some (.normal, syB p 1 (lstF (cells4 x) 0 4) (IntKind.i64.wrap ((i : Int) + 1))))) (some (.exit 2, syA p (i : Int))) := by kernel_rfl
theorem sy_r1 (p : SuP) (k : Nat) (S : Nat → Nat) (x i : Nat) : roundS (syCb p (k + 1) S (i : Int) x false) 60 [1, 1, 1, 1, 1, 1, 0, 1, 0, 0] (loopAt [1, 1, 1, 1, 1, 1, 0, 1, 0] (bodyOf Try.f5)) syN syIa 30 syN syId 30 (syB p (k + 1) (nmF S) (i : Int)) =
    syw p i (req (stEq (sjB p (k + 1) (nmF S) (i : Int) (smL (qI 40 (p.Z (0 + i)))) false 0) (sjB p (k + 1) (nmF S) (i : Int) (cells4 x) false 0)) (apq4 (k + 1) (some (.normal, syB p (k + 1 + 1) (appF (k + 1) (nmF S) (lstF (cells4 x) 0 4)) (IntKind.i64.wrap ((i : Int) + 1)))))) (some (.exit 2, syB p (k + 1) (nmF S) (i : Int))) := by kernel_rfl
theorem sy_r2 (p : SuP) (k : Nat) (S : Nat → Nat) (x i : Nat) : roundS (syCb p (k + 1) S (i : Int) x true) 60 [1, 1, 1, 1, 1, 1, 0, 1, 0, 0] (loopAt [1, 1, 1, 1, 1, 1, 0, 1, 0] (bodyOf Try.f5)) syN syId 30 syN syId 30 (syB p (k + 1) (nmF S) (i : Int)) =
    syw p i (req (stEq (sjB p (k + 1) (nmF S) (i : Int) (smL (qI 40 (p.Z (0 + i)))) false 0) (sjB p (k + 1) (nmF S) (i : Int) (cells4 x) false 0)) (some (.normal, syB p (k + 1) (nmF S) (IntKind.i64.wrap ((i : Int) + 1))))) (some (.exit 2, syB p (k + 1) (nmF S) (i : Int))) := by kernel_rfl
theorem sy_o0 (p : SuP) (i : Nat) : roundS syC1 60 [1, 1, 1, 1, 1, 1, 0, 1, 0, 0] (loopAt [1, 1, 1, 1, 1, 1, 0, 1, 0] (bodyOf Try.f5)) syN syIa 30 syN syZ 30 (syA p (i : Int)) = syw p i none (some (.exit 2, syA p (i : Int))) := by kernel_rfl
theorem sy_o1 (p : SuP) (k : Nat) (S : Nat → Nat) (i : Nat) : roundS syC1 60 [1, 1, 1, 1, 1, 1, 0, 1, 0, 0] (loopAt [1, 1, 1, 1, 1, 1, 0, 1, 0] (bodyOf Try.f5)) syN syId 30 syN syId 30 (syB p (k + 1) (nmF S) (i : Int)) = syw p i none (some (.exit 2, syB p (k + 1) (nmF S) (i : Int))) := by kernel_rfl
/-! they add up -/
def suB3 : Nat := nid 31 0
def swN : List Nat := [13, 18, 19, 20, 21]
def swI : List Nat := [40, suB2, suB3]
def swS (m : Nat) (S W : Nat → Nat) (T : Nat) (i : Int) : St := ⟨[(13, .slice (some ⟨suB2, 0, none⟩) m m), (18, .slice (some ⟨suB3, 0, none⟩) m m), (19, i64 0), (20, ptr 40), (21, i64 i)], [(40, ⟨cells4 T, 25, true⟩), (suB2, ⟨.row kN4 m (nmF S), 25, true⟩), (suB3, ⟨.row kN4 m (nmF W), 25, true⟩)], 42⟩
theorem sw_r (m : Nat) (S W : Nat → Nat) (T i : Nat) : roundS suC0 60 [1, 1, 1, 1, 1, 1, 1, 1, 1, 1, 0, 1, 0, 0] (loopAt [1, 1, 1, 1, 1, 1, 1, 1, 1, 1, 0, 1, 0] (bodyOf Try.f5)) swN swI 42 swN swI 42 (swS m S W T (i : Int)) =
    bif decide ((i : Int) < (m : Int)) then rdR i m (r2 (num T) (num (W (0 + i))) (some (.normal, swS m S W (faddN 1 (unnum (num T)) (unnum (num (W (0 + i))))) (IntKind.i64.wrap ((i : Int) + 1)))))
    else some (.exit 6, swS m S W T (i : Int)) := by kernel_rfl
theorem sub2_tt {α : Type} {p : SuP} {i : Nat} (ha : i < p.na) (hb : i < p.nb) (tt tf ft ff out : Option α) : sub2 p i tt tf ft ff out = tt := by
  unfold sub2
  simp only
  rw [decide_eq_true (show (i : Int) < (p.na : Int) by omega), decide_eq_true (show (i : Int) < (p.nb : Int) by omega), cond_true, cond_true, cond_true, rdR_eq ha, rdR_eq hb]
theorem sub2_tf {α : Type} {p : SuP} {i : Nat} (ha : i < p.na) (hb : ¬ i < p.nb) (tt tf ft ff out : Option α) : sub2 p i tt tf ft ff out = tf := by
  unfold sub2
  simp only
  rw [decide_eq_true (show (i : Int) < (p.na : Int) by omega), decide_eq_false (show ¬ (i : Int) < (p.nb : Int) by omega), cond_true, cond_true, cond_false, rdR_eq ha]
theorem sub2_ft {α : Type} {p : SuP} {i : Nat} (ha : ¬ i < p.na) (hb : i < p.nb) (tt tf ft ff out : Option α) : sub2 p i tt tf ft ff out = ft := by
  unfold sub2
  simp only
  rw [decide_eq_false (show ¬ (i : Int) < (p.na : Int) by omega), decide_eq_true (show (i : Int) < (p.nb : Int) by omega), cond_true, cond_true, cond_false, cond_false, rdR_eq hb]; rfl
theorem sub2_out {α : Type} {p : SuP} {i : Nat} (ha : ¬ i < p.na) (hb : ¬ i < p.nb) (tt tf ft ff out : Option α) : sub2 p i tt tf ft ff out = out := by
  unfold sub2
  simp only
  rw [decide_eq_false (show ¬ (i : Int) < (p.na : Int) by omega), decide_eq_false (show ¬ (i : Int) < (p.nb : Int) by omega), cond_false, cond_false]
noncomputable def suQ (p : SuP) : Nat → Nat := suN p.A p.na p.B p.nb
noncomputable def suSt (p : SuP) : Nat → St
  | 0 => suA p 0
  | k + 1 => suB p (k + 1) (nmF (suQ p)) ((k + 1 : Nat) : Int)
def suEi : Nat → Ren
  | 0 => suZ1
  | _ + 1 => suE1
theorem suQ_tt {p : SuP} (hA : ∀ j, j < p.na → p.A j < 2 ^ 256) (hB : ∀ j, j < p.nb → p.B j < 2 ^ 256) {i : Nat} (ha : i < p.na) (hb : i < p.nb) : faddN 1 (unnum (num (p.A i))) (unnum (num (p.B i))) = suQ p i := by
  unfold suQ suN padN; rw [if_pos ha, if_pos hb, unnum_lt (hA i ha), unnum_lt (hB i hb), nAdd_def]
theorem suQ_tf {p : SuP} (hA : ∀ j, j < p.na → p.A j < 2 ^ 256) {i : Nat} (ha : i < p.na) (hb : ¬ i < p.nb) : faddN 1 (unnum (num (p.A i))) (unnum (num 0)) = suQ p i := by
  unfold suQ suN padN; rw [if_pos ha, if_neg hb, unnum_lt (hA i ha), unnum_lt (by decide), nAdd_def]
theorem suQ_ft {p : SuP} (hB : ∀ j, j < p.nb → p.B j < 2 ^ 256) {i : Nat} (ha : ¬ i < p.na) (hb : i < p.nb) : faddN 1 (unnum (num 0)) (unnum (num (p.B i))) = suQ p i := by
  unfold suQ suN padN; rw [if_neg ha, if_pos hb, unnum_lt (hB i hb), unnum_lt (by decide), nAdd_def]
theorem su_loop {p : SuP} {N : Nat} (hN : N ≤ 100) (hlo : ∀ i, i < N → i < p.na ∨ i < p.nb) (hhi : ¬ N < p.na ∧ ¬ N < p.nb) (hA : ∀ j, j < p.na → p.A j < 2 ^ 256) (hB : ∀ j, j < p.nb → p.B j < 2 ^ 256) :
    LoopOk Try.prog 162 (loopAt [1, 1, 1, 0, 1, 0] (bodyOf Try.f5)) (atSt suN1 suZ1 17 (suA p 0) (.exit 0) (suSt p N)) := by
  refine loopV (fun _ => suC0) N (fun _ _ => ⟨mixed, tabOk, suS_ok, noL⟩) (fun _ => rfl) su_at1 (m := 60) (nt := suN1) (ni := fun i => if i < p.na ∧ i < p.nb then suIx 52 else suIx 47) (et := suN1) (ei := suEi) (nx := 17) (ex := 17) (suSt p) rfl (by intro h; cases h) ?_ ?_
  · intro i hi
    cases i with
    | zero =>
      refine ⟨suB p 1 (lstF (cells4 (suQ p 0)) 0 4) 1, ?_, stEq_mk rfl (mSame rfl (mRow (one_row (ks := kN4) rfl) (mSame rfl (mSame rfl (mSame rfl mNil)))))⟩
      by_cases ha : 0 < p.na
      · by_cases hb : 0 < p.nb
        · rw [if_pos ⟨ha, hb⟩]
          refine (su_r52 p).trans ?_
          rw [sub2_tt ha hb, r2_num, suQ_tt hA hB ha hb]; rfl
        · rw [if_neg (fun h => hb h.2)]
          refine (su_r47 p).trans ?_
          rw [sub2_tf ha hb, r2_num, suQ_tf hA ha hb]; rfl
      · have hb : 0 < p.nb := by have := hlo 0 hi; omega
        rw [if_neg (fun h => ha h.1)]
        refine (su_r47 p).trans ?_
        rw [sub2_ft ha hb, r2_num, suQ_ft hB ha hb]; rfl
    | succ k =>
      refine ⟨suB p (k + 1 + 1) (appF (k + 1) (nmF (suQ p)) (lstF (cells4 (suQ p (k + 1))) 0 4)) ((k + 1 + 1 : Nat) : Int), ?_, stEq_mk rfl (mSame rfl (mRow (app4_row rfl) (mSame rfl (mSame rfl (mSame rfl mNil)))))⟩
      by_cases ha : k + 1 < p.na
      · by_cases hb : k + 1 < p.nb
        · rw [if_pos ⟨ha, hb⟩]
          refine (su_q52 p _ k).trans ?_
          rw [sub2_tt ha hb, r2_num, apq4_eq (by omega), Nat.zero_add, suQ_tt hA hB ha hb, wrap_i64 (by omega)]; rfl
        · rw [if_neg (fun h => hb h.2)]
          refine (su_q47 p _ k).trans ?_
          rw [sub2_tf ha hb, r2_num, apq4_eq (by omega), Nat.zero_add, suQ_tf hA ha hb, wrap_i64 (by omega)]; rfl
      · have hb : k + 1 < p.nb := by have := hlo (k + 1) hi; omega
        rw [if_neg (fun h => ha h.1)]
        refine (su_q47 p _ k).trans ?_
        rw [sub2_ft ha hb, r2_num, apq4_eq (by omega), Nat.zero_add, suQ_ft hB ha hb, wrap_i64 (by omega)]; rfl
  · rw [if_neg (fun h => hhi.1 h.1)]
    refine ⟨_, ?_, stEq_refl (by cases N <;> rfl)⟩
    cases N with
    | zero => exact (su_r47 p).trans (sub2_out hhi.1 hhi.2 _ _ _ _ _)
    | succ k => exact (su_q47 p _ k).trans (sub2_out hhi.1 hhi.2 _ _ _ _ _)
/-! places -/
theorem sj_loopz (p : SuP) (i : Int) (x : Nat) : LoopOk Try.prog 162 (loopAt [1, 1, 1, 1, 1, 1, 0, 1, 0, 0, 1, 0, 0, 1, 1, 0, 1, 0] (bodyOf Try.f5)) (atSt sjN sjZ 46 (sjA p i (cells4 x)) (.exit 4) (sjA p i (cells4 x))) :=
  loopE (fun _ => suC0) 0 (fun _ _ => ⟨mixed, tabOk, suS_ok, noL⟩) (fun _ => rfl) su_at3 (m := 60) (nt := sjN) (ni := sjZ) (et := sjN) (ei := sjZ) (nx := 46) (ex := 46) (fun _ => sjA p i (cells4 x)) rfl (by intro h; cases h) (fun k hk => absurd hk (by omega)) ⟨_, sj_z p i x, stEq_refl rfl⟩
theorem sj_loop {p : SuP} {m : Nat} {S : Nat → Nat} {i : Int} {x : Nat} (hm : m ≤ 1000) (hS : ∀ j, j < m → S j < 2 ^ 256) (hx : x < 2 ^ 256) : LoopOk Try.prog 162 (loopAt [1, 1, 1, 1, 1, 1, 0, 1, 0, 0, 1, 0, 0, 1, 1, 0, 1, 0] (bodyOf Try.f5)) (atSt sjN sjI 46 (sjB p m (nmF S) i (cells4 x) false 0) (.exit 4) (sjB p m (nmF S) i (cells4 x) (twB S x m) (m : Int))) := by
  refine loopE (fun _ => suC0) m (fun _ _ => ⟨mixed, tabOk, suS_ok, noL⟩) (fun _ => rfl) su_at3 (m := 60) (nt := sjN) (ni := sjI) (et := sjN) (ei := sjI) (nx := 46) (ex := 46) (fun j => sjB p m (nmF S) i (cells4 x) (twB S x j) (j : Int)) rfl (by intro h; cases h) ?_ ?_
  · intro j hj
    refine ⟨_, ?_, stEq_refl rfl⟩
    refine (sj_r p m S i x _ j).trans ?_
    rw [decide_eq_true (by omega), cond_true, rdR_eq hj, wrap_i64 (by omega), Nat.zero_add, eqV_num, Nat.mod_eq_of_lt (hS j hj), Nat.mod_eq_of_lt hx]
    show _ = some (Exit.normal, sjB p m (nmF S) i (cells4 x) (twB S x j || decide (S j = x)) ((j + 1 : Nat) : Int))
    cases twB S x j <;> rfl
  · refine ⟨_, ?_, stEq_refl rfl⟩
    refine (sj_r p m S i x _ m).trans ?_
    rw [decide_eq_false (by omega), cond_false]
theorem syw_in {α : Type} {p : SuP} {i : Nat} (hi : i < p.nz) (k out : Option α) : syw p i k out = k := by
  unfold syw; rw [decide_eq_true (by omega), cond_true, rdR_eq hi]
theorem syw_out {α : Type} {p : SuP} {i : Nat} (hi : ¬ i < p.nz) (k out : Option α) : syw p i k out = out := by
  unfold syw; rw [decide_eq_false (by omega), cond_false]
def sySt (p : SuP) (S : Nat → Nat) (i : Int) : Nat → St
  | 0 => syA p i
  | m + 1 => syB p (m + 1) (nmF S) i
noncomputable def syCf (p : SuP) (S : Nat → Nat) (i : Int) (x : Nat) (b : Bool) : Nat → Cfg
  | 0 => syCa p i x
  | m + 1 => syCb p (m + 1) S i x b
def syNi (b : Bool) : Nat → Ren
  | 0 => syIa
  | _ + 1 => bif b then syId else syIa
def syEi : Nat → Ren
  | 0 => syZ
  | _ + 1 => syId
theorem sy_loop {p : SuP} (hn1 : p.nz ≤ 100) {q : Nat → Nat} (hqx : ∀ i, qI 40 (p.Z i) = (q i : Int) ∧ 0 < q i ∧ q i ≤ 40) :
    LoopOk Try.prog 162 (loopAt [1, 1, 1, 1, 1, 1, 0, 1, 0] (bodyOf Try.f5)) (atSt syN syZ 30 (syA p 0) (.exit 2) (sySt p (ddP q p.nz) (p.nz : Int) (ddL q p.nz).length)) := by
  have hlen := dd_len q
  have hP : ∀ i j, j < (ddL q i).length → ddP q i j ≤ 40 := fun i j hj => dd_all (p := fun x => x ≤ 40) (fun i => (hqx i).2.2) i _ (ddP_mem hj)
  refine loopV (fun i => if i < p.nz then syCf p (ddP q i) (i : Int) (q i) (decide (q i ∈ ddL q i)) (ddL q i).length else syC1) p.nz ?_ (fun i => ?_) su_at2 (m := 60) (nt := syN) (ni := fun i => if i < p.nz then syNi (decide (q i ∈ ddL q i)) (ddL q i).length else syNi true (ddL q i).length) (et := syN) (ei := fun i => syEi (ddL q i).length) (nx := 30) (ex := 30) (fun i => sySt p (ddP q i) (i : Int) (ddL q i).length) rfl (by intro h; cases h) ?_ ?_
  · intro i _
    by_cases h : i < p.nz
    · rw [if_pos h]
      cases hl : (ddL q i).length with
      | zero => exact ⟨mixed, tabOk, suS_ok, oneL (sj_loopz p _ _)⟩
      | succ m =>
        have := sj_loop (p := p) (m := m + 1) (S := ddP q i) (i := (i : Int)) (x := q i) (by have := hlen i; omega) (fun j hj => by have := hP i j (by omega); omega) (by have := (hqx i).2.2; omega)
        rw [← hl, tw_mem, hl] at this
        exact ⟨mixed, tabOk, suS_ok, oneL this⟩
    · rw [if_neg h]; exact ⟨mixed, tabOk, suS_ok, noneL2⟩
  · by_cases h : i < p.nz
    · simp only [h, if_true]
      cases (ddL q i).length <;> rfl
    · simp only [h, if_false]; rfl
  · intro i hi
    simp only [if_pos hi]
    have hqi := hqx i
    have hsm : smL (qI 40 (p.Z (0 + i))) = cells4 (q i) := by rw [Nat.zero_add, (hqx i).1]; exact smL_eq (by omega)
    cases hl : (ddL q i).length with
    | zero =>
      have hnil : ddL q i = [] := List.length_eq_zero_iff.1 hl
      have hno : ¬ q i ∈ ddL q i := by rw [hnil]; simp
      have hl1 : (ddL q (i + 1)).length = 1 := by rw [dd_out hno, hnil]; rfl
      have hnew := ddP_new hno
      rw [hl] at hnew
      rw [hl1]
      refine ⟨syB p 1 (lstF (cells4 (q i)) 0 4) ((i + 1 : Nat) : Int), ?_, stEq_mk rfl (mRow (one_row (ks := kN4) (by show nrmK kN4 (nmL _) = nrmK kN4 (nmL _); rw [hnew])) (mSame rfl mNil))⟩
      refine (sy_r0 p (q i) i).trans ?_
      rw [syw_in hi, hsm, req_true (stEq_refl rfl), wrap_i64 (by omega)]; rfl
    | succ m =>
      have hm1 := hlen i
      by_cases hin : q i ∈ ddL q i
      · have hdd := dd_in hin
        have hS1 : ddP q (i + 1) = ddP q i := by
          funext j
          unfold ddP; rw [hdd]
        rw [hdd, hl, hS1, decide_eq_true hin]
        refine ⟨syB p (m + 1) (nmF (ddP q i)) ((i + 1 : Nat) : Int), ?_, stEq_refl rfl⟩
        refine (sy_r2 p m (ddP q i) (q i) i).trans ?_
        rw [syw_in hi, hsm, req_true (stEq_refl rfl), wrap_i64 (by omega)]; rfl
      · have hl1 : (ddL q (i + 1)).length = m + 1 + 1 := by rw [dd_out hin, List.length_append, hl]; rfl
        have hnew := ddP_new hin
        rw [hl] at hnew
        rw [hl1, decide_eq_false hin]
        refine ⟨syB p (m + 1 + 1) (appF (m + 1) (nmF (ddP q i)) (lstF (cells4 (q i)) 0 4)) ((i + 1 : Nat) : Int), ?_, stEq_mk rfl (mRow (app_row (ks := kN4) (fun j hj => by show nrmK kN4 (nmL (ddP q i j)) = nrmK kN4 (nmL (ddP q (i + 1) j)); rw [ddP_old hin (by omega)]) (by show nrmK kN4 (nmL _) = nrmK kN4 (nmL (ddP q (i + 1) (m + 1))); rw [hnew])) (mSame rfl mNil))⟩
        refine (sy_r1 p m (ddP q i) (q i) i).trans ?_
        rw [syw_in hi, hsm, req_true (stEq_refl rfl), apq4_eq (by omega), wrap_i64 (by omega)]; rfl
  · simp only [if_neg (Nat.lt_irrefl p.nz)]
    refine ⟨_, ?_, stEq_refl (by cases (ddL q p.nz).length <;> rfl)⟩
    cases hl : (ddL q p.nz).length with
    | zero =>
      refine (sy_o0 p p.nz).trans ?_
      rw [syw_out (Nat.lt_irrefl _)]; rfl
    | succ m =>
      refine (sy_o1 p m (ddP q p.nz) p.nz).trans ?_
      rw [syw_out (Nat.lt_irrefl _)]; rfl
theorem sw_loop {m : Nat} {S W : Nat → Nat} (hm : m ≤ 900) (hW : ∀ j, W j < pN) : LoopOk Try.prog 162 (loopAt [1, 1, 1, 1, 1, 1, 1, 1, 1, 1, 0, 1, 0] (bodyOf Try.f5)) (atSt swN swI 42 (swS m S W 0 0) (.exit 6) (swS m S W (zsN (fun _ => 1) W m) (m : Int))) := by
  refine loopE (fun _ => suC0) m (fun _ _ => ⟨mixed, tabOk, suS_ok, noL⟩) (fun _ => rfl) su_at4 (m := 60) (nt := swN) (ni := swI) (et := swN) (ei := swI) (nx := 42) (ex := 42) (fun i => swS m S W (zsN (fun _ => 1) W i) (i : Int)) rfl (by intro h; cases h) ?_ ?_
  · intro i hi
    refine ⟨_, ?_, stEq_refl rfl⟩
    refine (sw_r m S W _ i).trans ?_
    rw [decide_eq_true (by omega), cond_true, rdR_eq hi, r2_num, Nat.zero_add, uN (zsN_p _ _ _), uN (hW i), wrap_i64 (by omega), ← nAdd_def, ← zs_one W i (hW i)]; rfl
  · refine ⟨_, ?_, stEq_refl rfl⟩
    refine (sw_r m S W _ m).trans ?_
    rw [decide_eq_false (by omega), cond_false]
/-! all of it -/
def suF : Option Value := some (.bool false)
def suT (p : SuP) (k : Option Value) : Option Value := bif decide ((p.na : Int) > 20) then some (.bool true) else bif decide ((p.nb : Int) > 20) then some (.bool true) else bif decide ((p.nz : Int) > 8) then some (.bool true) else k
noncomputable def suM1 (p : SuP) (E : Nat) (k : Option Value) : Option Value := evq p.na (nmF p.A) (num p.X) fun Ea => evq p.nb (nmF p.B) (num p.X) fun Eb => r2 (num Ea) (num Eb) (bif !(eqV (num E) (num (faddN 1 (unnum (num Ea)) (unnum (num Eb))))) then suF else req (stEq (syA p 0) (syA p 0)) k)
noncomputable def suH (p : SuP) (k : Option Value) : Nat → (Nat → Nat) → Option Value
  | 0, _ => req (true && okV 0 noF4 && isNum (num p.X)) (suM1 p (evN (nA noF4) 0 (unnum (num p.X))) k)
  | m + 1, S => evq (m + 1) (nmF S) (num p.X) fun E => suM1 p E k
noncomputable def suR2 (m : Nat) (S W : Nat → Nat) (T : Nat) : Option Value := wskq (m + 1) (nmF S) fun W0 => bif ((m + 1 : Nat) : Int) == 0 then suF else req (stEq (swS (m + 1) S W0 0 0) (swS (m + 1) S W 0 0)) (bif ((m + 1 : Nat) : Int) == ((m + 1 : Nat) : Int) then (bif eqV (num T) (num 1) then some (.bool true) else suF) else suF)
noncomputable def suR3 : Option Value := req (true && okV 0 noF4 && (ckN (nA noF4) 0 != 0)) (bif ckN (nA noF4) 0 == 4 then some (.bool true) else suF)
def suSs (p : SuP) (S : Nat → Nat) : Nat → St
  | 0 => suA p 0
  | k + 1 => suB p (k + 1) (nmF S) ((k + 1 : Nat) : Int)
noncomputable def suC (p : SuP) (N : Nat) (S1 : Nat → Nat) (m : Nat) (S W : Nat → Nat) (T : Nat) : Cfg := ⟨tab, suS, 162, [([1, 1, 1, 0, 1, 0], atSt suN1 suZ1 17 (suA p 0) (.exit 0) (suSs p S1 N)), ([1, 1, 1, 1, 1, 1, 0, 1, 0], atSt syN syZ 30 (syA p 0) (.exit 2) (syB p (m + 1) (nmF S) (p.nz : Int))), ([1, 1, 1, 1, 1, 1, 1, 1, 1, 1, 0, 1, 0], atSt swN swI 42 (swS (m + 1) S W 0 0) (.exit 6) (swS (m + 1) S W T ((m + 1 : Nat) : Int)))]⟩
noncomputable def suC' (p : SuP) (N : Nat) (S1 : Nat → Nat) : Cfg := ⟨tab, suS', 162, [([1, 1, 1, 0, 1, 0], atSt suN1 suZ1 17 (suA p 0) (.exit 0) (suSs p S1 N)), ([1, 1, 1, 1, 1, 1, 0, 1, 0], atSt syN syZ 30 (syA p 0) (.exit 2) (syA p (p.nz : Int))), ([1, 1, 1, 1, 1, 1, 1, 1, 1, 1, 0, 1, 0], fun _ => [])]⟩
def suAr (p : SuP) : List Arg := [.sl kN4 p.na (nmF p.A), .sl kN4 p.nb (nmF p.B), .pl (num p.X), .sl kI1 p.nz (fun i => i1L (p.Z i))]
def suPe (p : SuP) (es : Nat → Nat) : SuP := ⟨p.na, p.A, es 0, p.nb, p.B, es 1, p.X, p.nz, p.Z, es 3⟩
theorem su_ev1 (p : SuP) (k : Nat) (S1 : Nat → Nat) (m : Nat) (S W : Nat → Nat) (T : Nat) (es : Nat → Nat) : fnA (suC (suPe p es) (k + 1) S1 m S W T) 200 Try.f5 (bodyOf Try.f5) (cArgs (suAr p) 0) (cMem es (suAr p) 0) 0 =
    suT p (req (stEq (suA (suPe p es) 0) (suA (suPe p es) 0)) (suH (suPe p es) (suR2 m S W T) (k + 1) S1)) := by kernel_rfl
theorem su_ev2 (p : SuP) (S1 : Nat → Nat) (m : Nat) (S W : Nat → Nat) (T : Nat) (es : Nat → Nat) : fnA (suC (suPe p es) 0 S1 m S W T) 200 Try.f5 (bodyOf Try.f5) (cArgs (suAr p) 0) (cMem es (suAr p) 0) 0 =
    suT p (req (stEq (suA (suPe p es) 0) (suA (suPe p es) 0)) (suH (suPe p es) (suR2 m S W T) 0 S1)) := by kernel_rfl
theorem su_ev3 (p : SuP) (k : Nat) (S1 : Nat → Nat) (es : Nat → Nat) : fnA (suC' (suPe p es) (k + 1) S1) 200 Try.f5 (bodyOf Try.f5) (cArgs (suAr p) 0) (cMem es (suAr p) 0) 0 =
    suT p (req (stEq (suA (suPe p es) 0) (suA (suPe p es) 0)) (suH (suPe p es) suR3 (k + 1) S1)) := by kernel_rfl
theorem su_ev4 (p : SuP) (S1 : Nat → Nat) (es : Nat → Nat) : fnA (suC' (suPe p es) 0 S1) 200 Try.f5 (bodyOf Try.f5) (cArgs (suAr p) 0) (cMem es (suAr p) 0) 0 =
    suT p (req (stEq (suA (suPe p es) 0) (suA (suPe p es) 0)) (suH (suPe p es) suR3 0 S1)) := by kernel_rfl
theorem su_ev0 (p : SuP) (es : Nat → Nat) : fnA ⟨tab, suS', 162, [([1, 1, 1, 0, 1, 0], fun _ => [])]⟩ 200 Try.f5 (bodyOf Try.f5) (cArgs (suAr p) 0) (cMem es (suAr p) 0) 0 = suT p none := by kernel_rfl
theorem suT_in {p : SuP} (h : p.na ≤ 20 ∧ p.nb ≤ 20 ∧ p.nz ≤ 8) (k : Option Value) : suT p k = k := by
  unfold suT
  rw [decide_eq_false (by omega), decide_eq_false (by omega), decide_eq_false (by omega)]; rfl
theorem suT_out {p : SuP} (h : ¬ (p.na ≤ 20 ∧ p.nb ≤ 20 ∧ p.nz ≤ 8)) (k : Option Value) : suT p k = some (.bool true) := by
  unfold suT
  by_cases h1 : p.na > 20
  · rw [decide_eq_true (by omega)]; rfl
  · by_cases h2 : p.nb > 20
    · rw [decide_eq_false (by omega), decide_eq_true (by omega)]; rfl
    · rw [decide_eq_false (by omega), decide_eq_false (by omega), decide_eq_true (by omega)]; rfl
theorem suM1_eq {p : SuP} (ha : p.na ≤ 20) (hb : p.nb ≤ 20) (hA : ∀ j, p.A j < 2 ^ 256) (hB : ∀ j, p.B j < 2 ^ 256) (hX : p.X < 2 ^ 256) {E : Nat} (hE : E = nAdd (evN p.A p.na p.X) (evN p.B p.nb p.X)) (k : Option Value) : suM1 p E k = k := by
  unfold suM1
  rw [evq_nm (by omega) (fun j _ => hA j) hX, evq_nm (by omega) (fun j _ => hB j) hX, r2_num, uN (evN_p _ _ _), uN (evN_p _ _ _), ← nAdd_def, hE, eqq, Bool.not_true, cond_false, req_true (stEq_refl rfl)]
theorem suH_eq {p : SuP} (ha : p.na ≤ 20) (hb : p.nb ≤ 20) (hA : ∀ j, p.A j < 2 ^ 256) (hB : ∀ j, p.B j < 2 ^ 256) (hX : p.X < 2 ^ 256) (k : Option Value) {N : Nat} (hN : N ≤ 20) (h1 : p.na ≤ N) (h2 : p.nb ≤ N) : suH p k N (suQ p) = k := by
  have key : ∀ f : Nat → Nat, (∀ j, j < N → f j = suQ p j) → evN f N p.X = nAdd (evN p.A p.na p.X) (evN p.B p.nb p.X) := fun f hf => by
    rw [evN_congr hf]; exact su_ev h1 h2
  cases N with
  | zero =>
    show req (true && okV 0 noF4 && isNum (num p.X)) (suM1 p (evN (nA noF4) 0 (unnum (num p.X))) k) = k
    rw [no_okV, isNum_num, req_true (b := true && true && true) rfl, unnum_lt hX]
    exact suM1_eq ha hb hA hB hX (key _ (fun j hj => absurd hj (by omega))) k
  | succ m =>
    show (evq (m + 1) (nmF (suQ p)) (num p.X) fun E => suM1 p E k) = k
    rw [evq_nm (V := suQ p) (n := m + 1) (by omega) (fun j _ => nAdd_l _ _) hX]
    exact suM1_eq ha hb hA hB hX (key _ (fun _ _ => rfl)) k
theorem wskq_eq {α : Type} {m : Nat} {V : Nat → Nat} (hm : m ≤ 1000) (hV : ∀ j, j < m → V j < 2 ^ 256) (hc : ckN V m = 0) (k : (Nat → Nat) → Option α) : wskq m (nmF V) k = k (wtN (nA (nmF V)) m) := by
  unfold wskq
  rw [kb4_true, okV_sg, okV_nm hm, nA_sg, ckN_congr (Y := V) (fun j hj => nA_nm (hV j hj)), hc, req_true (b := true && true && ((0 : Int) == 0)) rfl]
theorem su_calls {W : World} {na nb X nz : Nat} {A B : Nat → Nat} {Z : Nat → Int} {v0 v1 v3 : Value} (hA : ∀ j, A j < 2 ^ 256) (hB : ∀ j, B j < 2 ^ 256) (hX : X < 2 ^ 256) (h0 : SrcW W kN4 na (fun i => nmL (A i)) v0) (h1 : SrcW W kN4 nb (fun i => nmL (B i)) v1) (h3 : SrcW W kI1 nz (fun i => i1L (Z i)) v3) :
    Calls Try.prog 5 #[v0, v1, num X, v3] W fun e w' => e = .returned (.bool true) ∧ Go.RowKit.Below W.heap.size W w' := by
  have hev0 : ∀ es : Nat → TypeId, ∃ C, CfgOk Try.prog C (bodyOf Try.f5) ∧ C.n = Try.f5.ntmps ∧ fnA C 200 Try.f5 (bodyOf Try.f5) (cArgs (suAr ⟨na, A, 0, nb, B, 0, X, nz, Z, 0⟩) 0) (cMem es (suAr ⟨na, A, 0, nb, B, 0, X, nz, Z, 0⟩) 0) 0 = some (.bool true) := by
    intro es
    by_cases h : na ≤ 20 ∧ nb ≤ 20 ∧ nz ≤ 8
    · obtain ⟨N, hN⟩ : ∃ N, N = max na nb := ⟨_, rfl⟩
      have hL1 := su_loop (p := ⟨na, A, es 0, nb, B, es 1, X, nz, Z, es 3⟩) (N := N) (by omega) (fun i hi => by show i < na ∨ i < nb; omega) ⟨by show ¬ N < na; omega, by show ¬ N < nb; omega⟩ (fun j _ => hA j) (fun j _ => hB j)
      have hqx : ∀ i, qI 40 (Z i) = ((fun i => qN 40 (Z i)) i : Int) ∧ 0 < (fun i => qN 40 (Z i)) i ∧ (fun i => qN 40 (Z i)) i ≤ 40 := fun i => qI_eq (M := 40) (by decide) (by decide)
      have hL2 := sy_loop (p := ⟨na, A, es 0, nb, B, es 1, X, nz, Z, es 3⟩) (by show nz ≤ 100; omega) hqx
      have hT := suT_in (p := ⟨na, A, 0, nb, B, 0, X, nz, Z, 0⟩) h
      have hH := fun k => suH_eq (p := ⟨na, A, es 0, nb, B, es 1, X, nz, Z, es 3⟩) (N := N) h.1 h.2.1 hA hB hX k (by omega) (by show na ≤ N; omega) (by show nb ≤ N; omega)
      have hlen := dd_len (fun i => qN 40 (Z i)) nz
      cases hl : (ddL (fun i => qN 40 (Z i)) nz).length with
      | zero =>
        rw [show (ddL (fun i => qN 40 (Z i)) (SuP.nz ⟨na, A, es 0, nb, B, es 1, X, nz, Z, es 3⟩)).length = 0 from hl] at hL2
        have hr3 : suR3 = some (.bool true) := by
          unfold suR3
          rw [no_okV, ckN_len (.inl rfl)]; rfl
        cases N with
        | zero =>
          refine ⟨suC' (suPe ⟨na, A, 0, nb, B, 0, X, nz, Z, 0⟩ es) 0 (suQ ⟨na, A, es 0, nb, B, es 1, X, nz, Z, es 3⟩), ⟨mixed, tabOk, suS_ok', consL hL1 (consL hL2 noneL2)⟩, rfl, ?_⟩
          refine (su_ev4 ⟨na, A, 0, nb, B, 0, X, nz, Z, 0⟩ _ es).trans ?_
          rw [hT, req_true (stEq_refl rfl)]
          exact (hH _).trans hr3
        | succ k =>
          refine ⟨suC' (suPe ⟨na, A, 0, nb, B, 0, X, nz, Z, 0⟩ es) (k + 1) (suQ ⟨na, A, es 0, nb, B, es 1, X, nz, Z, es 3⟩), ⟨mixed, tabOk, suS_ok', consL hL1 (consL hL2 noneL2)⟩, rfl, ?_⟩
          refine (su_ev3 ⟨na, A, 0, nb, B, 0, X, nz, Z, 0⟩ k _ es).trans ?_
          rw [hT, req_true (stEq_refl rfl)]
          exact (hH _).trans hr3
      | succ m =>
        rw [show (ddL (fun i => qN 40 (Z i)) (SuP.nz ⟨na, A, es 0, nb, B, es 1, X, nz, Z, es 3⟩)).length = m + 1 from hl] at hL2
        have hP : ∀ j, j < m + 1 → ddP (fun i => qN 40 (Z i)) nz j ≤ 40 := fun j hj => dd_all (p := fun x => x ≤ 40) (fun i => (hqx i).2.2) nz _ (ddP_mem (by omega))
        have hu : Unlike (ddP (fun i => qN 40 (Z i)) nz) (m + 1) := unlike_small (fun j hj => by have := hP j hj; omega) (fun i j hij hj => ddP_ne hij (by omega))
        have hc := ckN_ok (X := ddP (fun i => qN 40 (Z i)) nz) (n := m + 1) (by omega) (by omega) (of_unlike hu)
        have hr2 : suR2 m (ddP (fun i => qN 40 (Z i)) nz) (wtN (ddP (fun i => qN 40 (Z i)) nz) (m + 1)) (zsN (fun _ => 1) (wtN (ddP (fun i => qN 40 (Z i)) nz) (m + 1)) (m + 1)) = some (.bool true) := by
          unfold suR2
          rw [wskq_eq (by omega) (fun j hj => by have := hP j hj; omega) hc, show (((m + 1 : Nat) : Int) == 0) = false from by rw [beq_eq_false_iff_ne]; omega, cond_false]
          refine Eq.trans (req_true (stEq_mk rfl (mSame rfl (mSame rfl (mRow (fun j hj => ?_) mNil))))) ?_
          · show nrmK kN4 (nmL _) = nrmK kN4 (nmL _)
            rw [wtN_congr hj (fun i hi => nA_nm (by have := hP i hi; omega))]
          · rw [wt_one hu (by omega), eqq, show (((m + 1 : Nat) : Int) == ((m + 1 : Nat) : Int)) = true from beq_self_eq_true _]; rfl
        have hL4 := sw_loop (m := m + 1) (S := ddP (fun i => qN 40 (Z i)) nz) (W := wtN (ddP (fun i => qN 40 (Z i)) nz) (m + 1)) (by omega) (wtN_p _ _)
        cases N with
        | zero =>
          refine ⟨suC (suPe ⟨na, A, 0, nb, B, 0, X, nz, Z, 0⟩ es) 0 (suQ ⟨na, A, es 0, nb, B, es 1, X, nz, Z, es 3⟩) m (ddP (fun i => qN 40 (Z i)) nz) (wtN (ddP (fun i => qN 40 (Z i)) nz) (m + 1)) (zsN (fun _ => 1) (wtN (ddP (fun i => qN 40 (Z i)) nz) (m + 1)) (m + 1)), ⟨mixed, tabOk, suS_ok, consL hL1 (consL hL2 (oneL hL4))⟩, rfl, ?_⟩
          refine (su_ev2 ⟨na, A, 0, nb, B, 0, X, nz, Z, 0⟩ _ _ _ _ _ es).trans ?_
          rw [hT, req_true (stEq_refl rfl)]
          exact (hH _).trans hr2
        | succ k =>
          refine ⟨suC (suPe ⟨na, A, 0, nb, B, 0, X, nz, Z, 0⟩ es) (k + 1) (suQ ⟨na, A, es 0, nb, B, es 1, X, nz, Z, es 3⟩) m (ddP (fun i => qN 40 (Z i)) nz) (wtN (ddP (fun i => qN 40 (Z i)) nz) (m + 1)) (zsN (fun _ => 1) (wtN (ddP (fun i => qN 40 (Z i)) nz) (m + 1)) (m + 1)), ⟨mixed, tabOk, suS_ok, consL hL1 (consL hL2 (oneL hL4))⟩, rfl, ?_⟩
          refine (su_ev1 ⟨na, A, 0, nb, B, 0, X, nz, Z, 0⟩ k _ _ _ _ _ es).trans ?_
          rw [hT, req_true (stEq_refl rfl)]
          exact (hH _).trans hr2
    · refine ⟨⟨tab, suS', 162, [([1, 1, 1, 0, 1, 0], fun _ => [])]⟩, ⟨mixed, tabOk, suS_ok', noneL2⟩, rfl, ?_⟩
      exact (su_ev0 ⟨na, A, 0, nb, B, 0, X, nz, Z, 0⟩ es).trans (suT_out h _)
  exact law_sound (c := bodyOf Try.f5) (args' := [v0, v1, num X, v3]) Try.func5 (by kernel_rfl) (A := suAr ⟨na, A, 0, nb, B, 0, X, nz, Z, 0⟩) ⟨h0, h1, rfl, rfl, h3, trivial⟩ (GOk_nil _) (by show 4 ≤ Try.f5.ntmps; decide +kernel) rfl (by intro vs h; cases h) (fuel := 200) (next := 0) hev0
end Go.Proofs.Ytpkoldooncpggaa
