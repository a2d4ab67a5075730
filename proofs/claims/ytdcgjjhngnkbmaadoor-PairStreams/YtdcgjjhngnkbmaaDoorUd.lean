/-
  PairStreams.
-/
import Derived.Test.YtdcgjjhngnkbmaaDoorSu
namespace Go.Proofs.YtdcgjjhngnkbmaaDoor
set_option maxRecDepth 100000
open Go.W
open Go.RowKit (Below)

noncomputable def pstS : Sums := [(6, CBasF), (11, CBytF 5), (12, StmF 5), (8, SelF), (13, BytesF), (10, WkF)]
theorem pstS_ok : SumsOk Tryd.prog pstS := sums_cons cBa_sum (sums_consM cby_msum (sums_consM st_msum (sums_cons sel_sum (sums_cons Bytes_sum (sums_cons wk8_sum sums_nil)))))
def pstC0 : Cfg := ⟨tab, [], 124, []⟩
def pstP : List Nat := [1, 1, 1, 1, 1, 1, 1, 1, 1, 0, 1, 0]
theorem pst_at : codeAt pstP (bodyOf Tryd.f4) = some (.loop (loopAt pstP (bodyOf Tryd.f4))) := by kernel_rfl
def pstN : List Nat := [14, 16, 18, 20, 21, 22]
def pstI : List Nat := [48, 59, 85, 86, nid 34 0]
def pstL (x y u v : List Value) (g : Nat → List Value) (k : Nat) : St :=
  ⟨[(14, .slice (some ⟨nid 34 0, 0, none⟩) 32 32), (16, ptr 48), (18, ptr 59), (20, ptr 85), (21, ptr 86), (22, i64 (k : Nat))],
   [(48, ⟨.lst x, 25, true⟩), (59, ⟨.lst y, 25, true⟩), (85, ⟨.lst u, 25, true⟩), (86, ⟨.lst v, 25, true⟩), (nid 34 0, ⟨.row kB 32 g, 5, true⟩)], 90⟩
def pstSt (x y u v : Nat → Int) (g : Nat → List Value) (k : Nat) : St := pstL (bLn x 0 32) (bLn y 0 32) (bLn u 0 32) (bLn v 0 32) g k
theorem pst_r (x y u v : Nat → Int) (g : Nat → List Value) : ∀ k, k < 32 → roundS pstC0 60 (pstP ++ [0]) (loopAt pstP (bodyOf Tryd.f4)) pstN pstI 90 pstN pstI 90 (pstSt x y u v g k) =
    bif x k != xB (u k) (bI g k) then some (.ret, pstSt x y u v g k) else bif xB (x k) (y k) != xB (u k) (v k) then some (.ret, pstSt x y u v g k) else some (.normal, pstSt x y u v g (k + 1))
  | 0, _ => by kernel_rfl
  | 1, _ => by kernel_rfl
  | 2, _ => by kernel_rfl
  | 3, _ => by kernel_rfl
  | 4, _ => by kernel_rfl
  | 5, _ => by kernel_rfl
  | 6, _ => by kernel_rfl
  | 7, _ => by kernel_rfl
  | 8, _ => by kernel_rfl
  | 9, _ => by kernel_rfl
  | 10, _ => by kernel_rfl
  | 11, _ => by kernel_rfl
  | 12, _ => by kernel_rfl
  | 13, _ => by kernel_rfl
  | 14, _ => by kernel_rfl
  | 15, _ => by kernel_rfl
  | 16, _ => by kernel_rfl
  | 17, _ => by kernel_rfl
  | 18, _ => by kernel_rfl
  | 19, _ => by kernel_rfl
  | 20, _ => by kernel_rfl
  | 21, _ => by kernel_rfl
  | 22, _ => by kernel_rfl
  | 23, _ => by kernel_rfl
  | 24, _ => by kernel_rfl
  | 25, _ => by kernel_rfl
  | 26, _ => by kernel_rfl
  | 27, _ => by kernel_rfl
  | 28, _ => by kernel_rfl
  | 29, _ => by kernel_rfl
  | 30, _ => by kernel_rfl
  | 31, _ => by kernel_rfl
  | n + 32, h => absurd h (by omega)
theorem pst_o (x y u v : Nat → Int) (g : Nat → List Value) : roundS pstC0 60 (pstP ++ [0]) (loopAt pstP (bodyOf Tryd.f4)) pstN pstI 90 pstN pstI 90 (pstSt x y u v g 32) = some (.exit 0, pstSt x y u v g 32) := by kernel_rfl
theorem pst_vok (x y u v : Nat → Int) (g : Nat → List Value) (k : Nat) : stEq (pstSt x y u v g k) (pstSt x y u v g k) = true := stEq_refl rfl
theorem pst_loop {x y u v : Nat → Int} {g : Nat → List Value} (h1 : ∀ j, j < 32 → x j = xB (u j) (bI g j)) (h2 : ∀ j, j < 32 → xB (x j) (y j) = xB (u j) (v j)) :
    LoopOk Tryd.prog 124 (loopAt pstP (bodyOf Tryd.f4)) (atSt pstN pstI 90 (pstSt x y u v g 0) (.exit 0) (pstSt x y u v g 32)) := by
  refine loopE (fun _ => pstC0) 32 (fun _ _ => ⟨mixed, tabOk, sums_nil, noL⟩) (fun _ => rfl) pst_at (m := 60) (nt := pstN) (ni := pstI) (et := pstN) (ei := pstI) (nx := 90) (ex := 90) (fun k => pstSt x y u v g k) rfl (by intro h; cases h) ?_ ?_
  · intro k hk
    refine ⟨_, (pst_r x y u v g k hk).trans ?_, pst_vok x y u v g (k + 1)⟩
    rw [h1 k hk, bne_self_eq_false, cond_false, ← h1 k hk, h2 k hk, bne_self_eq_false, cond_false]
  · exact ⟨_, pst_o x y u v g, pst_vok x y u v g 32⟩
noncomputable def pstC (x y u v : Nat → Int) (g : Nat → List Value) : Cfg := ⟨tab, pstS, 124, [(pstP, atSt pstN pstI 90 (pstSt x y u v g 0) (.exit 0) (pstSt x y u v g 32))]⟩
noncomputable def pstR (x y u v : Nat → Int) (g : Nat → List Value) (key : Value) (f t : Int) (A B : Value) (s : Nat → List Value) : Option Value :=
  qSel key (frI f) (frI t) A fun p g1 => qSel key (frI f) (frI t) B fun q h1 => bif g1 != 0 then fls else bif h1 != 0 then fls else req (isNum A) (req (isNum B)
    (req (stEq (pstL p.cells.toList q.cells.toList (bytesL 32 (unnum A)) (bytesL 32 (unnum B)) s 0) (pstSt x y u v g 0)) tru))
theorem pst_ev (x y u v : Nat → Int) (g : Nat → List Value) (K A B : Nat) (f t : Int) : fnS (pstC x y u v g) 60 Tryd.f4 (bodyOf Tryd.f4) [num K, num A, num B, i64 f, i64 t] =
    qBas (num K) fun key => bif isPt key && !(ckR (unPt key)) then (qSel key (frI f) (frI t) (num A) fun _ _ => qSel key (frI f) (frI t) (num B) fun _ _ => fls) else
      bif isPt key && (unPt key).1 then pstR x y u v g key f t (num A) (num B) (smF (whF 3 (kzF 1 (lstF [.int .u8 0] 0 1) (frI f) (frI t))) 32)
      else req (isPt key) (pstR x y u v g key f t (num A) (num B) (smF (whF 35 (kzF 33 (pbF (hdY (unPt key).2.2) (bytesL 32 (unPt key).2.1)) (frI f) (frI t))) 32)) := by kernel_rfl
theorem pstR_eq {r : RP} (hr : ckR r = true) {A B : Nat} (hA : lt6 A) (hB : lt6 B) {f t : Int} {s : Nat → List Value} (hs : s = skS r (frI f) (frI t)) :
    pstR (fun j => xB (byN A j) (bI (skS r (frI f) (frI t)) j)) (fun j => xB (byN B j) (bI (skS r (frI f) (frI t)) j)) (byN A) (byN B) (skS r (frI f) (frI t)) (ptV r) f t (num A) (num B) s = tru := by
  have hE : pE r (frI f) (frI t) = 0 := pE_ok hr (frI_ok f) (frI_ok t)
  have hk := ck_okR hr
  subst hs
  unfold pstR
  rw [qSel_pt hk hA, qSel_pt hk hB, hE, show ((0 : Int) != 0) = false from rfl, cond_false, cond_false, isNum_num, isNum_num, req_true rfl, req_true rfl, unnum_lt hA, unnum_lt hB,
    slV_list hE, slV_list hE, by_eq76, by_eq76]
  rw [req_true (b := stEq (pstL _ _ _ _ _ 0) _) (pst_vok _ _ _ _ _ 0)]
theorem pst_calls {K A B : Nat} {f t : Int} (hK : lt6 K) (hA : lt6 A) (hB : lt6 B) {W : World} (hg : GOk (lay Tryd.prog) W) : Calls Tryd.prog 4 #[num K, num A, num B, i64 f, i64 t] W fun e W' => e = .returned (.bool true) ∧ Below W.heap.size W W' := by
  have hr := ck_bas K
  have hk := ck_okR hr
  have hOk : CfgOk Tryd.prog (pstC (fun j => xB (byN A j) (bI (skS (basS K) (frI f) (frI t)) j)) (fun j => xB (byN B j) (bI (skS (basS K) (frI f) (frI t)) j)) (byN A) (byN B) (skS (basS K) (frI f) (frI t))) (bodyOf Tryd.f4) :=
    ⟨mixed, tabOk, pstS_ok, oneL (pst_loop (fun _ _ => rfl) (fun j hj => sl_two _ _ _ A B hj))⟩
  refine fn_sound hOk Tryd.func4 (by kernel_rfl) rfl (args := [num K, num A, num B, i64 f, i64 t]) (fuel := 60) (v := .bool true) (by show 5 ≤ Tryd.f4.ntmps; decide +kernel) (by kernel_rfl) ((pst_ev _ _ _ _ _ K A B f t).trans ?_) rfl W hg
  rw [qBas_pt hK, isPt_ptV, unPt_ptV hk, hr]
  cases hi : (basS K).1 with
  | true => exact pstR_eq hr hA hB (by unfold skS; rw [if_pos hi])
  | false => exact pstR_eq hr hA hB (by unfold skS; rw [if_neg (by rw [hi]; exact Bool.false_ne_true)])
end Go.Proofs.YtdcgjjhngnkbmaaDoor
