/-
  Several texts in one.
-/
import Derived.Test.YtbklbmiddacaiaaSa
import Derived.Test.YtbklbmiddacaiaaEi
/-
  Rows of numbers: held against one another, copied.
-/
namespace Go.Proofs.Ytbklbmiddacaiaa
set_option maxRecDepth 100000
open Go.W

def nuNt : List Nat := [0, 1, 4, 5]
def nuNi : List Nat := [1500000, 1500001]
def nuSt (n : Nat) (f : Nat → List Value) (m : Nat) (g : Nat → List Value) (e0 e1 : Nat) (i : Int) : St :=
  ⟨[(0, aSl 0 n), (1, aSl 1 m), (4, .bool false), (5, i64 i)], [(1500000, ⟨.row kN4 n f, e0, false⟩), (1500001, ⟨.row kN4 m g, e1, false⟩)], 20⟩
def nuC0 : Cfg := ⟨tab, [], 26, []⟩
theorem nu_at : codeAt [1, 1, 0, 1, 0] (bodyOf Try.f12) = some (.loop (loopAt [1, 1, 0, 1, 0] (bodyOf Try.f12))) := by kernel_rfl
theorem nu_r (n : Nat) (V : Nat → Nat) (m : Nat) (U : Nat → Nat) (e0 e1 : Nat) (i : Nat) : roundS nuC0 60 [1, 1, 0, 1, 0, 0] (loopAt [1, 1, 0, 1, 0] (bodyOf Try.f12)) nuNt nuNi 20 nuNt nuNi 20 (nuSt n (nmF V) m (nmF U) e0 e1 (i : Int)) =
    bif decide ((i : Int) < (n : Int)) then rdR i n (rdR i m (bif !(eqV (num (V (0 + i))) (num (U (0 + i)))) then some (.ret, nuSt n (nmF V) m (nmF U) e0 e1 (i : Int)) else some (.normal, nuSt n (nmF V) m (nmF U) e0 e1 (IntKind.i64.wrap ((i : Int) + 1)))))
    else some (.exit 0, nuSt n (nmF V) m (nmF U) e0 e1 (i : Int)) := by kernel_rfl
theorem nu_loop {n : Nat} {V U : Nat → Nat} {e0 e1 : Nat} (hn : n ≤ 1000) (he : ∀ j, j < n → V j = U j) : LoopOk Try.prog 26 (loopAt [1, 1, 0, 1, 0] (bodyOf Try.f12)) (atSt nuNt nuNi 20 (nuSt n (nmF V) n (nmF U) e0 e1 0) (.exit 0) (nuSt n (nmF V) n (nmF U) e0 e1 (n : Int))) := by
  refine loopE (fun _ => nuC0) n (fun _ _ => ⟨mixed, tabOk, sums_nil, noL⟩) (fun _ => rfl) nu_at (m := 60) (nt := nuNt) (ni := nuNi) (et := nuNt) (ei := nuNi) (nx := 20) (ex := 20) (fun i => nuSt n (nmF V) n (nmF U) e0 e1 (i : Int)) rfl (by intro h; cases h) ?_ ?_
  · intro i hi
    refine ⟨_, ?_, stEq_refl rfl⟩
    refine (nu_r n V n U e0 e1 i).trans ?_
    rw [decide_eq_true (by omega), cond_true, rdR_eq hi, rdR_eq hi, Nat.zero_add, he i hi, eqq, wrap_i64 (by omega)]; rfl
  · refine ⟨_, ?_, stEq_refl rfl⟩
    refine (nu_r n V n U e0 e1 n).trans ?_
    rw [decide_eq_false (by omega), cond_false]
noncomputable def nuC (n : Nat) (V U : Nat → Nat) (e0 e1 : Nat) : Cfg := ⟨tab, [], 26, [([1, 1, 0, 1, 0], atSt nuNt nuNi 20 (nuSt n (nmF V) n (nmF U) e0 e1 0) (.exit 0) (nuSt n (nmF V) n (nmF U) e0 e1 (n : Int)))]⟩
theorem nu_ev (n : Nat) (f : Nat → List Value) (g : Nat → List Value) (V U : Nat → Nat) (es : Nat → Nat) (id : Nat) : fnMS (nuC n V U (es 0) (es 1)) 60 Try.f12 (bodyOf Try.f12) (cArgs [.sl kN4 n f, .sl kN4 n g] 0) (cMem es [.sl kN4 n f, .sl kN4 n g] 0) 0 id =
    bif ((n : Nat) : Int) != ((n : Nat) : Int) then some (.bool false, []) else req (stEq (nuSt n f n g (es 0) (es 1) 0) (nuSt n (nmF V) n (nmF U) (es 0) (es 1) 0)) (some (.bool true, [])) := by kernel_rfl
theorem nu_msum : MSum Try.prog 12 NumsF := by
  intro w0 R fm w hm vs args' hl mm hsub id hlt v l hpick hnew
  match vs, hl, hpick with
  | [a, b], hl, hpick =>
    obtain ⟨hc, rfl, rfl⟩ := pick_one hpick
    simp only [Bool.and_eq_true] at hc
    obtain ⟨⟨⟨⟨ha, hb⟩, ho1⟩, ho2⟩, hs⟩ := hc
    generalize hqa : srcB mm kN4 a = qa at ha ho1 hs
    generalize hqb : srcB mm kN4 b = qb at hb ho2 hs
    obtain ⟨ok1, n, f⟩ := qa
    obtain ⟨ok2, m, g⟩ := qb
    simp only at ha hb ho1 ho2 hs
    subst ha hb
    obtain ⟨rfl, he⟩ := sameN_iff.1 hs
    have hn1 := (okV_iff.1 ho1).1
    refine msum_at (c := bodyOf Try.f12) (fuel := 60) (next := 0) Try.func12 (by kernel_rfl) (by kernel_rfl) hm hl hsub hlt (A := [.sl kN4 n f, .sl kN4 n g]) ⟨hqa, hqb, trivial⟩ (by show 2 ≤ Try.f12.ntmps; decide +kernel) (.inl rfl) hnew (fun es => ?_)
    refine ⟨nuC n (nA f) (nA g) (es 0) (es 1), ⟨mixed, tabOk, sums_nil, oneL (nu_loop hn1 he)⟩, rfl, ?_⟩
    refine (nu_ev n f g _ _ es id).trans ?_
    rw [bne_self_eq_false, cond_false]
    exact req_true (stEq_mk rfl (mRow (row_nm ho1) (mRow (row_nm ho2) mNil)))
  | [], _, h => simp [NumsF, pickM] at h
  | [_], _, h => simp [NumsF, pickM] at h
  | _ :: _ :: _ :: _, _, h => simp [NumsF, pickM] at h

def tnC : Cfg := ⟨tab, [], 7, []⟩
theorem tn_ev (n : Nat) (f : Nat → List Value) (es : Nat → Nat) (id : Nat) : fnMS tnC 60 Try.f9 (bodyOf Try.f9) (cArgs [.sl kN4 n f] 0) (cMem es [.sl kN4 n f] 0) 0 id =
    req (Nat.ble n n && true) (req (szOk n 32) (req (Nat.ble n n) (some (nSl id n, rw4 25 id n (sg4 n f))))) := by kernel_rfl
theorem tn_msum : MSum Try.prog 9 (TnF 25) := by
  refine msum_of (fuel := 60) (next := 0) (C := tnC) (c := bodyOf Try.f9) ⟨mixed, tabOk, sums_nil, noL⟩ Try.func9 (by kernel_rfl) (by kernel_rfl) rfl fun vs mm id v l hpick hlt => ?_
  match vs, hpick with
  | [a], hpick =>
    obtain ⟨hc, rfl, rfl⟩ := pick_one hpick
    simp only [Bool.and_eq_true] at hc
    obtain ⟨ha, hs⟩ := hc
    generalize hqa : srcB mm kN4 a = qa at ha hs ⊢
    obtain ⟨ok1, n, f⟩ := qa
    simp only at ha hs ⊢
    subst ha
    refine ⟨[.sl kN4 n f], ⟨hqa, trivial⟩, by show 1 ≤ Try.f9.ntmps; decide +kernel, .inr ⟨_, rfl⟩, fun es => ?_⟩
    exact (tn_ev n f es id).trans (by rw [bE (Nat.le_refl n), hs]; rfl)
  | [], h => simp [TnF, pickM] at h
  | _ :: _ :: _, h => simp [TnF, pickM] at h

end Go.Proofs.Ytbklbmiddacaiaa
