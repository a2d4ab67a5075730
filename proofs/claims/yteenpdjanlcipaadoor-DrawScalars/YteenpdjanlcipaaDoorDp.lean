/-
  DrawScalars.
-/
import Derived.Test.YteenpdjanlcipaaDoorSg
import Derived.Test.YteenpdjanlcipaaDoorDn
import Derived.Test.YteenpdjanlcipaaDoorDo
namespace Go.Proofs.YteenpdjanlcipaaDoor
set_option maxRecDepth 100000
open Go.W
open Go.RowKit (Below)

noncomputable def dcG : Sums := [(9, HvF), (10, TrF 37 5), (11, ScF), (12, SkF), (13, RrF), (14, WkF), (16, PrimeF), (15, CmpF)]
theorem dcG_ok : SumsOk Tryd.prog dcG := sums_consM hv_msum (sums_consM tr_msum (sums_consM sc_msum (sums_consM sk_msum (sums_consM rr_msum (sums_cons wk5_sum (sums_cons Prime_sum (sums_cons CmpR_sum sums_nil)))))))
noncomputable def dcC : Cfg := ⟨tab, dcG, 59, []⟩
theorem dcOk : CfgOk Tryd.prog dcC (bodyOf Tryd.f3) := ⟨mixed, tabOk, dcG_ok, noL⟩
def g0N : Nat → Nat × (Nat → List Value) := fun _ => (0, fun _ => [])
noncomputable def dcT (L : Nat) (J : Nat → List Value) (L2 : Nat) (J2 : Nat → List Value) (q : Bool) : Option Value :=
  bif !q then some (.bool false) else dcE (scS L J).2 (scS L J).1 (skS L2 J2).1 (skS L2 J2).2
theorem dc_ev (s : ByteArray) (n : Nat) (g : Nat → Nat × (Nat → List Value)) (es : Nat → Nat) (er : Nat → Nat → Nat) : fnA dcC 60 Tryd.f3 (bodyOf Tryd.f3) (cArgsF [.pl (.string s), .fm kB n g] 0) (cMemF es er [.pl (.string s), .fm kB n g] 0) 0 =
    req (kbk n) (bif hvB s n g then some (.bool true) else
      bif kbk n && Nat.beq n 0 then req (Nat.ble s.size 1000000 && true) (req (kbk n && Nat.ble n 1000000) (req (kbk n && true && true) (dcT (jl s g0N 0) (jF s g0N 0) (jl s g n) (jF s g n) (eqG 0 g0N n g))))
      else req (kbk n && Nat.ble n 50 && !(hvR g n)) (req (kbk n && Nat.ble s.size 1000000 && Nat.ble n 1000000) (req (kbk n && Nat.ble n 1000000) (req (kbk n && kbk n && Nat.ble n 1000000 && !(hvR (trG g (n - 1)) n)) (dcT (jl s (trG g (n - 1)) n) (jF s (trG g (n - 1)) n) (jl s g n) (jF s g n) (eqG n (trG g (n - 1)) n g)))))) := by kernel_rfl
theorem dc_calls {s : ByteArray} {n : Nat} {g : Nat → Nat × (Nat → List Value)} {q : Pl} {et : TypeId} {er : Nat → TypeId} {v : Value} {W : World} (hg : GOk (lay Tryd.prog) W) (hv : FamW W et kB n er g q v) :
    Calls Tryd.prog 3 #[.string s, v] W fun e W' => e = .returned (.bool true) ∧ Below W.heap.size W W' :=
  lawF_sound (c := bodyOf Tryd.f3) (fuel := 60) (next := 0) (A := [.pl (.string s), .fm kB n g]) (args' := [.string s, v]) (es := fun _ => et) (er := fun _ => er) (pl := fun _ => some q) Tryd.func3 (by kernel_rfl) ⟨rfl, rfl, ⟨q, rfl, hv⟩, trivial⟩ hg
    (by show 2 ≤ Tryd.f3.ntmps; decide +kernel) rfl nofun
    fun es er => ⟨dcC, dcOk, rfl, (dc_ev s n g es er).trans (by
      rw [kbk_true, req_true rfl]
      cases hb : hvB s n g with
      | true => rfl
      | false =>
        obtain ⟨h1, h2, h3⟩ := hvB_iff.1 hb
        rw [cond_false, ble_of (show s.size ≤ 1000000 by omega), ble_of (show n ≤ 1000000 by omega)]
        by_cases hn : n = 0
        · subst hn
          rw [show (true && Nat.beq 0 0) = true from rfl, cond_true, req_true (b := true && true) rfl, req_true (b := true && true) rfl, req_true (b := true && true && true) rfl]
          unfold dcT
          rw [eqG_true ⟨rfl, fun j hj => absurd hj (by omega)⟩, Bool.not_true, cond_false]
          exact dcE_true fun j _ => rfl
        · have htr : ∀ j, j < n → trG g (n - 1) j = twP (g j) := fun j hj => trG_at g (n - 1) j (by omega)
          have hr : hvR g n = false := (hvR_false g n).2 h3
          have hr2 : hvR (trG g (n - 1)) n = false := (hvR_false _ n).2 fun j hj => by rw [htr j hj]; exact h3 j hj
          have hjl : jl s (trG g (n - 1)) n = jl s g n := jl_congr s n fun j hj => by rw [htr j hj]; rfl
          rw [nbeq_ne hn, show (true && false) = false from rfl, cond_false, ble_of h2, hr, hr2, req_true (b := true && true && !false) rfl, req_true (b := true && true && true) rfl, req_true (b := true && true) rfl, req_true (b := true && true && true && !false) rfl]
          unfold dcT
          rw [eqG_true ⟨rfl, fun j hj => by rw [htr j hj]; exact eqR_tw _ _⟩, Bool.not_true, cond_false, hjl]
          exact dcE_true fun j hj => jF_congr s n (fun k hk => by rw [htr k hk]; exact ⟨rfl, fun x _ => by show bI (twF (sgF (g k).1 (g k).2)) x = _; rw [bI_tw, bI_sg]⟩) j (by rw [hjl]; exact hj))⟩

end Go.Proofs.YteenpdjanlcipaaDoor
