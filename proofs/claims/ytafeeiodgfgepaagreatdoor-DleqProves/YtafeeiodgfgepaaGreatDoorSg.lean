/-
  Several texts in one.
-/
import Derived.Test.YtafeeiodgfgepaaGreatDoorSh
import Derived.Test.YtafeeiodgfgepaaGreatDoorEh
import Derived.Test.YtafeeiodgfgepaaGreatDoorSd
/-
  Package draw: numbers laid in bytes, sums of what is joined, what fits.
-/
namespace Go.Proofs.YtafeeiodgfgepaaGreatDoor
set_option maxRecDepth 100000
open Go.W
def laC : Cfg := ⟨tab, [], 27, []⟩
theorem laOk : CfgOk Tryz.prog laC (bodyOf Tryz.f99) := ⟨mixed, tabOk, sums_nil, noL⟩
theorem la_ev4 (x : Int) (es : Nat → Nat) (id : Nat) : fnMS laC 60 Tryz.f99 (bodyOf Tryz.f99) (cArgs [.pl (.int .i64 x), .pl (.int .i64 4)] 0) (cMem es [.pl (.int .i64 x), .pl (.int .i64 4)] 0) 0 id =
    some (.slice (some ⟨nid id 0, 0, none⟩) 4 4, [(nid id 0, ⟨.row kB 4 (la4 x), 5, true⟩)]) := by kernel_rfl
theorem la_ev8 (x : Int) (es : Nat → Nat) (id : Nat) : fnMS laC 60 Tryz.f99 (bodyOf Tryz.f99) (cArgs [.pl (.int .i64 x), .pl (.int .i64 8)] 0) (cMem es [.pl (.int .i64 x), .pl (.int .i64 8)] 0) 0 id =
    some (.slice (some ⟨nid id 0, 0, none⟩) 8 8, [(nid id 0, ⟨.row kB 8 (la8 x), 5, true⟩)]) := by kernel_rfl
theorem la_msum : MSum Tryz.prog 99 (LaF 5) := by
  refine msum_of (fuel := 60) (next := 0) laOk Tryz.func99 (by kernel_rfl) (by kernel_rfl) rfl fun vs mm id v l hpick hlt => ?_
  unfold LaF at hpick
  split at hpick
  · rename_i x s
    simp only [pickM] at hpick
    by_cases h4 : s = 4
    · subst h4
      rw [decide_eq_true rfl, cond_true] at hpick
      simp only [Option.some.injEq, Prod.mk.injEq] at hpick
      obtain ⟨rfl, rfl⟩ := hpick
      exact ⟨[.pl (.int .i64 x), .pl (.int .i64 4)], ⟨rfl, rfl, rfl, rfl, trivial⟩, by show 2 ≤ Tryz.f99.ntmps; decide +kernel, .inr ⟨_, rfl⟩, fun es => la_ev4 x es id⟩
    · rw [decide_eq_false h4, cond_false] at hpick
      by_cases h8 : s = 8
      · subst h8
        rw [decide_eq_true rfl, cond_true] at hpick
        simp only [Option.some.injEq, Prod.mk.injEq] at hpick
        obtain ⟨rfl, rfl⟩ := hpick
        exact ⟨[.pl (.int .i64 x), .pl (.int .i64 8)], ⟨rfl, rfl, rfl, rfl, trivial⟩, by show 2 ≤ Tryz.f99.ntmps; decide +kernel, .inr ⟨_, rfl⟩, fun es => la_ev8 x es id⟩
      · rw [decide_eq_false h8, cond_false] at hpick
        simp at hpick
  · simp [pickM] at hpick
noncomputable def soC : Cfg := ⟨tab, [(100, SuF)], 9, []⟩
theorem soOk : CfgOk Tryz.prog soC (bodyOf Tryz.f67) := ⟨mixed, tabOk, sums_consM su_msum sums_nil, noL⟩
noncomputable def soE (n : Nat) (f : Nat → List Value) (m : Nat) (g : Nat → List Value) : Value := tdV (shN (n + m) (bN (sgF (n + m) (appF n f (sgF m g)))))
theorem so_evA (n : Nat) (f : Nat → List Value) (m : Nat) (g : Nat → List Value) (es : Nat → Nat) : fnO soC 60 Tryz.f67 (bodyOf Tryz.f67) (.slice (some ⟨argId 0, 0, none⟩) n (n + m) :: cArgs [.sl kB m g] 1) ((argId 0, ⟨.row kB n f, 5, true⟩) :: cMem es [.sl kB m g] 1) 0 (argId 0) =
    req (true && Nat.ble m m && true) (req (szOk (n + m) 1) (req (Nat.beq n n && true && true) (req (Nat.ble (n + m) (n + m) && Nat.blt 0 n && Nat.blt 0 m) (req (okN (n + m)) (some (soE n f m g, some ⟨.row kB (n + m) (appF n f (sgF m g)), 5, true⟩)))))) := by kernel_rfl
theorem so_evB (n : Nat) (f : Nat → List Value) (m : Nat) (g : Nat → List Value) (cap : Nat) (es : Nat → Nat) : fnA soC 60 Tryz.f67 (bodyOf Tryz.f67) (.slice (some ⟨1000000, 0, none⟩) n cap :: cArgs [.sl kB m g] 1) ((1000000, ⟨.row kB n f, 5, false⟩) :: cMem es [.sl kB m g] 1) 0 =
    req (true && Nat.ble m m && true) (req (szOk (n + m) 1) (req (true && Nat.beq n n && Nat.blt cap (n + m) && true) (req (okN (n + m)) (some (soE n f m g))))) := by kernel_rfl
theorem so_msum : MSum Tryz.prog 67 (SoF 5) := by
  intro w0 R fm w hm vs args' hl mm hsub id hlt v l hpick hnew
  match vs, hl, hpick with
  | [a, b], hl, hpick =>
    obtain ⟨hc, rfl, rfl⟩ := pick_one hpick
    simp only [Bool.and_eq_true] at hc
    obtain ⟨⟨⟨ha, hap⟩, hb, hm0⟩, hle⟩ := hc
    generalize hqa : srcO mm kB 5 a = qa at ha hle ⊢
    generalize hqb : srcB mm kB b = qb at hb hm0 hle ⊢
    obtain ⟨ok1, n, f⟩ := qa
    obtain ⟨ok2, m, g⟩ := qb
    simp only at ha hb hm0 hle ⊢
    subst ha hb
    have hle := Nat.le_of_ble_eq_true hle
    have hm0 : 0 < m := by rw [Nat.blt_eq] at hm0; exact hm0
    obtain ⟨_, _, _, _, _, _, hn0⟩ := srcO_some hqa
    have hv : soE n f m g = tdV (shN (n + m) (bN (appF n f (sgF m g)))) := by unfold soE; rw [bN_sg]
    refine msum_own (c := bodyOf Tryz.f67) (fuel := 60) (next := 0) Tryz.func67 (by kernel_rfl) (by kernel_rfl) hm hl hsub hqa (A := .sl kB m g) ⟨hqb, trivial⟩ hap (by decide +kernel) (by kernel_rfl) (fun cap hcap => ?_)
    by_cases hin : n + m ≤ cap
    · refine .inl ⟨n + m, hin, fun es => ⟨soC, n + m, appF n f (sgF m g), soOk, rfl, by omega, fun j hj => ?_, ?_⟩⟩
      · show nrmK kB (bif Nat.blt j n then f j else _) = _
        rw [blt_of hj, cond_true]
      · refine (so_evA n f m g es).trans ?_
        rw [ble_of (Nat.le_refl m), req_true (b := true && true && true) rfl, szOk_small (by omega), req_true rfl, Nat.beq_refl, req_true (b := true && true && true) rfl, ble_of (Nat.le_refl _), blt_of hn0, blt_of hm0, req_true (b := true && true && true) rfl, okN_true hle, req_true rfl, hv]
    · refine .inr fun es => ⟨soC, soOk, rfl, ?_⟩
      refine (so_evB n f m g cap es).trans ?_
      rw [ble_of (Nat.le_refl m), req_true (b := true && true && true) rfl, szOk_small (by omega), req_true rfl, Nat.beq_refl, blt_of (by omega), req_true (b := true && true && true && true) rfl, okN_true hle, req_true rfl, hv]
  | [], _, h => simp [SoF, pickM] at h
  | [_], _, h => simp [SoF, pickM] at h
  | _ :: _ :: _ :: _, _, h => simp [SoF, pickM] at h
def ftC0 : Cfg := ⟨tab, [], 30, []⟩
theorem ftOk0 : CfgOk Tryz.prog ftC0 (bodyOf Tryz.f65) := ⟨mixed, tabOk, sums_nil, noL⟩
theorem ft_at : codeAt [1, 1, 0, 1, 0] (bodyOf Tryz.f65) = some (.loop (loopAt [1, 1, 0, 1, 0] (bodyOf Tryz.f65))) := by kernel_rfl
def ftNt : List Nat := [4, 5, 11, 12, 13]
def ftNi : List Nat := [1500001]
def ftSt (n : Nat) (g : Nat → Nat × (Nat → List Value)) (er : Nat → Nat) (e1 : Nat) (left i : Int) : St :=
  ⟨[(4, .bool false), (5, i64 left), (11, aSl 1 n), (12, i64 n), (13, i64 i)], [(1500001, ⟨.fam kB n er g, e1, false⟩)], 10⟩
def ftA (left : Int) : Int := IntKind.i64.wrap (left - 4)
theorem ft_r (n : Nat) (g : Nat → Nat × (Nat → List Value)) (er : Nat → Nat) (e1 : Nat) (left : Int) (k : Nat) : roundS ftC0 60 [1, 1, 0, 1, 0, 0] (loopAt [1, 1, 0, 1, 0] (bodyOf Tryz.f65)) ftNt ftNi 10 ftNt ftNi 10 (ftSt n g er e1 left (k : Int)) =
    bif decide ((k : Int) < (n : Int)) then req (inR (k : Int) n) (req (Nat.blt k n && true && true) (bif decide ((((g k).1 : Nat) : Int) > ftA left) then some (.ret, ftSt n g er e1 (ftA left) (k : Int)) else some (.normal, ftSt n g er e1 (IntKind.i64.wrap (ftA left - (((g k).1 : Nat) : Int))) (IntKind.i64.wrap ((k : Int) + 1)))))
    else some (.exit 0, ftSt n g er e1 left (k : Int)) := by kernel_rfl
theorem ft_loop (s : ByteArray) (n : Nat) (g : Nat → Nat × (Nat → List Value)) (er : Nat → Nat) (e1 : Nat) (hn : n ≤ 1000000) (k : Nat) (hk : k ≤ n) (hlo : ∀ j, j < k → jl s g (j + 1) ≤ 65536) {ex : Exit} {sf : St} (hex : ex ≠ .normal)
    (hlast : roundS ftC0 60 [1, 1, 0, 1, 0, 0] (loopAt [1, 1, 0, 1, 0] (bodyOf Tryz.f65)) ftNt ftNi 10 ftNt ftNi 10 (ftSt n g er e1 (65536 - ((jl s g k : Nat) : Int)) (k : Int)) = some (ex, sf)) :
    LoopOk Tryz.prog 30 (loopAt [1, 1, 0, 1, 0] (bodyOf Tryz.f65)) (atSt ftNt ftNi 10 (ftSt n g er e1 (65536 - ((jl s g 0 : Nat) : Int)) 0) ex sf) := by
  refine atSt_ok fun w0 R a W hrel => ?_
  refine loop_rounds (R := R) (C := ftC0) ftOk0 ft_at (m := 60) (nt := ftNt) (ni := ftNi) (et := ftNt) (ei := ftNi) (nx := 10) (ex := 10) (e := ex) (sf := sf)
    (fun j => ftSt n g er e1 (65536 - ((jl s g j : Nat) : Int)) (j : Int)) k hex ?_ hlast hrel
  intro j hj
  refine (ft_r n g er e1 _ j).trans ?_
  have h1 := hlo j hj
  have h2 : jl s g (j + 1) = jl s g j + 4 + (g j).1 := rfl
  have e1 : ftA (65536 - ((jl s g j : Nat) : Int)) = 65532 - ((jl s g j : Nat) : Int) := by unfold ftA; rw [wrap_i64 (by omega)]; omega
  rw [decide_eq_true (by omega), cond_true, inR_of (by omega), req_true rfl, blt_of (by omega), req_true (b := true && true && true) rfl, e1, decide_eq_false (by omega), cond_false, wrap_i64 (by omega), wrap_i64 (by omega)]
  rw [show (65532 - ((jl s g j : Nat) : Int) - (((g j).1 : Nat) : Int)) = 65536 - ((jl s g (j + 1) : Nat) : Int) from by omega]
  rfl
noncomputable def ftC (n : Nat) (g : Nat → Nat × (Nat → List Value)) (er : Nat → Nat) (e1 : Nat) (left0 : Int) (ex : Exit) (sf : St) : Cfg := ⟨tab, [], 30, [([1, 1, 0, 1, 0], atSt ftNt ftNi 10 (ftSt n g er e1 left0 0) ex sf)]⟩
theorem ft_evX (s : ByteArray) (n : Nat) (g : Nat → Nat × (Nat → List Value)) (es : Nat → Nat) (er : Nat → Nat → Nat) (left0 left : Int) (i : Int) (id : Nat) : fnMS (ftC n g (er 1) (es 1) left0 (.exit 0) (ftSt n g (er 1) (es 1) left i)) 60 Tryz.f65 (bodyOf Tryz.f65) (cArgsF [.pl (.string s), .fm kB n g] 0) (cMemF es er [.pl (.string s), .fm kB n g] 0) 0 id =
    req (stEq (ftSt n g (er 1) (es 1) (IntKind.i64.wrap (65532 - ((s.size : Nat) : Int))) 0) (ftSt n g (er 1) (es 1) left0 0)) (some (.bool (decide (left ≥ 0)), [])) := by kernel_rfl
theorem ft_evR (s : ByteArray) (n : Nat) (g : Nat → Nat × (Nat → List Value)) (es : Nat → Nat) (er : Nat → Nat → Nat) (left0 left : Int) (i : Int) (id : Nat) : fnMS (ftC n g (er 1) (es 1) left0 .ret (ftSt n g (er 1) (es 1) left i)) 60 Tryz.f65 (bodyOf Tryz.f65) (cArgsF [.pl (.string s), .fm kB n g] 0) (cMemF es er [.pl (.string s), .fm kB n g] 0) 0 id =
    req (stEq (ftSt n g (er 1) (es 1) (IntKind.i64.wrap (65532 - ((s.size : Nat) : Int))) 0) (ftSt n g (er 1) (es 1) left0 0)) (some (.bool false, [])) := by kernel_rfl
theorem ft_msum : MSum Tryz.prog 65 FtF := by
  intro w0 R fm w hm vs args' hl mm hsub id hlt v l hpick hnew
  unfold FtF at hpick
  split at hpick
  · rename_i s a
    obtain ⟨hc, rfl, rfl⟩ := pick_one hpick
    simp only [Bool.and_eq_true] at hc
    obtain ⟨⟨ha, hs⟩, hn⟩ := hc
    generalize hqa : srcF mm kB a = qa at ha hn ⊢
    obtain ⟨ok1, n, g⟩ := qa
    simp only at ha hn ⊢
    subst ha
    have hs := Nat.le_of_ble_eq_true hs
    have hn := Nat.le_of_ble_eq_true hn
    refine msum_atF (c := bodyOf Tryz.f65) (fuel := 60) (next := 0) Tryz.func65 (by kernel_rfl) (by kernel_rfl) hm hl hsub hlt (A := [.pl (.string s), .fm kB n g]) ⟨rfl, rfl, hqa, trivial⟩ (by show 2 ≤ Tryz.f65.ntmps; decide +kernel) (.inl rfl) hnew (fun es er => ?_)
    have h0 : IntKind.i64.wrap (65532 - ((s.size : Nat) : Int)) = 65536 - ((jl s g 0 : Nat) : Int) := by
      rw [wrap_i64 (by omega)]
      show _ = 65536 - ((4 + s.size : Nat) : Int)
      omega
    by_cases hout : (∀ j, j < n → jl s g (j + 1) ≤ 65536)
    · refine ⟨ftC n g (er 1) (es 1) (65536 - ((jl s g 0 : Nat) : Int)) (.exit 0) (ftSt n g (er 1) (es 1) (65536 - ((jl s g n : Nat) : Int)) (n : Int)), ⟨mixed, tabOk, sums_nil, oneL (ft_loop s n g (er 1) (es 1) hn n (Nat.le_refl _) hout (by intro h; cases h) ?_)⟩, rfl, ?_⟩
      · refine (ft_r n g (er 1) (es 1) _ n).trans ?_
        rw [decide_eq_false (by omega), cond_false]
      · refine (ft_evX s n g es er _ _ _ id).trans ?_
        rw [h0, req_true (stEq_refl rfl)]
        by_cases hj : jl s g n ≤ 65536
        · rw [ble_of hj, decide_eq_true (by omega)]
        · rw [show Nat.ble (jl s g n) 65536 = false from by rw [Bool.eq_false_iff, ne_eq, Nat.ble_eq]; exact hj, decide_eq_false (by omega)]
    · obtain ⟨k, hk, hbad, hlo⟩ : ∃ k, k < n ∧ 65536 < jl s g (k + 1) ∧ ∀ j, j < k → jl s g (j + 1) ≤ 65536 := by
        have : ∃ k, k < n ∧ 65536 < jl s g (k + 1) := by
          apply Classical.byContradiction
          intro hno
          exact hout fun j hj => by
            apply Classical.byContradiction
            intro h2
            exact hno ⟨j, hj, by omega⟩
        obtain ⟨k0, hk0, hb0⟩ := this
        have key : ∀ m, (∃ k, k ≤ m ∧ 65536 < jl s g (k + 1)) → ∃ k, k ≤ m ∧ 65536 < jl s g (k + 1) ∧ ∀ j, j < k → jl s g (j + 1) ≤ 65536 := by
          intro m
          induction m with
          | zero => rintro ⟨k, hk, hb⟩; exact ⟨k, hk, hb, fun j hj => by omega⟩
          | succ m ih =>
            rintro ⟨k, hk, hb⟩
            by_cases h2 : ∃ k, k ≤ m ∧ 65536 < jl s g (k + 1)
            · obtain ⟨k', h3, h4, h5⟩ := ih h2
              exact ⟨k', by omega, h4, h5⟩
            · refine ⟨k, hk, hb, fun j hj => ?_⟩
              apply Classical.byContradiction
              intro h6
              exact h2 ⟨j, by omega, by omega⟩
        obtain ⟨k, h1, h2, h3⟩ := key k0 ⟨k0, Nat.le_refl _, hb0⟩
        exact ⟨k, by omega, h2, h3⟩
      have hjk : jl s g k ≤ 1000004 := by
        cases k with
        | zero => show 4 + s.size ≤ _; omega
        | succ k => have := hlo k (by omega); omega
      have e2 : jl s g (k + 1) = jl s g k + 4 + (g k).1 := rfl
      have e1 : ftA (65536 - ((jl s g k : Nat) : Int)) = 65532 - ((jl s g k : Nat) : Int) := by unfold ftA; rw [wrap_i64 (by omega)]; omega
      refine ⟨ftC n g (er 1) (es 1) (65536 - ((jl s g 0 : Nat) : Int)) .ret (ftSt n g (er 1) (es 1) (65532 - ((jl s g k : Nat) : Int)) (k : Int)), ⟨mixed, tabOk, sums_nil, oneL (ft_loop s n g (er 1) (es 1) hn k (by omega) hlo (by intro h; cases h) ?_)⟩, rfl, ?_⟩
      · refine (ft_r n g (er 1) (es 1) _ k).trans ?_
        rw [decide_eq_true (by omega), cond_true, inR_of hk, req_true rfl, blt_of hk, req_true (b := true && true && true) rfl, e1, decide_eq_true (by omega), cond_true]
      · refine (ft_evR s n g es er _ _ _ id).trans ?_
        have hj : ¬ jl s g n ≤ 65536 := by have := jl_mono s g (k := k + 1) (n := n) (by omega); omega
        rw [h0, req_true (stEq_refl rfl), show Nat.ble (jl s g n) 65536 = false from by rw [Bool.eq_false_iff, ne_eq, Nat.ble_eq]; exact hj]
  · simp [pickM] at hpick
def joC0 : Cfg := ⟨tab, [(99, LaF 5)], 29, []⟩
theorem joG_ok : SumsOk Tryz.prog [(99, ↑(LaF 5))] := sums_consM la_msum sums_nil
theorem joOk0 : CfgOk Tryz.prog joC0 (bodyOf Tryz.f66) := ⟨mixed, tabOk, joG_ok, noL⟩
theorem jo_at : codeAt [1, 1, 0, 1, 0] (bodyOf Tryz.f66) = some (.loop (loopAt [1, 1, 0, 1, 0] (bodyOf Tryz.f66))) := by kernel_rfl
def joNt : List Nat := [5, 13, 14, 15]
def joB : Nat := nid 5 0
def joNi : Ren := [(joB, nid 22 0), (1500001, 1500001)]
def joEi : Ren := [(joB, joB), (1500001, 1500001)]
def joSt (n : Nat) (g : Nat → Nat × (Nat → List Value)) (er : Nat → Nat) (e1 : Nat) (L : Nat) (J : Nat → List Value) (i : Int) : St :=
  ⟨[(5, .slice (some ⟨joB, 0, none⟩) L L), (13, aSl 1 n), (14, i64 n), (15, i64 i)], [(joB, ⟨.row kB L J, 5, true⟩), (1500001, ⟨.fam kB n er g, e1, false⟩)], 10⟩
def joJ (L : Nat) (J : Nat → List Value) (m : Nat) (h : Nat → List Value) : Nat → List Value := appF (L + 4) (appF L J (sgF 4 (la4 ((m : Nat) : Int)))) (sgF m h)
theorem jo_r (n : Nat) (g : Nat → Nat × (Nat → List Value)) (er : Nat → Nat) (e1 : Nat) (L : Nat) (J : Nat → List Value) (k : Nat) : roundS joC0 60 [1, 1, 0, 1, 0, 0] (loopAt [1, 1, 0, 1, 0] (bodyOf Tryz.f66)) joNt joNi 10 joNt joEi 10 (joSt n g er e1 L J (k : Int)) =
    bif decide ((k : Int) < (n : Int)) then req (inR (k : Int) n) (req (Nat.blt k n && true && true) (req (szOk (L + 4) 1) (req (Nat.beq L L && true && true) (req (true && Nat.ble (g k).1 (g k).1 && true) (req (szOk (L + 4 + (g k).1) 1) (req (Nat.beq (L + 4) (L + 4) && true && true)
      (some (.normal, joSt n g er e1 (L + 4 + (g k).1) (joJ L J (g k).1 (g k).2) (IntKind.i64.wrap ((k : Int) + 1)))))))))) 
    else some (.exit 0, joSt n g er e1 L J (k : Int)) := by kernel_rfl
theorem jo_loop (s : ByteArray) (n : Nat) (g : Nat → Nat × (Nat → List Value)) (er : Nat → Nat) (e1 : Nat) (hn : jl s g n ≤ 1000000) :
    LoopOk Tryz.prog 29 (loopAt [1, 1, 0, 1, 0] (bodyOf Tryz.f66)) (atSt joNt joEi 10 (joSt n g er e1 (jl s g 0) (jF s g 0) 0) (.exit 0) (joSt n g er e1 (jl s g n) (jF s g n) (n : Int))) := by
  refine atSt_ok fun w0 R a W hrel => ?_
  have hnn := jl_n s g n
  refine loop_rounds (R := R) (C := joC0) joOk0 jo_at (m := 60) (nt := joNt) (ni := joNi) (et := joNt) (ei := joEi) (nx := 10) (ex := 10) (e := .exit 0) (sf := joSt n g er e1 (jl s g n) (jF s g n) (n : Int))
    (fun j => joSt n g er e1 (jl s g j) (jF s g j) (j : Int)) n (by intro h; cases h) ?_ ?_ hrel
  · intro j hj
    refine (jo_r n g er e1 _ _ j).trans ?_
    have h2 : jl s g (j + 1) = jl s g j + 4 + (g j).1 := rfl
    have h3 := jl_mono s g (k := j + 1) (n := n) (by omega)
    rw [decide_eq_true (by omega), cond_true, inR_of (by omega), req_true rfl, blt_of (by omega), req_true (b := true && true && true) rfl, szOk_small (by omega), req_true rfl, Nat.beq_refl, req_true (b := true && true && true) rfl, ble_of (Nat.le_refl _), req_true (b := true && true && true) rfl, szOk_small (by omega), req_true rfl, Nat.beq_refl, req_true (b := true && true && true) rfl, wrap_i64 (by omega)]
    rfl
  · refine (jo_r n g er e1 _ _ n).trans ?_
    rw [decide_eq_false (by omega), cond_false]
noncomputable def joC (n : Nat) (g : Nat → Nat × (Nat → List Value)) (er : Nat → Nat) (e1 : Nat) (L0 : Nat) (J0 : Nat → List Value) (L : Nat) (J : Nat → List Value) : Cfg := ⟨tab, [(99, LaF 5)], 29, [([1, 1, 0, 1, 0], atSt joNt joEi 10 (joSt n g er e1 L0 J0 0) (.exit 0) (joSt n g er e1 L J (n : Int)))]⟩
theorem jo_ev (s : ByteArray) (n : Nat) (g : Nat → Nat × (Nat → List Value)) (es : Nat → Nat) (er : Nat → Nat → Nat) (L0 : Nat) (J0 : Nat → List Value) (L : Nat) (J : Nat → List Value) (id : Nat) : fnMS (joC n g (er 1) (es 1) L0 J0 L J) 60 Tryz.f66 (bodyOf Tryz.f66) (cArgsF [.pl (.string s), .fm kB n g] 0) (cMemF es er [.pl (.string s), .fm kB n g] 0) 0 id =
    req (szOk (4 + s.size) 1) (req (stEq (joSt n g (er 1) (es 1) (4 + s.size) (appF 4 (la4 ((s.size : Nat) : Int)) (strF s)) 0) (joSt n g (er 1) (es 1) L0 J0 0)) (req (Nat.ble L L) (some (.slice (some ⟨nid id 0, 0, none⟩) L L, [(nid id 0, ⟨.row kB L J, 5, true⟩)])))) := by kernel_rfl
theorem jo_msum : MSum Tryz.prog 66 (JoF 5) := by
  intro w0 R fm w hm vs args' hl mm hsub id hlt v l hpick hnew
  unfold JoF at hpick
  split at hpick
  · rename_i s a
    obtain ⟨hc, rfl, rfl⟩ := pick_one hpick
    simp only [Bool.and_eq_true] at hc
    obtain ⟨ha, hn⟩ := hc
    generalize hqa : srcF mm kB a = qa at ha hn hnew ⊢
    obtain ⟨ok1, n, g⟩ := qa
    simp only at ha hn hnew ⊢
    subst ha
    have hn := Nat.le_of_ble_eq_true hn
    refine msum_atF (c := bodyOf Tryz.f66) (fuel := 60) (next := 0) Tryz.func66 (by kernel_rfl) (by kernel_rfl) hm hl hsub hlt (A := [.pl (.string s), .fm kB n g]) ⟨rfl, rfl, hqa, trivial⟩ (by show 2 ≤ Tryz.f66.ntmps; decide +kernel) (.inr ⟨_, rfl⟩) hnew (fun es er => ?_)
    refine ⟨joC n g (er 1) (es 1) (jl s g 0) (jF s g 0) (jl s g n) (jF s g n), ⟨mixed, tabOk, joG_ok, oneL (jo_loop s n g (er 1) (es 1) hn)⟩, rfl, ?_⟩
    refine (jo_ev s n g es er _ _ _ _ id).trans ?_
    have := jl_lo s g n
    have hst : stEq (joSt n g (er 1) (es 1) (4 + s.size) (appF 4 (la4 ((s.size : Nat) : Int)) (strF s)) 0) (joSt n g (er 1) (es 1) (jl s g 0) (jF s g 0) 0) = true := stEq_refl (s := joSt n g (er 1) (es 1) (jl s g 0) (jF s g 0) 0) rfl
    rw [szOk_small (by omega), req_true rfl, req_true hst, ble_of (Nat.le_refl _), req_true rfl]
  · simp [pickM] at hpick
end Go.Proofs.YtafeeiodgfgepaaGreatDoor
/-
  Package draw: scalars and points.
-/
namespace Go.Proofs.YtafeeiodgfgepaaGreatDoor
set_option maxRecDepth 100000
open Go.W
noncomputable def scG : Sums := [(65, FtF), (66, JoF 5), (67, SoF 5), (69, OfF), (21, PrimeF), (68, ModF)]
theorem scG_ok : SumsOk Tryz.prog scG := sums_consM ft_msum (sums_consM jo_msum (sums_consM so_msum (sums_cons Of_sum (sums_cons Prime_sum (sums_cons Mod_sum sums_nil)))))
noncomputable def scC : Cfg := ⟨tab, scG, 31, []⟩
theorem scOk : CfgOk Tryz.prog scC (bodyOf Tryz.f36) := ⟨mixed, tabOk, scG_ok, noL⟩
noncomputable def scH (L : Nat) (J : Nat → List Value) (b : Int) : S8 := shN (L + 1) (bN (appF L J (sgF 1 (lstF [.int .u8 b] 0 1))))
def scA (L : Nat) : Bool := (Nat.beq L L && true && Nat.ble L L && Nat.blt 0 L) && true && true && Nat.ble (L + 1) 1000000
noncomputable def scT (kb : Bool) (L : Nat) (J : Nat → List Value) : Option (Value × List (Nat × Blk)) :=
  req (kb && Nat.ble L 1000000) (req (scA L) (req (scA L) (req (isB32 (tdV (scH L J 0))) (req (isB32 (tdV (scH L J 1))) (req (isNum (num (unbytes (tdV (scH L J 0)))) && isNum (num (unbytes (tdV (scH L J 1)))) && isNum (num (primeN 1)))
      (some (modV (unnum (num (unbytes (tdV (scH L J 0))))) (unnum (num (unbytes (tdV (scH L J 1))))) (unnum (num (primeN 1))), [])))))))
theorem sc_ev (s : ByteArray) (n : Nat) (g : Nat → Nat × (Nat → List Value)) (es : Nat → Nat) (er : Nat → Nat → Nat) (id : Nat) : fnMS scC 60 Tryz.f36 (bodyOf Tryz.f36) (cArgsF [.pl (.string s), .fm kB n g] 0) (cMemF es er [.pl (.string s), .fm kB n g] 0) 0 id =
    req (kbk n && Nat.ble s.size 1000000 && Nat.ble n 1000000) (bif !(Nat.ble (jl s g n) 65536) then some (.tuple #[num 0, i64 4], []) else scT (kbk n) (jl s g n) (jF s g n)) := by kernel_rfl
theorem scA_true {L : Nat} (h0 : 0 < L) (h : L ≤ 65536) : scA L = true := by
  unfold scA
  rw [Nat.beq_refl, ble_of (Nat.le_refl _), blt_of h0, ble_of (show L + 1 ≤ 1000000 by omega)]; rfl
theorem scT_eq {L : Nat} {J : Nat → List Value} (h0 : 0 < L) (h : L ≤ 65536) : scT true L J = some (scV L J, []) := by
  unfold scT
  rw [ble_of (show L ≤ 1000000 by omega), req_true (b := true && true) rfl, scA_true h0 h, req_true rfl, req_true rfl, isB32_td, isB32_td, req_true rfl, req_true rfl, isNum_num, isNum_num, isNum_num, req_true (b := true && true && true) rfl,
    unnum_lt (unbytes_lt _), unnum_lt (unbytes_lt _), unnum_lt (show primeN 1 < 2 ^ 256 by decide +kernel)]
  unfold scV scS scN
  rw [hide_eq, if_pos h, hide_eq]
  rfl
theorem sc_msum : MSum Tryz.prog 36 ScF := by
  intro w0 R fm w hm vs args' hl mm hsub id hlt v l hpick hnew
  unfold ScF at hpick
  split at hpick
  · rename_i s a
    obtain ⟨hc, rfl, rfl⟩ := pick_one hpick
    simp only [Bool.and_eq_true] at hc
    obtain ⟨⟨ha, hs⟩, hn⟩ := hc
    generalize hqa : srcF mm kB a = qa at ha hn ⊢
    obtain ⟨ok1, n, g⟩ := qa
    simp only at ha hn ⊢
    subst ha
    refine msum_atF (c := bodyOf Tryz.f36) (fuel := 60) (next := 0) Tryz.func36 (by kernel_rfl) (by kernel_rfl) hm hl hsub hlt (A := [.pl (.string s), .fm kB n g]) ⟨rfl, rfl, hqa, trivial⟩ (by show 2 ≤ Tryz.f36.ntmps; decide +kernel) (.inl rfl) hnew (fun es er => ⟨scC, scOk, rfl, ?_⟩)
    refine (sc_ev s n g es er id).trans ?_
    rw [kbk_true, hs, hn, req_true (b := true && true && true) rfl]
    by_cases hj : jl s g n ≤ 65536
    · rw [ble_of hj, Bool.not_true, cond_false]
      exact scT_eq (by have := jl_lo s g n; omega) hj
    · rw [show Nat.ble (jl s g n) 65536 = false from by rw [Bool.eq_false_iff, ne_eq, Nat.ble_eq]; exact hj, Bool.not_false, cond_true]
      unfold scV scS
      rw [hide_eq, if_neg hj]
  · simp [pickM] at hpick
end Go.Proofs.YtafeeiodgfgepaaGreatDoor
/-
  The document's numbers in bytes, and joined parts.
-/
namespace Go.Proofs.YtafeeiodgfgepaaGreatDoor
set_option maxRecDepth 100000
open Go.W
def beC : Cfg := ⟨tab, [], 23, []⟩
theorem beOk : CfgOk Tryz.prog beC (bodyOf Tryz.f104) := ⟨mixed, tabOk, sums_nil, noL⟩
theorem be_ev4 (x : Int) (es : Nat → Nat) (id : Nat) : fnMS beC 60 Tryz.f104 (bodyOf Tryz.f104) (cArgs [.pl (.int .u64 x), .pl (.int .i64 4)] 0) (cMem es [.pl (.int .u64 x), .pl (.int .i64 4)] 0) 0 id =
    some (.slice (some ⟨nid id 0, 0, none⟩) 4 4, [(nid id 0, ⟨.row kB 4 (be4 x), 5, true⟩)]) := by kernel_rfl
theorem be_ev8 (x : Int) (es : Nat → Nat) (id : Nat) : fnMS beC 60 Tryz.f104 (bodyOf Tryz.f104) (cArgs [.pl (.int .u64 x), .pl (.int .i64 8)] 0) (cMem es [.pl (.int .u64 x), .pl (.int .i64 8)] 0) 0 id =
    some (.slice (some ⟨nid id 0, 0, none⟩) 8 8, [(nid id 0, ⟨.row kB 8 (be8 x), 5, true⟩)]) := by kernel_rfl
theorem be_msum : MSum Tryz.prog 104 (BeF 5) := by
  refine msum_of (fuel := 60) (next := 0) beOk Tryz.func104 (by kernel_rfl) (by kernel_rfl) rfl fun vs mm id v l hpick hlt => ?_
  unfold BeF at hpick
  split at hpick
  · rename_i x s
    simp only [pickM] at hpick
    by_cases h4 : s = 4
    · subst h4
      rw [decide_eq_true rfl, cond_true] at hpick
      simp only [Option.some.injEq, Prod.mk.injEq] at hpick
      obtain ⟨rfl, rfl⟩ := hpick
      exact ⟨[.pl (.int .u64 x), .pl (.int .i64 4)], ⟨rfl, rfl, rfl, rfl, trivial⟩, by show 2 ≤ Tryz.f104.ntmps; decide +kernel, .inr ⟨_, rfl⟩, fun es => be_ev4 x es id⟩
    · rw [decide_eq_false h4, cond_false] at hpick
      by_cases h8 : s = 8
      · subst h8
        rw [decide_eq_true rfl, cond_true] at hpick
        simp only [Option.some.injEq, Prod.mk.injEq] at hpick
        obtain ⟨rfl, rfl⟩ := hpick
        exact ⟨[.pl (.int .u64 x), .pl (.int .i64 8)], ⟨rfl, rfl, rfl, rfl, trivial⟩, by show 2 ≤ Tryz.f104.ntmps; decide +kernel, .inr ⟨_, rfl⟩, fun es => be_ev8 x es id⟩
      · rw [decide_eq_false h8, cond_false] at hpick
        simp at hpick
  · simp [pickM] at hpick
noncomputable def jdG : Sums := [(104, BeF 5), (83, JnF 5)]
theorem jdG_ok : SumsOk Tryz.prog jdG := sums_consM be_msum (sums_consM jn_msum sums_nil)
noncomputable def jdC0 : Cfg := ⟨tab, jdG, 49, []⟩
theorem jdOk0 : CfgOk Tryz.prog jdC0 (bodyOf Tryz.f81) := ⟨mixed, tabOk, jdG_ok, noL⟩
theorem jd_at : codeAt [1, 1, 1, 0, 1, 0] (bodyOf Tryz.f81) = some (.loop (loopAt [1, 1, 1, 0, 1, 0] (bodyOf Tryz.f81))) := by kernel_rfl
def jdNt : List Nat := [1, 4, 5, 6, 7]
def jdB : Nat := nid 12 0
def jdNi : Ren := [(jdB, nid 41 0), (1500001, 1500001)]
def jdEi : Ren := [(jdB, jdB), (1500001, 1500001)]
def jdSt (n : Nat) (g : Nat → Nat × (Nat → List Value)) (er : Nat → Nat) (e1 : Nat) (L : Nat) (J : Nat → List Value) (i : Int) : St :=
  ⟨[(1, aSl 1 n), (4, .slice none 0 0), (5, .bool false), (6, .slice (some ⟨jdB, 0, none⟩) L L), (7, i64 i)], [(jdB, ⟨.row kB L J, 5, true⟩), (1500001, ⟨.fam kB n er g, e1, false⟩)], 15⟩
def jdJ (L : Nat) (J : Nat → List Value) (m : Nat) (x : Int) (h : Nat → List Value) : Nat → List Value := appF (L + 4) (appF L J (sgF 4 (be4 x))) (sgF m h)
theorem jd_r (n : Nat) (g : Nat → Nat × (Nat → List Value)) (er : Nat → Nat) (e1 : Nat) (L : Nat) (J : Nat → List Value) (k : Nat) : roundS jdC0 60 [1, 1, 1, 0, 1, 0, 0] (loopAt [1, 1, 1, 0, 1, 0] (bodyOf Tryz.f81)) jdNt jdNi 15 jdNt jdEi 15 (jdSt n g er e1 L J (k : Int)) =
    bif decide ((k : Int) < (n : Int)) then req (inR (k : Int) n) (req (Nat.blt k n && true && true) (bif decide ((((g k).1 : Nat) : Int) > IntKind.i64.wrap (65532 - ((L : Nat) : Int))) then some (.ret, jdSt n g er e1 L J (k : Int)) else
      req (inR (k : Int) n) (req (Nat.blt k n && true && true) (req (szOk (L + 4) 1) (req (Nat.beq L L && true && true) (req (inR (k : Int) n) (req (Nat.blt k n && true && true) (req (true && Nat.ble (g k).1 (g k).1 && true) (req (szOk (L + 4 + (g k).1) 1) (req (Nat.beq (L + 4) (L + 4) && true && true)
      (some (.normal, jdSt n g er e1 (L + 4 + (g k).1) (jdJ L J (g k).1 (IntKind.u64.wrap (((g k).1 : Nat) : Int)) (g k).2) (IntKind.i64.wrap ((k : Int) + 1))))))))))))))
    else some (.exit 0, jdSt n g er e1 L J (k : Int)) := by kernel_rfl
theorem wrap_u64s {n : Nat} (h : n ≤ 1000000) : IntKind.u64.wrap ((n : Nat) : Int) = ((n : Nat) : Int) := by rw [wrap_u64]; omega
theorem jd_loop (s : ByteArray) (n : Nat) (g : Nat → Nat × (Nat → List Value)) (er : Nat → Nat) (e1 : Nat) (hn : n ≤ 1000000) (k : Nat) (hk : k ≤ n) (hlo : ∀ j, j < k → jl s g (j + 1) ≤ 65536) {ex : Exit} {sf : St} (hex : ex ≠ .normal)
    (hlast : roundS jdC0 60 [1, 1, 1, 0, 1, 0, 0] (loopAt [1, 1, 1, 0, 1, 0] (bodyOf Tryz.f81)) jdNt jdNi 15 jdNt jdEi 15 (jdSt n g er e1 (jl s g k) (dF s g k) (k : Int)) = some (ex, sf)) :
    LoopOk Tryz.prog 49 (loopAt [1, 1, 1, 0, 1, 0] (bodyOf Tryz.f81)) (atSt jdNt jdEi 15 (jdSt n g er e1 (jl s g 0) (dF s g 0) 0) ex sf) := by
  refine atSt_ok fun w0 R a W hrel => ?_
  refine loop_rounds (R := R) (C := jdC0) jdOk0 jd_at (m := 60) (nt := jdNt) (ni := jdNi) (et := jdNt) (ei := jdEi) (nx := 15) (ex := 15) (e := ex) (sf := sf)
    (fun j => jdSt n g er e1 (jl s g j) (dF s g j) (j : Int)) k hex ?_ hlast hrel
  intro j hj
  refine (jd_r n g er e1 _ _ j).trans ?_
  have h1 := hlo j hj
  have h2 : jl s g (j + 1) = jl s g j + 4 + (g j).1 := rfl
  rw [decide_eq_true (by omega), cond_true, inR_of (by omega), req_true rfl, blt_of (by omega), req_true (b := true && true && true) rfl, wrap_i64 (by omega), decide_eq_false (by omega), cond_false, req_true rfl, req_true (b := true && true && true) rfl, szOk_small (by omega), req_true rfl, Nat.beq_refl, req_true (b := true && true && true) rfl, req_true rfl, req_true (b := true && true && true) rfl, ble_of (Nat.le_refl _), req_true (b := true && true && true) rfl, szOk_small (by omega), req_true rfl, Nat.beq_refl, req_true (b := true && true && true) rfl, wrap_i64 (by omega), wrap_u64s (by omega)]
  rfl
noncomputable def jdC (n : Nat) (g : Nat → Nat × (Nat → List Value)) (er : Nat → Nat) (e1 : Nat) (L0 : Nat) (J0 : Nat → List Value) (ex : Exit) (sf : St) : Cfg := ⟨tab, jdG, 49, [([1, 1, 1, 0, 1, 0], atSt jdNt jdEi 15 (jdSt n g er e1 L0 J0 0) ex sf)]⟩
def jdZ (s : ByteArray) (x : Int) : Nat → List Value := appF 4 (sgF 4 (sgF 4 (be4 x))) (sgF s.size (sgF s.size (strF s)))
theorem jd_evX (s : ByteArray) (n : Nat) (g : Nat → Nat × (Nat → List Value)) (es : Nat → Nat) (er : Nat → Nat → Nat) (L0 : Nat) (J0 : Nat → List Value) (L : Nat) (J : Nat → List Value) (i : Int) (id : Nat) : fnMS (jdC n g (er 1) (es 1) L0 J0 (.exit 0) (jdSt n g (er 1) (es 1) L J i)) 60 Tryz.f81 (bodyOf Tryz.f81) (cArgsF [.pl (.string s), .fm kB n g] 0) (cMemF es er [.pl (.string s), .fm kB n g] 0) 0 id =
    bif decide (((s.size : Nat) : Int) > 65532) then some (.tuple #[.slice none 0 0, .bool false], []) else req (okN s.size) (req (stEq (jdSt n g (er 1) (es 1) (4 + s.size) (jdZ s (IntKind.u64.wrap ((s.size : Nat) : Int))) 0) (jdSt n g (er 1) (es 1) L0 J0 0)) (req (Nat.ble L L) (some (.tuple #[.slice (some ⟨nid id 0, 0, none⟩) L L, .bool true], [(nid id 0, ⟨.row kB L J, 5, true⟩)])))) := by kernel_rfl
theorem jd_evR (s : ByteArray) (n : Nat) (g : Nat → Nat × (Nat → List Value)) (es : Nat → Nat) (er : Nat → Nat → Nat) (L0 : Nat) (J0 : Nat → List Value) (L : Nat) (J : Nat → List Value) (i : Int) (id : Nat) : fnMS (jdC n g (er 1) (es 1) L0 J0 .ret (jdSt n g (er 1) (es 1) L J i)) 60 Tryz.f81 (bodyOf Tryz.f81) (cArgsF [.pl (.string s), .fm kB n g] 0) (cMemF es er [.pl (.string s), .fm kB n g] 0) 0 id =
    bif decide (((s.size : Nat) : Int) > 65532) then some (.tuple #[.slice none 0 0, .bool false], []) else req (okN s.size) (req (stEq (jdSt n g (er 1) (es 1) (4 + s.size) (jdZ s (IntKind.u64.wrap ((s.size : Nat) : Int))) 0) (jdSt n g (er 1) (es 1) L0 J0 0)) (some (.tuple #[.slice none 0 0, .bool false], []))) := by kernel_rfl
theorem jd_evN (s : ByteArray) (n : Nat) (g : Nat → Nat × (Nat → List Value)) (es : Nat → Nat) (er : Nat → Nat → Nat) (id : Nat) : fnMS ⟨tab, jdG, 49, [([1, 1, 1, 0, 1, 0], fun _ => [])]⟩ 60 Tryz.f81 (bodyOf Tryz.f81) (cArgsF [.pl (.string s), .fm kB n g] 0) (cMemF es er [.pl (.string s), .fm kB n g] 0) 0 id =
    bif decide (((s.size : Nat) : Int) > 65532) then some (.tuple #[.slice none 0 0, .bool false], []) else req (okN s.size) none := by kernel_rfl
theorem jd_msum : MSum Tryz.prog 81 (JdF 5) := by
  intro w0 R fm w hm vs args' hl mm hsub id hlt v l hpick hnew
  unfold JdF at hpick
  split at hpick
  · rename_i s a
    simp only [pickM] at hpick
    generalize hqa : srcF mm kB a = qa at hpick
    obtain ⟨ok1, n, g⟩ := qa
    simp only at hpick
    have hok : ok1 = true := by
      cases ok1 with
      | true => rfl
      | false => simp at hpick
    subst hok
    have hn : Nat.ble n 1000000 = true := by
      cases hb : Nat.ble n 1000000 with
      | true => rfl
      | false => rw [hb] at hpick; simp at hpick
    rw [hn] at hpick
    have hn := Nat.le_of_ble_eq_true hn
    have hA : AOkF mm [.string s, a] [.pl (.string s), .fm kB n g] := ⟨rfl, rfl, hqa, trivial⟩
    have hst : ∀ (er : Nat → Nat) (e1 : Nat), s.size ≤ 65532 → stEq (jdSt n g er e1 (4 + s.size) (jdZ s (IntKind.u64.wrap ((s.size : Nat) : Int))) 0) (jdSt n g er e1 (jl s g 0) (dF s g 0) 0) = true := by
      intro er e1 h
      rw [wrap_u64s (by omega)]
      exact stEq_refl (s := jdSt n g er e1 (jl s g 0) (dF s g 0) 0) rfl
    by_cases hj : jl s g n ≤ 65536
    · rw [ble_of hj] at hpick
      simp only [Bool.and_self, cond_true, Option.some.injEq, Prod.mk.injEq] at hpick
      obtain ⟨rfl, rfl⟩ := hpick
      have h0 := jl_lo s g n
      refine msum_atF (c := bodyOf Tryz.f81) (fuel := 60) (next := 0) Tryz.func81 (by kernel_rfl) (by kernel_rfl) hm hl hsub hlt hA (by show 2 ≤ Tryz.f81.ntmps; decide +kernel) (.inr ⟨_, rfl⟩) hnew (fun es er => ?_)
      refine ⟨jdC n g (er 1) (es 1) (jl s g 0) (dF s g 0) (.exit 0) (jdSt n g (er 1) (es 1) (jl s g n) (dF s g n) (n : Int)), ⟨mixed, tabOk, jdG_ok, oneL (jd_loop s n g (er 1) (es 1) hn n (Nat.le_refl _) (fun j hj2 => by have := jl_mono s g (k := j + 1) (n := n) (by omega); omega) (by intro h; cases h) ?_)⟩, rfl, (jd_evX s n g es er _ _ _ _ _ id).trans ?_⟩
      · refine (jd_r n g (er 1) (es 1) _ _ n).trans ?_
        rw [decide_eq_false (by omega), cond_false]
      · rw [decide_eq_false (by omega), cond_false, okN_true (by omega), req_true rfl, req_true (hst _ _ (by omega)), ble_of (Nat.le_refl _), req_true rfl]
    · rw [show Nat.ble (jl s g n) 65536 = false from by rw [Bool.eq_false_iff, ne_eq, Nat.ble_eq]; exact hj] at hpick
      simp only [Bool.and_false, cond_false, Bool.and_self, cond_true, Option.some.injEq, Prod.mk.injEq] at hpick
      obtain ⟨rfl, rfl⟩ := hpick
      refine msum_atF (c := bodyOf Tryz.f81) (fuel := 60) (next := 0) Tryz.func81 (by kernel_rfl) (by kernel_rfl) hm hl hsub hlt hA (by show 2 ≤ Tryz.f81.ntmps; decide +kernel) (.inl rfl) hnew (fun es er => ?_)
      by_cases hs : s.size ≤ 65532
      · obtain ⟨k, hk, hbad, hlo⟩ : ∃ k, k < n ∧ 65536 < jl s g (k + 1) ∧ ∀ j, j < k → jl s g (j + 1) ≤ 65536 := by
          cases hf : fstC (fun k => Nat.blt 65536 (jl s g (k + 1))) n with
          | none =>
            exfalso
            have h2 := fstC_none' hf
            cases n with
            | zero => exact hj (by show 4 + s.size ≤ _; omega)
            | succ n =>
              have := h2 n (by omega)
              rw [Bool.eq_false_iff, ne_eq, Nat.blt_eq] at this; omega
          | some k =>
            obtain ⟨h1, h2, h3⟩ := fstC_some hf
            refine ⟨k, h1, by rw [Nat.blt_eq] at h2; exact h2, fun j hj2 => ?_⟩
            have := h3 j hj2
            rw [Bool.eq_false_iff, ne_eq, Nat.blt_eq] at this; omega
        have hjk : jl s g k ≤ 65536 := by
          cases k with
          | zero => show 4 + s.size ≤ _; omega
          | succ k => exact hlo k (by omega)
        have e2 : jl s g (k + 1) = jl s g k + 4 + (g k).1 := rfl
        refine ⟨jdC n g (er 1) (es 1) (jl s g 0) (dF s g 0) .ret (jdSt n g (er 1) (es 1) (jl s g k) (dF s g k) (k : Int)), ⟨mixed, tabOk, jdG_ok, oneL (jd_loop s n g (er 1) (es 1) hn k (by omega) hlo (by intro h; cases h) ?_)⟩, rfl, (jd_evR s n g es er _ _ _ _ _ id).trans ?_⟩
        · refine (jd_r n g (er 1) (es 1) _ _ k).trans ?_
          rw [decide_eq_true (by omega), cond_true, inR_of hk, req_true rfl, blt_of hk, req_true (b := true && true && true) rfl, wrap_i64 (by omega), decide_eq_true (by omega), cond_true]
        · rw [decide_eq_false (by omega), cond_false, okN_true (by omega), req_true rfl, req_true (hst _ _ (by omega))]
      · refine ⟨⟨tab, jdG, 49, [([1, 1, 1, 0, 1, 0], fun _ => [])]⟩, ⟨mixed, tabOk, jdG_ok, noneL2⟩, rfl, (jd_evN s n g es er id).trans ?_⟩
        rw [decide_eq_true (by omega), cond_true]
  · simp [pickM] at hpick
end Go.Proofs.YtafeeiodgfgepaaGreatDoor
