/-
  The engine, part 11: a whole function: what it answers; and how what functions answer is told to those that call them.
-/
import Derived.Test.YtdhbnidobpkkfaaW10
namespace Go.W
open Go.RowKit (Below)

section
variable {R : Type}

def resK (T : Tab) (s : St) : List ResultVar → (List Value → R) → R → R
  | [], k, _ => k []
  | .tmp t :: r, k, f => oK (look s.slots t) (fun v => resK T s r (fun vs => k (v :: vs)) f) f
  | .cell a t :: r, k, f => oK (look s.slots a) (fun v => ptrK v (fun b off => oK (look s.mem b) (fun blk => oK (look T t) (fun i =>
      partK i blk.cells off (fun v => resK T s r (fun vs => k (v :: vs)) f) f) f) f) f) f

def oneK (vs : List Value) (k : Value → R) : R :=
  match vs with
  | [v] => k v
  | vs => k (.tuple vs.toArray)

def endK (T : Tab) (fn : Func) (e : Exit) (s : St) (k : Value → R) (f : R) : R :=
  match e with
  | .normal => resK T s fn.results.toList (fun vs => oneK vs k) f
  | .ret => resK T s fn.results.toList (fun vs => oneK vs k) f
  | _ => f

def argSlots : Nat → List Value → List (Nat × Value)
  | _, [] => []
  | i, v :: r => (i, v) :: argSlots (i + 1) r

def fnK (C : Cfg) (fuel : Nat) (fn : Func) (c : Code) (args : List Value) (k : Value → R) (f : R) : R :=
  evK C fuel [] c ⟨argSlots 0 args, [], 0⟩ (fun e s => endK C.T fn e s k f) f

variable {R' : Type} (h : R → R')

theorem resK_nat (T : Tab) (s : St) : ∀ (l : List ResultVar) (k : List Value → R) (f : R), h (resK T s l k f) = resK T s l (fun vs => h (k vs)) (h f)
  | [], _, _ => rfl
  | .tmp t :: r, k, f => by simp only [resK, oK_nat h, resK_nat T s r]
  | .cell a t :: r, k, f => by simp only [resK, oK_nat h, ptrK_nat h, partK_nat h, resK_nat T s r]

theorem oneK_nat (vs : List Value) (k : Value → R) : h (oneK vs k) = oneK vs (fun v => h (k v)) := by
  unfold oneK; split <;> rfl

end

def fnS (C : Cfg) (fuel : Nat) (fn : Func) (c : Code) (args : List Value) : Option Value := fnK C fuel fn c args some none

def resOne (tmps : Array Value) (x : ResultVar) : Sem Value :=
  match x with
  | .tmp t => pure (tmps.getD t undef)
  | .cell b t => do loadVar t (← asAddr (tmps.getD b undef))

theorem results_eq (fn : Func) (tmps : Array Value) : results fn tmps = (do
    let vs ← fn.results.mapM (resOne tmps)
    pure (if h : vs.size = 1 then vs[0] else .tuple vs)) := by
  unfold results
  congr 1

section
variable {P : Program} {C : Cfg} {c : Code} {w0 w : World} {R : Nat → Nat → Prop} {a : Act}

theorem res_run (hC : CfgOk P C c) {s : St} (hrel : Rel w0 C.n R s.f a w) : ∀ (l : List ResultVar) {β : Type} {k : List Value → Option β} {r : β}, resK C.T s l k none = some r →
    ∃ vs vs', k vs = some r ∧ LR (V2 R) vs vs' ∧
      (l.mapM (resOne a.tmps)).run P w = .ok vs' w
  | [], β, k, r, h => ⟨[], [], h, trivial, rfl⟩
  | .tmp t :: l, β, k, r, h => by
    simp only [resK, oK_some] at h
    obtain ⟨v, hv, h⟩ := h
    obtain ⟨vs, vs', h1, h2, h3⟩ := res_run hC hrel l h
    have hev := hrel.ev (x := .tmp t) hv
    refine ⟨v :: vs, a.tmps.getD t undef :: vs', h1, ⟨hev, h2⟩, ?_⟩
    simp only [List.mapM_cons, resOne, Sem.run_bind, Sem.run_pure, Result.andThen_ok] at h3 ⊢
    simp only [h3, Result.andThen_ok]
  | .cell b t :: l, β, k, r, h => by
    simp only [resK, oK_some, ptrK_some] at h
    obtain ⟨v, hv, b1, off, rfl, blk, hb, i, hi, h⟩ := h
    obtain ⟨b2, hb2, hev⟩ := V2_ptr (hrel.ev (x := .tmp b) hv)
    have hev : a.tmps.getD b undef = .pointer (some ⟨b2, off, none⟩) := hev
    obtain ⟨cs, fz, h1, h2, _⟩ := hrel.block hb hb2
    -- as a load
    unfold partK at h
    have key : ∃ u u', resK C.T s l (fun vs => k (u :: vs)) none = some r ∧ V1 R u u' ∧ (loadVar t ⟨b2, off, none⟩).run P w = .ok u' w := by
      cases hA : isAggT i with
      | true =>
        simp only [hA, cond_true] at h
        obtain ⟨h3, h4⟩ := cond_some.1 h
        have hle := Nat.le_of_ble_eq_true h3
        rw [LR_len h2] at hle
        refine ⟨_, .agg ((cs.toList.drop off).take i.siz).toArray, h4, ⟨_, rfl, by simpa using LR_take i.siz (LR_drop off h2)⟩, ?_⟩
        simp only [loadVar, Sem.run_bind, run_agg hC.T hi, Result.andThen_ok, hA, if_true, run_size hC.T hi, loadCells]
        rw [run_loadCells h1 off i.siz 0 #[] (by simpa using hle)]
        simp
      | false =>
        simp only [hA, cond_false] at h
        obtain ⟨u, h3, h4⟩ := oK_some.1 h
        obtain ⟨u', h5, h6⟩ := LR_get h2 h3
        refine ⟨u, u', h4, V1_of_V0 h6, ?_⟩
        have hc : w.cell? ⟨b2, off, none⟩ = some u' := by rw [cell_at h1, ← Array.getElem?_toList, h5]
        simp [loadVar, run_agg hC.T hi, hA, hc]
    obtain ⟨u, u', h3, h4, h5⟩ := key
    obtain ⟨vs, vs', h6, h7, h8⟩ := res_run hC hrel l h3
    refine ⟨u :: vs, u' :: vs', h6, ⟨V2_of_V1 h4, h7⟩, ?_⟩
    have hadr : (asAddr (a.tmps.getD b undef)).run P w = .ok ⟨b2, off, none⟩ w := by rw [hev]; rfl
    rw [List.mapM_cons]
    have h9 : (resOne a.tmps (.cell b t)).run P w = .ok u' w := by simp only [resOne, Sem.run_bind, hadr, Result.andThen_ok, h5]
    simp only [Sem.run_bind, h9, Sem.run_pure, Result.andThen_ok, h8]

theorem oneK_some {vs : List Value} {v : Value} (h : oneK vs some = some v) : (vs = [v]) ∨ (vs.length ≠ 1 ∧ v = .tuple vs.toArray) := by
  unfold oneK at h
  split at h
  · left; simp at h; rw [h]
  · rename_i hne
    right
    simp at h
    refine ⟨fun hl => ?_, h.symm⟩
    match vs, hl with
    | [x], _ => exact hne x rfl

theorem pl_of_one {vs : List Value} (h : vs.all pl2 = true) {vs' : List Value} (hl : LR (V2 R) vs vs') : vs' = vs := (LR_plain (fun _ _ hv => V2_plain hv) h).1 hl

theorem argSlots_look : ∀ (args : List Value) (i t : Nat) (v : Value), look (argSlots i args) t = some v → ∃ j, t = i + j ∧ args[j]? = some v
  | [], _, _, _, h => by simp [argSlots, look] at h
  | x :: r, i, t, v, h => by
    simp only [argSlots, look_cons] at h
    by_cases ht : i = t
    · subst ht
      rw [upd_same] at h
      cases h
      exact ⟨0, rfl, rfl⟩
    · rw [upd_ne _ _ ht] at h
      obtain ⟨j, h1, h2⟩ := argSlots_look r (i + 1) t v h
      exact ⟨j + 1, by omega, by simpa using h2⟩

/-- A FUNCTION ANSWERS WHAT THE EVALUATOR SAYS, AND LEAVES ALL MEMORY AS IT WAS. -/
theorem fn_sound (hC : CfgOk P C c) {g : FuncId} {fn : Func} (hf : P.funcs[g]? = some fn) (hb : fn.body = some c) (hn : C.n = fn.ntmps) {args : List Value} (hlen : args.length ≤ fn.ntmps) (hp : args.all pl2 = true)
    {fuel : Nat} {v : Value} (h : fnS C fuel fn c args = some v) (hv : pl2 v = true) (w : World) : Calls P g args.toArray w fun e w' => e = .returned v ∧ Below w.heap.size w w' := by
  unfold fnS fnK at h
  rw [evK_eq, oK_some] at h
  obtain ⟨⟨e, s'⟩, h1, h2⟩ := h
  refine calls_of_wp hf hb ?_
  have hrel : Rel w C.n (fun _ _ => False) (St.f ⟨argSlots 0 args, [], 0⟩) { tmps := args.toArray ++ Array.replicate (fn.ntmps - args.toArray.size) undef, defers := [] } w := by
    refine ⟨rfl, Below.refl _ _, by simp; omega, ?_, nofun, nofun, ?_, nofun⟩
    · intro t u hu
      obtain ⟨j, rfl, hj⟩ := argSlots_look args 0 t u hu
      have hu2 := List.all_eq_true.1 hp u (List.mem_of_getElem? hj)
      have hlt : j < args.length := by
        rcases Nat.lt_or_ge j args.length with h | h
        · exact h
        · rw [List.getElem?_eq_none h] at hj; simp at hj
      refine ⟨u, ?_, (V2_plain hu2).2 rfl⟩
      rw [Nat.zero_add, Array.getElem?_append_left (by simpa using hlt)]
      simpa using hj
    · intro i blk hi; simp [St.f, look] at hi
  refine wp_mono (ev_sound hC (p := []) rfl h1 hrel) ?_
  rintro e' a' w' ⟨rfl, R', hr'⟩
  have fin : endK C.T fn e' s' some none = some v → (e' = .normal ∨ e' = .ret) → a'.defers = [] ∧ ∃ v', (results fn a'.tmps).run P w' = .ok v' w' ∧ (v' = v ∧ Below w.heap.size w w') := by
    intro h3 h4
    refine ⟨hr'.defers, ?_⟩
    have h3 : resK C.T s' fn.results.toList (fun vs => oneK vs some) none = some v := by
      rcases h4 with rfl | rfl <;> exact h3
    obtain ⟨vs, vs', h5, h6, h7⟩ := res_run hC hr' _ h3
    have hrun : (results fn a'.tmps).run P w' = .ok (if h : vs'.toArray.size = 1 then vs'.toArray[0] else .tuple vs'.toArray) w' := by
      rw [results_eq, Array.mapM_eq_mapM_toList]
      simp only [Sem.run_bind, Sem.run_map, h7, Result.andThen_ok, Sem.run_pure]
    refine ⟨_, hrun, ?_, hr'.below⟩
    rcases oneK_some h5 with rfl | ⟨hl, rfl⟩
    · match vs', h6 with
      | [u], h6 =>
        have := (V2_plain hv).1 h6.1
        subst this
        simp
    · have hl' : vs'.length ≠ 1 := by rw [← LR_len h6]; exact hl
      rw [dif_neg (by simpa using hl')]
      have hall : vs.all pl1 = true := by simpa [pl2] using hv
      have : vs' = vs := by
        refine (LR_plain (r := V2 R') (pl := pl1) (fun u u' hu => ?_) hall).1 h6
        refine V2_plain ?_
        unfold pl2; split
        · simp [pl1, pl0] at hu
        · exact hu
      rw [this]
  cases e' with
  | normal => obtain ⟨k1, v', k2, rfl, k3⟩ := fin h2 (.inl rfl); exact ⟨k1, v', k2, rfl, k3⟩
  | ret => obtain ⟨k1, v', k2, rfl, k3⟩ := fin h2 (.inr rfl); exact ⟨k1, v', k2, rfl, k3⟩
  | _ => simp [endK] at h2

/-- What is told of one function. -/
def Sum (P : Program) (g : FuncId) (F : List Value → Option (Bool × Value)) : Prop :=
  ∀ args v, F args = some (true, v) → args.all pl2 = true → ∀ w, Invokes P g args.toArray w fun v' w' => v' = v ∧ Below w.heap.size w w'

theorem sums_nil : SumsOk P [] := by intro g F h; simp [look] at h

theorem sums_cons {G : Sums} {g : FuncId} {F : List Value → Option (Bool × Value)} (h : Sum P g F) (hG : SumsOk P G) : SumsOk P ((g, F) :: G) := by
  intro g' F' hF
  rw [look_cons] at hF
  by_cases hg : g = g'
  · subst hg; rw [upd_same] at hF; cases hF; exact h
  · rw [upd_ne _ _ hg] at hF; exact hG g' F' hF

/-- Out of the evaluator. -/
theorem sum_of (hC : CfgOk P C c) {g : FuncId} {fn : Func} (hf : P.funcs[g]? = some fn) (hname : (fn.name == "runtime.NumGoroutine") = false) (hb : fn.body = some c) (hn : C.n = fn.ntmps) {F : List Value → Option (Bool × Value)} {fuel : Nat}
    (h : ∀ args v, F args = some (true, v) → args.all pl2 = true → args.length ≤ fn.ntmps ∧ fnS C fuel fn c args = some v ∧ pl2 v = true) : Sum P g F := by
  intro args v hF hp w
  obtain ⟨h1, h2, h3⟩ := h args v hF hp
  have hne : fn.name ≠ "runtime.NumGoroutine" := by simpa using hname
  have hrun : (callFunc g args.toArray).run P w = .ok (.enter g args.toArray) w := by simp [callFunc, hf, hne, hb]
  unfold Invokes
  rw [hrun]
  refine Calls.mono (fn_sound hC hf hb hn h1 hp h2 h3 w) ?_
  rintro e w' ⟨rfl, hb⟩
  exact ⟨rfl, hb⟩

/-- The same, of one list of arguments. -/
theorem sum_at (hC : CfgOk P C c) {g : FuncId} {fn : Func} (hf : P.funcs[g]? = some fn) (hname : (fn.name == "runtime.NumGoroutine") = false) (hb : fn.body = some c) (hn : C.n = fn.ntmps) {args : List Value} {v : Value} {fuel : Nat}
    (h1 : args.length ≤ fn.ntmps) (h2 : fnS C fuel fn c args = some v) (h3 : pl2 v = true) : args.all pl2 = true → ∀ w, Invokes P g args.toArray w fun v' w' => v' = v ∧ Below w.heap.size w w' := by
  intro hp w
  have hne : fn.name ≠ "runtime.NumGoroutine" := by simpa using hname
  have hrun : (callFunc g args.toArray).run P w = .ok (.enter g args.toArray) w := by simp [callFunc, hf, hne, hb]
  unfold Invokes
  rw [hrun]
  refine Calls.mono (fn_sound hC hf hb hn h1 hp h2 h3 w) ?_
  rintro e w' ⟨rfl, hb⟩
  exact ⟨rfl, hb⟩

theorem tab_nil : TabOk P [] := by intro t i h; simp [look] at h

theorem tab_cons {T : Tab} {t : Nat} {i : TInf} (h : TOk P t i) (hT : TabOk P T) : TabOk P ((t, i) :: T) := by
  intro t' i' hi
  rw [look_cons] at hi
  by_cases ht : t = t'
  · subst ht; rw [upd_same] at hi; cases hi; exact h
  · rw [upd_ne _ _ ht] at hi; exact hT t' i' hi

/-- A type that is no struct. -/
theorem tok_plain {t : Nat} {d : TypeDesc} {siz : Nat} {zer : Value} (h1 : P.underlying t = some d) (h2 : (P.info? t).map (fun i => (i.size, i.zero)) = some (siz, some zer)) : TOk P t ⟨d, siz, zer, false, [], false⟩ := by
  obtain ⟨i, h3, h4⟩ := Option.map_eq_some_iff.1 h2
  simp only [Prod.mk.injEq] at h4
  exact ⟨⟨i, h3, h4.1, h4.2⟩, fun _ => h1, nofun, nofun⟩

theorem tok_eq {t : Nat} {d : TypeDesc} {siz : Nat} {zer : Value} (h1 : P.underlying t = some d) (h2 : (P.info? t).map (fun i => (i.size, i.zero)) = some (siz, some zer)) (h3 : P.eqGuardType P.depth t = false) : TOk P t ⟨d, siz, zer, false, [], true⟩ := by
  obtain ⟨i, h4, h5⟩ := Option.map_eq_some_iff.1 h2
  simp only [Prod.mk.injEq] at h5
  exact ⟨⟨i, h4, h5.1, h5.2⟩, fun _ => h1, nofun, fun _ => h3⟩

end
end Go.W
