/-
  Several texts in one: W11 W12 W13 Tab M1 M2 La M3 M4 M4b Lb M5 Lc M7 Ld M6 M9 W14 M11 M12 N1 N2 N3.
-/
import Derived.Test.YtckbmhegopjnmaaZc
import Derived.Test.YtckbmhegopjnmaaChecked
import Derived.KernelRfl
import Derived.Laws.MathBits
import Derived.Laws.Externs
import Derived.ProofKit
import Derived.OpenShut
namespace Go.W
open Go.RowKit (Below)
section
variable {R : Type}
def resK (T : Tab) (s : St) : List ResultVar -> (List Value -> R) -> R -> R
 | [], k, _ => k []
 | .tmp t :: r, k, f => oK (look s.slots t) (fun v => resK T s r (fun vs => k (v :: vs)) f) f
 | .cell a t :: r, k, f => oK (look s.slots a) (fun v => ptrK v (fun b off => loadK T t (look s.mem) b off (fun q => resK T s r (fun vs => k (q.val :: vs)) f) f) f) f
def oneK (vs : List Value) (k : Value -> R) : R :=
 match vs with
 | [v] => k v
 | vs => k (.tuple vs.toArray)
def endK (T : Tab) (fn : Func) (e : Exit) (s : St) (k : Value -> R) (f : R) : R :=
 match e with
 | .normal => resK T s fn.results.toList (fun vs => oneK vs k) f
 | .ret => resK T s fn.results.toList (fun vs => oneK vs k) f
 | _ => f
def argSlots : Nat -> List Value -> List (Nat × Value)
 | _, [] => []
 | i, v :: r => (i, v) :: argSlots (i + 1) r
def fnK (C : Cfg) (fuel : Nat) (fn : Func) (c : Code) (args : List Value) (k : Value -> R) (f : R) : R :=
 evK C fuel [] c ⟨argSlots 0 args, [], 0⟩ (fun e s => endK C.T fn e s k f) f
variable {R' : Type} (h : R -> R')
theorem resK_nat (T : Tab) (s : St) : ∀ (l : List ResultVar) (k : List Value -> R) (f : R), h (resK T s l k f) = resK T s l (fun vs => h (k vs)) (h f)
 | [], _, _ => rfl
 | .tmp t :: r, k, f => by simp only [resK, oK_nat h, resK_nat T s r]
 | .cell a t :: r, k, f => by simp only [resK, oK_nat h, ptrK_nat h, loadK_nat h, resK_nat T s r]
theorem oneK_nat (vs : List Value) (k : Value -> R) : h (oneK vs k) = oneK vs (fun v => h (k v)) := by
 unfold oneK; split <;> rfl
end
def fnS (C : Cfg) (fuel : Nat) (fn : Func) (c : Code) (args : List Value) : Option Value := fnK C fuel fn c args some none
def resOne (tmps : Array Value) (x : ResultVar) : Sem Value :=
 match x with
 | .tmp t => pure (tmps.getD t undef)
 | .cell b t => do loadVar t (<- asAddr (tmps.getD b undef))
theorem results_eq (fn : Func) (tmps : Array Value) : results fn tmps = (do
  let vs <- fn.results.mapM (resOne tmps)
  pure (if h : vs.size = 1 then vs[0] else .tuple vs)) := by
 unfold results
 congr 1
section
variable {P : Program} [Laid P] {C : Cfg} {c : Code} {w0 : Wb (lay P)} {w : World} {R : Nat -> Pl -> Prop} {a : Act}
theorem res_run (hC : CfgOk P C c) {s : St} (hrel : Rel w0 C.n R s.f a w) : ∀ (l : List ResultVar) {β : Type} {k : List Value -> Option β} {r : β}, resK C.T s l k none = some r ->
  ∃ vs vs', k vs = some r ∧ LR (V2 R) vs vs' ∧
   (l.mapM (resOne a.tmps)).run P w = .ok vs' w
 | [], β, k, r, h => ⟨[], [], h, trivial, rfl⟩
 | .tmp t :: l, β, k, r, h => by
  simp only [resK, oK_some] at h
  obtain ⟨v, hv, h⟩ := h
  obtain ⟨vs, vs', h1, h2, h3⟩ := res_run hC hrel l h
  have hev := hrel.ev (x := .tmp t) hv
  refine ⟨v :: vs, a.tmps.getD t undef :: vs', h1, ⟨hev, h2⟩, ?_⟩
  simp only [List.mapM_cons, resOne, Sem.run_bind, Sem.run_pure, Result.andThen_ok] at h3 ⊢
  simp only [h3, Result.andThen_ok]
 | .cell b t :: l, β, k, r, h => by
  simp only [resK, oK_some, ptrK_some] at h
  obtain ⟨v, hv, b1, off, rfl, h⟩ := h
  obtain ⟨p, b2, hp, hpa, hev⟩ := V2_ptr (hrel.ev (x := .tmp b) hv)
  have hev : a.tmps.getD b undef = .pointer (some ⟨b2, p.d + off, none⟩) := hev
  obtain ⟨q, hq, h⟩ : ∃ q, loadK C.T t (look s.mem) b1 off some none = some q ∧ resK C.T s l (fun vs => k (q.val :: vs)) none = some r := by
   have := loadK_nat (fun o : Option Res => oK o (fun q => resK C.T s l (fun vs => k (q.val :: vs)) none) none) C.T t (look s.mem) b1 off some none
   simp only [oK] at this
   rw [<- this] at h
   cases hq : loadK C.T t (look s.mem) b1 off some none with
   | none => rw [hq] at h; simp at h
   | some q => rw [hq] at h; exact ⟨q, rfl, h⟩
  obtain ⟨_, u', h5, h4⟩ := load_run hC.T hrel.m hp hpa hq
  obtain ⟨vs, vs', h6, h7, h8⟩ := res_run hC hrel l h
  refine ⟨q.val :: vs, u' :: vs', h6, ⟨h4, h7⟩, ?_⟩
  have hadr : (asAddr (a.tmps.getD b undef)).run P w = .ok ⟨b2, p.d + off, none⟩ w := by rw [hev]; rfl
  rw [List.mapM_cons]
  have h9 : (resOne a.tmps (.cell b t)).run P w = .ok u' w := by simp only [resOne, Sem.run_bind, hadr, Result.andThen_ok, h5]
  simp only [Sem.run_bind, h9, Sem.run_pure, Result.andThen_ok, h8]
theorem oneK_some {vs : List Value} {v : Value} (h : oneK vs some = some v) : (vs = [v]) ∨ (vs.length ≠ 1 ∧ v = .tuple vs.toArray) := by
 unfold oneK at h
 split at h
 · left; simp at h; rw [h]
 · rename_i hne
  right
  simp at h
  refine ⟨fun hl => ?_, h.symm⟩
  match vs, hl with
  | [x], _ => exact hne x rfl
theorem argSlots_look : ∀ (args : List Value) (i t : Nat) (v : Value), look (argSlots i args) t = some v -> ∃ j, t = i + j ∧ args[j]? = some v
 | [], _, _, _, h => by simp [argSlots, look] at h
 | x :: r, i, t, v, h => by
  simp only [argSlots, look_cons] at h
  by_cases ht : i = t
  · subst ht
   rw [upd_same] at h
   cases h
   exact ⟨0, rfl, rfl⟩
  · rw [upd_ne _ _ ht] at h
   obtain ⟨j, h1, h2⟩ := argSlots_look r (i + 1) t v h
   exact ⟨j + 1, by omega, by simpa using h2⟩
theorem fn_sound (hC : CfgOk P C c) {g : FuncId} {fn : Func} (hf : P.funcs[g]? = some fn) (hb : fn.body = some c) (hn : C.n = fn.ntmps) {args : List Value} (hlen : args.length <= fn.ntmps) (hp : args.all pl2 = true)
  {fuel : Nat} {v : Value} (h : fnS C fuel fn c args = some v) (hv : pl2 v = true) (w : World) (hg : GOk (lay P) w) : Calls P g args.toArray w fun e w' => e = .returned v ∧ Below w.heap.size w w' := by
 unfold fnS fnK at h
 rw [evK_eq, oK_some] at h
 obtain ⟨⟨e, s'⟩, h1, h2⟩ := h
 refine calls_of_wp hf hb ?_
 have hrel : Rel (⟨w, fun _ => False, fun _ _ => False⟩ : Wb (lay P)) C.n (fun _ _ => False) (St.f ⟨argSlots 0 args, [], 0⟩) { tmps := args.toArray ++ Array.replicate (fn.ntmps - args.toArray.size) undef, defers := [] } w := by
  refine ⟨rfl, by simp; omega, ?_, ⟨BelowX.refl _ _ _ hg (fun _ _ h => h), nofun, nofun, ?_, nofun, nofun, nofun, nofun⟩⟩
  · intro t u hu
   obtain ⟨j, rfl, hj⟩ := argSlots_look args 0 t u hu
   have hu2 := List.all_eq_true.1 hp u (List.mem_of_getElem? hj)
   have hlt : j < args.length := by
    rcases Nat.lt_or_ge j args.length with h | h
    · exact h
    · rw [List.getElem?_eq_none h] at hj; simp at hj
   refine ⟨u, ?_, (V2_plain hu2).2 rfl⟩
   rw [Nat.zero_add, Array.getElem?_append_left (by simpa using hlt)]
   simpa using hj
  · intro i blk hi; simp [St.f, look] at hi
 refine wp_mono (ev_sound hC (p := []) rfl h1 hrel) ?_
 rintro e' a' w' ⟨rfl, R', hr'⟩
 have fin : endK C.T fn e' s' some none = some v -> (e' = .normal ∨ e' = .ret) -> a'.defers = [] ∧ ∃ v', (results fn a'.tmps).run P w' = .ok v' w' ∧ (v' = v ∧ Below w.heap.size w w') := by
  intro h3 h4
  refine ⟨hr'.defers, ?_⟩
  have h3 : resK C.T s' fn.results.toList (fun vs => oneK vs some) none = some v := by
   rcases h4 with rfl | rfl <;> exact h3
  obtain ⟨vs, vs', h5, h6, h7⟩ := res_run hC hr' _ h3
  have hrun : (results fn a'.tmps).run P w' = .ok (if h : vs'.toArray.size = 1 then vs'.toArray[0] else .tuple vs'.toArray) w' := by
   rw [results_eq, Array.mapM_eq_mapM_toList]
   simp only [Sem.run_bind, Sem.run_map, h7, Result.andThen_ok, Sem.run_pure]
  refine ⟨_, hrun, ?_, hr'.m.below.below fun _ h => h⟩
  rcases oneK_some h5 with rfl | ⟨hl, rfl⟩
  · match vs', h6 with
   | [u], h6 =>
    have := (V2_plain hv).1 h6.1
    subst this
    simp
  · have hl' : vs'.length ≠ 1 := by rw [<- LR_len h6]; exact hl
   rw [dif_neg (by simpa using hl')]
   have hall : vs.all pl1 = true := by simpa [pl2] using hv
   have : vs' = vs := by
    refine (LR_plain (r := V2 R') (pl := pl1) (fun u u' hu => ?_) hall).1 h6
    refine V2_plain ?_
    unfold pl2; split
    · simp [pl1, pl0] at hu
    · exact hu
   rw [this]
 cases e' with
 | normal => obtain ⟨k1, v', k2, rfl, k3⟩ := fin h2 (.inl rfl); exact ⟨k1, v', k2, rfl, k3⟩
 | ret => obtain ⟨k1, v', k2, rfl, k3⟩ := fin h2 (.inr rfl); exact ⟨k1, v', k2, rfl, k3⟩
 | _ => simp [endK] at h2
theorem sums_nil : SumsOk P [] := by intro g e h; simp [look] at h
theorem sums_cons {G : Sums} {g : FuncId} {F : List Value -> Option (Bool × Value)} (h : Sum P g F) (hG : SumsOk P G) : SumsOk P ((g, .pl F) :: G) := by
 intro g' F' hF
 rw [look_cons] at hF
 by_cases hg : g = g'
 · subst hg; rw [upd_same] at hF; cases hF; exact h
 · rw [upd_ne _ _ hg] at hF; exact hG g' F' hF
theorem sums_consM {G : Sums} {g : FuncId} {F : List Value -> (Nat -> Option Blk) -> Nat -> List (Bool × Value × List (Nat × Blk))} (h : MSum P g F) (hG : SumsOk P G) : SumsOk P ((g, .me F) :: G) := by
 intro g' F' hF
 rw [look_cons] at hF
 by_cases hg : g = g'
 · subst hg; rw [upd_same] at hF; cases hF; exact h
 · rw [upd_ne _ _ hg] at hF; exact hG g' F' hF
theorem sum_of (hC : CfgOk P C c) {g : FuncId} {fn : Func} (hf : P.funcs[g]? = some fn) (hname : (fn.name == "runtime.NumGoroutine") = false) (hb : fn.body = some c) (hn : C.n = fn.ntmps) {F : List Value -> Option (Bool × Value)} {fuel : Nat}
  (h : ∀ args v, F args = some (true, v) -> args.all pl2 = true -> args.length <= fn.ntmps ∧ fnS C fuel fn c args = some v ∧ pl2 v = true) : Sum P g F := by
 intro args v hF hp w hgk
 obtain ⟨h1, h2, h3⟩ := h args v hF hp
 have hne : fn.name ≠ "runtime.NumGoroutine" := by simpa using hname
 have hrun : (callFunc g args.toArray).run P w = .ok (.enter g args.toArray) w := by simp [callFunc, hf, hne, hb]
 unfold Invokes
 rw [hrun]
 refine Calls.mono (fn_sound hC hf hb hn h1 hp h2 h3 w hgk) ?_
 rintro e w' ⟨rfl, hb⟩
 exact ⟨rfl, hb⟩
theorem sum_at (hC : CfgOk P C c) {g : FuncId} {fn : Func} (hf : P.funcs[g]? = some fn) (hname : (fn.name == "runtime.NumGoroutine") = false) (hb : fn.body = some c) (hn : C.n = fn.ntmps) {args : List Value} {v : Value} {fuel : Nat}
  (h1 : args.length <= fn.ntmps) (h2 : fnS C fuel fn c args = some v) (h3 : pl2 v = true) : args.all pl2 = true -> ∀ w, GOk (lay P) w -> Invokes P g args.toArray w fun v' w' => v' = v ∧ Below w.heap.size w w' := by
 intro hp w hgk
 have hne : fn.name ≠ "runtime.NumGoroutine" := by simpa using hname
 have hrun : (callFunc g args.toArray).run P w = .ok (.enter g args.toArray) w := by simp [callFunc, hf, hne, hb]
 unfold Invokes
 rw [hrun]
 refine Calls.mono (fn_sound hC hf hb hn h1 hp h2 h3 w hgk) ?_
 rintro e w' ⟨rfl, hb⟩
 exact ⟨rfl, hb⟩
end
section
variable {P : Program}
theorem tab_nil : TabOk P [] := by intro t i h; simp [look] at h
theorem tab_cons {T : Tab} {t : Nat} {i : TInf} (h : TOk P t i) (hT : TabOk P T) : TabOk P ((t, i) :: T) := by
 intro t' i' hi
 rw [look_cons] at hi
 by_cases ht : t = t'
 · subst ht; rw [upd_same] at hi; cases hi; exact h
 · rw [upd_ne _ _ ht] at hi; exact hT t' i' hi
theorem tok_plain {t : Nat} {d : TypeDesc} {siz byt : Nat} {zer : Value} (h1 : P.underlying t = some d) (h2 : (P.info? t).map (fun i => (i.size, i.zero, i.bytes)) = some (siz, some zer, byt)) : TOk P t ⟨d, siz, zer, false, [], [], byt⟩ := by
 obtain ⟨i, h3, h4⟩ := Option.map_eq_some_iff.1 h2
 simp only [Prod.mk.injEq] at h4
 exact ⟨⟨i, h3, h4.1, h4.2.1, h4.2.2⟩, fun _ => h1, nofun, fun h => absurd rfl h⟩
theorem tok_eq {t : Nat} {d : TypeDesc} {siz byt : Nat} {zer : Value} {ks : List CK} (h1 : P.underlying t = some d) (h2 : (P.info? t).map (fun i => (i.size, i.zero, i.bytes)) = some (siz, some zer, byt)) (h3 : P.eqGuardType P.depth t = false) (h6 : kindsT P 20 t = some ks) : TOk P t ⟨d, siz, zer, false, [], ks, byt⟩ := by
 obtain ⟨i, h4, h5⟩ := Option.map_eq_some_iff.1 h2
 simp only [Prod.mk.injEq] at h5
 exact ⟨⟨i, h4, h5.1, h5.2.1, h5.2.2⟩, fun _ => h1, nofun, fun _ => ⟨h3, h6⟩⟩
def structFlds (d : Option TypeDesc) : Option (List (Nat × Nat)) :=
 match d with
 | some (.struct fs) => some (fs.toList.map fun f => (f.offset, f.type))
 | _ => none
theorem tok_struct {t : Nat} {siz byt : Nat} {zer : Value} {flds : List (Nat × Nat)} (h1 : structFlds (P.underlying t) = some flds) (h2 : (P.info? t).map (fun i => (i.size, i.zero, i.bytes)) = some (siz, some zer, byt)) : TOk P t ⟨.bool, siz, zer, true, flds, [], byt⟩ := by
 obtain ⟨i, h3, h4⟩ := Option.map_eq_some_iff.1 h2
 simp only [Prod.mk.injEq] at h4
 refine ⟨⟨i, h3, h4.1, h4.2.1, h4.2.2⟩, nofun, fun _ => ?_, fun h => absurd rfl h⟩
 unfold structFlds at h1
 split at h1
 · rename_i fs hd
  exact ⟨fs, hd, Option.some.inj h1⟩
 · simp at h1
theorem tok_structE {t : Nat} {siz byt : Nat} {zer : Value} {flds : List (Nat × Nat)} {ks : List CK} (h1 : structFlds (P.underlying t) = some flds) (h2 : (P.info? t).map (fun i => (i.size, i.zero, i.bytes)) = some (siz, some zer, byt))
  (h5 : P.eqGuardType P.depth t = false) (h6 : kindsT P 20 t = some ks) : TOk P t ⟨.bool, siz, zer, true, flds, ks, byt⟩ := by
 obtain ⟨i, h3, h4⟩ := Option.map_eq_some_iff.1 h2
 simp only [Prod.mk.injEq] at h4
 refine ⟨⟨i, h3, h4.1, h4.2.1, h4.2.2⟩, nofun, fun _ => ?_, fun _ => ⟨h5, h6⟩⟩
 unfold structFlds at h1
 split at h1
 · rename_i fs hd
  exact ⟨fs, hd, Option.some.inj h1⟩
 · simp at h1
end
end Go.W

namespace Go.W
open Go.RowKit (Below)
abbrev Ren := List (Nat × Nat)
def idR (l : List Nat) : Ren := l.map fun i => (i, i)
instance : Coe (List Nat) Ren := ⟨idR⟩
def swapR : Ren -> Ren
 | [] => []
 | p :: l => (p.2, p.1) :: swapR l
def ren00 (ρ : Ren) : Value -> Option Value
 | .pointer (some a) => oK (look ρ a.block) (fun b => some (.pointer (some ⟨b, a.off, a.spot⟩))) none
 | .slice (some a) n c => oK (look ρ a.block) (fun b => some (.slice (some ⟨b, a.off, a.spot⟩) n c)) none
 | v => some v
def renL (q : Value -> Option Value) : List Value -> Option (List Value)
 | [] => some []
 | v :: l => oK (q v) (fun u => oK (renL q l) (fun m => some (u :: m)) none) none
def renI (ρ : Ren) : Value -> Option Value
 | .agg cs => oK (renL (ren00 ρ) cs.toList) (fun l => some (.agg l.toArray)) none
 | v => ren00 ρ v
def ren0 (ρ : Ren) : Value -> Option Value
 | .pointer (some a) => oK (look ρ a.block) (fun b => some (.pointer (some ⟨b, a.off, a.spot⟩))) none
 | .slice (some a) n c => oK (look ρ a.block) (fun b => some (.slice (some ⟨b, a.off, a.spot⟩) n c)) none
 | .iface t x => oK (renI ρ x) (fun u => some (.iface t u)) none
 | v => some v
def ren1 (ρ : Ren) : Value -> Option Value
 | .agg cs => oK (renL (ren0 ρ) cs.toList) (fun l => some (.agg l.toArray)) none
 | v => ren0 ρ v
def ren2 (ρ : Ren) : Value -> Option Value
 | .tuple vs => oK (renL (ren1 ρ) vs.toList) (fun l => some (.tuple l.toArray)) none
 | v => ren1 ρ v
def renC (ρ : Ren) : Cells -> Option Cells
 | .lst l => oK (renL (ren0 ρ) l) (fun m => some (.lst m)) none
 | .row ks n f => some (.row ks n f)
 | .elt i k sz => oK (look ρ i) (fun j => some (.elt j k sz)) none
 | .tail i l cnt sz => oK (look ρ i) (fun j => some (.tail j l cnt sz)) none
 | .fam ks n es g => some (.fam ks n es g)
 | .itr s pos => some (.itr s pos)
def renOk1 (p : Nat × Nat) : Bool := (loose p.1 == loose p.2) && (Nat.beq p.1 p.2 || Nat.blt p.1 1000000) && (Nat.blt p.1 1000000000 && Nat.blt p.2 1000000000)
def nodupB : List Nat -> Bool
 | [] => true
 | x :: l => !(nmem x l) && nodupB l
def renOk (is : Ren) : Bool := is.all renOk1 && nodupB (is.map (·.1)) && nodupB (is.map (·.2))
def getSlots (s : St) (ρ : Ren) : List Nat -> Option (List (Nat × Value))
 | [] => some []
 | t :: r => oK (look s.slots t) (fun v => oK (ren2 ρ v) (fun u => oK (getSlots s ρ r) (fun l => some ((t, u) :: l)) none) none) none
def getMem (s : St) (ρ : Ren) : Ren -> Option (List (Nat × Blk))
 | [] => some []
 | i :: r => oK (look s.mem i.2) (fun b => oK (renC ρ b.cells) (fun c => oK (getMem s ρ r) (fun l => some ((i.1, ⟨c, b.elem, b.own⟩) :: l)) none) none) none
def restS (ts : List Nat) (is : Ren) (nx : Nat) (s : St) : Option St :=
 bif renOk is then oK (getSlots s (swapR is) ts) (fun sl => oK (getMem s (swapR is) is) (fun me => some ⟨sl, me, nx⟩) none) none else none
section
variable {GL : Glob} {w0 : Wb GL} {w : World} {n : Nat} {R : Nat -> Pl -> Prop} {a : Act} {is : Ren}
theorem look_swap : ∀ {is : Ren} {o i : Nat}, nodupB (is.map (·.1)) = true -> look (swapR is) o = some i -> look is i = some o
 | [], _, _, _, h => by simp [swapR, look] at h
 | p :: is, o, i, hn, h => by
  simp only [List.map_cons, nodupB, Bool.and_eq_true, Bool.not_eq_true'] at hn
  simp only [swapR, look_cons] at h
  by_cases hp : p.2 = o
  · subst hp
   rw [upd_same] at h
   cases h
   obtain ⟨x, y⟩ := p
   rw [look_cons, upd_same]
  · rw [upd_ne _ _ hp] at h
   have ih := look_swap hn.2 h
   obtain ⟨x, y⟩ := p
   rw [look_cons]
   by_cases hx : x = i
   · subst hx
    have : x ∈ is.map (·.1) := by
     have key : ∀ (l : Ren) (z : Nat), look l x = some z -> x ∈ l.map (·.1) := by
      intro l
      induction l with
      | nil => intro z hz; simp [look] at hz
      | cons q l ih2 =>
       intro z hz
       obtain ⟨q1, q2⟩ := q
       rw [look_cons] at hz
       by_cases hq : q1 = x
       · simp [hq]
       · rw [upd_ne _ _ hq] at hz; simp [ih2 z hz]
     exact key is o ih
    rw [nmem_iff.2 this] at hn
    simp at hn
   · rw [upd_ne _ _ hx]; exact ih
theorem look_mem2 : ∀ {is : Ren} {i o : Nat}, look is i = some o -> (i, o) ∈ is
 | [], _, _, h => by simp [look] at h
 | (x, y) :: is, i, o, h => by
  rw [look_cons] at h
  by_cases hx : x = i
  · subst hx; rw [upd_same] at h; cases h; simp
  · rw [upd_ne _ _ hx] at h; exact List.mem_cons_of_mem _ (look_mem2 h)
theorem look_inj : ∀ {is : Ren} {i j o : Nat}, nodupB (is.map (·.2)) = true -> look is i = some o -> look is j = some o -> i = j
 | [], _, _, _, _, h, _ => by simp [look] at h
 | (x, y) :: is, i, j, o, hn, hi, hj => by
  simp only [List.map_cons, nodupB, Bool.and_eq_true, Bool.not_eq_true'] at hn
  rw [look_cons] at hi hj
  have out : ∀ z, look is z = some y -> False := by
   intro z hz
   have : y ∈ is.map (·.2) := List.mem_map.2 ⟨(z, y), look_mem2 hz, rfl⟩
   rw [nmem_iff.2 this] at hn
   simp at hn
  by_cases hx : x = i
  · subst hx
   rw [upd_same] at hi
   cases hi
   by_cases hx2 : x = j
   · exact hx2
   · rw [upd_ne _ _ hx2] at hj; exact (out _ hj).elim
  · rw [upd_ne _ _ hx] at hi
   by_cases hx2 : x = j
   · subst hx2
    rw [upd_same] at hj
    cases hj
    exact (out _ hi).elim
   · rw [upd_ne _ _ hx2] at hj
    exact look_inj hn.2 hi hj
def renR (is : Ren) (R : Nat -> Pl -> Prop) (i : Nat) (p : Pl) : Prop := (∃ o, look is i = some o ∧ R o p) ∨ (1000000000 <= i ∧ R i p)
theorem renOk_loose (hk : renOk is = true) {i o : Nat} (h : look is i = some o) : loose i = loose o ∧ (i = o ∨ i < 1000000) := by
 unfold renOk at hk
 simp only [Bool.and_eq_true] at hk
 have := List.all_eq_true.1 hk.1.1 _ (look_mem2 h)
 simp only [renOk1, Bool.and_eq_true, beq_iff_eq, Bool.or_eq_true, nbeq, Nat.blt_eq] at this
 exact this.1
theorem renOk_lt (hk : renOk is = true) {i o : Nat} (h : look is i = some o) : i < 1000000000 ∧ o < 1000000000 := by
 unfold renOk at hk
 simp only [Bool.and_eq_true] at hk
 have := List.all_eq_true.1 hk.1.1 _ (look_mem2 h)
 simp only [renOk1, Bool.and_eq_true, beq_iff_eq, Bool.or_eq_true, nbeq, Nat.blt_eq] at this
 exact this.2
theorem LR_ren {r r' : Value -> Value -> Prop} {q : Value -> Option Value} (hr : ∀ v u v', r v v' -> q v = some u -> r' u v') : ∀ {l m l' : List Value}, LR r l l' -> renL q l = some m -> LR r' m l'
 | [], m, [], _, h => by simp only [renL, Option.some.injEq] at h; subst h; trivial
 | v :: l, m, v' :: l', hl, h => by
  simp only [renL, oK_some] at h
  obtain ⟨u, hu, m', hm', h⟩ := h
  cases h
  exact ⟨hr _ _ _ hl.1 hu, LR_ren hr hl.2 hm'⟩
 | [], _, _ :: _, h, _ => h.elim
 | _ :: _, _, [], h, _ => h.elim
theorem V00_ren2 (hk : renOk is = true) {R2 : Nat -> Pl -> Prop} (hR : ∀ i o p, look is i = some o -> R o p -> R2 i p) {v u v' : Value} (h : V00 R v v') (hu : ren00 (swapR is) v = some u) : V00 R2 u v' := by
 have hn : nodupB (is.map (·.1)) = true := by
  unfold renOk at hk
  simp only [Bool.and_eq_true] at hk
  exact hk.1.2
 unfold ren00 at hu
 split at hu
 · rename_i a
  obtain ⟨b, hb, hu⟩ := oK_some.1 hu
  cases hu
  obtain ⟨p, bl, h1, h2, h3⟩ := h
  exact ⟨p, bl, hR _ _ _ (look_swap hn hb) h1, h2, h3⟩
 · rename_i a n c
  obtain ⟨b, hb, hu⟩ := oK_some.1 hu
  cases hu
  obtain ⟨p, h1, h2⟩ := h
  refine ⟨p, hR _ _ _ (look_swap hn hb) h1, ?_⟩
  unfold SlOk at h2 ⊢
  simp only
  rw [(renOk_loose hk (look_swap hn hb)).1]
  exact h2
 · cases hu
  rename_i h1 h2
  unfold V00 at h ⊢
  split at h
  · exact absurd rfl (h1 _)
  · exact absurd rfl (h2 _ _ _)
  · exact h
  · exact h
  · exact h
  · exact h
theorem VI_ren2 (hk : renOk is = true) {R2 : Nat -> Pl -> Prop} (hR : ∀ i o p, look is i = some o -> R o p -> R2 i p) {v u v' : Value} (h : VI R v v') (hu : renI (swapR is) v = some u) : VI R2 u v' := by
 unfold renI at hu
 split at hu
 · obtain ⟨m, hm, hu⟩ := oK_some.1 hu
  cases hu
  obtain ⟨cs', rfl, hl⟩ := h
  exact ⟨cs', rfl, LR_ren (r := V00 R) (fun _ _ _ h1 h2 => V00_ren2 hk hR h1 h2) hl hm⟩
 · rename_i hne
  have h0 : V00 R v v' := by
   unfold VI at h
   split at h
   · exact absurd rfl (hne _)
   · exact h
  have := V00_ren2 hk hR h0 hu
  unfold VI
  split
  · exact (show False from this).elim
  · exact this
theorem V0_ren2 (hk : renOk is = true) {R2 : Nat -> Pl -> Prop} (hR : ∀ i o p, look is i = some o -> R o p -> R2 i p) {v u v' : Value} (h : V0 R v v') (hu : ren0 (swapR is) v = some u) : V0 R2 u v' := by
 have hn : nodupB (is.map (·.1)) = true := by
  unfold renOk at hk
  simp only [Bool.and_eq_true] at hk
  exact hk.1.2
 unfold ren0 at hu
 split at hu
 · rename_i a
  obtain ⟨b, hb, hu⟩ := oK_some.1 hu
  cases hu
  obtain ⟨p, bl, h1, h2, h3⟩ := h
  exact ⟨p, bl, hR _ _ _ (look_swap hn hb) h1, h2, h3⟩
 · rename_i a n c
  obtain ⟨b, hb, hu⟩ := oK_some.1 hu
  cases hu
  obtain ⟨p, h1, h2⟩ := h
  refine ⟨p, hR _ _ _ (look_swap hn hb) h1, ?_⟩
  unfold SlOk at h2 ⊢
  simp only
  rw [(renOk_loose hk (look_swap hn hb)).1]
  exact h2
 · rename_i t x
  obtain ⟨y, hy, hu⟩ := oK_some.1 hu
  cases hu
  obtain ⟨x', rfl, hx⟩ := h
  exact ⟨x', rfl, VI_ren2 hk hR hx hy⟩
 · cases hu
  rename_i h1 h2 h3
  unfold V0 at h ⊢
  split at h
  · exact absurd rfl (h1 _)
  · exact absurd rfl (h2 _ _ _)
  · exact h
  · exact h
  · exact absurd rfl (h3 _ _)
  · exact h
theorem renL_len {q : Value -> Option Value} : ∀ {l m : List Value}, renL q l = some m -> m.length = l.length
 | [], m, h => by simp only [renL, Option.some.injEq] at h; subst h; rfl
 | v :: l, m, h => by
  simp only [renL, oK_some] at h
  obtain ⟨u, hu, m', hm', h⟩ := h
  cases h
  simp [renL_len hm']
theorem V1_ren2 (hk : renOk is = true) {R2 : Nat -> Pl -> Prop} (hR : ∀ i o p, look is i = some o -> R o p -> R2 i p) {v u v' : Value} (h : V1 R v v') (hu : ren1 (swapR is) v = some u) : V1 R2 u v' := by
 unfold ren1 at hu
 split at hu
 · obtain ⟨m, hm, hu⟩ := oK_some.1 hu
  cases hu
  obtain ⟨cs', rfl, hl⟩ := h
  exact ⟨cs', rfl, LR_ren (r := V0 R) (fun _ _ _ h1 h2 => V0_ren2 hk hR h1 h2) hl hm⟩
 · rename_i hne
  have h0 : V0 R v v' := by
   unfold V1 at h
   split at h
   · exact absurd rfl (hne _)
   · exact h
  have := V0_ren2 hk hR h0 hu
  unfold V1
  split
  · exact (show False from this).elim
  · exact this
theorem V2_ren2 (hk : renOk is = true) {R2 : Nat -> Pl -> Prop} (hR : ∀ i o p, look is i = some o -> R o p -> R2 i p) {v u v' : Value} (h : V2 R v v') (hu : ren2 (swapR is) v = some u) : V2 R2 u v' := by
 unfold ren2 at hu
 split at hu
 · obtain ⟨m, hm, hu⟩ := oK_some.1 hu
  cases hu
  obtain ⟨cs', rfl, hl⟩ := h
  exact ⟨cs', rfl, LR_ren (r := V1 R) (fun _ _ _ h1 h2 => V1_ren2 hk hR h1 h2) hl hm⟩
 · rename_i hne
  have h0 : V1 R v v' := by
   unfold V2 at h
   split at h
   · exact absurd rfl (hne _)
   · exact h
  exact V2_of_V1 (V1_ren2 hk hR h0 hu)
theorem V0_ren (hk : renOk is = true) {v u v' : Value} (h : V0 R v v') (hu : ren0 (swapR is) v = some u) : V0 (renR is R) u v' := V0_ren2 hk (fun _ o _ h1 h2 => .inl ⟨o, h1, h2⟩) h hu
theorem V2_ren (hk : renOk is = true) {v u v' : Value} (h : V2 R v v') (hu : ren2 (swapR is) v = some u) : V2 (renR is R) u v' := V2_ren2 hk (fun _ o _ h1 h2 => .inl ⟨o, h1, h2⟩) h hu
theorem getSlots_look {s : St} {ρ : Ren} : ∀ {ts : List Nat} {l : List (Nat × Value)}, getSlots s ρ ts = some l -> ∀ t u, look l t = some u -> ∃ v, look s.slots t = some v ∧ ren2 ρ v = some u
 | [], l, h, t, u, hv => by simp only [getSlots, Option.some.injEq] at h; subst h; simp [look] at hv
 | x :: r, l, h, t, u, hv => by
  simp only [getSlots, oK_some] at h
  obtain ⟨v, hx, u', hu, l', hl', h⟩ := h
  cases h
  rw [look_cons] at hv
  by_cases hu2 : x = t
  · subst hu2; rw [upd_same] at hv; cases hv; exact ⟨v, hx, hu⟩
  · rw [upd_ne _ _ hu2] at hv; exact getSlots_look hl' t u hv
theorem getMem_look {s : St} {ρ : Ren} : ∀ {js : Ren} {l : List (Nat × Blk)}, getMem s ρ js = some l -> (∀ i, look l i = none ↔ look js i = none) ∧ ∀ i b, look l i = some b -> ∃ o b0, look js i = some o ∧ look s.mem o = some b0 ∧ renC ρ b0.cells = some b.cells ∧ b.elem = b0.elem ∧ b.own = b0.own
 | [], l, h => by simp only [getMem, Option.some.injEq] at h; subst h; exact ⟨fun i => by simp [look], fun i b hb => by simp [look] at hb⟩
 | (x, y) :: r, l, h => by
  simp only [getMem, oK_some] at h
  obtain ⟨b0, hx, c, hc, l', hl', h⟩ := h
  cases h
  obtain ⟨ih1, ih2⟩ := getMem_look hl'
  constructor
  · intro i
   rw [look_cons, look_cons]
   by_cases hu : x = i
   · subst hu; simp [upd_same]
   · rw [upd_ne _ _ hu, upd_ne _ _ hu]; exact ih1 i
  · intro i b hb
   rw [look_cons] at hb ⊢
   by_cases hu : x = i
   · subst hu
    rw [upd_same] at hb
    cases hb
    exact ⟨y, b0, by rw [upd_same], hx, hc, rfl, rfl⟩
   · rw [upd_ne _ _ hu] at hb ⊢
    exact ih2 i b hb
theorem MRel.ren (hk : renOk is = true) {s : St} {me : List (Nat × Blk)} (hm : getMem s (swapR is) is = some me) (h : MRel w0 R (look s.mem) w) : MRel w0 (renR is R) (look me) w := by
 obtain ⟨g1, g2⟩ := getMem_look hm
 have hk2 := hk
 unfold renOk at hk2
 simp only [Bool.and_eq_true] at hk2
 have hn1 := hk2.1.2
 have hn2 := hk2.2
 have big : ∀ i, 1000000000 <= i -> look is i = none := fun i hi => by
  cases hl : look is i with
  | none => rfl
  | some o => have := (renOk_lt hk hl).1; omega
 have bigm : ∀ i blk, look me i = some blk -> i < 1000000000 := fun i blk hi => by
  obtain ⟨o, b0, k1, _⟩ := g2 _ _ hi
  exact (renOk_lt hk k1).1
 have frz : ∀ b, Frz R b -> Frz (renR is R) b := fun b hb => .inr ⟨Nat.le_add_right _ _, hb⟩
 have row : ∀ (e : TypeId) (ks : List CK) (m : Nat) (f : Nat -> List Value) (v : Value), RowAt R w e ks m f v -> RowAt (renR is R) w e ks m f v := by
  intro e ks m f v hr
  rcases hr with hr | ⟨b, d, c, cs, fz, h1, h2, h3, h4, h5⟩
  · exact .inl hr
  · exact .inr ⟨b, d, c, cs, fz, h1, h2, frz _ h3, h4, h5⟩
 refine ⟨h.below, ?_, ?_, ?_, ?_, ?_, ?_, ?_⟩
 · rintro i p p' (⟨o, h1, h2⟩ | ⟨h1, h2⟩) (⟨o', h3, h4⟩ | ⟨h3, h4⟩)
  · rw [h1] at h3; cases h3
   exact h.func _ _ _ h2 h4
  · have := (renOk_lt hk h1).1; omega
  · have := (renOk_lt hk h3).1; omega
  · exact h.func _ _ _ h2 h4
 · rintro i j p q b (⟨o, h1, h2⟩ | ⟨h1, h2⟩) (⟨o', h3, h4⟩ | ⟨h3, h4⟩) ha hb hne blk hblk hown blk' hblk'
  rotate_left
  · have := bigm _ _ hblk'; omega
  · have := bigm _ _ hblk; omega
  · have := bigm _ _ hblk; omega
  obtain ⟨o1, b1, k1, k2, k3, k4, k5⟩ := g2 _ _ hblk
  obtain ⟨o2, b2, l1, l2, l3, l4, l5⟩ := g2 _ _ hblk'
  rw [h1] at k1; cases k1
  rw [h3] at l1; cases l1
  have := h.inj o o' p q b h2 h4 ha hb (fun e => hne (look_inj hn2 h1 (by rw [e]; exact h3))) b1 k2 (by rw [<- k5]; exact hown) b2 l2
  refine ⟨by rw [l5]; exact this.1, ?_⟩
  have hl := this.2
  unfold renC at l3
  split at l3
  · rename_i l hc
   rw [hc] at hl
   have hl : l = [] := hl
   rw [hl] at l3
   simp only [renL, oK] at l3
   rw [<- Option.some.inj l3]; rfl
  · rename_i hc
   rw [hc] at hl
   rw [<- Option.some.inj l3]; exact hl
  · obtain ⟨_, _, l3⟩ := oK_some.1 l3; rw [<- Option.some.inj l3]; rfl
  · obtain ⟨_, _, l3⟩ := oK_some.1 l3; rw [<- Option.some.inj l3]; rfl
  · rw [<- Option.some.inj l3]; rfl
  · rw [<- Option.some.inj l3]; rfl
 · intro i blk hi
  obtain ⟨o, b0, k1, k2, k3, k4, k5⟩ := g2 _ _ hi
  have hmo := h.mem o b0 k2
  obtain ⟨cells, elem, own⟩ := blk
  obtain ⟨cells0, elem0, own0⟩ := b0
  simp only at k3 k4 k5
  subst k4 k5
  have cont : ∀ (c : Cells), ContOk w0 R w o ⟨cells0, elem, own⟩ -> (∀ l, LP R cells0.list l -> LP (renR is R) c.list l) -> (cells0.list = [] -> c.list = []) -> (∀ p size, roomOk o cells0 p size -> roomOk i c p size) -> ContOk w0 (renR is R) w i ⟨c, elem, own⟩ := by
   intro c hco hlp hnil hroom
   obtain ⟨p, m1, m2⟩ := hco
   refine ⟨p, .inl ⟨o, k1, m1⟩, ?_⟩
   cases hpa : p.a with
   | none => rw [hpa] at m2; exact hnil m2
   | some b =>
    rw [hpa] at m2
    obtain ⟨cs, fz, n1, n2, n3⟩ := m2
    exact ⟨cs, fz, n1, hlp _ n2, fun ho => ⟨(n3 ho).1, (n3 ho).2.1, hroom _ _ (n3 ho).2.2⟩⟩
  unfold renC at k3
  split at k3
  · rename_i l
   obtain ⟨m, hm2, k3⟩ := oK_some.1 k3
   have k3 := (Option.some.inj k3).symm; subst k3
   refine cont (.lst m) hmo (fun l' hl' => ?_) (fun h0 => ?_) (fun p size hr => by show loose i = true -> _; rw [(renOk_loose hk k1).1]; exact hr)
   · have hl' : LR (V0 R) l (l'.take l.length) := hl'
    show LR (V0 (renR is R)) m (l'.take m.length)
    rw [renL_len hm2]
    exact LR_ren (r := V0 R) (fun _ _ _ h1 h2 => V0_ren hk h1 h2) hl' hm2
   · have h0 : l = [] := h0
    rw [h0] at hm2
    simp only [renL, Option.some.injEq] at hm2
    exact hm2.symm
  · rename_i ks n f
   have k3 := (Option.some.inj k3).symm; subst k3
   refine cont (.row ks n f) hmo (fun l' hl' => ?_) (fun h0 => h0) (fun p size hr => ?_)
   · have hl' : LP R (rowL ks f 0 n) l' := hl'
    show LP (renR is R) (rowL ks f 0 n) l'
    have := (LR_plain (r := V0 R) (pl := pl0) (fun v v' hv => V0_plain hv) (rowL_pl ks f n 0)).1 hl'
    exact LP_plain (rowL_pl _ _ _ _) this
   · show loose i = true -> _
    rw [(renOk_loose hk k1).1]; exact hr
  · rename_i j k sz
   obtain ⟨j', hj, k3⟩ := oK_some.1 k3
   have k3 := (Option.some.inj k3).symm; subst k3
   obtain ⟨p, q, b, m1, m2, m3⟩ := hmo
   exact ⟨p, q, b, .inl ⟨j, look_swap hn1 hj, m1⟩, .inl ⟨o, k1, m2⟩, m3⟩
  · rename_i j l cnt sz
   obtain ⟨j', hj, k3⟩ := oK_some.1 k3
   have k3 := (Option.some.inj k3).symm; subst k3
   obtain ⟨p, q, m1, m2, m3⟩ := hmo
   exact ⟨p, q, .inl ⟨j, look_swap hn1 hj, m1⟩, .inl ⟨o, k1, m2⟩, m3⟩
  · rename_i ks m es g
   have k3 := (Option.some.inj k3).symm; subst k3
   obtain ⟨p, m1, m2⟩ : FamOk w0 R w o elem own ks m es g := hmo
   refine ⟨p, .inl ⟨o, k1, m1⟩, ?_⟩
   cases hpa : p.a with
   | none => rw [hpa] at m2; exact m2
   | some b =>
    rw [hpa] at m2
    obtain ⟨cs, fz, n1, n2, n3, n4⟩ := m2
    refine ⟨cs, fz, n1, fun j hj => ?_, fun hf => frz _ (n3 hf), n4⟩
    obtain ⟨v, n5, n6⟩ := n2 j hj
    exact ⟨v, n5, row _ _ _ _ _ n6⟩
  · rename_i s pos
   have k3 := (Option.some.inj k3).symm; subst k3
   obtain ⟨b, m1, m2, m3⟩ : ItrOk w0 R w o s pos own := hmo
   exact ⟨b, .inl ⟨o, k1, m1⟩, m2, m3⟩
 · rintro i p (⟨o, h1, h2⟩ | ⟨h1, h2⟩) hvb
  · cases hl : look me i with
   | none => rw [(g1 i).1 hl] at h1; simp at h1
   | some _ => rfl
  · omega
 · rintro i p (⟨o, h1, h2⟩ | ⟨h1, h2⟩) hge hvb
  · rcases (renOk_loose hk h1).2 with e | e
   · subst e; exact h.anc _ _ h2 hge hvb
   · omega
  · omega
 · rintro i p b (⟨o, h1, h2⟩ | ⟨h1, h2⟩) hb
  · rcases h.there _ _ _ h2 hb with hc | ⟨s2, pos, j1, j2, j3⟩
   · exact .inl hc
   · cases hl : look me i with
    | none => rw [(g1 i).1 hl] at h1; simp at h1
    | some blk =>
     obtain ⟨o1, b1, k1, k2, k3, k4, k5⟩ := g2 _ _ hl
     rw [h1] at k1; cases k1
     rw [j2] at k2; cases k2
     obtain ⟨cells, elem, own⟩ := blk
     simp only [renC, Option.some.injEq] at k3 k4 k5
     subst k3 k4 k5
     exact .inr ⟨s2, pos, by rw [(renOk_loose hk h1).1]; exact j1, hl, j3⟩
  · refine .inl ((h.there _ _ _ h2 hb).loose ?_)
   unfold loose
   rw [show Nat.ble 1500000 i = true from by rw [Nat.ble_eq]; omega]
   simp
 · rintro i p (⟨o, h1, h2⟩ | ⟨h1, h2⟩) hge
  · have := (renOk_lt hk h1).1; omega
  · obtain ⟨h3, h4⟩ := h.fro i p h2 hge
   refine ⟨h3, ?_⟩
   rintro j q (⟨o, h5, h6⟩ | ⟨h5, h6⟩) hq blk hblk
   · obtain ⟨o1, b1, k1, k2, k3, k4, k5⟩ := g2 _ _ hblk
    rw [h5] at k1; cases k1
    rw [k5]; exact h4 o q h6 hq b1 k2
   · have := bigm _ _ hblk; omega
theorem Rel.rest {ts : List Nat} {nx : Nat} {s s' : St} (hr : restS ts is nx s = some s') (h : Rel w0 n R s.f a w) : ∃ R', Rel w0 n R' s'.f a w := by
 unfold restS at hr
 obtain ⟨hk, hr⟩ := cond_some.1 hr
 obtain ⟨sl, h1, hr⟩ := oK_some.1 hr
 obtain ⟨me, h2, h3⟩ := oK_some.1 hr
 cases h3
 refine ⟨renR is R, h.defers, h.size, ?_, MRel.ren hk h2 h.m⟩
 intro t u hu
 obtain ⟨v, h3, h4⟩ := getSlots_look h1 t u hu
 obtain ⟨v', h5, h6⟩ := h.slot t v h3
 exact ⟨v', h5, V2_ren hk h6 h4⟩
end
section
variable {P : Program} [Laid P] {C : Cfg} {code body : Code}
def cutK (nt : List Nat) (ni : Ren) (nx : Nat) (et : List Nat) (ei : Ren) (ex : Nat) (e : Exit) (s : St) : Option (Exit × St) :=
 match e with
 | .normal => oK (restS nt ni nx s) (fun s => some (.normal, s)) none
 | e => oK (restS et ei ex s) (fun s => some (e, s)) none
def roundS (C : Cfg) (m : Nat) (p : List Nat) (body : Code) (nt : List Nat) (ni : Ren) (nx : Nat) (et : List Nat) (ei : Ren) (ex : Nat) (s : St) : Option (Exit × St) :=
 evK C m p body s (fun e s' => cutK nt ni nx et ei ex e s') none
theorem round_sound (hC : CfgOk P C code) {p : List Nat} (hp : codeAt p code = some body) {m : Nat} {nt et : List Nat} {ni ei : Ren} {nx ex : Nat} {s s' : St} {e : Exit} (h : roundS C m p body nt ni nx et ei ex s = some (e, s'))
  {w0 : Wb (lay P)} {R : Nat -> Pl -> Prop} {a : Act} {w : World} (hrel : Rel w0 C.n R s.f a w) : body.wp P (fun e' a' w' => e' = e ∧ ∃ R', Rel w0 C.n R' s'.f a' w') a w := by
 unfold roundS at h
 rw [evK_eq, oK_some] at h
 obtain ⟨⟨e1, s1⟩, h1, h2⟩ := h
 refine wp_mono (ev_sound hC hp h1 hrel) ?_
 rintro e' a' w' ⟨rfl, R', hr'⟩
 cases e' <;> simp only [cutK, oK_some] at h2 <;>
  (obtain ⟨s2, h3, h4⟩ := h2; cases h4; exact ⟨rfl, Rel.rest h3 hr'⟩)
theorem loop_rounds (hC : CfgOk P C code) {p : List Nat} (hp : codeAt p code = some (.loop body)) {m : Nat} {nt et : List Nat} {ni ei : Ren} {nx ex : Nat} (st : Nat -> St) (N : Nat) {e : Exit} {sf : St} (he : e ≠ .normal)
  (step : ∀ k, k < N -> roundS C m (p ++ [0]) body nt ni nx et ei ex (st k) = some (.normal, st (k + 1)))
  (last : roundS C m (p ++ [0]) body nt ni nx et ei ex (st N) = some (e, sf))
  {w0 : Wb (lay P)} {R : Nat -> Pl -> Prop} {a : Act} {w : World} (hrel : Rel w0 C.n R (st 0).f a w) : (Code.loop body).wp P (fun e' a' w' => e' = e ∧ ∃ R', Rel w0 C.n R' sf.f a' w') a w := by
 have hx : codeAt (p ++ [0]) code = some body := by rw [codeAt_app, hp]; rfl
 have key : ∀ j, j <= N -> ∀ (R : Nat -> Pl -> Prop) (a : Act) (w : World), Rel w0 C.n R (st (N - j)).f a w -> Code.rounds P body (fun e' a' w' => e' = e ∧ ∃ R', Rel w0 C.n R' sf.f a' w') (j + 1) a w := by
  intro j
  induction j with
  | zero =>
   intro _ R a w hr
   rw [rounds_succ]
   refine wp_mono (round_sound hC hx last hr) ?_
   rintro e' a' w' ⟨rfl, hr'⟩
   cases e' with
   | normal => exact absurd rfl he
   | _ => exact ⟨rfl, hr'⟩
  | succ j ih =>
   intro hj R a w hr
   rw [rounds_succ]
   refine wp_mono (round_sound hC hx (step (N - (j + 1)) (by omega)) hr) ?_
   rintro e' a' w' ⟨rfl, R', hr'⟩
   refine ih (by omega) R' a' w' ?_
   rw [show N - j = N - (j + 1) + 1 from by omega]
   exact hr'
 exact wp_loop_rounds (N + 1) (key N (Nat.le_refl N) R a w (by rw [Nat.sub_self]; exact hrel))
end
end Go.W

namespace Go.W
open Go.RowKit (Below)
def veq00 : Value -> Value -> Bool
 | .int k x, .int k' y => decide (k = k') && decide (x = y)
 | .bool a, .bool b => decide (a = b)
 | .pointer a, .pointer b => decide (a = b)
 | .slice a n c, .slice b m d => decide (a = b) && Nat.beq n m && Nat.beq c d
 | .string s, .string t => decide (s = t)
 | _, _ => false
def leq (q : Value -> Value -> Bool) : List Value -> List Value -> Bool
 | [], [] => true
 | a :: l, b :: m => q a b && leq q l m
 | _, _ => false
def veqI : Value -> Value -> Bool
 | .agg xs, .agg ys => leq veq00 xs.toList ys.toList
 | v, u => veq00 v u
def veq0 : Value -> Value -> Bool
 | .int k x, .int k' y => decide (k = k') && decide (x = y)
 | .bool a, .bool b => decide (a = b)
 | .pointer a, .pointer b => decide (a = b)
 | .slice a n c, .slice b m d => decide (a = b) && Nat.beq n m && Nat.beq c d
 | .string s, .string t => decide (s = t)
 | .iface t x, .iface t' y => Nat.beq t t' && veqI x y
 | .nilIface, .nilIface => true
 | _, _ => false
def veq1 : Value -> Value -> Bool
 | .agg xs, .agg ys => leq veq0 xs.toList ys.toList
 | v, u => veq0 v u
def slotsEq : List (Nat × Value) -> List (Nat × Value) -> Bool
 | [], [] => true
 | a :: l, b :: m => Nat.beq a.1 b.1 && veq1 a.2 b.2 && slotsEq l m
 | _, _ => false
noncomputable def rowEq (ks : List CK) (n : Nat) (f g : Nat -> List Value) : Bool := @decide (∀ j, j < n -> nrmK ks (f j) = nrmK ks (g j)) (Classical.propDecidable _)
noncomputable def lstEq (l m : List Value) : Bool := @decide (l = m) (Classical.propDecidable _)
noncomputable def famEq (ks : List CK) (n : Nat) (es es' : Nat -> TypeId) (g g' : Nat -> Nat × (Nat -> List Value)) : Bool := @decide (∀ j, j < n -> es j = es' j ∧ (g j).1 = (g' j).1 ∧ ∀ x, x < (g j).1 -> nrmK ks ((g j).2 x) = nrmK ks ((g' j).2 x)) (Classical.propDecidable _)
noncomputable def txtEq (s t : ByteArray) : Bool := @decide (s = t) (Classical.propDecidable _)
noncomputable def cellsEq (i : Nat) : Cells -> Cells -> Bool
 | .lst l, .lst m => leq veq0 l m
 | .row ks n f, .row ks' n' g => ksEq ks ks' && Nat.beq n n' && rowEq ks n f g
 | .lst l, .row ks n f => !(loose i) && lstEq l (rowL ks f 0 n)
 | .row ks n f, .lst l => !(loose i) && lstEq (rowL ks f 0 n) l
 | .elt a k sz, .elt b k' sz' => Nat.beq a b && Nat.beq k k' && Nat.beq sz sz'
 | .tail a l c sz, .tail b l' c' sz' => Nat.beq a b && Nat.beq l l' && Nat.beq c c' && Nat.beq sz sz'
 | .fam ks n es g, .fam ks' n' es' g' => ksEq ks ks' && Nat.beq n n' && famEq ks n es es' g g'
 | .itr s p, .itr s' p' => txtEq s s' && Nat.beq p p'
 | _, _ => false
noncomputable def memEq : List (Nat × Blk) -> List (Nat × Blk) -> Bool
 | [], [] => true
 | a :: l, b :: m => Nat.beq a.1 b.1 && cellsEq a.1 a.2.cells b.2.cells && Nat.beq a.2.elem b.2.elem && decide (a.2.own = b.2.own) && memEq l m
 | _, _ => false
noncomputable def stEq (s t : St) : Bool := slotsEq s.slots t.slots && memEq s.mem t.mem && Nat.beq s.next t.next
theorem veq00_eq {a b : Value} (h : veq00 a b = true) : a = b := by
 unfold veq00 at h
 split at h <;> simp_all
theorem leq_eq {q : Value -> Value -> Bool} (hq : ∀ a b, q a b = true -> a = b) : ∀ {l m : List Value}, leq q l m = true -> l = m
 | [], [], _ => rfl
 | a :: l, b :: m, h => by
  simp only [leq, Bool.and_eq_true] at h
  rw [hq a b h.1, leq_eq hq h.2]
 | [], _ :: _, h => by simp [leq] at h
 | _ :: _, [], h => by simp [leq] at h
theorem veqI_eq {a b : Value} (h : veqI a b = true) : a = b := by
 unfold veqI at h
 split at h
 · rename_i xs ys
  congr 1
  exact Array.toList_inj.1 (leq_eq (fun _ _ => veq00_eq) h)
 · exact veq00_eq h
theorem veq0_eq {a b : Value} (h : veq0 a b = true) : a = b := by
 unfold veq0 at h
 split at h
 case h_6 =>
  simp only [Bool.and_eq_true] at h
  rw [nbeq.1 h.1, veqI_eq h.2]
 all_goals simp_all
theorem veq1_eq {a b : Value} (h : veq1 a b = true) : a = b := by
 unfold veq1 at h
 split at h
 · rename_i xs ys
  congr 1
  exact Array.toList_inj.1 (leq_eq (fun _ _ => veq0_eq) h)
 · exact veq0_eq h
theorem slotsEq_eq : ∀ {l m : List (Nat × Value)}, slotsEq l m = true -> l = m
 | [], [], _ => rfl
 | (a, x) :: l, (b, y) :: m, h => by
  simp only [slotsEq, Bool.and_eq_true] at h
  rw [nbeq.1 h.1.1, veq1_eq h.1.2, slotsEq_eq h.2]
 | [], _ :: _, h => by simp [slotsEq] at h
 | _ :: _, [], h => by simp [slotsEq] at h
def CellsEqv (i : Nat) (c c' : Cells) : Prop := c' = c ∨ (∃ ks n es es' g g', c = .fam ks n es g ∧ c' = .fam ks n es' g' ∧ ∀ j, j < n -> es j = es' j ∧ (g j).1 = (g' j).1 ∧ ∀ x, x < (g j).1 -> nrmK ks ((g j).2 x) = nrmK ks ((g' j).2 x)) ∨ ((∀ ks n es g, c ≠ .fam ks n es g) ∧ (∀ ks n es g, c' ≠ .fam ks n es g) ∧ (∀ a k sz, c ≠ .elt a k sz) ∧ (∀ a l k sz, c ≠ .tail a l k sz) ∧ (∀ a k sz, c' ≠ .elt a k sz) ∧ (∀ a l k sz, c' ≠ .tail a l k sz) ∧ (∀ s pos, c ≠ .itr s pos) ∧ (∀ s pos, c' ≠ .itr s pos) ∧ c'.list = c.list ∧ ∀ p size, roomOk i c p size -> roomOk i c' p size)
theorem cellsEq_eqv {i : Nat} {c c' : Cells} (h : cellsEq i c c' = true) : CellsEqv i c c' := by
 unfold cellsEq at h
 split at h
 · left; rw [leq_eq (fun _ _ => veq0_eq) h]
 · rename_i ks n f ks' n' g
  simp only [Bool.and_eq_true] at h
  obtain ⟨⟨h1, h2⟩, h3⟩ := h
  have h1 := ksEq_eq h1; subst h1
  have h2 := nbeq.1 h2; subst h2
  have h3 : ∀ j, j < n -> nrmK ks (f j) = nrmK ks (g j) := @of_decide_eq_true _ (Classical.propDecidable _) h3
  refine .inr (.inr ⟨nofun, nofun, nofun, nofun, nofun, nofun, nofun, nofun, ?_, fun _ _ h => h⟩)
  exact rowL_congr ks n 0 (fun j _ hj => (h3 j (by omega)).symm)
 · rename_i l ks n f
  simp only [Bool.and_eq_true, Bool.not_eq_true'] at h
  have h2 : l = rowL ks f 0 n := @of_decide_eq_true _ (Classical.propDecidable _) h.2
  refine .inr (.inr ⟨nofun, nofun, nofun, nofun, nofun, nofun, nofun, nofun, h2.symm, fun p size _ => ?_⟩)
  show loose i = true -> _
  rw [h.1]; intro e; simp at e
 · rename_i ks n f l
  simp only [Bool.and_eq_true, Bool.not_eq_true'] at h
  have h2 : rowL ks f 0 n = l := @of_decide_eq_true _ (Classical.propDecidable _) h.2
  exact .inr (.inr ⟨nofun, nofun, nofun, nofun, nofun, nofun, nofun, nofun, h2.symm, fun p size _ => by show loose i = true -> _; rw [h.1]; intro e; simp at e⟩)
 · simp only [Bool.and_eq_true] at h
  left; rw [nbeq.1 h.1.1, nbeq.1 h.1.2, nbeq.1 h.2]
 · simp only [Bool.and_eq_true] at h
  left; rw [nbeq.1 h.1.1.1, nbeq.1 h.1.1.2, nbeq.1 h.1.2, nbeq.1 h.2]
 · rename_i ks n es g ks' n' es' g'
  simp only [Bool.and_eq_true] at h
  obtain ⟨⟨h1, h2⟩, h3⟩ := h
  have h1 := ksEq_eq h1; subst h1
  have h2 := nbeq.1 h2; subst h2
  exact .inr (.inl ⟨ks, n, es, es', g, g', rfl, rfl, @of_decide_eq_true _ (Classical.propDecidable _) h3⟩)
 · rename_i s p s' p'
  simp only [Bool.and_eq_true] at h
  have h1 : s = s' := @of_decide_eq_true _ (Classical.propDecidable _) h.1
  left; rw [h1, nbeq.1 h.2]
 · simp at h
theorem memEq_eqv : ∀ {l m : List (Nat × Blk)}, memEq l m = true -> ∀ i, (look l i = none ∧ look m i = none) ∨ ∃ b b', look l i = some b ∧ look m i = some b' ∧ b'.elem = b.elem ∧ b'.own = b.own ∧ CellsEqv i b.cells b'.cells
 | [], [], _, i => .inl ⟨rfl, rfl⟩
 | (x, b) :: l, (y, b') :: m, h, i => by
  simp only [memEq, Bool.and_eq_true, decide_eq_true_eq] at h
  obtain ⟨⟨⟨⟨h1, h2⟩, h3⟩, h4⟩, h5⟩ := h
  have h1 := nbeq.1 h1; subst h1
  rw [look_cons, look_cons]
  by_cases hi : x = i
  · subst hi
   rw [upd_same, upd_same]
   exact .inr ⟨b, b', rfl, rfl, (nbeq.1 h3).symm, h4.symm, cellsEq_eqv h2⟩
  · rw [upd_ne _ _ hi, upd_ne _ _ hi]
   exact memEq_eqv h5 i
 | [], _ :: _, h, _ => by simp [memEq] at h
 | _ :: _, [], h, _ => by simp [memEq] at h
theorem Rel.eqv {GL : Glob} {w0 : Wb GL} {n : Nat} {R : Nat -> Pl -> Prop} {s t : St} {a : Act} {w : World} (he : stEq s t = true) (h : Rel w0 n R s.f a w) : Rel w0 n R t.f a w := by
 obtain ⟨sl, me, nx⟩ := s
 obtain ⟨sl', me', nx'⟩ := t
 simp only [stEq, Bool.and_eq_true] at he
 obtain ⟨⟨h1, h2⟩, _⟩ := he
 have h1 := slotsEq_eq h1
 subst h1
 have hm := memEq_eqv h2
 refine ⟨h.defers, h.size, h.slot, h.m.below, h.m.func, ?_, ?_, ?_, h.m.anc, fun i1 p1 b1 h3 h4 => (h.m.there i1 p1 b1 h3 h4).mono (fun s pos hs => by
  have hs : look me i1 = some ⟨.itr s pos, 0, true⟩ := hs
  show look me' i1 = look me i1
  rcases hm i1 with ⟨e, _⟩ | ⟨c, c', k1, k2, k3, k4, k5⟩
  · rw [e] at hs; simp at hs
  · rw [k1] at hs; cases hs
   rw [k1, k2]
   obtain ⟨cells', elem', own'⟩ := c'
   simp only at k3 k4 k5
   subst k3 k4
   rcases k5 with e | ⟨_, _, _, _, _, _, e, _⟩ | ⟨_, _, _, _, _, _, e, _⟩
   · rw [e]
   · cases e
   · exact absurd rfl (e s pos)) rfl, fun i1 p1 h1 hge1 => by
  obtain ⟨h2, h3⟩ := h.m.fro i1 p1 h1 hge1
  refine ⟨h2, fun j q hj hq blk1 hblk1 => ?_⟩
  have hblk1 : look me' j = some blk1 := hblk1
  rcases hm j with ⟨_, e⟩ | ⟨c, c', k1, k2, k3, k4, _⟩
  · rw [e] at hblk1; simp at hblk1
  · rw [k2] at hblk1; cases hblk1
   rw [k4]; exact h3 j q hj hq c k1⟩
 · intro i j p q b r1 r2 ha hb hne blk hblk hown blk' hblk'
  have hblk : look me' i = some blk := hblk
  have hblk' : look me' j = some blk' := hblk'
  rcases hm i with ⟨_, e⟩ | ⟨c, c', k1, k2, k3, k4, _⟩
  · rw [e] at hblk; simp at hblk
  · rw [k2] at hblk; cases hblk
   rcases hm j with ⟨_, e⟩ | ⟨d, d', l1, l2, l3, l4, l5⟩
   · rw [e] at hblk'; simp at hblk'
   · rw [l2] at hblk'; cases hblk'
    have := h.m.inj i j p q b r1 r2 ha hb hne c k1 (by rw [<- k4]; exact hown) d l1
    refine ⟨by rw [l4]; exact this.1, ?_⟩
    rcases l5 with e | ⟨_, _, _, _, _, _, _, e, _⟩ | ⟨_, _, _, _, _, _, _, _, e, _⟩
    · rw [e]; exact this.2
    · rw [e]; rfl
    · rw [e]; exact this.2
 · intro i blk hblk
  have hblk : look me' i = some blk := hblk
  rcases hm i with ⟨_, e⟩ | ⟨c, c', k1, k2, k3, k4, k5⟩
  · rw [e] at hblk; simp at hblk
  · rw [k2] at hblk; cases hblk
   have hmo := h.m.mem i c k1
   obtain ⟨cells, elem, own⟩ := c
   obtain ⟨cells', elem', own'⟩ := blk
   simp only at k3 k4 k5
   subst k3 k4
   rcases k5 with e | ⟨ks, m, es, es', g, g', rfl, rfl, e⟩ | ⟨f1, f2, e1, e2, e3, e4, g1, g2, e5, e6⟩
   · subst e; exact hmo
   · obtain ⟨p, m1, m2⟩ : FamOk w0 R w i elem' own' ks m es g := hmo
    refine ⟨p, m1, ?_⟩
    cases hpa : p.a with
    | none => rw [hpa] at m2; exact m2
    | some b =>
     rw [hpa] at m2
     obtain ⟨cs, fz, n1, n2, n3⟩ := m2
     refine ⟨cs, fz, n1, fun j hj => ?_, n3.1, fun ho => ⟨(n3.2 ho).1, (n3.2 ho).2.1, (n3.2 ho).2.2.1, fun j hj v hv => by rw [<- (e j hj).2.1]; exact (n3.2 ho).2.2.2 j hj v hv⟩⟩
     obtain ⟨v, n5, n6⟩ := n2 j hj
     obtain ⟨d1, d2, d3⟩ := e j hj
     refine ⟨v, n5, ?_⟩
     rw [<- d1, <- d2]
     rcases n6 with n6 | ⟨b2, d, c, cs2, fz2, o1, o2, o3, o4, o5⟩
     · exact .inl n6
     · exact .inr ⟨b2, d, c, cs2, fz2, o1, o2, o3, o4, by rw [o5]; exact rowL_congr ks _ 0 (fun x _ hx => d3 x (by omega))⟩
   · have hco : ContOk w0 R w i ⟨cells, elem', own'⟩ := by
     unfold MemOk at hmo
     split at hmo
     · rename_i hc; exact absurd hc (e1 _ _ _)
     · rename_i hc; exact absurd hc (e2 _ _ _ _)
     · rename_i hc; exact absurd hc (f1 _ _ _ _)
     · rename_i hc; exact absurd hc (g1 _ _)
     · exact hmo
    unfold MemOk
    split
    · rename_i hc; exact absurd hc (e3 _ _ _)
    · rename_i hc; exact absurd hc (e4 _ _ _ _)
    · rename_i hc; exact absurd hc (f2 _ _ _ _)
    · rename_i hc; exact absurd hc (g2 _ _)
    · obtain ⟨p, m1, m2⟩ := hco
     refine ⟨p, m1, ?_⟩
     cases hpa : p.a with
     | none => rw [hpa] at m2; show cells'.list = []; rw [e5]; exact m2
     | some b =>
      rw [hpa] at m2
      obtain ⟨cs, fz, n1, n2, n3⟩ := m2
      refine ⟨cs, fz, n1, ?_, fun ho => ⟨(n3 ho).1, (n3 ho).2.1, e6 _ _ (n3 ho).2.2⟩⟩
      show LP R cells'.list _
      rw [e5]; exact n2
 · intro i p hp hvb
  have := h.m.dom i p hp hvb
  show (look me' i).isSome = true
  rcases hm i with ⟨e, _⟩ | ⟨c, c', k1, k2, _⟩
  · have this : (look me i).isSome = true := this
   rw [e] at this; simp at this
  · rw [k2]; rfl
def vok00 : Value -> Bool
 | .int _ _ => true
 | .bool _ => true
 | .pointer _ => true
 | .slice _ _ _ => true
 | .string _ => true
 | _ => false
def vokI : Value -> Bool
 | .agg xs => xs.toList.all vok00
 | v => vok00 v
def vok0 : Value -> Bool
 | .int _ _ => true
 | .bool _ => true
 | .pointer _ => true
 | .slice _ _ _ => true
 | .string _ => true
 | .iface _ x => vokI x
 | .nilIface => true
 | _ => false
def vok1 : Value -> Bool
 | .agg xs => xs.toList.all vok0
 | v => vok0 v
def vokC : Cells -> Bool
 | .lst l => l.all vok0
 | _ => true
def stOk (s : St) : Bool := s.slots.all (fun p => vok1 p.2) && s.mem.all (fun p => vokC p.2.cells)
theorem veq00_refl {a : Value} (h : vok00 a = true) : veq00 a a = true := by
 unfold vok00 at h
 split at h <;> simp_all [veq00]
theorem leq_refl {q : Value -> Value -> Bool} {p : Value -> Bool} (hq : ∀ a, p a = true -> q a a = true) : ∀ {l : List Value}, l.all p = true -> leq q l l = true
 | [], _ => rfl
 | a :: l, h => by
  simp only [List.all_cons, Bool.and_eq_true] at h
  simp only [leq, hq a h.1, leq_refl hq h.2, Bool.and_self]
theorem veqI_refl {a : Value} (h : vokI a = true) : veqI a a = true := by
 unfold vokI at h
 split at h
 · exact leq_refl (fun _ => veq00_refl) h
 · rename_i hne
  unfold veqI
  split
  · exact absurd rfl (hne _)
  · exact veq00_refl h
theorem veq0_refl {a : Value} (h : vok0 a = true) : veq0 a a = true := by
 unfold vok0 at h
 split at h
 case h_6 => simp only [veq0, Nat.beq_refl, veqI_refl h, Bool.and_self]
 all_goals simp_all [veq0]
theorem veq1_refl {a : Value} (h : vok1 a = true) : veq1 a a = true := by
 unfold vok1 at h
 split at h
 · exact leq_refl (fun _ => veq0_refl) h
 · rename_i hne
  unfold veq1
  split
  · exact absurd rfl (hne _)
  · exact veq0_refl h
theorem slotsEq_refl : ∀ {l : List (Nat × Value)}, l.all (fun p => vok1 p.2) = true -> slotsEq l l = true
 | [], _ => rfl
 | (a, x) :: l, h => by
  simp only [List.all_cons, Bool.and_eq_true] at h
  simp only [slotsEq, Nat.beq_refl, veq1_refl h.1, slotsEq_refl h.2, Bool.and_self]
theorem cellsEq_refl {i : Nat} {c : Cells} (h : vokC c = true) : cellsEq i c c = true := by
 cases c with
 | lst l => exact leq_refl (fun _ => veq0_refl) h
 | row ks n f =>
  have : rowEq ks n f f = true := @decide_eq_true _ (Classical.propDecidable _) (fun _ _ => rfl)
  simp only [cellsEq, ksEq_refl, Nat.beq_refl, this, Bool.and_self]
 | elt a k sz => simp only [cellsEq, Nat.beq_refl, Bool.and_self]
 | tail a l k sz => simp only [cellsEq, Nat.beq_refl, Bool.and_self]
 | fam ks n es g =>
  have : famEq ks n es es g g = true := @decide_eq_true _ (Classical.propDecidable _) (fun _ _ => ⟨rfl, rfl, fun _ _ => rfl⟩)
  simp only [cellsEq, ksEq_refl, Nat.beq_refl, this, Bool.and_self]
 | itr s p =>
  have : txtEq s s = true := @decide_eq_true _ (Classical.propDecidable _) rfl
  simp only [cellsEq, Nat.beq_refl, this, Bool.and_self]
theorem memEq_refl : ∀ {l : List (Nat × Blk)}, l.all (fun p => vokC p.2.cells) = true -> memEq l l = true
 | [], _ => rfl
 | (a, ⟨c, e, o⟩) :: l, h => by
  simp only [List.all_cons, Bool.and_eq_true] at h
  have h5 := cellsEq_refl (i := a) h.1
  simp only [memEq, Nat.beq_refl, h5, memEq_refl h.2, Bool.and_self, decide_true]
theorem stEq_refl {s : St} (h : stOk s = true) : stEq s s = true := by
 simp only [stOk, Bool.and_eq_true] at h
 simp only [stEq, slotsEq_refl h.1, memEq_refl h.2, Nat.beq_refl, Bool.and_self]
theorem cellsEq_rr {i : Nat} {ks : List CK} {n : Nat} {f g : Nat -> List Value} (h : ∀ j, j < n -> nrmK ks (f j) = nrmK ks (g j)) : cellsEq i (.row ks n f) (.row ks n g) = true := by
 have : rowEq ks n f g = true := @decide_eq_true _ (Classical.propDecidable _) h
 simp only [cellsEq, ksEq_refl, Nat.beq_refl, this, Bool.and_self]
theorem memEq_cons {a : Nat} {c c' : Cells} {e : TypeId} {o : Bool} {l m : List (Nat × Blk)} (h : cellsEq a c c' = true) (h2 : memEq l m = true) : memEq ((a, ⟨c, e, o⟩) :: l) ((a, ⟨c', e, o⟩) :: m) = true := by
 simp only [memEq, Nat.beq_refl, h, h2, Bool.and_self, decide_true]
theorem stEq_mk {sl : List (Nat × Value)} {m m' : List (Nat × Blk)} {nx : Nat} (h1 : sl.all (fun p => vok1 p.2) = true) (h2 : memEq m m' = true) : stEq ⟨sl, m, nx⟩ ⟨sl, m', nx⟩ = true := by
 simp only [stEq, slotsEq_refl h1, h2, Nat.beq_refl, Bool.and_self]
noncomputable def atSt (ts : List Nat) (is : Ren) (nx : Nat) (s0 : St) (e : Exit) (sf : St) (s : St) : List (Bool × Exit × St) :=
 oK (restS ts is nx s) (fun s1 => [(stEq s1 s0, e, sf)]) []
theorem atSt_ok {P : Program} [Laid P] {n : Nat} {body : Code} {ts : List Nat} {is : Ren} {nx : Nat} {s0 : St} {e : Exit} {sf : St}
  (h : ∀ (w0 : Wb (lay P)) (R : Nat -> Pl -> Prop) (a : Act) (w : World), Rel w0 n R s0.f a w -> (Code.loop body).wp P (fun e' a' w' => e' = e ∧ ∃ R', Rel w0 n R' sf.f a' w') a w) : LoopOk P n body (atSt ts is nx s0 e sf) := by
 intro w0 R s a w hrel e' s' hp
 unfold atSt at hp
 cases hr : restS ts is nx s with
 | none => rw [hr] at hp; simp [oK, pickL] at hp
 | some s1 =>
  rw [hr] at hp
  simp only [oK, pickL, cond_some] at hp
  obtain ⟨h1, h2⟩ := hp
  cases h2
  obtain ⟨R', hr'⟩ := Rel.rest hr hrel
  exact h w0 R' a w (hr'.eqv h1)
theorem oneL {P : Program} [Laid P] {n : Nat} {c : Code} {p : List Nat} {F : St -> List (Bool × Exit × St)} (h : LoopOk P n (loopAt p c) F) : ∀ q F', lookP [(p, F)] q = some F' -> LoopOk P n (loopAt q c) F' := by
 intro q F' hq
 simp only [lookP] at hq
 cases he : nlEq p q with
 | false => rw [he] at hq; simp at hq
 | true => rw [he] at hq; simp at hq; subst hq; rw [<- nlEq_iff he]; exact h
def ptr (b : Nat) : Value := .pointer (some ⟨b, 0, none⟩)
end Go.W

namespace Go.Proofs.Ytckbmhegopjnmaa
set_option maxRecDepth 100000
open Go.W
theorem tt2 : TOk Try.prog 2 ⟨.int .i64, 1, .int .i64 0, false, [], [.i .i64], 8⟩ := tok_eq (by kernel_rfl) (by kernel_rfl) (by kernel_rfl) (by kernel_rfl)
theorem tt3 : TOk Try.prog 3 ⟨.int .i64, 1, .int .i64 0, false, [], [.i .i64], 8⟩ := tok_eq (by kernel_rfl) (by kernel_rfl) (by kernel_rfl) (by kernel_rfl)
theorem tt4 : TOk Try.prog 4 ⟨.bool, 1, .bool false, false, [], [.b], 1⟩ := tok_eq (by kernel_rfl) (by kernel_rfl) (by kernel_rfl) (by kernel_rfl)
theorem tt5 : TOk Try.prog 5 ⟨.int .u8, 1, .int .u8 0, false, [], [.i .u8], 1⟩ := tok_eq (by kernel_rfl) (by kernel_rfl) (by kernel_rfl) (by kernel_rfl)
theorem tt9 : TOk Try.prog 9 ⟨.string, 1, .string ⟨#[]⟩, false, [], [.s], 16⟩ := tok_eq (by kernel_rfl) (by kernel_rfl) (by kernel_rfl) (by kernel_rfl)
theorem tt12 : TOk Try.prog 12 ⟨.int .u64, 1, .int .u64 0, false, [], [.i .u64], 8⟩ := tok_eq (by kernel_rfl) (by kernel_rfl) (by kernel_rfl) (by kernel_rfl)
theorem tt20 : TOk Try.prog 20 ⟨.interface #[], 1, .nilIface, false, [], [], 16⟩ := tok_plain (by kernel_rfl) (by kernel_rfl)
theorem tt21 : TOk Try.prog 21 ⟨.int .i32, 1, .int .i32 0, false, [], [.i .i32], 4⟩ := tok_eq (by kernel_rfl) (by kernel_rfl) (by kernel_rfl) (by kernel_rfl)
theorem tt22 : TOk Try.prog 22 ⟨.int .u64, 1, .int .u64 0, false, [], [.i .u64], 8⟩ := tok_eq (by kernel_rfl) (by kernel_rfl) (by kernel_rfl) (by kernel_rfl)
theorem tt23 : TOk Try.prog 23 ⟨.array 4 22, 4, .agg #[.int .u64 0, .int .u64 0, .int .u64 0, .int .u64 0], false, [], [.i .u64, .i .u64, .i .u64, .i .u64], 32⟩ := tok_eq (by kernel_rfl) (by kernel_rfl) (by kernel_rfl) (by kernel_rfl)
theorem tt24 : TOk Try.prog 24 ⟨.array 4 22, 4, .agg #[.int .u64 0, .int .u64 0, .int .u64 0, .int .u64 0], false, [], [.i .u64, .i .u64, .i .u64, .i .u64], 32⟩ := tok_eq (by kernel_rfl) (by kernel_rfl) (by kernel_rfl) (by kernel_rfl)
theorem tt25 : TOk Try.prog 25 ⟨.bool, 9, .agg #[.bool false, .int .u64 0, .int .u64 0, .int .u64 0, .int .u64 0, .int .u64 0, .int .u64 0, .int .u64 0, .int .u64 0], true, [(0, 4), (1, 24), (5, 24)], [.b, .i .u64, .i .u64, .i .u64, .i .u64, .i .u64, .i .u64, .i .u64, .i .u64], 72⟩ := tok_structE (by kernel_rfl) (by kernel_rfl) (by kernel_rfl) (by kernel_rfl)
theorem tt26 : TOk Try.prog 26 ⟨.bool, 9, .agg #[.bool false, .int .u64 0, .int .u64 0, .int .u64 0, .int .u64 0, .int .u64 0, .int .u64 0, .int .u64 0, .int .u64 0], true, [(0, 4), (1, 24), (5, 24)], [.b, .i .u64, .i .u64, .i .u64, .i .u64, .i .u64, .i .u64, .i .u64, .i .u64], 72⟩ := tok_structE (by kernel_rfl) (by kernel_rfl) (by kernel_rfl) (by kernel_rfl)
theorem tt27 : TOk Try.prog 27 ⟨.slice 94, 1, .slice none 0 0, false, [], [], 24⟩ := tok_plain (by kernel_rfl) (by kernel_rfl)
theorem tt28 : TOk Try.prog 28 ⟨.slice 26, 1, .slice none 0 0, false, [], [], 24⟩ := tok_plain (by kernel_rfl) (by kernel_rfl)
theorem tt29 : TOk Try.prog 29 ⟨.bool, 8, .agg #[.int .u64 0, .int .u64 0, .int .u64 0, .int .u64 0, .int .u64 0, .int .u64 0, .int .u64 0, .int .u64 0], true, [(0, 24), (4, 24)], [.i .u64, .i .u64, .i .u64, .i .u64, .i .u64, .i .u64, .i .u64, .i .u64], 64⟩ := tok_structE (by kernel_rfl) (by kernel_rfl) (by kernel_rfl) (by kernel_rfl)
theorem tt30 : TOk Try.prog 30 ⟨.bool, 8, .agg #[.int .u64 0, .int .u64 0, .int .u64 0, .int .u64 0, .int .u64 0, .int .u64 0, .int .u64 0, .int .u64 0], true, [(0, 24), (4, 24)], [.i .u64, .i .u64, .i .u64, .i .u64, .i .u64, .i .u64, .i .u64, .i .u64], 64⟩ := tok_structE (by kernel_rfl) (by kernel_rfl) (by kernel_rfl) (by kernel_rfl)
theorem tt31 : TOk Try.prog 31 ⟨.bool, 22, .agg #[.int .i64 0, .bool false, .int .u64 0, .int .u64 0, .int .u64 0, .int .u64 0, .int .u64 0, .int .u64 0, .int .u64 0, .int .u64 0, .string ⟨#[]⟩, .slice none 0 0, .slice none 0 0, .int .i64 0, .int .u64 0, .int .u64 0, .int .u64 0, .int .u64 0, .int .u64 0, .int .u64 0, .int .u64 0, .int .u64 0], true, [(0, 3), (1, 26), (10, 9), (11, 27), (12, 28), (13, 3), (14, 30)], [], 216⟩ := tok_struct (by kernel_rfl) (by kernel_rfl)
theorem tt32 : TOk Try.prog 32 ⟨.bool, 22, .agg #[.int .i64 0, .bool false, .int .u64 0, .int .u64 0, .int .u64 0, .int .u64 0, .int .u64 0, .int .u64 0, .int .u64 0, .int .u64 0, .string ⟨#[]⟩, .slice none 0 0, .slice none 0 0, .int .i64 0, .int .u64 0, .int .u64 0, .int .u64 0, .int .u64 0, .int .u64 0, .int .u64 0, .int .u64 0, .int .u64 0], true, [(0, 3), (1, 26), (10, 9), (11, 27), (12, 28), (13, 3), (14, 30)], [], 216⟩ := tok_struct (by kernel_rfl) (by kernel_rfl)
theorem tt34 : TOk Try.prog 34 ⟨.slice 5, 1, .slice none 0 0, false, [], [], 24⟩ := tok_plain (by kernel_rfl) (by kernel_rfl)
theorem tt35 : TOk Try.prog 35 ⟨.int .i64, 1, .int .i64 0, false, [], [.i .i64], 8⟩ := tok_eq (by kernel_rfl) (by kernel_rfl) (by kernel_rfl) (by kernel_rfl)
theorem tt42 : TOk Try.prog 42 ⟨.int .u64, 1, .int .u64 0, false, [], [.i .u64], 8⟩ := tok_eq (by kernel_rfl) (by kernel_rfl) (by kernel_rfl) (by kernel_rfl)
theorem tt53 : TOk Try.prog 53 ⟨.bool, 3, .agg #[.slice none 0 0, .int .i64 0, .bool false], true, [(0, 34), (1, 3), (2, 4)], [], 40⟩ := tok_struct (by kernel_rfl) (by kernel_rfl)
theorem tt54 : TOk Try.prog 54 ⟨.bool, 3, .agg #[.slice none 0 0, .int .i64 0, .bool false], true, [(0, 34), (1, 3), (2, 4)], [], 40⟩ := tok_struct (by kernel_rfl) (by kernel_rfl)
theorem tt66 : TOk Try.prog 66 ⟨.bool, 10, .agg #[.bool false, .int .u64 0, .int .u64 0, .int .u64 0, .int .u64 0, .int .u64 0, .int .u64 0, .int .u64 0, .int .u64 0, .string ⟨#[]⟩], true, [(0, 26), (9, 9)], [.b, .i .u64, .i .u64, .i .u64, .i .u64, .i .u64, .i .u64, .i .u64, .i .u64, .s], 88⟩ := tok_structE (by kernel_rfl) (by kernel_rfl) (by kernel_rfl) (by kernel_rfl)
theorem tt67 : TOk Try.prog 67 ⟨.bool, 10, .agg #[.bool false, .int .u64 0, .int .u64 0, .int .u64 0, .int .u64 0, .int .u64 0, .int .u64 0, .int .u64 0, .int .u64 0, .string ⟨#[]⟩], true, [(0, 26), (9, 9)], [.b, .i .u64, .i .u64, .i .u64, .i .u64, .i .u64, .i .u64, .i .u64, .i .u64, .s], 88⟩ := tok_structE (by kernel_rfl) (by kernel_rfl) (by kernel_rfl) (by kernel_rfl)
theorem tt69 : TOk Try.prog 69 ⟨.bool, 2, .agg #[.slice none 0 0, .slice none 0 0], true, [(0, 27), (1, 28)], [], 48⟩ := tok_struct (by kernel_rfl) (by kernel_rfl)
theorem tt70 : TOk Try.prog 70 ⟨.bool, 2, .agg #[.slice none 0 0, .slice none 0 0], true, [(0, 27), (1, 28)], [], 48⟩ := tok_struct (by kernel_rfl) (by kernel_rfl)
theorem tt71 : TOk Try.prog 71 ⟨.bool, 17, .agg #[.bool false, .int .u64 0, .int .u64 0, .int .u64 0, .int .u64 0, .int .u64 0, .int .u64 0, .int .u64 0, .int .u64 0, .int .u64 0, .int .u64 0, .int .u64 0, .int .u64 0, .int .u64 0, .int .u64 0, .int .u64 0, .int .u64 0], true, [(0, 26), (9, 30)], [.b, .i .u64, .i .u64, .i .u64, .i .u64, .i .u64, .i .u64, .i .u64, .i .u64, .i .u64, .i .u64, .i .u64, .i .u64, .i .u64, .i .u64, .i .u64, .i .u64], 136⟩ := tok_structE (by kernel_rfl) (by kernel_rfl) (by kernel_rfl) (by kernel_rfl)
theorem tt72 : TOk Try.prog 72 ⟨.bool, 17, .agg #[.bool false, .int .u64 0, .int .u64 0, .int .u64 0, .int .u64 0, .int .u64 0, .int .u64 0, .int .u64 0, .int .u64 0, .int .u64 0, .int .u64 0, .int .u64 0, .int .u64 0, .int .u64 0, .int .u64 0, .int .u64 0, .int .u64 0], true, [(0, 26), (9, 30)], [.b, .i .u64, .i .u64, .i .u64, .i .u64, .i .u64, .i .u64, .i .u64, .i .u64, .i .u64, .i .u64, .i .u64, .i .u64, .i .u64, .i .u64, .i .u64, .i .u64], 136⟩ := tok_structE (by kernel_rfl) (by kernel_rfl) (by kernel_rfl) (by kernel_rfl)
theorem tt73 : TOk Try.prog 73 ⟨.bool, 18, .agg #[.int .i64 0, .bool false, .int .u64 0, .int .u64 0, .int .u64 0, .int .u64 0, .int .u64 0, .int .u64 0, .int .u64 0, .int .u64 0, .int .u64 0, .int .u64 0, .int .u64 0, .int .u64 0, .int .u64 0, .int .u64 0, .int .u64 0, .int .u64 0], true, [(0, 3), (1, 72)], [.i .i64, .b, .i .u64, .i .u64, .i .u64, .i .u64, .i .u64, .i .u64, .i .u64, .i .u64, .i .u64, .i .u64, .i .u64, .i .u64, .i .u64, .i .u64, .i .u64, .i .u64], 144⟩ := tok_structE (by kernel_rfl) (by kernel_rfl) (by kernel_rfl) (by kernel_rfl)
theorem tt74 : TOk Try.prog 74 ⟨.bool, 18, .agg #[.int .i64 0, .bool false, .int .u64 0, .int .u64 0, .int .u64 0, .int .u64 0, .int .u64 0, .int .u64 0, .int .u64 0, .int .u64 0, .int .u64 0, .int .u64 0, .int .u64 0, .int .u64 0, .int .u64 0, .int .u64 0, .int .u64 0, .int .u64 0], true, [(0, 3), (1, 72)], [.i .i64, .b, .i .u64, .i .u64, .i .u64, .i .u64, .i .u64, .i .u64, .i .u64, .i .u64, .i .u64, .i .u64, .i .u64, .i .u64, .i .u64, .i .u64, .i .u64, .i .u64], 144⟩ := tok_structE (by kernel_rfl) (by kernel_rfl) (by kernel_rfl) (by kernel_rfl)
theorem tt76 : TOk Try.prog 76 ⟨.bool, 17, .agg #[.bool false, .int .u64 0, .int .u64 0, .int .u64 0, .int .u64 0, .int .u64 0, .int .u64 0, .int .u64 0, .int .u64 0, .int .u64 0, .int .u64 0, .int .u64 0, .int .u64 0, .int .u64 0, .int .u64 0, .int .u64 0, .int .u64 0], true, [(0, 72)], [.b, .i .u64, .i .u64, .i .u64, .i .u64, .i .u64, .i .u64, .i .u64, .i .u64, .i .u64, .i .u64, .i .u64, .i .u64, .i .u64, .i .u64, .i .u64, .i .u64], 136⟩ := tok_structE (by kernel_rfl) (by kernel_rfl) (by kernel_rfl) (by kernel_rfl)
theorem tt77 : TOk Try.prog 77 ⟨.bool, 17, .agg #[.bool false, .int .u64 0, .int .u64 0, .int .u64 0, .int .u64 0, .int .u64 0, .int .u64 0, .int .u64 0, .int .u64 0, .int .u64 0, .int .u64 0, .int .u64 0, .int .u64 0, .int .u64 0, .int .u64 0, .int .u64 0, .int .u64 0], true, [(0, 72)], [.b, .i .u64, .i .u64, .i .u64, .i .u64, .i .u64, .i .u64, .i .u64, .i .u64, .i .u64, .i .u64, .i .u64, .i .u64, .i .u64, .i .u64, .i .u64, .i .u64], 136⟩ := tok_structE (by kernel_rfl) (by kernel_rfl) (by kernel_rfl) (by kernel_rfl)
theorem tt78 : TOk Try.prog 78 ⟨.bool, 0, .agg #[], true, [], [], 0⟩ := tok_struct (by kernel_rfl) (by kernel_rfl)
theorem tt79 : TOk Try.prog 79 ⟨.bool, 0, .agg #[], true, [], [], 0⟩ := tok_struct (by kernel_rfl) (by kernel_rfl)
theorem tt94 : TOk Try.prog 94 ⟨.array 32 5, 32, .agg #[.int .u8 0, .int .u8 0, .int .u8 0, .int .u8 0, .int .u8 0, .int .u8 0, .int .u8 0, .int .u8 0, .int .u8 0, .int .u8 0, .int .u8 0, .int .u8 0, .int .u8 0, .int .u8 0, .int .u8 0, .int .u8 0, .int .u8 0, .int .u8 0, .int .u8 0, .int .u8 0, .int .u8 0, .int .u8 0, .int .u8 0, .int .u8 0, .int .u8 0, .int .u8 0, .int .u8 0, .int .u8 0, .int .u8 0, .int .u8 0, .int .u8 0, .int .u8 0], false, [], [.i .u8, .i .u8, .i .u8, .i .u8, .i .u8, .i .u8, .i .u8, .i .u8, .i .u8, .i .u8, .i .u8, .i .u8, .i .u8, .i .u8, .i .u8, .i .u8, .i .u8, .i .u8, .i .u8, .i .u8, .i .u8, .i .u8, .i .u8, .i .u8, .i .u8, .i .u8, .i .u8, .i .u8, .i .u8, .i .u8, .i .u8, .i .u8], 32⟩ := tok_eq (by kernel_rfl) (by kernel_rfl) (by kernel_rfl) (by kernel_rfl)
theorem tt95 : TOk Try.prog 95 ⟨.bool, 12, .agg #[.int .u64 0, .int .u64 0, .int .u64 0, .int .u64 0, .int .u64 0, .int .u64 0, .int .u64 0, .int .u64 0, .int .u64 0, .int .u64 0, .int .u64 0, .int .u64 0], true, [(0, 24), (4, 24), (8, 24)], [.i .u64, .i .u64, .i .u64, .i .u64, .i .u64, .i .u64, .i .u64, .i .u64, .i .u64, .i .u64, .i .u64, .i .u64], 96⟩ := tok_structE (by kernel_rfl) (by kernel_rfl) (by kernel_rfl) (by kernel_rfl)
theorem tt96 : TOk Try.prog 96 ⟨.bool, 12, .agg #[.int .u64 0, .int .u64 0, .int .u64 0, .int .u64 0, .int .u64 0, .int .u64 0, .int .u64 0, .int .u64 0, .int .u64 0, .int .u64 0, .int .u64 0, .int .u64 0], true, [(0, 24), (4, 24), (8, 24)], [.i .u64, .i .u64, .i .u64, .i .u64, .i .u64, .i .u64, .i .u64, .i .u64, .i .u64, .i .u64, .i .u64, .i .u64], 96⟩ := tok_structE (by kernel_rfl) (by kernel_rfl) (by kernel_rfl) (by kernel_rfl)
theorem tt112 : TOk Try.prog 112 ⟨.slice 21, 1, .slice none 0 0, false, [], [], 24⟩ := tok_plain (by kernel_rfl) (by kernel_rfl)
theorem tt152 : TOk Try.prog 152 ⟨.int .u32, 1, .int .u32 0, false, [], [.i .u32], 4⟩ := tok_eq (by kernel_rfl) (by kernel_rfl) (by kernel_rfl) (by kernel_rfl)
def tab : Tab := [(2, ⟨.int .i64, 1, .int .i64 0, false, [], [.i .i64], 8⟩),
 (3, ⟨.int .i64, 1, .int .i64 0, false, [], [.i .i64], 8⟩),
 (4, ⟨.bool, 1, .bool false, false, [], [.b], 1⟩),
 (5, ⟨.int .u8, 1, .int .u8 0, false, [], [.i .u8], 1⟩),
 (9, ⟨.string, 1, .string ⟨#[]⟩, false, [], [.s], 16⟩),
 (12, ⟨.int .u64, 1, .int .u64 0, false, [], [.i .u64], 8⟩),
 (20, ⟨.interface #[], 1, .nilIface, false, [], [], 16⟩),
 (21, ⟨.int .i32, 1, .int .i32 0, false, [], [.i .i32], 4⟩),
 (22, ⟨.int .u64, 1, .int .u64 0, false, [], [.i .u64], 8⟩),
 (23, ⟨.array 4 22, 4, .agg #[.int .u64 0, .int .u64 0, .int .u64 0, .int .u64 0], false, [], [.i .u64, .i .u64, .i .u64, .i .u64], 32⟩),
 (24, ⟨.array 4 22, 4, .agg #[.int .u64 0, .int .u64 0, .int .u64 0, .int .u64 0], false, [], [.i .u64, .i .u64, .i .u64, .i .u64], 32⟩),
 (25, ⟨.bool, 9, .agg #[.bool false, .int .u64 0, .int .u64 0, .int .u64 0, .int .u64 0, .int .u64 0, .int .u64 0, .int .u64 0, .int .u64 0], true, [(0, 4), (1, 24), (5, 24)], [.b, .i .u64, .i .u64, .i .u64, .i .u64, .i .u64, .i .u64, .i .u64, .i .u64], 72⟩),
 (26, ⟨.bool, 9, .agg #[.bool false, .int .u64 0, .int .u64 0, .int .u64 0, .int .u64 0, .int .u64 0, .int .u64 0, .int .u64 0, .int .u64 0], true, [(0, 4), (1, 24), (5, 24)], [.b, .i .u64, .i .u64, .i .u64, .i .u64, .i .u64, .i .u64, .i .u64, .i .u64], 72⟩),
 (27, ⟨.slice 94, 1, .slice none 0 0, false, [], [], 24⟩),
 (28, ⟨.slice 26, 1, .slice none 0 0, false, [], [], 24⟩),
 (29, ⟨.bool, 8, .agg #[.int .u64 0, .int .u64 0, .int .u64 0, .int .u64 0, .int .u64 0, .int .u64 0, .int .u64 0, .int .u64 0], true, [(0, 24), (4, 24)], [.i .u64, .i .u64, .i .u64, .i .u64, .i .u64, .i .u64, .i .u64, .i .u64], 64⟩),
 (30, ⟨.bool, 8, .agg #[.int .u64 0, .int .u64 0, .int .u64 0, .int .u64 0, .int .u64 0, .int .u64 0, .int .u64 0, .int .u64 0], true, [(0, 24), (4, 24)], [.i .u64, .i .u64, .i .u64, .i .u64, .i .u64, .i .u64, .i .u64, .i .u64], 64⟩),
 (31, ⟨.bool, 22, .agg #[.int .i64 0, .bool false, .int .u64 0, .int .u64 0, .int .u64 0, .int .u64 0, .int .u64 0, .int .u64 0, .int .u64 0, .int .u64 0, .string ⟨#[]⟩, .slice none 0 0, .slice none 0 0, .int .i64 0, .int .u64 0, .int .u64 0, .int .u64 0, .int .u64 0, .int .u64 0, .int .u64 0, .int .u64 0, .int .u64 0], true, [(0, 3), (1, 26), (10, 9), (11, 27), (12, 28), (13, 3), (14, 30)], [], 216⟩),
 (32, ⟨.bool, 22, .agg #[.int .i64 0, .bool false, .int .u64 0, .int .u64 0, .int .u64 0, .int .u64 0, .int .u64 0, .int .u64 0, .int .u64 0, .int .u64 0, .string ⟨#[]⟩, .slice none 0 0, .slice none 0 0, .int .i64 0, .int .u64 0, .int .u64 0, .int .u64 0, .int .u64 0, .int .u64 0, .int .u64 0, .int .u64 0, .int .u64 0], true, [(0, 3), (1, 26), (10, 9), (11, 27), (12, 28), (13, 3), (14, 30)], [], 216⟩),
 (34, ⟨.slice 5, 1, .slice none 0 0, false, [], [], 24⟩),
 (35, ⟨.int .i64, 1, .int .i64 0, false, [], [.i .i64], 8⟩),
 (42, ⟨.int .u64, 1, .int .u64 0, false, [], [.i .u64], 8⟩),
 (53, ⟨.bool, 3, .agg #[.slice none 0 0, .int .i64 0, .bool false], true, [(0, 34), (1, 3), (2, 4)], [], 40⟩),
 (54, ⟨.bool, 3, .agg #[.slice none 0 0, .int .i64 0, .bool false], true, [(0, 34), (1, 3), (2, 4)], [], 40⟩),
 (66, ⟨.bool, 10, .agg #[.bool false, .int .u64 0, .int .u64 0, .int .u64 0, .int .u64 0, .int .u64 0, .int .u64 0, .int .u64 0, .int .u64 0, .string ⟨#[]⟩], true, [(0, 26), (9, 9)], [.b, .i .u64, .i .u64, .i .u64, .i .u64, .i .u64, .i .u64, .i .u64, .i .u64, .s], 88⟩),
 (67, ⟨.bool, 10, .agg #[.bool false, .int .u64 0, .int .u64 0, .int .u64 0, .int .u64 0, .int .u64 0, .int .u64 0, .int .u64 0, .int .u64 0, .string ⟨#[]⟩], true, [(0, 26), (9, 9)], [.b, .i .u64, .i .u64, .i .u64, .i .u64, .i .u64, .i .u64, .i .u64, .i .u64, .s], 88⟩),
 (69, ⟨.bool, 2, .agg #[.slice none 0 0, .slice none 0 0], true, [(0, 27), (1, 28)], [], 48⟩),
 (70, ⟨.bool, 2, .agg #[.slice none 0 0, .slice none 0 0], true, [(0, 27), (1, 28)], [], 48⟩),
 (71, ⟨.bool, 17, .agg #[.bool false, .int .u64 0, .int .u64 0, .int .u64 0, .int .u64 0, .int .u64 0, .int .u64 0, .int .u64 0, .int .u64 0, .int .u64 0, .int .u64 0, .int .u64 0, .int .u64 0, .int .u64 0, .int .u64 0, .int .u64 0, .int .u64 0], true, [(0, 26), (9, 30)], [.b, .i .u64, .i .u64, .i .u64, .i .u64, .i .u64, .i .u64, .i .u64, .i .u64, .i .u64, .i .u64, .i .u64, .i .u64, .i .u64, .i .u64, .i .u64, .i .u64], 136⟩),
 (72, ⟨.bool, 17, .agg #[.bool false, .int .u64 0, .int .u64 0, .int .u64 0, .int .u64 0, .int .u64 0, .int .u64 0, .int .u64 0, .int .u64 0, .int .u64 0, .int .u64 0, .int .u64 0, .int .u64 0, .int .u64 0, .int .u64 0, .int .u64 0, .int .u64 0], true, [(0, 26), (9, 30)], [.b, .i .u64, .i .u64, .i .u64, .i .u64, .i .u64, .i .u64, .i .u64, .i .u64, .i .u64, .i .u64, .i .u64, .i .u64, .i .u64, .i .u64, .i .u64, .i .u64], 136⟩),
 (73, ⟨.bool, 18, .agg #[.int .i64 0, .bool false, .int .u64 0, .int .u64 0, .int .u64 0, .int .u64 0, .int .u64 0, .int .u64 0, .int .u64 0, .int .u64 0, .int .u64 0, .int .u64 0, .int .u64 0, .int .u64 0, .int .u64 0, .int .u64 0, .int .u64 0, .int .u64 0], true, [(0, 3), (1, 72)], [.i .i64, .b, .i .u64, .i .u64, .i .u64, .i .u64, .i .u64, .i .u64, .i .u64, .i .u64, .i .u64, .i .u64, .i .u64, .i .u64, .i .u64, .i .u64, .i .u64, .i .u64], 144⟩),
 (74, ⟨.bool, 18, .agg #[.int .i64 0, .bool false, .int .u64 0, .int .u64 0, .int .u64 0, .int .u64 0, .int .u64 0, .int .u64 0, .int .u64 0, .int .u64 0, .int .u64 0, .int .u64 0, .int .u64 0, .int .u64 0, .int .u64 0, .int .u64 0, .int .u64 0, .int .u64 0], true, [(0, 3), (1, 72)], [.i .i64, .b, .i .u64, .i .u64, .i .u64, .i .u64, .i .u64, .i .u64, .i .u64, .i .u64, .i .u64, .i .u64, .i .u64, .i .u64, .i .u64, .i .u64, .i .u64, .i .u64], 144⟩),
 (76, ⟨.bool, 17, .agg #[.bool false, .int .u64 0, .int .u64 0, .int .u64 0, .int .u64 0, .int .u64 0, .int .u64 0, .int .u64 0, .int .u64 0, .int .u64 0, .int .u64 0, .int .u64 0, .int .u64 0, .int .u64 0, .int .u64 0, .int .u64 0, .int .u64 0], true, [(0, 72)], [.b, .i .u64, .i .u64, .i .u64, .i .u64, .i .u64, .i .u64, .i .u64, .i .u64, .i .u64, .i .u64, .i .u64, .i .u64, .i .u64, .i .u64, .i .u64, .i .u64], 136⟩),
 (77, ⟨.bool, 17, .agg #[.bool false, .int .u64 0, .int .u64 0, .int .u64 0, .int .u64 0, .int .u64 0, .int .u64 0, .int .u64 0, .int .u64 0, .int .u64 0, .int .u64 0, .int .u64 0, .int .u64 0, .int .u64 0, .int .u64 0, .int .u64 0, .int .u64 0], true, [(0, 72)], [.b, .i .u64, .i .u64, .i .u64, .i .u64, .i .u64, .i .u64, .i .u64, .i .u64, .i .u64, .i .u64, .i .u64, .i .u64, .i .u64, .i .u64, .i .u64, .i .u64], 136⟩),
 (78, ⟨.bool, 0, .agg #[], true, [], [], 0⟩),
 (79, ⟨.bool, 0, .agg #[], true, [], [], 0⟩),
 (94, ⟨.array 32 5, 32, .agg #[.int .u8 0, .int .u8 0, .int .u8 0, .int .u8 0, .int .u8 0, .int .u8 0, .int .u8 0, .int .u8 0, .int .u8 0, .int .u8 0, .int .u8 0, .int .u8 0, .int .u8 0, .int .u8 0, .int .u8 0, .int .u8 0, .int .u8 0, .int .u8 0, .int .u8 0, .int .u8 0, .int .u8 0, .int .u8 0, .int .u8 0, .int .u8 0, .int .u8 0, .int .u8 0, .int .u8 0, .int .u8 0, .int .u8 0, .int .u8 0, .int .u8 0, .int .u8 0], false, [], [.i .u8, .i .u8, .i .u8, .i .u8, .i .u8, .i .u8, .i .u8, .i .u8, .i .u8, .i .u8, .i .u8, .i .u8, .i .u8, .i .u8, .i .u8, .i .u8, .i .u8, .i .u8, .i .u8, .i .u8, .i .u8, .i .u8, .i .u8, .i .u8, .i .u8, .i .u8, .i .u8, .i .u8, .i .u8, .i .u8, .i .u8, .i .u8], 32⟩),
 (95, ⟨.bool, 12, .agg #[.int .u64 0, .int .u64 0, .int .u64 0, .int .u64 0, .int .u64 0, .int .u64 0, .int .u64 0, .int .u64 0, .int .u64 0, .int .u64 0, .int .u64 0, .int .u64 0], true, [(0, 24), (4, 24), (8, 24)], [.i .u64, .i .u64, .i .u64, .i .u64, .i .u64, .i .u64, .i .u64, .i .u64, .i .u64, .i .u64, .i .u64, .i .u64], 96⟩),
 (96, ⟨.bool, 12, .agg #[.int .u64 0, .int .u64 0, .int .u64 0, .int .u64 0, .int .u64 0, .int .u64 0, .int .u64 0, .int .u64 0, .int .u64 0, .int .u64 0, .int .u64 0, .int .u64 0], true, [(0, 24), (4, 24), (8, 24)], [.i .u64, .i .u64, .i .u64, .i .u64, .i .u64, .i .u64, .i .u64, .i .u64, .i .u64, .i .u64, .i .u64, .i .u64], 96⟩),
 (112, ⟨.slice 21, 1, .slice none 0 0, false, [], [], 24⟩),
 (152, ⟨.int .u32, 1, .int .u32 0, false, [], [.i .u32], 4⟩)]
theorem tabOk : TabOk Try.prog tab := (tab_cons tt2 (tab_cons tt3 (tab_cons tt4 (tab_cons tt5 (tab_cons tt9 (tab_cons tt12 (tab_cons tt20 (tab_cons tt21 (tab_cons tt22 (tab_cons tt23 (tab_cons tt24 (tab_cons tt25 (tab_cons tt26 (tab_cons tt27 (tab_cons tt28 (tab_cons tt29 (tab_cons tt30 (tab_cons tt31 (tab_cons tt32 (tab_cons tt34 (tab_cons tt35 (tab_cons tt42 (tab_cons tt53 (tab_cons tt54 (tab_cons tt66 (tab_cons tt67 (tab_cons tt69 (tab_cons tt70 (tab_cons tt71 (tab_cons tt72 (tab_cons tt73 (tab_cons tt74 (tab_cons tt76 (tab_cons tt77 (tab_cons tt78 (tab_cons tt79 (tab_cons tt94 (tab_cons tt95 (tab_cons tt96 (tab_cons tt112 (tab_cons tt152 tab_nil)))))))))))))))))))))))))))))))))))))))))
instance laidRows : Laid Try.prog := ⟨[]⟩
theorem mixed : Try.prog.follows .mixedOrders = true := by kernel_rfl
def bodyOf (f : Func) : Code :=
 match f.body with
 | some c => c
 | none => .skip
theorem noL {P : Program} [Laid P] {n : Nat} {c : Code} : ∀ p F, lookP ([] : List (List Nat × (St -> List (Bool × Exit × St)))) p = some F -> LoopOk P n (loopAt p c) F := by
 intro p F h; simp [lookP] at h
theorem noneL2 {C : Code} {n : Nat} {p : List Nat} : ∀ q F, lookP [(p, fun _ : St => ([] : List (Bool × Exit × St)))] q = some F -> LoopOk Try.prog n (loopAt q C) F := by
 refine oneL ?_
 intro w0 R s a w hrel e' s' hp
 simp [pickL] at hp
end Go.Proofs.Ytckbmhegopjnmaa

namespace Go.W
def dig : Nat -> Nat -> Nat
 | X, 0 => X % 18446744073709551616
 | X, i + 1 => dig (X / 18446744073709551616) i
def u64 (x : Nat) : Value := .int .u64 (x : Int)
def i64 (x : Int) : Value := .int .i64 x
def numd (a b c d : Nat) : Value := .agg #[u64 a, u64 b, u64 c, u64 d]
def num (X : Nat) : Value := numd (dig X 0) (dig X 1) (dig X 2) (dig X 3)
def hor (a b c d : Nat) : Nat := a + 18446744073709551616 * (b + 18446744073709551616 * (c + 18446744073709551616 * d))
def intN : Value -> Nat
 | .int _ x => x.toNat
 | _ => 0
def limbs : List Value -> Nat
 | [] => 0
 | v :: r => intN v + 18446744073709551616 * limbs r
def unnum (v : Value) : Nat := limbs v.cells.toList
def isU64 : Value -> Bool
 | .int .u64 x => decide (0 <= x) && Nat.ble x.toNat 18446744073709551615
 | _ => false
def isNums (n : Nat) (v : Value) : Bool := aggK v (fun l => Nat.beq l.length n && l.all isU64) false
def isNum (v : Value) : Bool := isNums 4 v
theorem dig_lt (X i : Nat) : dig X i < 18446744073709551616 := by
 induction i generalizing X with
 | zero => exact Nat.mod_lt _ (by decide)
 | succ i ih => exact ih _
theorem dig_cons {a q : Nat} (h : a < 18446744073709551616) : dig (a + 18446744073709551616 * q) 0 = a ∧ ∀ i, dig (a + 18446744073709551616 * q) (i + 1) = dig q i := by
 constructor
 · show (a + 18446744073709551616 * q) % _ = a
  omega
 · intro i
  show dig ((a + 18446744073709551616 * q) / _) i = _
  rw [show (a + 18446744073709551616 * q) / 18446744073709551616 = q from by omega]
theorem num_hor {a b c d : Nat} (ha : a < 18446744073709551616) (hb : b < 18446744073709551616) (hc : c < 18446744073709551616) (hd : d < 18446744073709551616) (e : Nat) :
  num (hor a b c (d + 18446744073709551616 * e)) = numd a b c d := by
 unfold num hor
 rw [(dig_cons ha).1, (dig_cons ha).2, (dig_cons ha).2, (dig_cons ha).2, (dig_cons hb).1, (dig_cons hb).2, (dig_cons hb).2, (dig_cons hc).1, (dig_cons hc).2, (dig_cons hd).1]
theorem hor_dig {X : Nat} (h : X < 2 ^ 256) : X = hor (dig X 0) (dig X 1) (dig X 2) (dig X 3) := by
 unfold hor dig dig dig dig
 omega
theorem hor_lt {a b c d : Nat} (ha : a < 18446744073709551616) (hb : b < 18446744073709551616) (hc : c < 18446744073709551616) (hd : d < 18446744073709551616) : hor a b c d < 2 ^ 256 := by
 unfold hor; omega
theorem digits {X : Nat} (h : X < 2 ^ 256) : ∃ a b c d, a < 18446744073709551616 ∧ b < 18446744073709551616 ∧ c < 18446744073709551616 ∧ d < 18446744073709551616 ∧ X = hor a b c d ∧ num X = numd a b c d :=
 ⟨_, _, _, _, dig_lt X 0, dig_lt X 1, dig_lt X 2, dig_lt X 3, hor_dig h, rfl⟩
theorem unnum_numd (a b c d : Nat) : unnum (numd a b c d) = hor a b c d := rfl
theorem num_mod (X : Nat) : num (X % 2 ^ 256) = num X := by
 unfold num
 congr 1 <;> unfold dig <;> (try unfold dig) <;> (try unfold dig) <;> (try unfold dig) <;> omega
theorem num_add_mul (X e : Nat) : num (X + 2 ^ 256 * e) = num X := by
 rw [<- num_mod, Nat.add_mul_mod_self_left, num_mod]
theorem unnum_num (X : Nat) : unnum (num X) = X % 2 ^ 256 := by
 rw [<- num_mod]
 have h : X % 2 ^ 256 < 2 ^ 256 := Nat.mod_lt _ (by decide)
 exact (hor_dig h).symm
theorem isU64_u64 {x : Nat} (h : x < 18446744073709551616) : isU64 (u64 x) = true := by
 show (decide ((0 : Int) <= (x : Int)) && Nat.ble x 18446744073709551615) = true
 rw [Bool.and_eq_true, Nat.ble_eq]
 exact ⟨decide_eq_true (Int.natCast_nonneg x), by omega⟩
theorem isNums_of {n : Nat} (l : List Value) (hl : l.length = n) (h : l.all isU64 = true) : isNums n (.agg l.toArray) = true := by
 subst hl
 unfold isNums aggK
 simp only [h, Nat.beq_refl, Bool.and_true]
theorem isNum_numd {a b c d : Nat} (ha : a < 18446744073709551616) (hb : b < 18446744073709551616) (hc : c < 18446744073709551616) (hd : d < 18446744073709551616) : isNum (numd a b c d) = true := by
 refine isNums_of [u64 a, u64 b, u64 c, u64 d] rfl ?_
 rw [List.all_cons, List.all_cons, List.all_cons, List.all_cons, isU64_u64 ha, isU64_u64 hb, isU64_u64 hc, isU64_u64 hd]
 rfl
theorem isNum_num (X : Nat) : isNum (num X) = true := isNum_numd (dig_lt _ _) (dig_lt _ _) (dig_lt _ _) (dig_lt _ _)
theorem isU64_some {v : Value} (h : isU64 v = true) : ∃ x, x < 18446744073709551616 ∧ v = u64 x := by
 unfold isU64 at h
 split at h
 · rename_i x
  simp only [Bool.and_eq_true, decide_eq_true_eq, Nat.ble_eq] at h
  exact ⟨x.toNat, by omega, by simp [u64]; omega⟩
 · simp at h
theorem isNums_some {n : Nat} {v : Value} (h : isNums n v = true) : ∃ l : List Value, v = .agg l.toArray ∧ l.length = n ∧ l.all isU64 = true := by
 unfold isNums aggK at h
 split at h
 · rename_i cs
  simp only [Bool.and_eq_true] at h
  exact ⟨cs.toList, by simp, nbeq.1 h.1, h.2⟩
 · simp at h
theorem isNum_some {v : Value} (h : isNum v = true) : ∃ X, X < 2 ^ 256 ∧ v = num X := by
 obtain ⟨l, rfl, hl, ha⟩ := isNums_some h
 match l, hl, ha with
 | [x0, x1, x2, x3], _, ha =>
  simp only [List.all_cons, List.all_nil, Bool.and_true, Bool.and_eq_true] at ha
  obtain ⟨a, h0, rfl⟩ := isU64_some ha.1
  obtain ⟨b, h1, rfl⟩ := isU64_some ha.2.1
  obtain ⟨c, h2, rfl⟩ := isU64_some ha.2.2.1
  obtain ⟨d, h3, rfl⟩ := isU64_some ha.2.2.2
  refine ⟨hor a b c d, hor_lt h0 h1 h2 h3, ?_⟩
  have := num_hor h0 h1 h2 h3 0
  rw [Nat.mul_zero, Nat.add_zero] at this
  rw [this]; rfl
theorem eqL_u64 (a b : Nat) (xs ys : List Value) : eqL (u64 a :: xs) (u64 b :: ys) = (decide (a = b) && eqL xs ys) := by
 show (((a : Int) == (b : Int)) && eqL xs ys) = _
 congr 1
 rw [Bool.eq_iff_iff, beq_iff_eq, decide_eq_true_eq]
 omega
theorem dig_eq {X Y : Nat} : (X % 2 ^ 256 = Y % 2 ^ 256) ↔ (dig X 0 = dig Y 0 ∧ dig X 1 = dig Y 1 ∧ dig X 2 = dig Y 2 ∧ dig X 3 = dig Y 3) := by
 constructor
 · intro h
  have e : num X = num Y := by rw [<- num_mod X, <- num_mod Y, h]
  simp [num, numd, u64] at e
  omega
 · rintro ⟨h0, h1, h2, h3⟩
  have e : num X = num Y := by unfold num; rw [h0, h1, h2, h3]
  have := congrArg unnum e
  rwa [unnum_num, unnum_num] at this
theorem eq_num (X Y : Nat) : eqL (num X).cells.toList (num Y).cells.toList = decide (X % 2 ^ 256 = Y % 2 ^ 256) := by
 show eqL [u64 _, u64 _, u64 _, u64 _] [u64 _, u64 _, u64 _, u64 _] = _
 simp only [eqL_u64, eqL, Bool.and_true]
 rw [Bool.eq_iff_iff]
 simp only [decide_eq_true_eq, Bool.and_eq_true, dig_eq]
def s64 (x y c : Nat) : Nat := (x + y + c) % 18446744073709551616
def c64 (x y c : Nat) : Nat := (x + y + c) / 18446744073709551616
def d64 (x y b : Nat) : Nat := (x + 18446744073709551616 - y - b) % 18446744073709551616
def b64 (x y b : Nat) : Nat := if x < y + b then 1 else 0
def Add64F : List Value -> Option (Bool × Value)
 | [.int _ x, .int _ y, .int _ c] => some (Nat.ble c.toNat 1, .tuple #[u64 (s64 x.toNat y.toNat c.toNat), u64 (c64 x.toNat y.toNat c.toNat)])
 | _ => none
def Sub64F : List Value -> Option (Bool × Value)
 | [.int _ x, .int _ y, .int _ c] => some (Nat.ble c.toNat 1, .tuple #[u64 (d64 x.toNat y.toNat c.toNat), u64 (b64 x.toNat y.toNat c.toNat)])
 | _ => none
def req {α : Type} (b : Bool) (k : Option α) : Option α := bif b then k else none
theorem req_true {α : Type} {b : Bool} {k : Option α} (h : b = true) : req b k = k := by subst h; rfl
end Go.W

namespace Go.W
theorem arg2 {f : Value -> Value -> Value} {args : List Value} {v : Value} (h : (match args with | [x, y] => some (isNum x && isNum y, f x y) | _ => none) = some (true, v)) :
  ∃ X Y, X < 2 ^ 256 ∧ Y < 2 ^ 256 ∧ args = [num X, num Y] ∧ v = f (num X) (num Y) := by
 split at h
 · rename_i x y
  simp only [Option.some.injEq, Prod.mk.injEq, Bool.and_eq_true] at h
  obtain ⟨X, hX, rfl⟩ := isNum_some h.1.1
  obtain ⟨Y, hY, rfl⟩ := isNum_some h.1.2
  exact ⟨X, Y, hX, hY, rfl, h.2.symm⟩
 · simp at h
theorem arg1 {f : Value -> Value} {args : List Value} {v : Value} (h : (match args with | [x] => some (isNum x, f x) | _ => none) = some (true, v)) :
  ∃ X, X < 2 ^ 256 ∧ args = [num X] ∧ v = f (num X) := by
 split at h
 · rename_i x
  simp only [Option.some.injEq, Prod.mk.injEq] at h
  obtain ⟨X, hX, rfl⟩ := isNum_some h.1
  exact ⟨X, hX, rfl, h.2.symm⟩
 · simp at h
theorem unnum_lt {X : Nat} (h : X < 2 ^ 256) : unnum (num X) = X := by rw [unnum_num, Nat.mod_eq_of_lt h]
theorem ble_true {a b : Nat} (h : a <= b) : Nat.ble a b = true := by rw [Nat.ble_eq]; exact h
def addV (X Y : Nat) : Value := .tuple #[num (X + Y), u64 ((X + Y) / 2 ^ 256)]
def AddF : List Value -> Option (Bool × Value)
 | [x, y] => some (isNum x && isNum y, addV (unnum x) (unnum y))
 | _ => none
def AddT (x0 x1 x2 x3 y0 y1 y2 y3 : Nat) : Option Value :=
 req (Nat.ble 0 1) <| req (Nat.ble (c64 x0 y0 0) 1) <| req (Nat.ble (c64 x1 y1 (c64 x0 y0 0)) 1) <| req (Nat.ble (c64 x2 y2 (c64 x1 y1 (c64 x0 y0 0))) 1) <|
  some (.tuple #[numd (s64 x0 y0 0) (s64 x1 y1 (c64 x0 y0 0)) (s64 x2 y2 (c64 x1 y1 (c64 x0 y0 0))) (s64 x3 y3 (c64 x2 y2 (c64 x1 y1 (c64 x0 y0 0)))), u64 (c64 x3 y3 (c64 x2 y2 (c64 x1 y1 (c64 x0 y0 0))))])
theorem sc64 (x y c : Nat) : s64 x y c + 18446744073709551616 * c64 x y c = x + y + c := Nat.mod_add_div _ _
theorem s64_lt (x y c : Nat) : s64 x y c < 18446744073709551616 := Nat.mod_lt _ (by decide)
theorem c64_le {x y c : Nat} (hx : x < 18446744073709551616) (hy : y < 18446744073709551616) (hc : c <= 1) : c64 x y c <= 1 := by unfold c64; omega
theorem AddT_eq {x0 x1 x2 x3 y0 y1 y2 y3 : Nat} (hx0 : x0 < 18446744073709551616) (hx1 : x1 < 18446744073709551616) (hx2 : x2 < 18446744073709551616) (hx3 : x3 < 18446744073709551616)
  (hy0 : y0 < 18446744073709551616) (hy1 : y1 < 18446744073709551616) (hy2 : y2 < 18446744073709551616) (hy3 : y3 < 18446744073709551616) :
  AddT x0 x1 x2 x3 y0 y1 y2 y3 = some (addV (hor x0 x1 x2 x3) (hor y0 y1 y2 y3)) := by
 unfold AddT
 have k0 := c64_le hx0 hy0 (Nat.zero_le 1)
 have k1 := c64_le hx1 hy1 k0
 have k2 := c64_le hx2 hy2 k1
 have k3 := c64_le hx3 hy3 k2
 have e0 := sc64 x0 y0 0
 have e1 := sc64 x1 y1 (c64 x0 y0 0)
 have e2 := sc64 x2 y2 (c64 x1 y1 (c64 x0 y0 0))
 have e3 := sc64 x3 y3 (c64 x2 y2 (c64 x1 y1 (c64 x0 y0 0)))
 have l0 := s64_lt x0 y0 0
 have l1 := s64_lt x1 y1 (c64 x0 y0 0)
 have l2 := s64_lt x2 y2 (c64 x1 y1 (c64 x0 y0 0))
 have l3 := s64_lt x3 y3 (c64 x2 y2 (c64 x1 y1 (c64 x0 y0 0)))
 rw [req_true (ble_true (by omega)), req_true (ble_true k0), req_true (ble_true k1), req_true (ble_true k2)]
 generalize s64 x3 y3 (c64 x2 y2 (c64 x1 y1 (c64 x0 y0 0))) = s3 at *
 generalize c64 x3 y3 (c64 x2 y2 (c64 x1 y1 (c64 x0 y0 0))) = c3 at *
 generalize s64 x2 y2 (c64 x1 y1 (c64 x0 y0 0)) = s2 at *
 generalize c64 x2 y2 (c64 x1 y1 (c64 x0 y0 0)) = c2 at *
 generalize s64 x1 y1 (c64 x0 y0 0) = s1 at *
 generalize c64 x1 y1 (c64 x0 y0 0) = c1 at *
 generalize s64 x0 y0 0 = s0 at *
 generalize c64 x0 y0 0 = c0 at *
 have hs : hor x0 x1 x2 x3 + hor y0 y1 y2 y3 = hor s0 s1 s2 (s3 + 18446744073709551616 * c3) := by unfold hor; omega
 have hq : (hor x0 x1 x2 x3 + hor y0 y1 y2 y3) / 2 ^ 256 = c3 := by
  rw [hs]; unfold hor; omega
 unfold addV
 rw [hq, hs, num_hor l0 l1 l2 l3]
def subV (X Y : Nat) : Value := .tuple #[num (2 ^ 256 + X - Y), u64 (if X < Y then 1 else 0)]
def SubF : List Value -> Option (Bool × Value)
 | [x, y] => some (isNum x && isNum y, subV (unnum x) (unnum y))
 | _ => none
def SubT (x0 x1 x2 x3 y0 y1 y2 y3 : Nat) : Option Value :=
 req (Nat.ble 0 1) <| req (Nat.ble (b64 x0 y0 0) 1) <| req (Nat.ble (b64 x1 y1 (b64 x0 y0 0)) 1) <| req (Nat.ble (b64 x2 y2 (b64 x1 y1 (b64 x0 y0 0))) 1) <|
  some (.tuple #[numd (d64 x0 y0 0) (d64 x1 y1 (b64 x0 y0 0)) (d64 x2 y2 (b64 x1 y1 (b64 x0 y0 0))) (d64 x3 y3 (b64 x2 y2 (b64 x1 y1 (b64 x0 y0 0)))), u64 (b64 x3 y3 (b64 x2 y2 (b64 x1 y1 (b64 x0 y0 0))))])
theorem db64 {x y b : Nat} (hx : x < 18446744073709551616) (hy : y < 18446744073709551616) (hb : b <= 1) : d64 x y b + y + b = x + 18446744073709551616 * b64 x y b ∧ d64 x y b < 18446744073709551616 ∧ b64 x y b <= 1 := by
 unfold d64 b64
 split <;> omega
theorem SubT_eq {x0 x1 x2 x3 y0 y1 y2 y3 : Nat} (hx0 : x0 < 18446744073709551616) (hx1 : x1 < 18446744073709551616) (hx2 : x2 < 18446744073709551616) (hx3 : x3 < 18446744073709551616)
  (hy0 : y0 < 18446744073709551616) (hy1 : y1 < 18446744073709551616) (hy2 : y2 < 18446744073709551616) (hy3 : y3 < 18446744073709551616) :
  SubT x0 x1 x2 x3 y0 y1 y2 y3 = some (subV (hor x0 x1 x2 x3) (hor y0 y1 y2 y3)) := by
 unfold SubT
 obtain ⟨e0, l0, k0⟩ := db64 hx0 hy0 (Nat.zero_le 1)
 obtain ⟨e1, l1, k1⟩ := db64 hx1 hy1 k0
 obtain ⟨e2, l2, k2⟩ := db64 hx2 hy2 k1
 obtain ⟨e3, l3, k3⟩ := db64 hx3 hy3 k2
 rw [req_true (ble_true (by omega)), req_true (ble_true k0), req_true (ble_true k1), req_true (ble_true k2)]
 generalize d64 x3 y3 (b64 x2 y2 (b64 x1 y1 (b64 x0 y0 0))) = s3 at *
 generalize b64 x3 y3 (b64 x2 y2 (b64 x1 y1 (b64 x0 y0 0))) = c3 at *
 generalize d64 x2 y2 (b64 x1 y1 (b64 x0 y0 0)) = s2 at *
 generalize b64 x2 y2 (b64 x1 y1 (b64 x0 y0 0)) = c2 at *
 generalize d64 x1 y1 (b64 x0 y0 0) = s1 at *
 generalize b64 x1 y1 (b64 x0 y0 0) = c1 at *
 generalize d64 x0 y0 0 = s0 at *
 generalize b64 x0 y0 0 = c0 at *
 have hX := hor_lt hx0 hx1 hx2 hx3
 have hY := hor_lt hy0 hy1 hy2 hy3
 have hS := hor_lt l0 l1 l2 l3
 have hs : hor s0 s1 s2 s3 + hor y0 y1 y2 y3 = hor x0 x1 x2 x3 + 2 ^ 256 * c3 := by unfold hor; omega
 have hn := num_hor l0 l1 l2 l3 0
 rw [Nat.mul_zero, Nat.add_zero] at hn
 unfold subV
 by_cases hlt : hor x0 x1 x2 x3 < hor y0 y1 y2 y3
 · have : c3 = 1 := by omega
  subst this
  rw [if_pos hlt, show 2 ^ 256 + hor x0 x1 x2 x3 - hor y0 y1 y2 y3 = hor s0 s1 s2 s3 from by omega, hn]
 · have : c3 = 0 := by omega
  subst this
  rw [if_neg hlt, show 2 ^ 256 + hor x0 x1 x2 x3 - hor y0 y1 y2 y3 = hor s0 s1 s2 s3 + 2 ^ 256 * 1 from by omega, num_add_mul, hn]
def cmpI (X Y : Nat) : Int := if X < Y then -1 else if Y < X then 1 else 0
def CmpF : List Value -> Option (Bool × Value)
 | [x, y] => some (isNum x && isNum y, i64 (cmpI (unnum x) (unnum y)))
 | _ => none
def cmpD (a b : Nat) (k : Option Value) : Option Value := bif decide ((a : Int) < (b : Int)) then some (i64 (-1)) else bif decide ((a : Int) > (b : Int)) then some (i64 1) else k
def CmpT (x0 x1 x2 x3 y0 y1 y2 y3 : Nat) : Option Value := cmpD x3 y3 (cmpD x2 y2 (cmpD x1 y1 (cmpD x0 y0 (some (i64 0)))))
theorem cmpD_lt {a b : Nat} (h : a < b) (k : Option Value) : cmpD a b k = some (i64 (-1)) := by
 unfold cmpD; rw [decide_eq_true (by omega)]; rfl
theorem cmpD_gt {a b : Nat} (h : b < a) (k : Option Value) : cmpD a b k = some (i64 1) := by
 unfold cmpD; rw [decide_eq_false (by omega), decide_eq_true (by omega)]; rfl
theorem cmpD_eq' (a : Nat) (k : Option Value) : cmpD a a k = k := by
 unfold cmpD; rw [decide_eq_false (by omega : ¬ ((a : Int) < (a : Int)))]; rfl
theorem CmpT_eq {x0 x1 x2 x3 y0 y1 y2 y3 : Nat} (hx0 : x0 < 18446744073709551616) (hx1 : x1 < 18446744073709551616) (hx2 : x2 < 18446744073709551616)
  (hy0 : y0 < 18446744073709551616) (hy1 : y1 < 18446744073709551616) (hy2 : y2 < 18446744073709551616) :
  CmpT x0 x1 x2 x3 y0 y1 y2 y3 = some (i64 (cmpI (hor x0 x1 x2 x3) (hor y0 y1 y2 y3))) := by
 unfold CmpT cmpI hor
 rcases Nat.lt_trichotomy x3 y3 with h | rfl | h
 · rw [cmpD_lt h, if_pos (by omega)]
 · rw [cmpD_eq']
  rcases Nat.lt_trichotomy x2 y2 with h | rfl | h
  · rw [cmpD_lt h, if_pos (by omega)]
  · rw [cmpD_eq']
   rcases Nat.lt_trichotomy x1 y1 with h | rfl | h
   · rw [cmpD_lt h, if_pos (by omega)]
   · rw [cmpD_eq']
    rcases Nat.lt_trichotomy x0 y0 with h | rfl | h
    · rw [cmpD_lt h, if_pos (by omega)]
    · rw [cmpD_eq', if_neg (by omega), if_neg (by omega)]
    · rw [cmpD_gt h, if_neg (by omega), if_pos (by omega)]
   · rw [cmpD_gt h, if_neg (by omega), if_pos (by omega)]
  · rw [cmpD_gt h, if_neg (by omega), if_pos (by omega)]
 · rw [cmpD_gt h, if_neg (by omega), if_pos (by omega)]
end Go.W

namespace Go.Proofs.Ytckbmhegopjnmaa
set_option maxRecDepth 100000
open Go.W
open Go.RowKit (Below)
noncomputable def eAdd64 : Array Value -> Sem Value := (Extern.find Try.f99).getD fun _ => pure undef
noncomputable def eSub64 : Array Value -> Sem Value := (Extern.find Try.f95).getD fun _ => pure undef
theorem Add64_find : Extern.find Try.f99 = some eAdd64 := by kernel_rfl
theorem Sub64_find : Extern.find Try.f95 = some eSub64 := by kernel_rfl
theorem Add64_next : Extern.findNext Try.f99 = none := by kernel_rfl
theorem Sub64_next : Extern.findNext Try.f95 = none := by kernel_rfl
theorem run_eAdd64 {P : Program} (k1 k2 k3 : IntKind) (x y : Int) : ∀ (c : Int), c.toNat <= 1 -> ∀ w, (eAdd64 #[.int k1 x, .int k2 y, .int k3 c]).run P w = .ok (.tuple #[u64 (s64 x.toNat y.toNat c.toNat), u64 (c64 x.toNat y.toNat c.toNat)]) w
 | .ofNat 0, _, _ => rfl
 | .ofNat 1, _, _ => rfl
 | .ofNat (n + 2), h, _ => absurd h (by show ¬ (n + 2 <= 1); omega)
 | .negSucc n, _, _ => rfl
theorem run_eSub64 {P : Program} (k1 k2 k3 : IntKind) (x y : Int) : ∀ (c : Int), c.toNat <= 1 -> ∀ w, (eSub64 #[.int k1 x, .int k2 y, .int k3 c]).run P w = .ok (.tuple #[u64 (d64 x.toNat y.toNat c.toNat), u64 (b64 x.toNat y.toNat c.toNat)]) w
 | .ofNat 0, _, _ => rfl
 | .ofNat 1, _, _ => rfl
 | .ofNat (n + 2), h, _ => absurd h (by show ¬ (n + 2 <= 1); omega)
 | .negSucc n, _, _ => rfl
theorem Add64_sum : Sum Try.prog 99 Add64F := by
 intro args v h hp w _
 unfold Add64F at h
 split at h
 · rename_i k1 x k2 y k3 c
  simp only [Option.some.injEq, Prod.mk.injEq, Nat.ble_eq] at h
  have hc := h.1
  rw [<- h.2]
  unfold Invokes
  rw [run_callFunc_extern Try.func99 (by kernel_rfl) (by kernel_rfl) Add64_next Add64_find]
  rw [run_eAdd64 k1 k2 k3 x y c hc]
  exact ⟨rfl, Below.refl _ _⟩
 · simp at h
theorem Sub64_sum : Sum Try.prog 95 Sub64F := by
 intro args v h hp w _
 unfold Sub64F at h
 split at h
 · rename_i k1 x k2 y k3 c
  simp only [Option.some.injEq, Prod.mk.injEq, Nat.ble_eq] at h
  have hc := h.1
  rw [<- h.2]
  unfold Invokes
  rw [run_callFunc_extern Try.func95 (by kernel_rfl) (by kernel_rfl) Sub64_next Sub64_find]
  rw [run_eSub64 k1 k2 k3 x y c hc]
  exact ⟨rfl, Below.refl _ _⟩
 · simp at h
def AddC : Cfg := ⟨tab, [(99, Add64F)], 26, []⟩
theorem AddOk : CfgOk Try.prog AddC (bodyOf Try.f96) := ⟨mixed, tabOk, sums_cons Add64_sum sums_nil, noL⟩
theorem Add_ev (x0 x1 x2 x3 y0 y1 y2 y3 : Nat) : fnS AddC 60 Try.f96 (bodyOf Try.f96) [numd x0 x1 x2 x3, numd y0 y1 y2 y3] = AddT x0 x1 x2 x3 y0 y1 y2 y3 := by kernel_rfl
theorem Add_sum : Sum Try.prog 96 AddF := by
 refine sum_of AddOk Try.func96 (by kernel_rfl) (by kernel_rfl) rfl (fuel := 60) fun args v h _ => ?_
 obtain ⟨X, Y, hX, hY, rfl, rfl⟩ := arg2 (f := fun x y => addV (unnum x) (unnum y)) h
 refine ⟨by show 2 <= Try.f96.ntmps; decide +kernel, ?_, rfl⟩
 obtain ⟨x0, x1, x2, x3, h0, h1, h2, h3, e1, e2⟩ := digits hX
 obtain ⟨y0, y1, y2, y3, k0, k1, k2, k3, e3, e4⟩ := digits hY
 rw [unnum_lt hX, unnum_lt hY, e2, e4, Add_ev, AddT_eq h0 h1 h2 h3 k0 k1 k2 k3, e1, e3]
def SubC : Cfg := ⟨tab, [(95, Sub64F)], 26, []⟩
theorem SubOk : CfgOk Try.prog SubC (bodyOf Try.f84) := ⟨mixed, tabOk, sums_cons Sub64_sum sums_nil, noL⟩
theorem Sub_ev (x0 x1 x2 x3 y0 y1 y2 y3 : Nat) : fnS SubC 60 Try.f84 (bodyOf Try.f84) [numd x0 x1 x2 x3, numd y0 y1 y2 y3] = SubT x0 x1 x2 x3 y0 y1 y2 y3 := by kernel_rfl
theorem Sub_sum : Sum Try.prog 84 SubF := by
 refine sum_of SubOk Try.func84 (by kernel_rfl) (by kernel_rfl) rfl (fuel := 60) fun args v h _ => ?_
 obtain ⟨X, Y, hX, hY, rfl, rfl⟩ := arg2 (f := fun x y => subV (unnum x) (unnum y)) h
 refine ⟨by show 2 <= Try.f84.ntmps; decide +kernel, ?_, rfl⟩
 obtain ⟨x0, x1, x2, x3, h0, h1, h2, h3, e1, e2⟩ := digits hX
 obtain ⟨y0, y1, y2, y3, k0, k1, k2, k3, e3, e4⟩ := digits hY
 rw [unnum_lt hX, unnum_lt hY, e2, e4, Sub_ev, SubT_eq h0 h1 h2 h3 k0 k1 k2 k3, e1, e3]
def CmpC : Cfg := ⟨tab, [], 24, []⟩
theorem CmpOk : CfgOk Try.prog CmpC (bodyOf Try.f80) := ⟨mixed, tabOk, sums_nil, noL⟩
theorem Cmp_ev (x0 x1 x2 x3 y0 y1 y2 y3 : Nat) : fnS CmpC 60 Try.f80 (bodyOf Try.f80) [numd x0 x1 x2 x3, numd y0 y1 y2 y3] = CmpT x0 x1 x2 x3 y0 y1 y2 y3 := by kernel_rfl
theorem Cmp_sum : Sum Try.prog 80 CmpF := by
 refine sum_of CmpOk Try.func80 (by kernel_rfl) (by kernel_rfl) rfl (fuel := 60) fun args v h _ => ?_
 obtain ⟨X, Y, hX, hY, rfl, rfl⟩ := arg2 (f := fun x y => i64 (cmpI (unnum x) (unnum y))) h
 refine ⟨by show 2 <= Try.f80.ntmps; decide +kernel, ?_, rfl⟩
 obtain ⟨x0, x1, x2, x3, h0, h1, h2, h3, e1, e2⟩ := digits hX
 obtain ⟨y0, y1, y2, y3, k0, k1, k2, k3, e3, e4⟩ := digits hY
 rw [unnum_lt hX, unnum_lt hY, e2, e4, Cmp_ev, CmpT_eq h0 h1 h2 k0 k1 k2, e1, e3]
end Go.Proofs.Ytckbmhegopjnmaa

namespace Go.W
def iAdd (k : IntKind) (a b : Int) : Int := k.wrap (a + b)
def iMul (k : IntKind) (a b : Int) : Int := k.wrap (a * b)
def iShr (k : IntKind) (a n : Int) : Int := a.fdiv (2 ^ (min n.toNat k.bits))
def iShl (k : IntKind) (a n : Int) : Int := k.wrap (a * 2 ^ (min n.toNat k.bits))
def iAnd (k : IntKind) (a b : Int) : Int := k.wrap ((BitVec.ofInt k.bits a &&& BitVec.ofInt k.bits b).toNat : Int)
def iOr (k : IntKind) (a b : Int) : Int := k.wrap ((BitVec.ofInt k.bits a ||| BitVec.ofInt k.bits b).toNat : Int)
theorem wrap_u64 (n : Int) : IntKind.u64.wrap n = n % 18446744073709551616 := by simp [IntKind.wrap, IntKind.bits, IntKind.signed]
theorem wrap_i64 {n : Int} (h : -9223372036854775808 <= n ∧ n < 9223372036854775808) : IntKind.i64.wrap n = n := by
 have e : IntKind.i64.wrap n = if n % 18446744073709551616 >= 9223372036854775808 then n % 18446744073709551616 - 18446744073709551616 else n % 18446744073709551616 := by
  simp [IntKind.wrap, IntKind.bits, IntKind.signed]
 rw [e]
 split <;> omega
theorem iAdd_u (a b : Nat) : iAdd .u64 a b = ((a + b) % 18446744073709551616 : Nat) := by
 unfold iAdd; rw [wrap_u64]; omega
theorem iShr_u (a n : Nat) (h : n <= 64) : iShr .u64 a n = (a / 2 ^ n : Nat) := by
 unfold iShr
 have : min (n : Int).toNat IntKind.u64.bits = n := by show min n 64 = n; omega
 rw [this, Int.fdiv_eq_ediv_of_nonneg _ (Int.pow_nonneg (by decide))]
 have e : ((2 : Int) ^ n) = ((2 ^ n : Nat) : Int) := by simp
 rw [e, <- Int.natCast_ediv]
theorem iAnd_u {a b : Nat} (ha : a < 18446744073709551616) (hb : b < 18446744073709551616) : iAnd .u64 a b = (a &&& b : Nat) := by
 unfold iAnd
 rw [wrap_u64]
 have e1 : (BitVec.ofInt IntKind.u64.bits (a : Int) &&& BitVec.ofInt IntKind.u64.bits (b : Int)).toNat = a &&& b := by
  show (BitVec.ofInt 64 (a : Int) &&& BitVec.ofInt 64 (b : Int)).toNat = a &&& b
  rw [BitVec.toNat_and, BitVec.ofInt_natCast, BitVec.ofInt_natCast, BitVec.toNat_ofNat, BitVec.toNat_ofNat, Nat.mod_eq_of_lt (by simpa using ha), Nat.mod_eq_of_lt (by simpa using hb)]
 rw [e1]
 have : a &&& b <= a := Nat.and_le_left
 omega
theorem iOr_u {a b : Nat} (ha : a < 18446744073709551616) (hb : b < 18446744073709551616) : iOr .u64 a b = (a ||| b : Nat) := by
 unfold iOr
 rw [wrap_u64]
 have e1 : (BitVec.ofInt IntKind.u64.bits (a : Int) ||| BitVec.ofInt IntKind.u64.bits (b : Int)).toNat = a ||| b := by
  show (BitVec.ofInt 64 (a : Int) ||| BitVec.ofInt 64 (b : Int)).toNat = a ||| b
  rw [BitVec.toNat_or, BitVec.ofInt_natCast, BitVec.ofInt_natCast, BitVec.toNat_ofNat, BitVec.toNat_ofNat, Nat.mod_eq_of_lt (by simpa using ha), Nat.mod_eq_of_lt (by simpa using hb)]
 rw [e1]
 have : a ||| b < 2 ^ 64 := Nat.or_lt_two_pow (by simpa using ha) (by simpa using hb)
 omega
theorem and_mask {a n : Nat} : a &&& (2 ^ n - 1) = a % 2 ^ n := Nat.and_two_pow_sub_one_eq_mod a n
def mul64V (x y : Nat) : Value := .tuple #[u64 (x * y / 18446744073709551616), u64 (x * y % 18446744073709551616)]
def Mul64F : List Value -> Option (Bool × Value)
 | [x, y] => some (isU64 x && isU64 y, mul64V (intN x) (intN y))
 | _ => none
def m64lo (x : Int) : Int := iAnd .u64 x 4294967295
def m64hi (x : Int) : Int := iShr .u64 x 32
def m64t (x y : Int) : Int := iAdd .u64 (iMul .u64 (m64hi x) (m64lo y)) (m64hi (iMul .u64 (m64lo x) (m64lo y)))
def Mul64T (x y : Int) : Option Value :=
 some (.tuple #[.int .u64 (iAdd .u64 (iAdd .u64 (iMul .u64 (m64hi x) (m64hi y)) (m64hi (m64t x y))) (m64hi (iAdd .u64 (m64lo (m64t x y)) (iMul .u64 (m64lo x) (m64hi y))))), .int .u64 (iMul .u64 x y)])
theorem m64lo_eq {x : Int} (h0 : 0 <= x) (h : x < 18446744073709551616) : m64lo x = x % 4294967296 := by
 obtain ⟨n, rfl⟩ := Int.eq_ofNat_of_zero_le h0
 unfold m64lo
 have := iAnd_u (a := n) (b := 4294967295) (by omega) (by omega)
 rw [show ((4294967295 : Nat) : Int) = 4294967295 from rfl] at this
 rw [this, show 4294967295 = 2 ^ 32 - 1 from rfl, and_mask]
 omega
theorem m64hi_eq {x : Int} (h0 : 0 <= x) : m64hi x = x / 4294967296 := by
 obtain ⟨n, rfl⟩ := Int.eq_ofNat_of_zero_le h0
 have := iShr_u n 32 (by omega)
 rw [show ((32 : Nat) : Int) = 32 from rfl] at this
 unfold m64hi
 rw [this]
 omega
theorem Mul64T_eq {x y : Nat} (hx : x < 18446744073709551616) (hy : y < 18446744073709551616) : Mul64T x y = some (mul64V x y) := by
 have e := Go.mul64_arith x y (by omega) (by omega) (by omega) (by omega)
 have nn : ∀ z : Int, 0 <= z % 18446744073709551616 ∧ z % 18446744073709551616 < 18446744073709551616 := fun z => by omega
 unfold Mul64T m64t mul64V iAdd iMul
 simp only [wrap_u64]
 rw [m64hi_eq (x := (x : Int)) (by omega), m64hi_eq (x := (y : Int)) (by omega), m64lo_eq (x := (x : Int)) (by omega) (by omega), m64lo_eq (x := (y : Int)) (by omega) (by omega)]
 rw [m64hi_eq (nn _).1, m64hi_eq (nn _).1, m64hi_eq (nn _).1, m64lo_eq (nn _).1 (nn _).2]
 rw [e]
 have h2 : ((x : Int) * (y : Int)) / 18446744073709551616 = ((x * y / 18446744073709551616 : Nat) : Int) := by rw [<- Int.natCast_mul]; omega
 have h3 : ((x : Int) * (y : Int)) % 18446744073709551616 = ((x * y % 18446744073709551616 : Nat) : Int) := by rw [<- Int.natCast_mul]; omega
 rw [h2, h3]; rfl
def mulAddV (x y c d : Nat) : Value := .tuple #[u64 ((x * y + c + d) % 18446744073709551616), u64 ((x * y + c + d) / 18446744073709551616)]
def mulAddF : List Value -> Option (Bool × Value)
 | [x, y, c, d] => some (isU64 x && isU64 y && isU64 c && isU64 d, mulAddV (intN x) (intN y) (intN c) (intN d))
 | _ => none
def mulAddT (x y c d : Nat) : Option Value :=
 let hi := x * y / 18446744073709551616
 let lo := x * y % 18446744073709551616
 req (isU64 (u64 x) && isU64 (u64 y)) <| req (Nat.ble 0 1) <| req (Nat.ble 0 1) <|
  some (.tuple #[u64 (s64 (s64 lo c 0) d 0), .int .u64 (iAdd .u64 (iAdd .u64 (hi : Int) (c64 lo c 0 : Int)) (c64 (s64 lo c 0) d 0 : Int))])
theorem mul_le {x y : Nat} (hx : x < 18446744073709551616) (hy : y < 18446744073709551616) : x * y <= 18446744073709551615 * 18446744073709551615 := Nat.mul_le_mul (by omega) (by omega)
theorem mulAddT_eq {x y c d : Nat} (hx : x < 18446744073709551616) (hy : y < 18446744073709551616) (hc : c < 18446744073709551616) (hd : d < 18446744073709551616) : mulAddT x y c d = some (mulAddV x y c d) := by
 unfold mulAddT
 simp only [isU64_u64 hx, isU64_u64 hy]
 rw [req_true (b := true && true) rfl, req_true (b := Nat.ble 0 1) rfl, req_true (b := Nat.ble 0 1) rfl]
 have h := mul_le hx hy
 unfold mulAddV
 generalize x * y = p at *
 rw [iAdd_u, iAdd_u]
 have e1 : s64 (s64 (p % 18446744073709551616) c 0) d 0 = (p + c + d) % 18446744073709551616 := by unfold s64; omega
 have e2 : ((p / 18446744073709551616 + c64 (p % 18446744073709551616) c 0) % 18446744073709551616 + c64 (s64 (p % 18446744073709551616) c 0) d 0) % 18446744073709551616 = (p + c + d) / 18446744073709551616 := by
  unfold s64 c64; omega
 rw [e1, e2]; rfl
theorem argU2 {f : Value -> Value -> Value} {args : List Value} {v : Value} (h : (match args with | [x, y] => some (isU64 x && isU64 y, f x y) | _ => none) = some (true, v)) :
  ∃ x y, x < 18446744073709551616 ∧ y < 18446744073709551616 ∧ args = [u64 x, u64 y] ∧ v = f (u64 x) (u64 y) := by
 split at h
 · simp only [Option.some.injEq, Prod.mk.injEq, Bool.and_eq_true] at h
  obtain ⟨x, hx, rfl⟩ := isU64_some h.1.1
  obtain ⟨y, hy, rfl⟩ := isU64_some h.1.2
  exact ⟨x, y, hx, hy, rfl, h.2.symm⟩
 · simp at h
theorem argU4 {f : Value -> Value -> Value -> Value -> Value} {args : List Value} {v : Value} (h : (match args with | [x, y, c, d] => some (isU64 x && isU64 y && isU64 c && isU64 d, f x y c d) | _ => none) = some (true, v)) :
  ∃ x y c d, x < 18446744073709551616 ∧ y < 18446744073709551616 ∧ c < 18446744073709551616 ∧ d < 18446744073709551616 ∧ args = [u64 x, u64 y, u64 c, u64 d] ∧ v = f (u64 x) (u64 y) (u64 c) (u64 d) := by
 split at h
 · simp only [Option.some.injEq, Prod.mk.injEq, Bool.and_eq_true] at h
  obtain ⟨x, hx, rfl⟩ := isU64_some h.1.1.1.1
  obtain ⟨y, hy, rfl⟩ := isU64_some h.1.1.1.2
  obtain ⟨c, hc, rfl⟩ := isU64_some h.1.1.2
  obtain ⟨d, hd, rfl⟩ := isU64_some h.1.2
  exact ⟨x, y, c, d, hx, hy, hc, hd, rfl, h.2.symm⟩
 · simp at h
end Go.W

namespace Go.W
def maL (x y c d : Nat) : Nat := (x * y + c + d) % 18446744073709551616
def maH (x y c d : Nat) : Nat := (x * y + c + d) / 18446744073709551616
def maP (x y c d : Nat) : Bool := isU64 (u64 x) && isU64 (u64 y) && isU64 (u64 c) && isU64 (u64 d)
theorem maP_true {x y c d : Nat} (hx : x < 18446744073709551616) (hy : y < 18446744073709551616) (hc : c < 18446744073709551616) (hd : d < 18446744073709551616) : maP x y c d = true := by
 unfold maP; rw [isU64_u64 hx, isU64_u64 hy, isU64_u64 hc, isU64_u64 hd]; rfl
theorem maL_lt (x y c d : Nat) : maL x y c d < 18446744073709551616 := Nat.mod_lt _ (by decide)
theorem maH_lt {x y c d : Nat} (hx : x < 18446744073709551616) (hy : y < 18446744073709551616) (hc : c < 18446744073709551616) (hd : d < 18446744073709551616) : maH x y c d < 18446744073709551616 := by
 have := mul_le hx hy
 unfold maH; omega
theorem ma_eq (x y c d : Nat) : maL x y c d + 18446744073709551616 * maH x y c d = x * y + c + d := Nat.mod_add_div _ _
def rowT (d b0 b1 b2 b3 s0 s1 s2 s3 : Nat) (k : Nat -> Nat -> Nat -> Nat -> Nat -> Option Value) : Option Value :=
 req (maP d b0 s0 0) <| req (maP d b1 s1 (maH d b0 s0 0)) <| req (maP d b2 s2 (maH d b1 s1 (maH d b0 s0 0))) <| req (maP d b3 s3 (maH d b2 s2 (maH d b1 s1 (maH d b0 s0 0)))) <|
  k (maL d b0 s0 0) (maL d b1 s1 (maH d b0 s0 0)) (maL d b2 s2 (maH d b1 s1 (maH d b0 s0 0))) (maL d b3 s3 (maH d b2 s2 (maH d b1 s1 (maH d b0 s0 0)))) (maH d b3 s3 (maH d b2 s2 (maH d b1 s1 (maH d b0 s0 0))))
theorem rowT_eq {d b0 b1 b2 b3 s0 s1 s2 s3 : Nat} (hd : d < 18446744073709551616) (h0 : b0 < 18446744073709551616) (h1 : b1 < 18446744073709551616) (h2 : b2 < 18446744073709551616) (h3 : b3 < 18446744073709551616)
  (k0 : s0 < 18446744073709551616) (k1 : s1 < 18446744073709551616) (k2 : s2 < 18446744073709551616) (k3 : s3 < 18446744073709551616) (k : Nat -> Nat -> Nat -> Nat -> Nat -> Option Value) :
  ∃ l0 l1 l2 l3 c, l0 < 18446744073709551616 ∧ l1 < 18446744073709551616 ∧ l2 < 18446744073709551616 ∧ l3 < 18446744073709551616 ∧ c < 18446744073709551616 ∧
   rowT d b0 b1 b2 b3 s0 s1 s2 s3 k = k l0 l1 l2 l3 c ∧ hor l0 l1 l2 (l3 + 18446744073709551616 * c) = hor s0 s1 s2 s3 + d * hor b0 b1 b2 b3 := by
 have z : (0 : Nat) < 18446744073709551616 := by decide
 have c0 := maH_lt hd h0 k0 z
 have c1 := maH_lt hd h1 k1 c0
 have c2 := maH_lt hd h2 k2 c1
 have c3 := maH_lt hd h3 k3 c2
 refine ⟨_, _, _, _, _, maL_lt d b0 s0 0, maL_lt d b1 s1 (maH d b0 s0 0), maL_lt d b2 s2 (maH d b1 s1 (maH d b0 s0 0)), maL_lt d b3 s3 (maH d b2 s2 (maH d b1 s1 (maH d b0 s0 0))), c3, ?_, ?_⟩
 · unfold rowT
  rw [req_true (maP_true hd h0 k0 z), req_true (maP_true hd h1 k1 c0), req_true (maP_true hd h2 k2 c1), req_true (maP_true hd h3 k3 c2)]
 · have e0 := ma_eq d b0 s0 0
  have e1 := ma_eq d b1 s1 (maH d b0 s0 0)
  have e2 := ma_eq d b2 s2 (maH d b1 s1 (maH d b0 s0 0))
  have e3 := ma_eq d b3 s3 (maH d b2 s2 (maH d b1 s1 (maH d b0 s0 0)))
  have ed : d * hor b0 b1 b2 b3 = d * b0 + 18446744073709551616 * (d * b1 + 18446744073709551616 * (d * b2 + 18446744073709551616 * (d * b3))) := by
   unfold hor; simp only [Nat.mul_add, Nat.mul_left_comm d]
  rw [ed]
  unfold hor
  generalize d * b0 = p0 at *
  generalize d * b1 = p1 at *
  generalize d * b2 = p2 at *
  generalize d * b3 = p3 at *
  omega
def mulV (X Y : Nat) : Value := .tuple #[num (X * Y), num (X * Y / 2 ^ 256)]
def MulF : List Value -> Option (Bool × Value)
 | [x, y] => some (isNum x && isNum y, mulV (unnum x) (unnum y))
 | _ => none
theorem row_le {d Y : Nat} (hY : Y < 2 ^ 256) (hd : d < 18446744073709551616) : d * Y <= 18446744073709551615 * (2 ^ 256 - 1) := Nat.mul_le_mul (by omega) (by omega)
theorem div256 (X : Nat) : X / 18446744073709551616 / 18446744073709551616 / 18446744073709551616 / 18446744073709551616 = X / 2 ^ 256 := by
 rw [Nat.div_div_eq_div_mul, Nat.div_div_eq_div_mul, Nat.div_div_eq_div_mul]
end Go.W

namespace Go.W
def r5N (s0 s1 s2 s3 d : Nat) (b : Value) : Nat := hor s0 s1 s2 s3 + d * unnum b
def r5V (T : Nat) : Value := .tuple #[u64 (dig T 0), u64 (dig T 1), u64 (dig T 2), u64 (dig T 3), u64 (dig T 4)]
def r5P (s0 s1 s2 s3 d b : Value) : Bool := isU64 s0 && isU64 s1 && isU64 s2 && isU64 s3 && isU64 d && isNum b
def row5F : List Value -> Option (Bool × Value)
 | [s0, s1, s2, s3, d, b] => some (r5P s0 s1 s2 s3 d b, r5V (r5N (intN s0) (intN s1) (intN s2) (intN s3) (intN d) b))
 | _ => none
def row5T (s0 s1 s2 s3 d b0 b1 b2 b3 : Nat) : Option Value :=
 rowT d b0 b1 b2 b3 s0 s1 s2 s3 fun l0 l1 l2 l3 c => some (.tuple #[u64 l0, u64 l1, u64 l2, u64 l3, u64 c])
theorem row5T_eq {d b0 b1 b2 b3 s0 s1 s2 s3 : Nat} (hd : d < 18446744073709551616) (h0 : b0 < 18446744073709551616) (h1 : b1 < 18446744073709551616) (h2 : b2 < 18446744073709551616) (h3 : b3 < 18446744073709551616)
  (k0 : s0 < 18446744073709551616) (k1 : s1 < 18446744073709551616) (k2 : s2 < 18446744073709551616) (k3 : s3 < 18446744073709551616) :
  row5T s0 s1 s2 s3 d b0 b1 b2 b3 = some (r5V (r5N s0 s1 s2 s3 d (numd b0 b1 b2 b3))) := by
 obtain ⟨l0, l1, l2, l3, c, m0, m1, m2, m3, m4, e, f⟩ := rowT_eq hd h0 h1 h2 h3 k0 k1 k2 k3 fun l0 l1 l2 l3 c => some (.tuple #[u64 l0, u64 l1, u64 l2, u64 l3, u64 c])
 have hf : r5N s0 s1 s2 s3 d (numd b0 b1 b2 b3) = l0 + 18446744073709551616 * (l1 + 18446744073709551616 * (l2 + 18446744073709551616 * (l3 + 18446744073709551616 * c))) := by
  unfold r5N; rw [unnum_numd, <- f]; rfl
 refine e.trans ?_
 unfold r5V
 rw [hf, (dig_cons m0).1, (dig_cons m0).2, (dig_cons m0).2, (dig_cons m0).2, (dig_cons m0).2, (dig_cons m1).1, (dig_cons m1).2, (dig_cons m1).2, (dig_cons m1).2,
  (dig_cons m2).1, (dig_cons m2).2, (dig_cons m2).2, (dig_cons m3).1, (dig_cons m3).2]
 have : dig c 0 = c := Nat.mod_eq_of_lt m4
 rw [this]
theorem r5P_some {s0 s1 s2 s3 d b : Value} (h : r5P s0 s1 s2 s3 d b = true) : ∃ x0 x1 x2 x3 y Y, x0 < 18446744073709551616 ∧ x1 < 18446744073709551616 ∧ x2 < 18446744073709551616 ∧ x3 < 18446744073709551616 ∧ y < 18446744073709551616 ∧ Y < 2 ^ 256 ∧
  s0 = u64 x0 ∧ s1 = u64 x1 ∧ s2 = u64 x2 ∧ s3 = u64 x3 ∧ d = u64 y ∧ b = num Y := by
 simp only [r5P, Bool.and_eq_true] at h
 obtain ⟨⟨⟨⟨⟨h0, h1⟩, h2⟩, h3⟩, h4⟩, h5⟩ := h
 obtain ⟨x0, l0, rfl⟩ := isU64_some h0
 obtain ⟨x1, l1, rfl⟩ := isU64_some h1
 obtain ⟨x2, l2, rfl⟩ := isU64_some h2
 obtain ⟨x3, l3, rfl⟩ := isU64_some h3
 obtain ⟨y, l4, rfl⟩ := isU64_some h4
 obtain ⟨Y, l5, rfl⟩ := isNum_some h5
 exact ⟨x0, x1, x2, x3, y, Y, l0, l1, l2, l3, l4, l5, rfl, rfl, rfl, rfl, rfl, rfl⟩
def mul5 (b : Value) (x0 x1 x2 x3 : Nat) : Option Value :=
 let r (T : Nat) (x : Nat) (k : Nat -> Option Value) : Option Value := req (r5P (u64 (dig T 1)) (u64 (dig T 2)) (u64 (dig T 3)) (u64 (dig T 4)) (u64 x) b) (k (r5N (dig T 1) (dig T 2) (dig T 3) (dig T 4) x b))
 req (r5P (u64 0) (u64 0) (u64 0) (u64 0) (u64 x0) b) <|
 r (r5N 0 0 0 0 x0 b) x1 fun T2 => r T2 x2 fun T3 => r T3 x3 fun T4 =>
  some (.tuple #[numd (dig (r5N 0 0 0 0 x0 b) 0) (dig T2 0) (dig T3 0) (dig T4 0), numd (dig T4 1) (dig T4 2) (dig T4 3) (dig T4 4)])
theorem r5P_dig {T x Y : Nat} (hx : x < 18446744073709551616) : r5P (u64 (dig T 1)) (u64 (dig T 2)) (u64 (dig T 3)) (u64 (dig T 4)) (u64 x) (num Y) = true := by
 unfold r5P; rw [isU64_u64 (dig_lt _ _), isU64_u64 (dig_lt _ _), isU64_u64 (dig_lt _ _), isU64_u64 (dig_lt _ _), isU64_u64 hx, isNum_num]; rfl
theorem r5N_dig {T x Y : Nat} (hY : Y < 2 ^ 256) (hT : T / 18446744073709551616 < 2 ^ 256) : r5N (dig T 1) (dig T 2) (dig T 3) (dig T 4) x (num Y) = T / 18446744073709551616 + x * Y := by
 unfold r5N
 rw [unnum_lt hY]
 exact congrArg (· + x * Y) (hor_dig hT).symm
theorem mul5_eq {x0 x1 x2 x3 Y : Nat} (h0 : x0 < 18446744073709551616) (h1 : x1 < 18446744073709551616) (h2 : x2 < 18446744073709551616) (h3 : x3 < 18446744073709551616) (hY : Y < 2 ^ 256) :
  mul5 (num Y) x0 x1 x2 x3 = some (mulV (hor x0 x1 x2 x3) Y) := by
 have z : (0 : Nat) < 18446744073709551616 := by decide
 have p0 : r5P (u64 0) (u64 0) (u64 0) (u64 0) (u64 x0) (num Y) = true := by
  unfold r5P; rw [isU64_u64 z, isU64_u64 h0, isNum_num]; rfl
 have e1 : r5N 0 0 0 0 x0 (num Y) = x0 * Y := by unfold r5N hor; rw [unnum_lt hY]; omega
 have q0 := row_le hY h0
 have q1 := row_le hY h1
 have q2 := row_le hY h2
 have q3 := row_le hY h3
 unfold mul5
 simp only []
 have b1 : x0 * Y / 18446744073709551616 < 2 ^ 256 := by omega
 rw [req_true p0, e1, req_true (r5P_dig h1), r5N_dig hY b1]
 have b2 : (x0 * Y / 18446744073709551616 + x1 * Y) / 18446744073709551616 < 2 ^ 256 := by omega
 rw [req_true (r5P_dig h2), r5N_dig hY b2]
 have b3 : ((x0 * Y / 18446744073709551616 + x1 * Y) / 18446744073709551616 + x2 * Y) / 18446744073709551616 < 2 ^ 256 := by omega
 rw [req_true (r5P_dig h3), r5N_dig hY b3]
 have hp : hor x0 x1 x2 x3 * Y = x0 * Y + 18446744073709551616 * (x1 * Y + 18446744073709551616 * (x2 * Y + 18446744073709551616 * (x3 * Y))) := by
  unfold hor; simp only [Nat.add_mul, Nat.mul_assoc, Nat.mul_add]
 unfold mulV
 rw [hp]
 generalize x0 * Y = a0 at *
 generalize x1 * Y = a1 at *
 generalize x2 * Y = a2 at *
 generalize x3 * Y = a3 at *
 generalize hT2 : a0 / 18446744073709551616 + a1 = T2 at *
 generalize hT3 : T2 / 18446744073709551616 + a2 = T3 at *
 generalize hT4 : T3 / 18446744073709551616 + a3 = T4 at *
 have hs : a0 + 18446744073709551616 * (a1 + 18446744073709551616 * (a2 + 18446744073709551616 * a3)) = hor (dig a0 0) (dig T2 0) (dig T3 0) (dig T4 0 + 18446744073709551616 * (T4 / 18446744073709551616)) := by
  show _ = hor (a0 % 18446744073709551616) (T2 % 18446744073709551616) (T3 % 18446744073709551616) (T4 % 18446744073709551616 + 18446744073709551616 * (T4 / 18446744073709551616))
  unfold hor; omega
 have hd : (a0 + 18446744073709551616 * (a1 + 18446744073709551616 * (a2 + 18446744073709551616 * a3))) / 2 ^ 256 = T4 / 18446744073709551616 := by
  rw [<- div256]; omega
 rw [hd, hs, num_hor (dig_lt _ _) (dig_lt _ _) (dig_lt _ _) (dig_lt _ _)]
 rfl
end Go.W

namespace Go.Proofs.Ytckbmhegopjnmaa
set_option maxRecDepth 100000
open Go.W
open Go.RowKit (Below)
def Mul64C : Cfg := ⟨tab, [], 51, []⟩
theorem Mul64Ok : CfgOk Try.prog Mul64C (bodyOf Try.f98) := ⟨mixed, tabOk, sums_nil, noL⟩
theorem Mul64_ev (x y : Nat) : fnS Mul64C 60 Try.f98 (bodyOf Try.f98) [u64 x, u64 y] = Mul64T x y := by kernel_rfl
theorem Mul64_sum : Sum Try.prog 98 Mul64F := by
 refine sum_of Mul64Ok Try.func98 (by kernel_rfl) (by kernel_rfl) rfl (fuel := 60) fun args v h _ => ?_
 obtain ⟨x, y, hx, hy, rfl, rfl⟩ := argU2 (f := fun x y => mul64V (intN x) (intN y)) h
 refine ⟨by show 2 <= Try.f98.ntmps; decide +kernel, ?_, rfl⟩
 rw [Mul64_ev, Mul64T_eq hx hy]; rfl
def mulAddC : Cfg := ⟨tab, [(98, Mul64F), (99, Add64F)], 36, []⟩
theorem mulAddOk : CfgOk Try.prog mulAddC (bodyOf Try.f100) := ⟨mixed, tabOk, sums_cons Mul64_sum (sums_cons Add64_sum sums_nil), noL⟩
theorem mulAdd_ev (x y c d : Nat) : fnS mulAddC 60 Try.f100 (bodyOf Try.f100) [u64 x, u64 y, u64 c, u64 d] = mulAddT x y c d := by kernel_rfl
theorem mulAdd_sum : Sum Try.prog 100 mulAddF := by
 refine sum_of mulAddOk Try.func100 (by kernel_rfl) (by kernel_rfl) rfl (fuel := 60) fun args v h _ => ?_
 obtain ⟨x, y, c, d, hx, hy, hc, hd, rfl, rfl⟩ := argU4 (f := fun x y c d => mulAddV (intN x) (intN y) (intN c) (intN d)) h
 refine ⟨by show 4 <= Try.f100.ntmps; decide +kernel, ?_, rfl⟩
 rw [mulAdd_ev, mulAddT_eq hx hy hc hd]; rfl
def addRowC : Cfg := ⟨tab, [(100, mulAddF)], 58, []⟩
theorem addRowOk : CfgOk Try.prog addRowC (bodyOf Try.f97) := ⟨mixed, tabOk, sums_cons mulAdd_sum sums_nil, noL⟩
theorem addRow_ev (s0 s1 s2 s3 d b0 b1 b2 b3 : Nat) : fnS addRowC 60 Try.f97 (bodyOf Try.f97) [u64 s0, u64 s1, u64 s2, u64 s3, u64 d, numd b0 b1 b2 b3] = row5T s0 s1 s2 s3 d b0 b1 b2 b3 := by kernel_rfl
theorem addRow_sum : Sum Try.prog 97 row5F := by
 refine sum_of addRowOk Try.func97 (by kernel_rfl) (by kernel_rfl) rfl (fuel := 60) fun args v h _ => ?_
 unfold row5F at h
 split at h
 · simp only [Option.some.injEq, Prod.mk.injEq] at h
  obtain ⟨h1, rfl⟩ := h
  obtain ⟨x0, x1, x2, x3, y, Y, l0, l1, l2, l3, l4, l5, rfl, rfl, rfl, rfl, rfl, rfl⟩ := r5P_some h1
  obtain ⟨y0, y1, y2, y3, m0, m1, m2, m3, e3, e4⟩ := digits l5
  refine ⟨by show 6 <= Try.f97.ntmps; decide +kernel, ?_, rfl⟩
  rw [e4]
  exact (addRow_ev _ _ _ _ _ _ _ _ _).trans (row5T_eq l4 m0 m1 m2 m3 l0 l1 l2 l3)
 · simp at h
def MulC : Cfg := ⟨tab, [(97, row5F)], 76, []⟩
theorem MulOk : CfgOk Try.prog MulC (bodyOf Try.f91) := ⟨mixed, tabOk, sums_cons addRow_sum sums_nil, noL⟩
theorem Mul_ev (x0 x1 x2 x3 y0 y1 y2 y3 : Nat) : fnS MulC 60 Try.f91 (bodyOf Try.f91) [numd x0 x1 x2 x3, numd y0 y1 y2 y3] = mul5 (numd y0 y1 y2 y3) x0 x1 x2 x3 := by kernel_rfl
theorem Mul_sum : Sum Try.prog 91 MulF := by
 refine sum_of MulOk Try.func91 (by kernel_rfl) (by kernel_rfl) rfl (fuel := 60) fun args v h _ => ?_
 obtain ⟨X, Y, hX, hY, rfl, rfl⟩ := arg2 (f := fun x y => mulV (unnum x) (unnum y)) h
 obtain ⟨x0, x1, x2, x3, h0, h1, h2, h3, e1, e2⟩ := digits hX
 obtain ⟨y0, y1, y2, y3, k0, k1, k2, k3, e3, e4⟩ := digits hY
 refine ⟨by show 2 <= Try.f91.ntmps; decide +kernel, ?_, rfl⟩
 have key := mul5_eq h0 h1 h2 h3 hY
 rw [unnum_lt hX, unnum_lt hY, e2, e4]
 rw [e4, <- e1] at key
 exact (Mul_ev _ _ _ _ _ _ _ _).trans key
end Go.Proofs.Ytckbmhegopjnmaa

namespace Go.W
def bitN (X : Nat) (i : Nat) : Nat := X / 2 ^ i % 2
def bitI (X : Nat) (i : Int) : Int := if 0 <= i ∧ i <= 255 then (bitN X i.toNat : Int) else 0
def BitF : List Value -> Option (Bool × Value)
 | [x, .int .i64 i] => some (isNum x, i64 (bitI (unnum x) i))
 | _ => none
theorem digit_bit (a q r : Nat) (h : r < 64) : (a + 18446744073709551616 * q) / 2 ^ r % 2 = a / 2 ^ r % 2 := by
 have e : 18446744073709551616 * q = 2 ^ r * (2 * (2 ^ (63 - r) * q)) := by
  have : (18446744073709551616 : Nat) = 2 ^ r * (2 * 2 ^ (63 - r)) := by
   rw [show (18446744073709551616 : Nat) = 2 ^ 64 from rfl, <- Nat.pow_succ', <- Nat.pow_add]
   congr 1; omega
  rw [this]; simp only [Nat.mul_assoc]
 rw [e, Nat.add_mul_div_left _ _ (Nat.two_pow_pos r)]
 omega
theorem hor_bit {a b c d : Nat} (ha : a < 18446744073709551616) (hb : b < 18446744073709551616) (hc : c < 18446744073709551616) (q r : Nat) (hr : r < 64) (hq : q < 4) :
  bitN (hor a b c d) (64 * q + r) = (match q with | 0 => a | 1 => b | 2 => c | _ => d) / 2 ^ r % 2 := by
 unfold bitN
 rw [Nat.pow_add, <- Nat.div_div_eq_div_mul]
 match q, hq with
 | 0, _ =>
  rw [show hor a b c d / 2 ^ (64 * 0) = hor a b c d from by simp]
  exact digit_bit a _ r hr
 | 1, _ =>
  rw [show hor a b c d / 2 ^ (64 * 1) = b + 18446744073709551616 * (c + 18446744073709551616 * d) from by unfold hor; omega]
  exact digit_bit b _ r hr
 | 2, _ =>
  rw [show hor a b c d / 2 ^ (64 * 2) = c + 18446744073709551616 * d from by unfold hor; omega]
  exact digit_bit c _ r hr
 | 3, _ =>
  rw [show hor a b c d / 2 ^ (64 * 3) = d from by unfold hor; omega]
  rfl
theorem u64_bit {a r : Nat} (ha : a < 18446744073709551616) (hr : r < 64) : IntKind.i64.wrap (iAnd .u64 (iShr .u64 (a : Int) (r : Int)) 1) = ((a / 2 ^ r % 2 : Nat) : Int) := by
 rw [iShr_u a r (by omega)]
 have h1 : a / 2 ^ r < 18446744073709551616 := Nat.lt_of_le_of_lt (Nat.div_le_self _ _) ha
 have := iAnd_u (a := a / 2 ^ r) (b := 1) h1 (by omega)
 rw [show ((1 : Nat) : Int) = 1 from rfl] at this
 rw [this, Nat.and_one_is_mod, wrap_i64 (by omega)]
theorem bitI_nat {A n : Nat} (h : n <= 255) : bitI A (n : Int) = (bitN A n : Int) := by
 unfold bitI; rw [if_pos (by omega), Int.toNat_natCast]
end Go.W

namespace Go.Proofs.Ytckbmhegopjnmaa
set_option maxRecDepth 100000
open Go.W
open Go.RowKit (Below)
def bitOf (v : Value) (r : Int) : Option Value :=
 binK tab .shr 22 v (.int .i64 r) (fun u => binK tab .and 22 u (.int .u64 1) (fun z => intK z (fun _ n => some (i64 (IntKind.i64.wrap n))) none) none) none
def BitT (a0 a1 a2 a3 : Nat) (i : Int) : Option Value :=
 bif decide (i < 0) then some (i64 0) else bif decide (i > 255) then some (i64 0) else
  bif inR (IntKind.i64.wrap (i.tdiv 64)) 4 then oK ([u64 a0, u64 a1, u64 a2, u64 a3][0 + (IntKind.i64.wrap (i.tdiv 64)).toNat * 1]?) (fun v => bitOf v (i.tmod 64)) none else none
def BitC : Cfg := ⟨tab, [], 20, []⟩
theorem BitOk : CfgOk Try.prog BitC (bodyOf Try.f44) := ⟨mixed, tabOk, sums_nil, noL⟩
theorem Bit_ev (a0 a1 a2 a3 : Nat) (i : Int) : fnS BitC 60 Try.f44 (bodyOf Try.f44) [numd a0 a1 a2 a3, i64 i] = BitT a0 a1 a2 a3 i := by kernel_rfl
theorem bitOf_eq {a r : Nat} (ha : a < 18446744073709551616) (hr : r < 64) : bitOf (u64 a) (r : Int) = some (i64 ((a / 2 ^ r % 2 : Nat) : Int)) := by
 rw [<- u64_bit ha hr]
 have hn : decide ((r : Int) < 0) = false := decide_eq_false (by omega)
 unfold bitOf u64
 simp only [binK, intK, binI, hn, cond_false, decide_true, cond_true]
 rfl
theorem BitT_eq {a b c d : Nat} (ha : a < 18446744073709551616) (hb : b < 18446744073709551616) (hc : c < 18446744073709551616) (hd : d < 18446744073709551616) (i : Int) : BitT a b c d i = some (i64 (bitI (hor a b c d) i)) := by
 unfold BitT
 by_cases h0 : i < 0
 · rw [decide_eq_true h0, cond_true]
  unfold bitI; rw [if_neg (by omega)]
 · rw [decide_eq_false h0, cond_false]
  by_cases h1 : i > 255
  · rw [decide_eq_true h1, cond_true]
   unfold bitI; rw [if_neg (by omega)]
  · rw [decide_eq_false h1, cond_false]
   obtain ⟨n, rfl⟩ := Int.eq_ofNat_of_zero_le (by omega : 0 <= i)
   have e1 : (n : Int).tdiv 64 = ((n / 64 : Nat) : Int) := by rw [Int.tdiv_eq_ediv_of_nonneg (by omega)]; omega
   have e2 : (n : Int).tmod 64 = ((n % 64 : Nat) : Int) := by rw [Int.tmod_eq_emod_of_nonneg (by omega)]; omega
   have hq : n / 64 < 4 := by omega
   have hr : n % 64 < 64 := Nat.mod_lt _ (by decide)
   rw [e1, e2, wrap_i64 (by omega)]
   have hin : inR ((n / 64 : Nat) : Int) 4 = true := by simp only [inR, Bool.and_eq_true, decide_eq_true_eq]; omega
   rw [hin, cond_true, Int.toNat_natCast, bitI_nat (by omega), show n = 64 * (n / 64) + n % 64 from by omega, hor_bit ha hb hc _ _ hr hq]
   rw [<- show n = 64 * (n / 64) + n % 64 from by omega, Nat.zero_add, Nat.mul_one]
   generalize n / 64 = q at hq
   match q, hq with
   | 0, _ => exact bitOf_eq ha hr
   | 1, _ => exact bitOf_eq hb hr
   | 2, _ => exact bitOf_eq hc hr
   | 3, _ => exact bitOf_eq hd hr
theorem Bit_sum : Sum Try.prog 44 BitF := by
 refine sum_of BitOk Try.func44 (by kernel_rfl) (by kernel_rfl) rfl (fuel := 60) fun args v h _ => ?_
 unfold BitF at h
 split at h
 · simp only [Option.some.injEq, Prod.mk.injEq] at h
  obtain ⟨h1, rfl⟩ := h
  obtain ⟨X, hX, rfl⟩ := isNum_some h1
  refine ⟨by show 2 <= Try.f44.ntmps; decide +kernel, ?_, rfl⟩
  obtain ⟨x0, x1, x2, x3, h0, h1, h2, h3, e1, e2⟩ := digits hX
  rw [unnum_lt hX, e2, e1]
  exact (Bit_ev _ _ _ _ _).trans (BitT_eq h0 h1 h2 h3 _)
 · simp at h
end Go.Proofs.Ytckbmhegopjnmaa

namespace Go.W
def len8S : ByteArray := ⟨#[0, 1, 2, 2, 3, 3, 3, 3, 4, 4, 4, 4, 4, 4, 4, 4, 5, 5, 5, 5, 5, 5, 5, 5, 5, 5, 5, 5, 5, 5, 5, 5, 6, 6, 6, 6, 6, 6, 6, 6, 6, 6, 6, 6, 6, 6, 6, 6, 6, 6, 6, 6, 6, 6, 6, 6, 6, 6, 6, 6, 6, 6, 6, 6, 7, 7, 7, 7, 7, 7, 7, 7, 7, 7, 7, 7, 7, 7, 7, 7, 7, 7, 7, 7, 7, 7, 7, 7, 7, 7, 7, 7, 7, 7, 7, 7, 7, 7, 7, 7, 7, 7, 7, 7, 7, 7, 7, 7, 7, 7, 7, 7, 7, 7, 7, 7, 7, 7, 7, 7, 7, 7, 7, 7, 7, 7, 7, 7, 8, 8, 8, 8, 8, 8, 8, 8, 8, 8, 8, 8, 8, 8, 8, 8, 8, 8, 8, 8, 8, 8, 8, 8, 8, 8, 8, 8, 8, 8, 8, 8, 8, 8, 8, 8, 8, 8, 8, 8, 8, 8, 8, 8, 8, 8, 8, 8, 8, 8, 8, 8, 8, 8, 8, 8, 8, 8, 8, 8, 8, 8, 8, 8, 8, 8, 8, 8, 8, 8, 8, 8, 8, 8, 8, 8, 8, 8, 8, 8, 8, 8, 8, 8, 8, 8, 8, 8, 8, 8, 8, 8, 8, 8, 8, 8, 8, 8, 8, 8, 8, 8, 8, 8, 8, 8, 8, 8, 8, 8, 8, 8, 8, 8, 8, 8, 8, 8, 8, 8, 8, 8, 8, 8, 8, 8, 8, 8]⟩
def Len64F : List Value -> Option (Bool × Value)
 | [x] => some (isU64 x, i64 (bitLen (intN x) : Int))
 | _ => none
def l8 (x n : Int) : Option Value :=
 bif inR (IntKind.u8.wrap x) len8S.size then some (i64 (iAdd .i64 n (IntKind.i64.wrap ((len8S.data.toList.getD (IntKind.u8.wrap x).toNat 0).toNat : Int)))) else none
def s8 (x n : Int) : Option Value := bif decide (x >= 256) then l8 (iShr .u64 x 8) (iAdd .i64 n 8) else l8 x n
def s16 (x n : Int) : Option Value := bif decide (x >= 65536) then s8 (iShr .u64 x 16) (iAdd .i64 n 16) else s8 x n
def Len64T (x : Int) : Option Value := bif decide (x >= 4294967296) then s16 (iShr .u64 x 32) 32 else s16 x 0
theorem wrap_u8 (n : Int) : IntKind.u8.wrap n = n % 256 := by simp [IntKind.wrap, IntKind.bits, IntKind.signed]
theorem len8_all : ∀ j : Fin 256, (len8S.data.toList.getD j.val 0).toNat = bitLen j.val := by decide +kernel
theorem bitLen_lt {x k : Nat} (h : x < 2 ^ k) : bitLen x <= k := by
 unfold bitLen
 split
 · omega
 · rename_i h0
  have := (Nat.log2_lt h0).2 h
  omega
theorem l8_eq {x n : Nat} (hx : x < 256) (hn : n <= 1000) : l8 x n = some (i64 ((n + bitLen x : Nat) : Int)) := by
 have e1 : IntKind.u8.wrap (x : Int) = (x : Int) := by rw [wrap_u8]; omega
 have hs : len8S.size = 256 := by decide +kernel
 have hb := bitLen_lt (k := 8) (show x < 2 ^ 8 from hx)
 unfold l8
 rw [e1, hs]
 have hin : inR (x : Int) 256 = true := by simp only [inR, Bool.and_eq_true, decide_eq_true_eq]; omega
 rw [hin, cond_true, Int.toNat_natCast, len8_all ⟨x, hx⟩]
 unfold iAdd
 rw [wrap_i64 (n := ((bitLen x : Nat) : Int)) (by omega), wrap_i64 (by omega), <- Int.natCast_add]
theorem iAdd_i {a b : Nat} (h : a + b <= 100000) : iAdd .i64 a b = ((a + b : Nat) : Int) := by
 unfold iAdd; rw [wrap_i64 (by omega)]; omega
theorem s8_eq {x n : Nat} (hx : x < 65536) (hn : n <= 900) : s8 x n = some (i64 ((n + bitLen x : Nat) : Int)) := by
 unfold s8
 by_cases h : 256 <= x
 · rw [decide_eq_true (by omega), cond_true]
  have e1 := iShr_u x 8 (by omega)
  rw [show ((8 : Nat) : Int) = 8 from rfl] at e1
  have e2 := iAdd_i (a := n) (b := 8) (by omega)
  rw [show ((8 : Nat) : Int) = 8 from rfl] at e2
  rw [e1, e2, l8_eq (by omega) (by omega), bitLen_shift x 8 (by omega)]
  congr 3; omega
 · rw [decide_eq_false (by omega), cond_false, l8_eq (by omega) (by omega)]
theorem s16_eq {x n : Nat} (hx : x < 4294967296) (hn : n <= 800) : s16 x n = some (i64 ((n + bitLen x : Nat) : Int)) := by
 unfold s16
 by_cases h : 65536 <= x
 · rw [decide_eq_true (by omega), cond_true]
  have e1 := iShr_u x 16 (by omega)
  rw [show ((16 : Nat) : Int) = 16 from rfl] at e1
  have e2 := iAdd_i (a := n) (b := 16) (by omega)
  rw [show ((16 : Nat) : Int) = 16 from rfl] at e2
  rw [e1, e2, s8_eq (by omega) (by omega), bitLen_shift x 16 (by omega)]
  congr 3; omega
 · rw [decide_eq_false (by omega), cond_false, s8_eq (by omega) (by omega)]
theorem Len64T_eq {x : Nat} (hx : x < 18446744073709551616) : Len64T x = some (i64 (bitLen x : Int)) := by
 unfold Len64T
 by_cases h : 4294967296 <= x
 · rw [decide_eq_true (by omega), cond_true]
  have e1 := iShr_u x 32 (by omega)
  rw [show ((32 : Nat) : Int) = 32 from rfl] at e1
  have e3 := s16_eq (x := x / 2 ^ 32) (n := 32) (by omega) (by omega)
  rw [show ((32 : Nat) : Int) = 32 from rfl] at e3
  rw [e1, e3, bitLen_shift x 32 (by omega)]
 · have e3 := s16_eq (x := x) (n := 0) (by omega) (by omega)
  rw [show ((0 : Nat) : Int) = 0 from rfl] at e3
  rw [decide_eq_false (by omega), cond_false, e3, Nat.zero_add]
def LenF : List Value -> Option (Bool × Value)
 | [x] => some (isNum x, i64 (bitLen (unnum x) : Int))
 | _ => none
def lenD (a : Nat) (q : Int) (k : Option Value) : Option Value :=
 bif (a : Int) != 0 then req (isU64 (u64 a)) (some (i64 (iAdd .i64 (iMul .i64 64 q) (bitLen a : Int)))) else k
def LenT (a b c d : Nat) : Option Value := lenD d 3 (lenD c 2 (lenD b 1 (lenD a 0 (some (i64 0)))))
theorem lenD_zero (q : Int) (k : Option Value) : lenD 0 q k = k := rfl
theorem lenD_pos {a : Nat} (h : a ≠ 0) (ha : a < 18446744073709551616) (q : Nat) (hq : q <= 3) (k : Option Value) : lenD a (q : Int) k = some (i64 ((64 * q + bitLen a : Nat) : Int)) := by
 unfold lenD
 have : ((a : Int) != 0) = true := by rw [bne_iff_ne]; omega
 have hb := bitLen_lt (k := 64) (show a < 2 ^ 64 from ha)
 rw [this, cond_true, isU64_u64 ha, req_true rfl]
 unfold iAdd iMul
 rw [wrap_i64 (n := 64 * (q : Int)) (by omega), wrap_i64 (by omega)]
 congr 2
theorem bitLen_hi {a q k : Nat} (ha : a < 2 ^ k) (hq : q ≠ 0) : bitLen (a + 2 ^ k * q) = k + bitLen q := by
 have hd : (a + 2 ^ k * q) / 2 ^ k = q := by rw [Nat.add_mul_div_left _ _ (Nat.two_pow_pos k), Nat.div_eq_of_lt ha, Nat.zero_add]
 rw [bitLen_shift _ k (by rw [hd]; exact hq), hd]
theorem LenT_eq {a b c d : Nat} (ha : a < 18446744073709551616) (hb : b < 18446744073709551616) (hc : c < 18446744073709551616) (hd : d < 18446744073709551616) : LenT a b c d = some (i64 (bitLen (hor a b c d) : Int)) := by
 unfold LenT hor
 by_cases h3 : d = 0
 · subst h3
  rw [lenD_zero]
  by_cases h2 : c = 0
  · subst h2
   rw [lenD_zero]
   by_cases h1 : b = 0
   · subst h1
    rw [lenD_zero]
    by_cases h0 : a = 0
    · subst h0; rfl
    · have := lenD_pos h0 ha 0 (by omega) (some (i64 0))
     rw [show ((0 : Nat) : Int) = 0 from rfl] at this
     rw [this]; simp
   · have := lenD_pos h1 hb 1 (by omega) (lenD a 0 (some (i64 0)))
    rw [show ((1 : Nat) : Int) = 1 from rfl] at this
    have e := bitLen_hi (a := a) (k := 64) (q := b) ha h1
    rw [this, show a + 18446744073709551616 * (b + 18446744073709551616 * (0 + 18446744073709551616 * 0)) = a + 2 ^ 64 * b from by omega, e]
  · have := lenD_pos h2 hc 2 (by omega) (lenD b 1 (lenD a 0 (some (i64 0))))
   rw [show ((2 : Nat) : Int) = 2 from rfl] at this
   have e := bitLen_hi (a := a + 18446744073709551616 * b) (k := 128) (q := c) (by omega) h2
   rw [this, show a + 18446744073709551616 * (b + 18446744073709551616 * (c + 18446744073709551616 * 0)) = a + 18446744073709551616 * b + 2 ^ 128 * c from by omega, e]
 · have := lenD_pos h3 hd 3 (by omega) (lenD c 2 (lenD b 1 (lenD a 0 (some (i64 0)))))
  rw [show ((3 : Nat) : Int) = 3 from rfl] at this
  have e := bitLen_hi (a := a + 18446744073709551616 * (b + 18446744073709551616 * c)) (k := 192) (q := d) (by omega) h3
  rw [this, show a + 18446744073709551616 * (b + 18446744073709551616 * (c + 18446744073709551616 * d)) = a + 18446744073709551616 * (b + 18446744073709551616 * c) + 2 ^ 192 * d from by omega, e]
def u8 (x : Nat) : Value := .int .u8 (x : Int)
def isU8 : Value -> Bool
 | .int .u8 x => decide (0 <= x) && Nat.ble x.toNat 255
 | _ => false
def isB32 (v : Value) : Bool := aggK v (fun l => Nat.beq l.length 32 && l.all isU8) false
def bytesL : Nat -> Nat -> List Value
 | 0, _ => []
 | n + 1, X => bytesL n (X / 256) ++ [u8 (X % 256)]
def bytesV (X : Nat) : Value := .agg (bytesL 32 X).toArray
def unBy (l : List Value) : Nat := l.foldl (fun a v => a * 256 + intN v) 0
def unbytes (v : Value) : Nat := unBy v.cells.toList
def BytesF : List Value -> Option (Bool × Value)
 | [x] => some (isNum x, bytesV (unnum x))
 | _ => none
def OfF : List Value -> Option (Bool × Value)
 | [b] => some (isB32 b, num (unbytes b))
 | _ => none
theorem bytesL_len : ∀ (n X : Nat), (bytesL n X).length = n
 | 0, _ => rfl
 | n + 1, X => by simp [bytesL, bytesL_len n]
theorem bytesL_u8 : ∀ (n X : Nat), (bytesL n X).all isU8 = true
 | 0, _ => rfl
 | n + 1, X => by
  simp only [bytesL, List.all_append, bytesL_u8 n, List.all_cons, List.all_nil, Bool.and_true, Bool.true_and]
  show (decide ((0 : Int) <= ((X % 256 : Nat) : Int)) && Nat.ble (X % 256) 255) = true
  rw [Bool.and_eq_true, Nat.ble_eq]
  exact ⟨decide_eq_true (by omega), by omega⟩
theorem isB32_of {l : List Value} (hl : l.length = 32) (h : l.all isU8 = true) : isB32 (.agg l.toArray) = true := by
 unfold isB32 aggK
 simp only [h, hl, Bool.and_true]
 rfl
theorem isB32_bytesV (X : Nat) : isB32 (bytesV X) = true := isB32_of (bytesL_len 32 X) (bytesL_u8 32 X)
theorem unBy_bytesL : ∀ (n X acc : Nat), (bytesL n X).foldl (fun a v => a * 256 + intN v) acc = acc * 256 ^ n + X % 256 ^ n
 | 0, X, acc => by simp [bytesL, Nat.mod_one]
 | n + 1, X, acc => by
  simp only [bytesL, List.foldl_append, List.foldl_cons, List.foldl_nil, unBy_bytesL n (X / 256) acc]
  show (acc * 256 ^ n + X / 256 % 256 ^ n) * 256 + X % 256 = _
  rw [Nat.pow_succ, Nat.mul_comm (256 ^ n) 256, Nat.mod_mul, Nat.add_mul]
  have : acc * 256 ^ n * 256 = acc * (256 * 256 ^ n) := by rw [Nat.mul_assoc, Nat.mul_comm (256 ^ n)]
  rw [this]; omega
theorem unbytes_agg (l : List Value) : unbytes (.agg l.toArray) = unBy l := by simp [unbytes, Value.cells]
theorem p256 : (256 : Nat) ^ 32 = 2 ^ 256 := by decide
theorem unbytes_bytesV (X : Nat) : unbytes (bytesV X) = X % 2 ^ 256 := by
 unfold bytesV
 rw [unbytes_agg]
 unfold unBy
 rw [unBy_bytesL, Nat.zero_mul, Nat.zero_add, p256]
theorem isU8_some {v : Value} (h : isU8 v = true) : ∃ x, x < 256 ∧ v = u8 x := by
 unfold isU8 at h
 split at h
 · rename_i x
  simp only [Bool.and_eq_true, decide_eq_true_eq, Nat.ble_eq] at h
  exact ⟨x.toNat, by omega, by simp [u8]; omega⟩
 · simp at h
theorem bytesL_unByy : ∀ (l : List Value), l.all isU8 = true -> bytesL l.length (unBy l) = l := by
 intro l
 -- from behind
 have key : ∀ (m : List Value), m.all isU8 = true -> bytesL m.reverse.length (unBy m.reverse) = m.reverse := by
  intro m
  induction m with
  | nil => intro _; rfl
  | cons v m ih =>
   intro h
   simp only [List.all_cons, Bool.and_eq_true] at h
   obtain ⟨x, hx, rfl⟩ := isU8_some h.1
   have ih := ih h.2
   have e1 : unBy (m.reverse ++ [u8 x]) = unBy m.reverse * 256 + x := by
    unfold unBy; rw [List.foldl_append]; rfl
   rw [List.reverse_cons, List.length_append, e1]
   show bytesL m.reverse.length ((unBy m.reverse * 256 + x) / 256) ++ [u8 ((unBy m.reverse * 256 + x) % 256)] = _
   rw [show (unBy m.reverse * 256 + x) / 256 = unBy m.reverse from by omega, show (unBy m.reverse * 256 + x) % 256 = x from by omega, ih]
 intro h
 have := key l.reverse (by rw [List.all_reverse]; exact h)
 rwa [List.reverse_reverse] at this
theorem unBy_lt : ∀ (l : List Value), l.all isU8 = true -> unBy l < 256 ^ l.length := by
 intro l h
 have e := bytesL_unByy l h
 have := unBy_bytesL l.length (unBy l) 0
 rw [Nat.zero_mul, Nat.zero_add, e] at this
 have hp : 0 < 256 ^ l.length := Nat.pow_pos (by decide)
 have hm := Nat.mod_lt (unBy l) hp
 rw [<- this] at hm
 exact hm
theorem isB32_some {v : Value} (h : isB32 v = true) : ∃ X, X < 2 ^ 256 ∧ v = bytesV X ∧ unbytes v = X := by
 unfold isB32 aggK at h
 split at h
 · rename_i cs
  simp only [Bool.and_eq_true] at h
  have hl := nbeq.1 h.1
  refine ⟨unBy cs.toList, ?_, ?_, rfl⟩
  · have := unBy_lt cs.toList h.2
   rwa [hl, p256] at this
  · have := bytesL_unByy cs.toList h.2
   rw [hl] at this
   unfold bytesV
   rw [this]
 · simp at h
theorem bytesL_split : ∀ (m n X : Nat), bytesL (n + m) X = bytesL n (X / 256 ^ m) ++ bytesL m X
 | 0, n, X => by simp [bytesL]
 | m + 1, n, X => by
  show bytesL (n + m) (X / 256) ++ [u8 (X % 256)] = _
  rw [bytesL_split m n (X / 256), List.append_assoc, Nat.pow_succ, Nat.mul_comm, <- Nat.div_div_eq_div_mul]
  rfl
theorem bytesL_mod : ∀ (m X Q : Nat), bytesL m (X + 256 ^ m * Q) = bytesL m X
 | 0, _, _ => rfl
 | m + 1, X, Q => by
  show bytesL m ((X + 256 ^ (m + 1) * Q) / 256) ++ [u8 ((X + 256 ^ (m + 1) * Q) % 256)] = _
  have e : 256 ^ (m + 1) * Q = 256 * (256 ^ m * Q) := by rw [Nat.pow_succ, Nat.mul_comm (256 ^ m), Nat.mul_assoc]
  rw [e, Nat.add_mul_div_left _ _ (by decide), Nat.add_mul_mod_self_left, bytesL_mod m (X / 256) Q]
  rfl
theorem bytesL_hor {a b c d : Nat} (ha : a < 18446744073709551616) (hb : b < 18446744073709551616) (hc : c < 18446744073709551616) : bytesL 32 (hor a b c d) = bytesL 8 d ++ (bytesL 8 c ++ (bytesL 8 b ++ bytesL 8 a)) := by
 have p8 : (256 : Nat) ^ 8 = 18446744073709551616 := by decide
 have s : ∀ n x q, x < 18446744073709551616 -> bytesL (n + 8) (x + 18446744073709551616 * q) = bytesL n q ++ bytesL 8 x := by
  intro n x q hx
  have e2 := bytesL_mod 8 x q
  rw [p8] at e2
  rw [bytesL_split 8 n, p8, e2, show (x + 18446744073709551616 * q) / 18446744073709551616 = q from by omega]
 unfold hor
 rw [show (32 : Nat) = 24 + 8 from rfl, s 24 a _ ha, show (24 : Nat) = 16 + 8 from rfl, s 16 b _ hb, show (16 : Nat) = 8 + 8 from rfl, s 8 c _ hc]
 simp only [List.append_assoc]
def by8 (a : Int) (s : Int) : Value := .int .u8 (IntKind.u8.wrap (iShr .u64 a s))
theorem by8_eq (a s : Nat) (hs : s <= 64) : by8 (a : Int) (s : Int) = u8 (a / 2 ^ s % 256) := by
 unfold by8 u8; rw [iShr_u a s hs, wrap_u8]; congr 1
def dig8 (a : Int) : List Value := [by8 a 56, by8 a 48, by8 a 40, by8 a 32, by8 a 24, by8 a 16, by8 a 8, by8 a 0]
theorem dig8_eq (a : Nat) : dig8 (a : Int) = bytesL 8 a := by
 have e : bytesL 8 a = [u8 (a / 2 ^ 56 % 256), u8 (a / 2 ^ 48 % 256), u8 (a / 2 ^ 40 % 256), u8 (a / 2 ^ 32 % 256), u8 (a / 2 ^ 24 % 256), u8 (a / 2 ^ 16 % 256), u8 (a / 2 ^ 8 % 256), u8 (a / 2 ^ 0 % 256)] := by
  simp only [bytesL, List.nil_append, List.cons_append, Nat.div_div_eq_div_mul, Nat.pow_zero, Nat.div_one]
 rw [e]
 unfold dig8
 rw [<- by8_eq a 56 (by omega), <- by8_eq a 48 (by omega), <- by8_eq a 40 (by omega), <- by8_eq a 32 (by omega), <- by8_eq a 24 (by omega), <- by8_eq a 16 (by omega), <- by8_eq a 8 (by omega), <- by8_eq a 0 (by omega)]
 rfl
def BytesT (a b c d : Nat) : Option Value := some (.agg (dig8 d ++ (dig8 c ++ (dig8 b ++ dig8 a))).toArray)
theorem BytesT_eq {a b c d : Nat} (ha : a < 18446744073709551616) (hb : b < 18446744073709551616) (hc : c < 18446744073709551616) : BytesT a b c d = some (bytesV (hor a b c d)) := by
 unfold BytesT bytesV
 rw [dig8_eq, dig8_eq, dig8_eq, dig8_eq, bytesL_hor ha hb hc]
def or8 (acc : Int) (x : Nat) (s : Int) : Int := iOr .u64 acc (iShl .u64 (IntKind.u64.wrap (x : Int)) s)
def of8 (x0 x1 x2 x3 x4 x5 x6 x7 : Nat) : Int := or8 (or8 (or8 (or8 (or8 (or8 (or8 (or8 0 x0 56) x1 48) x2 40) x3 32) x4 24) x5 16) x6 8) x7 0
theorem or8_eq {A x s : Nat} (hs : s <= 56) (hA : A * 2 ^ (s + 8) < 18446744073709551616) (hx : x < 256) : or8 ((A * 2 ^ (s + 8) : Nat) : Int) x (s : Int) = (((A * 256 + x) * 2 ^ s : Nat) : Int) := by
 unfold or8
 have hsm : x * 2 ^ s < 2 ^ (s + 8) := by rw [Nat.pow_add, Nat.mul_comm]; exact Nat.mul_lt_mul_of_pos_left (by omega) (Nat.two_pow_pos s)
 have hle : (2 : Nat) ^ (s + 8) <= 18446744073709551616 := by rw [show (18446744073709551616 : Nat) = 2 ^ 64 from by decide]; exact Nat.pow_le_pow_right (by decide) (by omega)
 have e1 : IntKind.u64.wrap (x : Int) = (x : Int) := by rw [wrap_u64]; omega
 have e2 : iShl .u64 (x : Int) (s : Int) = ((x * 2 ^ s : Nat) : Int) := by
  unfold iShl
  have : min (s : Int).toNat IntKind.u64.bits = s := by show min s 64 = s; omega
  rw [this, wrap_u64]
  have e : ((x : Int) * 2 ^ s) = ((x * 2 ^ s : Nat) : Int) := by simp
  rw [e]; omega
 rw [e1, e2, iOr_u hA (by omega)]
 have := Nat.shiftLeft_add_eq_or_of_lt (b := x * 2 ^ s) (i := s + 8) hsm A
 rw [Nat.shiftLeft_eq] at this
 rw [<- this, Nat.pow_add, Nat.add_mul, Nat.mul_assoc, Nat.mul_comm 256]
theorem of8_eq {x0 x1 x2 x3 x4 x5 x6 x7 : Nat} (h0 : x0 < 256) (h1 : x1 < 256) (h2 : x2 < 256) (h3 : x3 < 256) (h4 : x4 < 256) (h5 : x5 < 256) (h6 : x6 < 256) (h7 : x7 < 256) :
  of8 x0 x1 x2 x3 x4 x5 x6 x7 = ((((((((((x0 * 256 + x1) * 256 + x2) * 256 + x3) * 256 + x4) * 256 + x5) * 256 + x6) * 256 + x7) : Nat) : Int)) := by
 unfold of8
 have f0 := or8_eq (A := 0) (x := x0) (s := 56) (by omega) (by rw [Nat.zero_mul]; decide) h0
 rw [Nat.zero_mul, Nat.zero_add] at f0
 have f1 := or8_eq (A := x0) (x := x1) (s := 48) (by omega) (by omega) h1
 rw [show ((48 : Nat) : Int) = 48 from rfl, show 48 + 8 = 56 from rfl] at f1
 have f2 := or8_eq (A := x0 * 256 + x1) (x := x2) (s := 40) (by omega) (by omega) h2
 rw [show ((40 : Nat) : Int) = 40 from rfl, show 40 + 8 = 48 from rfl] at f2
 have f3 := or8_eq (A := (x0 * 256 + x1) * 256 + x2) (x := x3) (s := 32) (by omega) (by omega) h3
 rw [show ((32 : Nat) : Int) = 32 from rfl, show 32 + 8 = 40 from rfl] at f3
 have f4 := or8_eq (A := ((x0 * 256 + x1) * 256 + x2) * 256 + x3) (x := x4) (s := 24) (by omega) (by omega) h4
 rw [show ((24 : Nat) : Int) = 24 from rfl, show 24 + 8 = 32 from rfl] at f4
 have f5 := or8_eq (A := (((x0 * 256 + x1) * 256 + x2) * 256 + x3) * 256 + x4) (x := x5) (s := 16) (by omega) (by omega) h5
 rw [show ((16 : Nat) : Int) = 16 from rfl, show 16 + 8 = 24 from rfl] at f5
 have f6 := or8_eq (A := ((((x0 * 256 + x1) * 256 + x2) * 256 + x3) * 256 + x4) * 256 + x5) (x := x6) (s := 8) (by omega) (by omega) h6
 rw [show ((8 : Nat) : Int) = 8 from rfl, show 8 + 8 = 16 from rfl] at f6
 have f7 := or8_eq (A := (((((x0 * 256 + x1) * 256 + x2) * 256 + x3) * 256 + x4) * 256 + x5) * 256 + x6) (x := x7) (s := 0) (by omega) (by omega) h7
 rw [show ((0 : Nat) : Int) = 0 from rfl, show 0 + 8 = 8 from rfl, Nat.pow_zero, Nat.mul_one] at f7
 have f0' : or8 0 x0 56 = ((x0 * 2 ^ 56 : Nat) : Int) := f0
 rw [f0', f1, f2, f3, f4, f5, f6, f7]
end Go.W

namespace Go.Proofs.Ytckbmhegopjnmaa
set_option maxRecDepth 100000
open Go.W
open Go.RowKit (Below)
def Len64C : Cfg := ⟨tab, [], 25, []⟩
theorem Len64Ok : CfgOk Try.prog Len64C (bodyOf Try.f62) := ⟨mixed, tabOk, sums_nil, noL⟩
theorem Len64_ev (x : Nat) : fnS Len64C 60 Try.f62 (bodyOf Try.f62) [u64 x] = Len64T x := by kernel_rfl
theorem Len64_sum : Sum Try.prog 62 Len64F := by
 refine sum_of Len64Ok Try.func62 (by kernel_rfl) (by kernel_rfl) rfl (fuel := 60) fun args v h _ => ?_
 unfold Len64F at h
 split at h
 · simp only [Option.some.injEq, Prod.mk.injEq] at h
  obtain ⟨h1, rfl⟩ := h
  obtain ⟨x, hx, rfl⟩ := isU64_some h1
  exact ⟨by show 1 <= Try.f62.ntmps; decide +kernel, (Len64_ev x).trans (Len64T_eq hx), rfl⟩
 · simp at h
def LenC : Cfg := ⟨tab, [(62, Len64F)], 19, []⟩
theorem LenOk : CfgOk Try.prog LenC (bodyOf Try.f42) := ⟨mixed, tabOk, sums_cons Len64_sum sums_nil, noL⟩
theorem Len_ev (a b c d : Nat) : fnS LenC 60 Try.f42 (bodyOf Try.f42) [numd a b c d] = LenT a b c d := by kernel_rfl
theorem Len_sum : Sum Try.prog 42 LenF := by
 refine sum_of LenOk Try.func42 (by kernel_rfl) (by kernel_rfl) rfl (fuel := 60) fun args v h _ => ?_
 obtain ⟨X, hX, rfl, rfl⟩ := arg1 (f := fun x => i64 (bitLen (unnum x) : Int)) h
 refine ⟨by show 1 <= Try.f42.ntmps; decide +kernel, ?_, rfl⟩
 obtain ⟨a, b, c, d, h0, h1, h2, h3, e1, e2⟩ := digits hX
 rw [unnum_lt hX, e2, Len_ev, LenT_eq h0 h1 h2 h3, e1]
def BytesC : Cfg := ⟨tab, [], 24, []⟩
theorem BytesOk : CfgOk Try.prog BytesC (bodyOf Try.f49) := ⟨mixed, tabOk, sums_nil, noL⟩
theorem Bytes_ev (a b c d : Nat) : fnS BytesC 100 Try.f49 (bodyOf Try.f49) [numd a b c d] = BytesT a b c d := by kernel_rfl
theorem Bytes_sum : Sum Try.prog 49 BytesF := by
 refine sum_of BytesOk Try.func49 (by kernel_rfl) (by kernel_rfl) rfl (fuel := 100) fun args v h _ => ?_
 obtain ⟨X, hX, rfl, rfl⟩ := arg1 (f := fun x => bytesV (unnum x)) h
 refine ⟨by show 1 <= Try.f49.ntmps; decide +kernel, ?_, by kernel_rfl⟩
 obtain ⟨a, b, c, d, h0, h1, h2, h3, e1, e2⟩ := digits hX
 rw [unnum_lt hX, e2, Bytes_ev, BytesT_eq h0 h1 h2, e1]
end Go.Proofs.Ytckbmhegopjnmaa

namespace Go.W
def aS (x y : Value) : Value := num (unnum x + unnum y)
def aC (x y : Value) : Nat := (unnum x + unnum y) / 2 ^ 256
def mL (x y : Value) : Value := num (unnum x * unnum y)
def mH (x y : Value) : Value := num (unnum x * unnum y / 2 ^ 256)
def one (c : Nat) : Value := .agg #[u64 c, u64 0, u64 0, u64 0]
def r2 {α : Type} (x y : Value) (k : Option α) : Option α := req (isNum x && isNum y) k
def eqV (x y : Value) : Bool := eqL x.cells.toList y.cells.toList
def fls : Option Value := some (.bool false)
theorem r2_num {α : Type} (X Y : Nat) (k : Option α) : r2 (num X) (num Y) k = k := by unfold r2; rw [isNum_num, isNum_num, req_true (b := true && true) rfl]
theorem aS_num (X Y : Nat) : aS (num X) (num Y) = num (X + Y) := by
 unfold aS; rw [unnum_num, unnum_num, <- num_mod (X + Y), Nat.add_mod, num_mod]
theorem mL_num (X Y : Nat) : mL (num X) (num Y) = num (X * Y) := by
 unfold mL; rw [unnum_num, unnum_num, <- num_mod (X * Y), Nat.mul_mod, num_mod]
theorem mH_num {X Y : Nat} (hX : X < 2 ^ 256) (hY : Y < 2 ^ 256) : mH (num X) (num Y) = num (X * Y / 2 ^ 256) := by
 unfold mH; rw [unnum_lt hX, unnum_lt hY]
theorem aC_num (X Y : Nat) : aC (num X) (num Y) = (X % 2 ^ 256 + Y % 2 ^ 256) / 2 ^ 256 := by
 unfold aC; rw [unnum_num, unnum_num]
theorem one_num {c : Nat} (h : c < 18446744073709551616) : one c = num c := by
 have := num_hor h (show 0 < 18446744073709551616 by decide) (show 0 < 18446744073709551616 by decide) (show 0 < 18446744073709551616 by decide) 0
 rw [show hor c 0 0 (0 + 18446744073709551616 * 0) = c from by unfold hor; omega] at this
 rw [this]; rfl
theorem aC_lt (X Y : Nat) : aC (num X) (num Y) < 18446744073709551616 := by
 rw [aC_num]; omega
theorem eqV_num (X Y : Nat) : eqV (num X) (num Y) = decide (X % 2 ^ 256 = Y % 2 ^ 256) := eq_num X Y
end Go.W

namespace Go.W
def sD (x y : Value) : Value := num (2 ^ 256 + unnum x - unnum y)
def sB (x y : Value) : Nat := if unnum x < unnum y then 1 else 0
def cI (x y : Value) : Int := cmpI (unnum x) (unnum y)
theorem cI_num {X Y : Nat} (hX : X < 2 ^ 256) (hY : Y < 2 ^ 256) : cI (num X) (num Y) = cmpI X Y := by unfold cI; rw [unnum_lt hX, unnum_lt hY]
theorem sB_num (X Y : Nat) : sB (num X) (num Y) = if X % 2 ^ 256 < Y % 2 ^ 256 then 1 else 0 := by unfold sB; rw [unnum_num, unnum_num]
theorem sD_num (X Y : Nat) : sD (num X) (num Y) = num (2 ^ 256 + X % 2 ^ 256 - Y % 2 ^ 256) := by unfold sD; rw [unnum_num, unnum_num]
def r3 {α : Type} (x y z : Value) (k : Option α) : Option α := req (isNum x && isNum y && isNum z) k
end Go.W

namespace Go.W
open Go.RowKit (Below)
section
variable {P : Program} {H : Type} {enc : TypeId × Value -> H} {W : World} {base b0 : Nat} {sp : Nat -> Bool} {held : Bool} {r : Reach} {t e : TypeId} {n : Nat} {k : IntKind} {v : Value} {d : DataW H} {p : List MemPlace}
theorem wf_u64 {x : Int} (h : (Lit.int .u64 x).wf = true) : ∃ n : Nat, n < 18446744073709551616 ∧ x = n := by
 have : 0 <= x ∧ x <= 18446744073709551615 := by simpa [Lit.wf, IntKind.has, IntKind.min, IntKind.max, IntKind.signed, IntKind.bits] using h
 exact ⟨x.toNat, by omega, by omega⟩
end
end Go.W

namespace Go.W
open Go.RowKit (Below)
section
variable {P : Program} {H : Type} {enc : TypeId × Value -> H} {W : World} {base b0 : Nat} {sp : Nat -> Bool} {held : Bool} {r : Reach} {t e : TypeId} {v : Value} {d : DataW H} {p : List MemPlace}
end
def OfT (a0 a1 a2 a3 a4 a5 a6 a7 b0 b1 b2 b3 b4 b5 b6 b7 c0 c1 c2 c3 c4 c5 c6 c7 d0 d1 d2 d3 d4 d5 d6 d7 : Nat) : Option Value :=
 some (.agg #[.int .u64 (of8 d0 d1 d2 d3 d4 d5 d6 d7), .int .u64 (of8 c0 c1 c2 c3 c4 c5 c6 c7), .int .u64 (of8 b0 b1 b2 b3 b4 b5 b6 b7), .int .u64 (of8 a0 a1 a2 a3 a4 a5 a6 a7)])
def by32 (a0 a1 a2 a3 a4 a5 a6 a7 b0 b1 b2 b3 b4 b5 b6 b7 c0 c1 c2 c3 c4 c5 c6 c7 d0 d1 d2 d3 d4 d5 d6 d7 : Nat) : Value :=
 .agg #[u8 a0, u8 a1, u8 a2, u8 a3, u8 a4, u8 a5, u8 a6, u8 a7, u8 b0, u8 b1, u8 b2, u8 b3, u8 b4, u8 b5, u8 b6, u8 b7, u8 c0, u8 c1, u8 c2, u8 c3, u8 c4, u8 c5, u8 c6, u8 c7, u8 d0, u8 d1, u8 d2, u8 d3, u8 d4, u8 d5, u8 d6, u8 d7]
theorem bytes8 (a : Nat) : bytesL 8 a = [u8 (a / 2 ^ 56 % 256), u8 (a / 2 ^ 48 % 256), u8 (a / 2 ^ 40 % 256), u8 (a / 2 ^ 32 % 256), u8 (a / 2 ^ 24 % 256), u8 (a / 2 ^ 16 % 256), u8 (a / 2 ^ 8 % 256), u8 (a % 256)] := by
 simp only [bytesL, List.nil_append, List.cons_append, Nat.div_div_eq_div_mul]
theorem of8_dig {a : Nat} (h : a < 18446744073709551616) : of8 (a / 2 ^ 56 % 256) (a / 2 ^ 48 % 256) (a / 2 ^ 40 % 256) (a / 2 ^ 32 % 256) (a / 2 ^ 24 % 256) (a / 2 ^ 16 % 256) (a / 2 ^ 8 % 256) (a % 256) = (a : Int) := by
 rw [of8_eq (Nat.mod_lt _ (by decide)) (Nat.mod_lt _ (by decide)) (Nat.mod_lt _ (by decide)) (Nat.mod_lt _ (by decide)) (Nat.mod_lt _ (by decide)) (Nat.mod_lt _ (by decide)) (Nat.mod_lt _ (by decide)) (Nat.mod_lt _ (by decide))]
 congr 1
 omega
theorem bytesV_by32 {a b c d : Nat} (ha : a < 18446744073709551616) (hb : b < 18446744073709551616) (hc : c < 18446744073709551616) : bytesV (hor a b c d) =
  by32 (d / 2 ^ 56 % 256) (d / 2 ^ 48 % 256) (d / 2 ^ 40 % 256) (d / 2 ^ 32 % 256) (d / 2 ^ 24 % 256) (d / 2 ^ 16 % 256) (d / 2 ^ 8 % 256) (d % 256)
   (c / 2 ^ 56 % 256) (c / 2 ^ 48 % 256) (c / 2 ^ 40 % 256) (c / 2 ^ 32 % 256) (c / 2 ^ 24 % 256) (c / 2 ^ 16 % 256) (c / 2 ^ 8 % 256) (c % 256)
   (b / 2 ^ 56 % 256) (b / 2 ^ 48 % 256) (b / 2 ^ 40 % 256) (b / 2 ^ 32 % 256) (b / 2 ^ 24 % 256) (b / 2 ^ 16 % 256) (b / 2 ^ 8 % 256) (b % 256)
   (a / 2 ^ 56 % 256) (a / 2 ^ 48 % 256) (a / 2 ^ 40 % 256) (a / 2 ^ 32 % 256) (a / 2 ^ 24 % 256) (a / 2 ^ 16 % 256) (a / 2 ^ 8 % 256) (a % 256) := by
 unfold bytesV by32
 rw [bytesL_hor ha hb hc, bytes8, bytes8, bytes8, bytes8]
 rfl
end Go.W

namespace Go.W
def pwI (k : Int) : Int := IntKind.i64.wrap (k.tdiv 64)
def pwR (k : Int) : Int := IntKind.u64.wrap (k.tmod 64)
def pwC (k : Int) : List Value := ([u64 0, u64 0, u64 0, u64 0] : List Value).set (0 + (pwI k).toNat * 1) (.int .u64 (iShl .u64 1 (pwR k)))
def cells4 (X : Nat) : List Value := [u64 (dig X 0), u64 (dig X 1), u64 (dig X 2), u64 (dig X 3)]
end Go.W

namespace Go.W
def Prim (p : Nat) : Prop := 1 < p ∧ ∀ d, d ∣ p -> d = 1 ∨ d = p
def powF : Nat -> Nat -> Nat -> Nat -> Nat
 | 0, _, _, m => 1 % m
 | f + 1, b, e, m => bif Nat.beq (e % 2) 1 then b * powF f (b * b % m) (e / 2) m % m else powF f (b * b % m) (e / 2) m
theorem powF_eq : ∀ (f b e m : Nat), e < 2 ^ f -> powF f b e m = b ^ e % m
 | 0, b, e, m, h => by
  have : e = 0 := by simpa using h
  subst this; rfl
 | f + 1, b, e, m, h => by
  have he : e / 2 < 2 ^ f := by rw [Nat.pow_succ] at h; omega
  have ih := powF_eq f (b * b % m) (e / 2) m he
  have hsq : (b * b % m) ^ (e / 2) % m = b ^ (2 * (e / 2)) % m := by rw [<- Nat.pow_mod, Nat.pow_mul]; congr 2; exact (Nat.pow_two b).symm
  unfold powF
  rw [ih, hsq]
  rcases Nat.mod_two_eq_zero_or_one e with h0 | h1
  · rw [h0]
   show b ^ (2 * (e / 2)) % m = _
   rw [show 2 * (e / 2) = e from by omega]
  · rw [h1]
   show b * (b ^ (2 * (e / 2)) % m) % m = _
   rw [Nat.mul_mod, Nat.mod_mod, <- Nat.mul_mod, <- Nat.pow_succ', show (2 * (e / 2)).succ = e from by omega]
def triB : Nat -> Nat -> Bool
 | 0, _ => true
 | k + 1, p => (Nat.ble (k + 1) 1 || !(Nat.beq (p % (k + 1)) 0)) && triB k p
theorem triB_at : ∀ (k p : Nat), triB k p = true -> ∀ d, 2 <= d -> d <= k -> p % d ≠ 0
 | 0, _, _, d, h1, h2 => by omega
 | k + 1, p, h, d, h1, h2 => by
  simp only [triB, Bool.and_eq_true, Bool.or_eq_true, Nat.ble_eq, Bool.not_eq_true'] at h
  rcases Nat.lt_or_ge d (k + 1) with h3 | h3
  · exact triB_at k p h.2 d h1 (by omega)
  · have : d = k + 1 := by omega
   subst this
   rcases h.1 with h4 | h4
   · omega
   · intro h5
    rw [h5] at h4
    simp at h4
theorem prim_tri {k p : Nat} (h1 : 1 < p) (h : triB k p = true) (hk : p < (k + 1) * (k + 1)) : Prim p := by
 refine ⟨h1, fun d hd => ?_⟩
 obtain ⟨e, rfl⟩ := hd
 have hd0 : d ≠ 0 := by rintro rfl; simp at h1
 have he0 : e ≠ 0 := by rintro rfl; simp at h1
 by_cases hd1 : d = 1
 · exact .inl hd1
 · right
  by_cases he1 : e = 1
  · rw [he1, Nat.mul_one]
  · exfalso
   rcases Nat.lt_or_ge k d with h3 | h3
   · rcases Nat.lt_or_ge k e with h4 | h4
    · have := Nat.mul_le_mul (show k + 1 <= d by omega) (show k + 1 <= e by omega)
     omega
    · exact triB_at k _ h e (by omega) h4 (Nat.mul_mod_left d e)
   · exact triB_at k _ h d (by omega) h3 (Nat.mul_mod_right d e)
theorem pigeon : ∀ (n : Nat) (f : Nat -> Nat), (∀ i, i < n -> f i < n) -> (∀ i j, i < j -> j < n -> f i ≠ f j) -> ∀ y, y < n -> ∃ i, i < n ∧ f i = y
 | 0, _, _, _, y, hy => by omega
 | n + 1, f, hf, hinj, y, hy => by
  -- where the last one goes, the first ones are moved off it
  let g : Nat -> Nat := fun i => if f i = n then f n else f i
  have hg : ∀ i, i < n -> g i < n := by
   intro i hi
   show (if f i = n then f n else f i) < n
   split
   · rename_i h
    have h1 := hf n (by omega)
    have h2 := hinj i n hi (by omega)
    omega
   · have := hf i (by omega); omega
  have hginj : ∀ i j, i < j -> j < n -> g i ≠ g j := by
   intro i j hij hj
   show (if f i = n then f n else f i) ≠ (if f j = n then f n else f j)
   have h1 := hinj i j hij (by omega)
   have h2 := hinj i n (by omega) (by omega)
   have h3 := hinj j n hj (by omega)
   split <;> split
   · omega
   · exact fun h => h3 h.symm
   · exact h2
   · exact h1
  by_cases hy' : y = f n
  · exact ⟨n, by omega, hy'.symm⟩
  · by_cases hyn : y = n
   · -- n is met: else all go below n, and f n too
    subst hyn
    have hfn : f y < y := by have := hf y (by omega); omega
    obtain ⟨i, hi, h⟩ := pigeon y g hg hginj (f y) hfn
    by_cases h1 : f i = y
    · exact ⟨i, by omega, h1⟩
    · exfalso
     have : g i = f i := if_neg h1
     exact hinj i y hi (by omega) (by rw [<- this, h])
   · obtain ⟨i, hi, h⟩ := pigeon n g hg hginj y (by omega)
    by_cases h1 : f i = n
    · exfalso
     have : g i = f n := if_pos h1
     exact hy' (by rw [<- h, this])
    · have : g i = f i := if_neg h1
     exact ⟨i, by omega, by rw [<- this, h]⟩
theorem pow_one_mul {g p e k : Nat} (h : g ^ e % p = 1 % p) : g ^ (e * k) % p = 1 % p := by
 rw [Nat.pow_mul, Nat.pow_mod, h, <- Nat.pow_mod, Nat.one_pow]
theorem pow_one_gcd {g p : Nat} (e f : Nat) : g ^ e % p = 1 % p -> g ^ f % p = 1 % p -> g ^ (Nat.gcd e f) % p = 1 % p := by
 induction e, f using Nat.gcd.induction with
 | H0 f => intro _ h; rw [Nat.gcd_zero_left]; exact h
 | H1 e f hpos ih =>
  intro h1 h2
  rw [Nat.gcd_rec]
  refine ih ?_ h1
  have h3 : g ^ f = g ^ (f % e) * g ^ (e * (f / e)) := by rw [<- Nat.pow_add, Nat.mod_add_div]
  rw [h3, Nat.mul_mod, pow_one_mul h1, <- Nat.mul_mod, Nat.mul_one] at h2
  exact h2
def prodL : List Nat -> Nat
 | [] => 1
 | q :: l => q * prodL l
theorem prim_in {m : Nat} : ∀ (qs : List Nat), (∀ q ∈ qs, Prim q) -> 1 < m -> m ∣ prodL qs -> ∃ q ∈ qs, q ∣ m
 | [], _, h1, h => by
  have := Nat.le_of_dvd (by decide) h
  simp only [prodL] at this; omega
 | q :: qs, hq, h1, h => by
  have hp := hq q (by simp)
  rcases hp.2 (Nat.gcd m q) (Nat.gcd_dvd_right m q) with hg | hg
  · have : m ∣ prodL qs := Nat.Coprime.dvd_of_dvd_mul_left hg h
   obtain ⟨r, hr, hd⟩ := prim_in qs (fun r hr => hq r (by simp [hr])) h1 this
   exact ⟨r, by simp [hr], hd⟩
  · exact ⟨q, by simp, by rw [<- hg]; exact Nat.gcd_dvd_left m q⟩
def Gen (p g : Nat) : Prop := 1 < p ∧ g ^ (p - 1) % p = 1 ∧ ∀ a, 0 < a -> a < p -> ∃ k, k < p - 1 ∧ g ^ k % p = a
theorem gen_of {p g : Nat} {qs : List Nat} (hp : 1 < p) (hqs : ∀ q ∈ qs, Prim q) (hprod : prodL qs = p - 1) (h1 : g ^ (p - 1) % p = 1) (h2 : ∀ q ∈ qs, g ^ ((p - 1) / q) % p ≠ 1) : Gen p g := by
 have h1p : 1 % p = 1 := Nat.mod_eq_of_lt hp
 have hone : ∀ e, 0 < e -> e < p - 1 -> g ^ e % p ≠ 1 := by
  intro e he0 he h
  have hf := pow_one_gcd (g := g) (p := p) e (p - 1) (by rw [h1p]; exact h) (by rw [h1p]; exact h1)
  rw [h1p] at hf
  obtain ⟨m, hm⟩ := Nat.gcd_dvd_right e (p - 1)
  have hle : Nat.gcd e (p - 1) <= e := Nat.le_of_dvd he0 (Nat.gcd_dvd_left e (p - 1))
  have hm1 : 1 < m := by
   rcases Nat.lt_or_ge 1 m with h3 | h3
   · exact h3
   · exfalso
    have h4 : Nat.gcd e (p - 1) * m <= Nat.gcd e (p - 1) * 1 := Nat.mul_le_mul_left _ h3
    omega
  obtain ⟨q, hq, m', hm'⟩ := prim_in qs hqs hm1 (by rw [hprod]; exact ⟨Nat.gcd e (p - 1), by rw [Nat.mul_comm]; exact hm⟩)
  have hq1 := (hqs q hq).1
  have hdiv : (p - 1) / q = Nat.gcd e (p - 1) * m' := by
   have e1 : p - 1 = q * (Nat.gcd e (p - 1) * m') := by
    have e2 : Nat.gcd e (p - 1) * (q * m') = q * (Nat.gcd e (p - 1) * m') := by rw [Nat.mul_left_comm]
    rw [<- hm'] at e2
    exact hm.trans e2
   have e3 : q * (Nat.gcd e (p - 1) * m') / q = Nat.gcd e (p - 1) * m' := Nat.mul_div_cancel_left _ (by omega)
   rw [<- e1] at e3
   exact e3
  apply h2 q hq
  rw [hdiv]
  have := pow_one_mul (k := m') (show g ^ Nat.gcd e (p - 1) % p = 1 % p by rw [hf, h1p])
  rw [this, h1p]
 have hnz : ∀ i, i < p - 1 -> g ^ i % p ≠ 0 := by
  intro i hi h
  have e1 : g ^ (p - 1) = g ^ i * g ^ (p - 1 - i) := by rw [<- Nat.pow_add]; congr 1; omega
  rw [e1, Nat.mul_mod, h, Nat.zero_mul, Nat.zero_mod] at h1
  omega
 refine ⟨hp, h1, ?_⟩
 have hpig := pigeon (p - 1) (fun i => g ^ i % p - 1)
  (fun i hi => by have := hnz i hi; have := Nat.mod_lt (g ^ i) (show 0 < p by omega); omega)
  (fun i j hij hj => by
   intro h
   have hi0 := hnz i (by omega)
   have hj0 := hnz j hj
   have he : g ^ i % p = g ^ j % p := by
    have h' : g ^ i % p - 1 = g ^ j % p - 1 := h
    omega
   refine hone (j - i) (by omega) (by omega) ?_
   have e1 : g ^ (j - i) * g ^ (p - 1) = g ^ j * g ^ (p - 1 - i) := by rw [<- Nat.pow_add, <- Nat.pow_add]; congr 1; omega
   have e2 : g ^ i * g ^ (p - 1 - i) = g ^ (p - 1) := by rw [<- Nat.pow_add]; congr 1; omega
   have e3 : g ^ (j - i) % p = g ^ (j - i) * g ^ (p - 1) % p := by rw [Nat.mul_mod, h1, Nat.mul_one, Nat.mod_mod]
   rw [e3, e1, Nat.mul_mod, <- he, <- Nat.mul_mod, e2, h1])
 intro a ha0 hap
 obtain ⟨k, hk, h⟩ := hpig (a - 1) (by omega)
 have := hnz k hk
 have h' : g ^ k % p - 1 = a - 1 := h
 exact ⟨k, hk, by omega⟩
theorem Gen.prim {p g : Nat} (h : Gen p g) : Prim p := by
 refine ⟨h.1, fun d hd => ?_⟩
 have hp := h.1
 have hd0 : 0 < d := Nat.pos_of_dvd_of_pos hd (by omega)
 have hle := Nat.le_of_dvd (by omega) hd
 by_cases hdp : d = p
 · exact .inr hdp
 · left
  obtain ⟨k, hk, hk2⟩ := h.2.2 d hd0 (by omega)
  have e1 : d * g ^ (p - 1 - k) % p = 1 := by
   rw [<- hk2, Nat.mul_mod, Nat.mod_mod, <- Nat.mul_mod, <- Nat.pow_add, show k + (p - 1 - k) = p - 1 from by omega]
   exact h.2.1
  have h3 : d ∣ d * g ^ (p - 1 - k) := Nat.dvd_mul_right d _
  have h4 : d ∣ 1 := by
   have h5 := Nat.div_add_mod (d * g ^ (p - 1 - k)) p
   rw [e1] at h5
   have h6 : d ∣ p * (d * g ^ (p - 1 - k) / p) := Nat.dvd_trans hd (Nat.dvd_mul_right p _)
   have h7 : d ∣ p * (d * g ^ (p - 1 - k) / p) + 1 := by rw [h5]; exact h3
   exact (Nat.dvd_add_right h6).1 h7
  exact Nat.eq_one_of_dvd_one h4
theorem Gen.fermat {p g a : Nat} (h : Gen p g) (ha : a % p ≠ 0) : a ^ (p - 1) % p = 1 := by
 have hp := h.1
 obtain ⟨k, _, hk⟩ := h.2.2 (a % p) (by omega) (Nat.mod_lt _ (by omega))
 rw [Nat.pow_mod, <- hk, <- Nat.pow_mod, <- Nat.pow_mul, Nat.mul_comm, Nat.pow_mul, Nat.pow_mod, h.2.1, Nat.one_pow, Nat.mod_eq_of_lt hp]
def cert (p g : Nat) (qs : List Nat) : Bool :=
 Nat.blt 1 p && Nat.beq (prodL qs) (p - 1) && Nat.blt p (2 ^ 256) && Nat.beq (powF 256 g (p - 1) p) 1 && qs.all (fun q => !(Nat.beq (powF 256 g ((p - 1) / q) p) 1))
theorem gen_cert {p g : Nat} {qs : List Nat} (h : cert p g qs = true) (hqs : ∀ q ∈ qs, Prim q) : Gen p g := by
 simp only [cert, Bool.and_eq_true, Nat.blt_eq, List.all_eq_true, Bool.not_eq_true'] at h
 obtain ⟨⟨⟨⟨h1, h2⟩, h3⟩, h4⟩, h5⟩ := h
 have h4 := Nat.eq_of_beq_eq_true h4
 rw [powF_eq _ _ _ _ (by omega)] at h4
 refine gen_of h1 hqs (Nat.eq_of_beq_eq_true h2) h4 fun q hq hone => ?_
 have := h5 q hq
 rw [powF_eq _ _ _ _ (Nat.lt_of_le_of_lt (Nat.div_le_self _ _) (by omega)), hone] at this
 simp at this
end Go.W

namespace Go.W
theorem pr2 : Prim 2 := prim_tri (k := 1) (by decide) (by decide +kernel) (by decide)
theorem pr3 : Prim 3 := prim_tri (k := 1) (by decide) (by decide +kernel) (by decide)
theorem pr5 : Prim 5 := prim_tri (k := 2) (by decide) (by decide +kernel) (by decide)
theorem pr7 : Prim 7 := prim_tri (k := 2) (by decide) (by decide +kernel) (by decide)
theorem pr11 : Prim 11 := prim_tri (k := 3) (by decide) (by decide +kernel) (by decide)
theorem pr29 : Prim 29 := prim_tri (k := 5) (by decide) (by decide +kernel) (by decide)
theorem pr31 : Prim 31 := prim_tri (k := 5) (by decide) (by decide +kernel) (by decide)
theorem pr53 : Prim 53 := prim_tri (k := 7) (by decide) (by decide +kernel) (by decide)
theorem pr971 : Prim 971 := prim_tri (k := 31) (by decide) (by decide +kernel) (by decide)
theorem pr1373 : Prim 1373 := prim_tri (k := 37) (by decide) (by decide +kernel) (by decide)
theorem pr1627 : Prim 1627 := prim_tri (k := 40) (by decide) (by decide +kernel) (by decide)
theorem pr2621 : Prim 2621 := prim_tri (k := 51) (by decide) (by decide +kernel) (by decide)
theorem pr2657 : Prim 2657 := prim_tri (k := 51) (by decide) (by decide +kernel) (by decide)
theorem pr4423 : Prim 4423 := prim_tri (k := 66) (by decide) (by decide +kernel) (by decide)
theorem pr5323 : Prim 5323 := prim_tri (k := 72) (by decide) (by decide +kernel) (by decide)
theorem pr7723 : Prim 7723 := prim_tri (k := 87) (by decide) (by decide +kernel) (by decide)
theorem pr13441 : Prim 13441 := prim_tri (k := 115) (by decide) (by decide +kernel) (by decide)
theorem pr20113 : Prim 20113 := prim_tri (k := 141) (by decide) (by decide +kernel) (by decide)
theorem pr24809 : Prim 24809 := prim_tri (k := 157) (by decide) (by decide +kernel) (by decide)
theorem pr41201 : Prim 41201 := prim_tri (k := 202) (by decide) (by decide +kernel) (by decide)
theorem pr96557 : Prim 96557 := prim_tri (k := 310) (by decide) (by decide +kernel) (by decide)
theorem allP_nil : ∀ q ∈ ([] : List Nat), Prim q := by simp
theorem allP_cons {q : Nat} {l : List Nat} (h : Prim q) (hl : ∀ r ∈ l, Prim r) : ∀ r ∈ q :: l, Prim r := by
 intro r hr
 rcases List.mem_cons.1 hr with rfl | hr
 · exact h
 · exact hl r hr
theorem ge13331831 : Gen 13331831 13 := gen_cert (qs := [2, 5, 971, 1373]) (by decide +kernel) (allP_cons pr2 (allP_cons pr5 (allP_cons pr971 (allP_cons pr1373 allP_nil))))
theorem pr13331831 : Prim 13331831 := ge13331831.prim
theorem ge173378833005251801 : Gen 173378833005251801 6 := gen_cert (qs := [2, 2, 2, 5, 5, 2621, 24809, 13331831]) (by decide +kernel) (allP_cons pr2 (allP_cons pr2 (allP_cons pr2 (allP_cons pr5 (allP_cons pr5 (allP_cons pr2621 (allP_cons pr24809 (allP_cons pr13331831 allP_nil))))))))
theorem pr173378833005251801 : Prim 173378833005251801 := ge173378833005251801.prim
theorem ge22149492674086928081353 : Gen 22149492674086928081353 5 := gen_cert (qs := [2, 2, 2, 3, 5323, 173378833005251801]) (by decide +kernel) (allP_cons pr2 (allP_cons pr2 (allP_cons pr2 (allP_cons pr3 (allP_cons pr5323 (allP_cons pr173378833005251801 allP_nil))))))
theorem pr22149492674086928081353 : Prim 22149492674086928081353 := ge22149492674086928081353.prim
theorem ge132896956044521568488119 : Gen 132896956044521568488119 6 := gen_cert (qs := [2, 3, 22149492674086928081353]) (by decide +kernel) (allP_cons pr2 (allP_cons pr3 (allP_cons pr22149492674086928081353 allP_nil)))
theorem pr132896956044521568488119 : Prim 132896956044521568488119 := ge132896956044521568488119.prim
theorem ge1206781 : Gen 1206781 10 := gen_cert (qs := [2, 2, 3, 5, 20113]) (by decide +kernel) (allP_cons pr2 (allP_cons pr2 (allP_cons pr3 (allP_cons pr5 (allP_cons pr20113 allP_nil)))))
theorem pr1206781 : Prim 1206781 := ge1206781.prim
theorem ge7240687 : Gen 7240687 3 := gen_cert (qs := [2, 3, 1206781]) (by decide +kernel) (allP_cons pr2 (allP_cons pr3 (allP_cons pr1206781 allP_nil)))
theorem pr7240687 : Prim 7240687 := ge7240687.prim
theorem ge107590001 : Gen 107590001 3 := gen_cert (qs := [2, 2, 2, 2, 5, 5, 5, 5, 7, 29, 53]) (by decide +kernel) (allP_cons pr2 (allP_cons pr2 (allP_cons pr2 (allP_cons pr2 (allP_cons pr5 (allP_cons pr5 (allP_cons pr5 (allP_cons pr5 (allP_cons pr7 (allP_cons pr29 (allP_cons pr53 allP_nil)))))))))))
theorem pr107590001 : Prim 107590001 := ge107590001.prim
theorem ge255515944373312847190720520512484175977 : Gen 255515944373312847190720520512484175977 3 := gen_cert (qs := [2, 2, 2, 7, 7, 11, 1627, 2657, 4423, 41201, 96557, 7240687, 107590001]) (by decide +kernel) (allP_cons pr2 (allP_cons pr2 (allP_cons pr2 (allP_cons pr7 (allP_cons pr7 (allP_cons pr11 (allP_cons pr1627 (allP_cons pr2657 (allP_cons pr4423 (allP_cons pr41201 (allP_cons pr96557 (allP_cons pr7240687 (allP_cons pr107590001 allP_nil)))))))))))))
theorem pr255515944373312847190720520512484175977 : Prim 255515944373312847190720520512484175977 := ge255515944373312847190720520512484175977.prim
theorem ge205115282021455665897114700593932402728804164701536103180137503955397371 : Gen 205115282021455665897114700593932402728804164701536103180137503955397371 10 := gen_cert (qs := [2, 3, 5, 29, 29, 31, 7723, 132896956044521568488119, 255515944373312847190720520512484175977]) (by decide +kernel) (allP_cons pr2 (allP_cons pr3 (allP_cons pr5 (allP_cons pr29 (allP_cons pr29 (allP_cons pr31 (allP_cons pr7723 (allP_cons pr132896956044521568488119 (allP_cons pr255515944373312847190720520512484175977 allP_nil)))))))))
theorem pr205115282021455665897114700593932402728804164701536103180137503955397371 : Prim 205115282021455665897114700593932402728804164701536103180137503955397371 := ge205115282021455665897114700593932402728804164701536103180137503955397371.prim
theorem ge115792089237316195423570985008687907853269984665640564039457584007908834671663 : Gen 115792089237316195423570985008687907853269984665640564039457584007908834671663 3 := gen_cert (qs := [2, 3, 7, 13441, 205115282021455665897114700593932402728804164701536103180137503955397371]) (by decide +kernel) (allP_cons pr2 (allP_cons pr3 (allP_cons pr7 (allP_cons pr13441 (allP_cons pr205115282021455665897114700593932402728804164701536103180137503955397371 allP_nil)))))
def pP : Nat := 115792089237316195423570985008687907853269984665640564039457584007908834671663
def pN : Nat := 115792089237316195423570985008687907852837564279074904382605163141518161494337
def gP : Nat := 3
theorem genP : Gen pP gP := ge115792089237316195423570985008687907853269984665640564039457584007908834671663
end Go.W

namespace Go.W
theorem Gen.mul_ne {p g a b : Nat} (h : Gen p g) (ha : a % p ≠ 0) (hb : b % p ≠ 0) : a * b % p ≠ 0 := by
 intro h0
 have h1 := h.fermat ha
 have h2 := h.fermat hb
 have h3 : (a * b) ^ (p - 1) % p = 1 := by rw [Nat.mul_pow, Nat.mul_mod, h1, h2]; exact Nat.mod_eq_of_lt h.1
 rw [Nat.pow_mod, h0] at h3
 have hp := h.1
 rw [Nat.zero_pow (by omega), Nat.zero_mod] at h3
 omega
theorem Gen.inv {p g a : Nat} (h : Gen p g) (ha : a % p ≠ 0) : a * a ^ (p - 2) % p = 1 := by
 have hp := h.1
 rw [<- Nat.pow_succ', Nat.succ_eq_add_one, show p - 2 + 1 = p - 1 from by omega]
 exact h.fermat ha
theorem Gen.cancel {p g a b c : Nat} (h : Gen p g) (ha : a % p ≠ 0) (he : a * b % p = a * c % p) : b % p = c % p := by
 have hi := h.inv ha
 have key : ∀ x, x % p = a ^ (p - 2) * (a * x) % p := by
  intro x
  rw [<- Nat.mul_assoc, Nat.mul_comm (a ^ (p - 2)) a, Nat.mul_mod, hi, Nat.one_mul, Nat.mod_mod]
 rw [key b, key c, Nat.mul_mod, he, <- Nat.mul_mod]
theorem Gen.pow_self {p g : Nat} (h : Gen p g) (a : Nat) : a ^ p % p = a % p := by
 have hp := h.1
 have e : a ^ p = a * a ^ (p - 1) := by rw [<- Nat.pow_succ', Nat.succ_eq_add_one]; congr 1; omega
 by_cases ha : a % p = 0
 · rw [e, Nat.mul_mod, ha, Nat.zero_mul, Nat.zero_mod]
 · rw [e, Nat.mul_mod, h.fermat ha, Nat.mul_one, Nat.mod_mod]
theorem Gen.sq_eq {p g a b : Nat} (h : Gen p g) (he : a * a % p = b * b % p) : a % p = b % p ∨ (a + b) % p = 0 := by
 by_cases hs : (a + b) % p = 0
 · exact .inr hs
 · left
  have hp := h.1
  -- (a + b) a = a a + a b = b b + a b = (a + b) b
  refine h.cancel (a := a + b) hs ?_
  have e1 : (a + b) * a = a * a + a * b := by rw [Nat.add_mul, Nat.mul_comm b a]
  have e2 : (a + b) * b = b * b + a * b := by rw [Nat.add_mul, Nat.add_comm]
  rw [e1, e2, Nat.add_mod, he, <- Nat.add_mod]
theorem Gen.root {p g a b : Nat} (h : Gen p g) (h4 : p % 4 = 3) (hb : b * b % p = a % p) : a ^ ((p + 1) / 4) * a ^ ((p + 1) / 4) % p = a % p := by
 rw [<- Nat.pow_add]
 have hp := h.1
 have hexp : (p + 1) / 4 + (p + 1) / 4 = (p - 1) / 2 + 1 := by omega
 rw [hexp]
 have e0 : a ^ ((p - 1) / 2 + 1) % p = (b * b) ^ ((p - 1) / 2 + 1) % p := by rw [Nat.pow_mod, <- hb, <- Nat.pow_mod]
 have e1 : (b * b) ^ ((p - 1) / 2 + 1) = b * b ^ p := by
  rw [show b * b = b ^ 2 from (Nat.pow_two b).symm, <- Nat.pow_mul, <- Nat.pow_succ']
  congr 1; omega
 rw [e0, e1, Nat.mul_mod, h.pow_self, <- Nat.mul_mod, hb]
end Go.W
