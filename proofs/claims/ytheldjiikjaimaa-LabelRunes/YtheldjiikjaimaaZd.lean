/-
  Several texts in one: W10 W11 W12 W13 Tab M1 M3 M6 M7 M9 N1 N2 N3 M13 M14 N4 N5 N6 N7 N9 N10 M24 M25 M26.
-/
import Derived.Test.YtheldjiikjaimaaZc
import Derived.LoopN
import Derived.Scope
import Derived.Test.YtheldjiikjaimaaChecked
import Derived.KernelRfl
import Derived.Laws.MathBits
import Derived.ProofKit
import Derived.OpenShut
namespace Go.W
open Go.RowKit (Below)
structure St where
  slots : List (Nat × Value)
  mem : List (Nat × Blk)
  next : Nat
def St.f (s : St) : FS := ⟨look s.slots, look s.mem⟩
theorem look_memL (mem : List (Nat × Blk)) : ∀ l : List (Nat × Blk), look (l ++ mem) = memF (look mem) l
  | [] => rfl
  | p :: l => by rw [List.cons_append, memF, ← look_memL mem l]; rfl
def slotL (slots : List (Nat × Value)) (d : Option Nat) (v : Value) : List (Nat × Value) :=
  match d with
  | some t => (t, v) :: slots
  | none => slots
def St.app (s : St) (dst : Option Nat) (r : Res) : St := ⟨slotL s.slots dst r.val, r.mem ++ s.mem, s.next⟩
theorem St.app_f (s : St) (dst : Option Nat) (r : Res) : (s.app dst r).f = s.f.apply dst r := by
  unfold St.app St.f FS.apply
  congr 1
  · cases dst <;> rfl
  · exact look_memL _ _
def St.ref (s : St) (t : Nat) (b : Bool) : St := ⟨(t, .bool b) :: s.slots, s.mem, s.next⟩
theorem St.ref_f {s : St} {t : Nat} {b : Bool} (h : look s.slots t = some (.bool b)) : (s.ref t b).f = s.f := by
  unfold St.ref St.f
  simp only [look_cons, upd_idem _ h]
structure Cfg where
  T : Tab
  G : Sums
  n : Nat
  L : List (List Nat × (St → List (Bool × Exit × St)))
section
variable {R : Type}
def tstK (s : St) (t : Nat) (yes no : St → R) (f : R) : R :=
  oK (look s.slots t) (fun v => boolK v (fun b => bif b then yes (s.ref t true) else no (s.ref t false)) f) f
def grdK (ops : Array Oper) (o : Oper) (s : St) (yes no : St → R) (f : R) : R :=
  match o.guard with
  | none => yes s
  | some g => oK (gslot ops o) (fun t => oK (look s.slots t) (fun v => bif isTup v then no s else bif g.2 then tstK s t yes no f else tstK s t no yes f) f) f
def dstLt (n : Nat) (d : Option Nat) : Bool :=
  match d with
  | some t => Nat.blt t n
  | none => true
def rgK (C : Cfg) (ops : Array Oper) (base : Nat) : List Oper → Nat → St → List Rec → (St → List Rec → R) → R → R
  | [], _, s, acc, k, _ => k s acc
  | o :: rest, i, s, acc, k, f =>
    bif dstLt C.n o.dst then
      grdK ops o s
        (fun s => opK C.T C.G (base + i) o.op (evF (look s.slots)) (look s.mem) (fun r => rgK C ops base rest (i + 1) (s.app o.dst r) (acc ++ [⟨o, base + i, r⟩]) k f) f)
        (fun s => rgK C ops base rest (i + 1) (s.app o.dst (val undef)) (acc ++ [⟨o, base + i, val undef⟩]) k f) f
    else f
def St.bump (s : St) (m : Nat) : St := ⟨s.slots, s.mem, m⟩
def regK (C : Cfg) (ops : Array Oper) (draw : Bool) (s : St) (k : St → R) (f : R) : R :=
  rgK C ops s.next ops.toList 0 s [] (fun s' acc => bif !draw || drawOk ops acc then k (s'.bump (s.next + ops.toList.length)) else f) f
def nlEq : List Nat → List Nat → Bool
  | [], [] => true
  | a :: l, b :: m => Nat.beq a b && nlEq l m
  | _, _ => false
theorem nlEq_iff : ∀ {l m : List Nat}, nlEq l m = true → l = m
  | [], [], _ => rfl
  | a :: l, b :: m, h => by
    simp only [nlEq, Bool.and_eq_true] at h
    rw [nbeq.1 h.1, nlEq_iff h.2]
  | [], _ :: _, h => by simp [nlEq] at h
  | _ :: _, [], h => by simp [nlEq] at h
def lookP {α : Type} : List (List Nat × α) → List Nat → Option α
  | [], _ => none
  | p :: r, t => bif nlEq p.1 t then some p.2 else lookP r t
def altK : List (Bool × Exit × St) → (Exit → St → R) → R → R
  | [], _, f => f
  | p :: r, k, f => bif p.1 then k p.2.1 p.2.2 else altK r k f
def thenK (e : Exit) (s : St) (nxt : St → R) (k : Exit → St → R) : R :=
  match e with
  | .normal => nxt s
  | e => k e s
def blockK (id : Nat) (e : Exit) (s : St) (k : Exit → St → R) : R :=
  match e with
  | .exit j => bif Nat.beq j id then k .normal s else k (.exit j) s
  | e => k e s
def scopeK (e : Exit) (s : St) (k : Exit → St → R) (f : R) : R :=
  match e with
  | .goto _ => f
  | e => k e s
def condK (s : St) (c : Operand) (yes no : St → R) (f : R) : R :=
  match c with
  | .tmp t => tstK s t yes no f
  | .const (.bool b) => bif b then yes s else no s
  | _ => f
def evK (C : Cfg) : Nat → List Nat → Code → St → (Exit → St → R) → R → R
  | 0, _, _, _, _, f => f
  | m + 1, p, c, s, k, f =>
    match c with
    | .skip => k .normal s
    | .label _ => k .normal s
    | .region _ ops draw => regK C ops draw s (fun s' => k .normal s') f
    | .seq x y => evK C m (p ++ [0]) x s (fun e s' => thenK e s' (fun s' => evK C m (p ++ [1]) y s' k f) k) f
    | .cond c x y => condK s c (fun s => evK C m (p ++ [0]) x s k f) (fun s => evK C m (p ++ [1]) y s k f) f
    | .block id x => evK C m (p ++ [0]) x s (fun e s' => blockK id e s' k) f
    | .loop x => oK (lookP C.L p) (fun F => altK (F s) k f) (evK C m (p ++ [0]) x s (fun e s' => thenK e s' (fun s' => evK C m p (.loop x) s' k f) k) f)
    | .exit id => k (.exit id) s
    | .scope x => evK C m (p ++ [0]) x s (fun e s' => scopeK e s' k f) f
    | .ret => k .ret s
    | _ => f
variable {R' : Type} (h : R → R')
theorem tstK_nat (s : St) (t : Nat) (yes no : St → R) (f : R) : h (tstK s t yes no f) = tstK s t (fun s => h (yes s)) (fun s => h (no s)) (h f) := by
  simp only [tstK, oK_nat h, boolK_nat h, cond_nat h]
theorem grdK_nat (ops : Array Oper) (o : Oper) (s : St) (yes no : St → R) (f : R) : h (grdK ops o s yes no f) = grdK ops o s (fun s => h (yes s)) (fun s => h (no s)) (h f) := by
  unfold grdK; split <;> simp only [oK_nat h, cond_nat h, tstK_nat h]
theorem rgK_nat (C : Cfg) (ops : Array Oper) (base : Nat) : ∀ (l : List Oper) (i : Nat) (s : St) (acc : List Rec) (k : St → List Rec → R) (f : R),
    h (rgK C ops base l i s acc k f) = rgK C ops base l i s acc (fun s a => h (k s a)) (h f)
  | [], _, _, _, _, _ => rfl
  | o :: rest, i, s, acc, k, f => by
    simp only [rgK, cond_nat h, grdK_nat h, opK_nat h, rgK_nat C ops base rest]
theorem regK_nat (C : Cfg) (ops : Array Oper) (draw : Bool) (s : St) (k : St → R) (f : R) : h (regK C ops draw s k f) = regK C ops draw s (fun s => h (k s)) (h f) := by
  simp only [regK, rgK_nat h, cond_nat h]
theorem altK_nat : ∀ (l : List (Bool × Exit × St)) (k : Exit → St → R) (f : R), h (altK l k f) = altK l (fun e s => h (k e s)) (h f)
  | [], _, _ => rfl
  | p :: r, k, f => by simp only [altK, cond_nat h, altK_nat r]
theorem thenK_nat (e : Exit) (s : St) (nxt : St → R) (k : Exit → St → R) : h (thenK e s nxt k) = thenK e s (fun s => h (nxt s)) (fun e s => h (k e s)) := by
  cases e <;> rfl
theorem blockK_nat (id : Nat) (e : Exit) (s : St) (k : Exit → St → R) : h (blockK id e s k) = blockK id e s (fun e s => h (k e s)) := by
  cases e <;> simp only [blockK, cond_nat h]
theorem scopeK_nat (e : Exit) (s : St) (k : Exit → St → R) (f : R) : h (scopeK e s k f) = scopeK e s (fun e s => h (k e s)) (h f) := by
  cases e <;> rfl
theorem condK_nat (s : St) (c : Operand) (yes no : St → R) (f : R) : h (condK s c yes no f) = condK s c (fun s => h (yes s)) (fun s => h (no s)) (h f) := by
  unfold condK; split <;> simp only [tstK_nat h, cond_nat h]
theorem evK_nat (C : Cfg) : ∀ (m : Nat) (p : List Nat) (c : Code) (s : St) (k : Exit → St → R) (f : R), h (evK C m p c s k f) = evK C m p c s (fun e s => h (k e s)) (h f)
  | 0, _, _, _, _, _ => rfl
  | m + 1, p, c, s, k, f => by
    cases c <;> simp only [evK] <;> first | rfl | simp only [regK_nat h, evK_nat C m, thenK_nat h, condK_nat h, blockK_nat h, scopeK_nat h, oK_nat h, altK_nat h]
end
def evS (C : Cfg) (m : Nat) (p : List Nat) (c : Code) (s : St) : Option (Exit × St) := evK C m p c s (fun e s => some (e, s)) none
theorem evK_eq {R : Type} (C : Cfg) (m : Nat) (p : List Nat) (c : Code) (s : St) (k : Exit → St → R) (f : R) : evK C m p c s k f = oK (evS C m p c s) (fun q => k q.1 q.2) f :=
  (evK_nat (fun o : Option (Exit × St) => oK o (fun q => k q.1 q.2) f) C m p c s (fun e s => some (e, s)) none).symm
def codeAt : List Nat → Code → Option Code
  | [], c => some c
  | i :: p, c =>
    match c with
    | .seq a b => codeAt p (bif Nat.beq i 0 then a else b)
    | .cond _ a b => codeAt p (bif Nat.beq i 0 then a else b)
    | .block _ b => codeAt p b
    | .loop b => codeAt p b
    | .scope b => codeAt p b
    | _ => none
theorem codeAt_app (i : Nat) : ∀ (p : List Nat) (c : Code), codeAt (p ++ [i]) c = (codeAt p c).bind (codeAt [i])
  | [], c => by cases c <;> simp [codeAt]
  | j :: p, c => by cases c <;> simp [codeAt, codeAt_app i p]
def loopAt (p : List Nat) (c : Code) : Code :=
  match codeAt p c with
  | some (.loop b) => b
  | _ => .skip
def pickL : List (Bool × Exit × St) → Option (Exit × St)
  | [] => none
  | p :: r => bif p.1 then some p.2 else pickL r
theorem altK_eq {R : Type} (l : List (Bool × Exit × St)) (k : Exit → St → R) (f : R) : altK l k f = oK (pickL l) (fun q => k q.1 q.2) f := by
  induction l with
  | nil => rfl
  | cons p r ih => simp only [altK, pickL, ih]; cases p.1 <;> rfl
def LoopOk (P : Program) [Laid P] (n : Nat) (body : Code) (F : St → List (Bool × Exit × St)) : Prop :=
  ∀ (w0 : Wb (lay P)) R s a w, Rel w0 n R s.f a w → ∀ e s', pickL (F s) = some (e, s') → (Code.loop body).wp P (fun e' a' w' => e' = e ∧ ∃ R', Rel w0 n R' s'.f a' w') a w
structure CfgOk (P : Program) [Laid P] (C : Cfg) (code : Code) : Prop where
  mixed : P.follows .mixedOrders = true
  T : TabOk P C.T
  G : SumsOk P C.G
  L : ∀ p F, lookP C.L p = some F → LoopOk P C.n (loopAt p code) F
section
variable {P : Program} [Laid P] {C : Cfg} {code : Code} {w0 : Wb (lay P)}
theorem tst_some {β : Type} {s : St} {t : Nat} {yes no : St → Option β} {r : β} (h : tstK s t yes no none = some r) :
    (look s.slots t = some (.bool true) ∧ yes (s.ref t true) = some r) ∨ (look s.slots t = some (.bool false) ∧ no (s.ref t false) = some r) := by
  simp only [tstK, oK_some, boolK_some] at h
  obtain ⟨v, hv, b, rfl, h⟩ := h
  cases b
  · exact .inr ⟨hv, h⟩
  · exact .inl ⟨hv, h⟩
theorem rg_run {ops : Array Oper} {base : Nat} : ∀ (l : List Oper) (i : Nat) (s : St) (acc : List Rec) {s' : St} {acc' : List Rec},
    rgK C ops base l i s acc (fun s a => some (s, a)) none = some (s', acc') →
      ∃ recs, acc' = acc ++ recs ∧ recs.map (·.o) = l ∧ (∀ c ∈ recs, ∀ t, c.o.dst = some t → t < C.n) ∧ RunL C.T C.G ops recs s.f s'.f
  | [], _, s, acc, s', acc', h => by
    simp only [rgK, Option.some.injEq, Prod.mk.injEq] at h
    obtain ⟨rfl, rfl⟩ := h
    exact ⟨[], by simp, rfl, by simp, rfl⟩
  | o :: rest, i, s, acc, s', acc', h => by
    simp only [rgK, cond_some] at h
    obtain ⟨hd, h⟩ := h
    have hdst : ∀ t, o.dst = some t → t < C.n := by
      intro t ht
      simp only [dstLt, ht, Nat.blt_eq] at hd
      exact hd
    -- what is common to the ways
    have go : ∀ (s0 : St) (r : Res), s0.f = s.f → stepF C.T C.G ops (base + i) o s.f = some r →
        rgK C ops base rest (i + 1) (s0.app o.dst r) (acc ++ [⟨o, base + i, r⟩]) (fun s a => some (s, a)) none = some (s', acc') →
        ∃ recs, acc' = acc ++ recs ∧ recs.map (·.o) = o :: rest ∧ (∀ c ∈ recs, ∀ t, c.o.dst = some t → t < C.n) ∧ RunL C.T C.G ops recs s.f s'.f := by
      intro s0 r hs hstep hrest
      obtain ⟨recs, h1, h2, h3, h4⟩ := rg_run rest (i + 1) _ _ hrest
      refine ⟨⟨o, base + i, r⟩ :: recs, by rw [h1]; simp, by simp [h2], ?_, hstep, ?_⟩
      · intro c hc
        rcases List.mem_cons.1 hc with rfl | hc
        · exact hdst
        · exact h3 c hc
      · rw [St.app_f, hs] at h4; exact h4
    have goOp : ∀ (s0 : St), s0.f = s.f → (∀ r, opS C.T C.G (base + i) o.op (evF s.f.fs) s.f.fm = some r → stepF C.T C.G ops (base + i) o s.f = some r) →
        opK C.T C.G (base + i) o.op (evF (look s0.slots)) (look s0.mem) (fun r => rgK C ops base rest (i + 1) (s0.app o.dst r) (acc ++ [⟨o, base + i, r⟩]) (fun s a => some (s, a)) none) none = some (s', acc') →
        ∃ recs, acc' = acc ++ recs ∧ recs.map (·.o) = o :: rest ∧ (∀ c ∈ recs, ∀ t, c.o.dst = some t → t < C.n) ∧ RunL C.T C.G ops recs s.f s'.f := by
      intro s0 hs hst hop
      rw [opK_eq, oK_some] at hop
      obtain ⟨r, hr, hop⟩ := hop
      have e1 : look s0.slots = s.f.fs := congrArg FS.fs hs
      have e2 : look s0.mem = s.f.fm := congrArg FS.fm hs
      rw [e1, e2] at hr
      exact go s0 r hs (hst r hr) hop
    unfold grdK at h
    split at h
    · rename_i hg
      exact goOp s rfl (fun r hr => by simp only [stepF, hg]; exact hr) h
    · rename_i g hg
      simp only [oK_some] at h
      obtain ⟨t, ht, v0, hv0, h⟩ := h
      cases hu : isTup v0 with
      | true =>
        simp only [hu, cond_true] at h
        refine go s _ rfl ?_ h
        simp only [stepF, hg, ht, oK]
        have : s.f.fs t = some v0 := hv0
        simp only [this, hu, cond_true]
      | false =>
      simp only [hu, cond_false] at h
      have hstep : ∀ (b : Bool) (r : Res), look s.slots t = some (.bool b) → (bif b == g.2 then opS C.T C.G (base + i) o.op (evF s.f.fs) s.f.fm else some (val undef)) = some r → stepF C.T C.G ops (base + i) o s.f = some r := by
        intro b r hb hr
        simp only [stepF, hg, ht, oK]
        have : s.f.fs t = some (.bool b) := hb
        simp only [this, boolK, isTup, cond_false]
        exact hr
      cases hg2 : g.2 with
      | true =>
        simp only [hg2, cond_true] at h
        rcases tst_some h with ⟨hb, h⟩ | ⟨hb, h⟩
        · exact goOp _ (St.ref_f hb) (fun r hr => hstep true r hb (by simp [hg2, hr])) h
        · exact go _ _ (St.ref_f hb) (hstep false _ hb (by simp [hg2])) h
      | false =>
        simp only [hg2, cond_false] at h
        rcases tst_some h with ⟨hb, h⟩ | ⟨hb, h⟩
        · exact go _ _ (St.ref_f hb) (hstep true _ hb (by simp [hg2])) h
        · exact goOp _ (St.ref_f hb) (fun r hr => hstep false r hb (by simp [hg2, hr])) h
theorem zip_fst {α : Type} : ∀ (recs : List α) (i : Nat), (recs.zipIdx i).map (·.2) = List.range' i recs.length
  | [], _ => rfl
  | c :: r, i => by simp [List.range'_succ, zip_fst r (i + 1)]
def pairUp (recs : List Rec) : List (Nat × Rec) := recs.zipIdx.map fun q => (q.2, q.1)
theorem pairUp_fst (recs : List Rec) : (pairUp recs).map (·.1) = List.range recs.length := by
  unfold pairUp
  rw [List.map_map, List.range_eq_range', ← zip_fst recs 0]
  rfl
theorem pairUp_snd (recs : List Rec) : (pairUp recs).map (·.2) = recs := by
  unfold pairUp
  rw [List.map_map]
  have : ((fun x : Nat × Rec => x.2) ∘ fun q : Rec × Nat => (q.2, q.1)) = Prod.fst := rfl
  rw [this, List.zipIdx_map_fst]
theorem pairUp_mem {recs : List Rec} {c : Nat × Rec} (h : c ∈ pairUp recs) : recs[c.1]? = some c.2 := by
  unfold pairUp at h
  obtain ⟨q, hq, rfl⟩ := List.mem_map.1 h
  exact List.mem_zipIdx_iff_getElem?.1 hq
theorem pairUp_of {recs : List Rec} {j : Nat} (h : j < recs.length) : ∃ c ∈ pairUp recs, c.1 = j := by
  have : j ∈ (pairUp recs).map (·.1) := by rw [pairUp_fst]; exact List.mem_range.2 h
  obtain ⟨c, hc, rfl⟩ := List.mem_map.1 this
  exact ⟨c, hc, rfl⟩
theorem reg_sound (hC : CfgOk P C code) {ops : Array Oper} {draw : Bool} {rid : Nat} {s s' : St} (h : regK C ops draw s some none = some s') {R : Nat → Pl → Prop} {a : Act} {w : World} (hrel : Rel w0 C.n R s.f a w) :
    (Code.region rid ops draw).wp P (fun e a' w' => e = .normal ∧ ∃ R', Rel w0 C.n R' s'.f a' w') a w := by
  unfold regK at h
  have hnat := rgK_nat (fun o : Option (St × List Rec) => oK o (fun q => bif !draw || drawOk ops q.2 then some (q.1.bump (s.next + ops.toList.length)) else none) none) C ops s.next ops.toList 0 s [] (fun s a => some (s, a)) none
  simp only [oK] at hnat
  rw [← hnat] at h
  cases hrun : rgK C ops s.next ops.toList 0 s [] (fun s a => some (s, a)) none with
  | none => rw [hrun] at h; simp at h
  | some q =>
    obtain ⟨s1, acc⟩ := q
    rw [hrun] at h
    simp only [cond_some] at h
    obtain ⟨hok, h⟩ := h
    have h := Option.some.inj h
    have hf : s'.f = s1.f := by rw [← h]; rfl
    obtain ⟨recs, h1, h2, h3, h4⟩ := rg_run _ _ _ _ hrun
    simp only [List.nil_append] at h1
    subst h1
    have hlen : acc.length = ops.size := by rw [← Array.length_toList, ← h2, List.length_map]
    have hI : ∀ c ∈ pairUp acc, ops[c.1]? = some c.2.o ∧ ∀ t, c.2.o.dst = some t → t < C.n := by
      intro c hc
      have hc' := pairUp_mem hc
      refine ⟨?_, h3 c.2 (List.mem_of_getElem? hc')⟩
      rw [← Array.getElem?_toList, ← h2, List.getElem?_map, hc']
      rfl
    have hQ : ∀ R a w, Rel w0 C.n R s1.f a w → (fun e a' w' => e = Exit.normal ∧ ∃ R', Rel w0 C.n R' s'.f a' w') Exit.normal a w := by
      intro R a w hr; exact ⟨rfl, R, by rw [hf]; exact hr⟩
    cases draw with
    | false =>
      refine wp_region ?_
      have := text_sound (Q := fun e a' w' => e = Exit.normal ∧ ∃ R', Rel w0 C.n R' s'.f a' w') hC.T hC.G (pairUp acc) (by rw [pairUp_snd]; exact h4) hrel hI hQ
      rw [pairUp_fst, hlen] at this
      exact this
    | true =>
      simp only [Bool.not_true, Bool.false_or] at hok
      refine wp_region_any hC.mixed ?_
      have hrel' : Rel w0 C.n R s.f a { w with drawn := w.drawn + 1 } := hrel.world ⟨rfl, rfl, rfl, Nat.le_refl _, fun _ _ => rfl⟩
      refine any_sound hC.T hC.G hok ops.size (pairUp acc) _ (by rw [← List.length_map (f := (·.1)), pairUp_fst, List.length_range, hlen]; exact Nat.le_refl _) ?_ (fun c hc => ⟨(hI c hc).1, pairUp_mem hc, (hI c hc).2⟩) ?_ (by simp) ?_ (by rw [pairUp_snd]; exact h4) hrel' hQ
      · have : ((pairUp acc).map (·.1)).Pairwise (· < ·) := by rw [pairUp_fst]; exact List.pairwise_lt_range
        exact List.pairwise_map.1 this
      · intro j
        constructor
        · rintro ⟨c, hc, rfl⟩
          have h5 := (hI c hc).1
          have hlt : c.1 < ops.size := by
            rcases Nat.lt_or_ge c.1 ops.size with h | h
            · exact h
            · rw [Array.getElem?_eq_none h] at h5; simp at h5
          exact ⟨hlt, by simp [Array.getD_eq_getD_getElem?, hlt]⟩
        · rintro ⟨hlt, _⟩
          exact pairUp_of (by omega)
      · intro j o ho hj
        rw [Array.getElem?_replicate] at hj
        split at hj <;> simp at hj
theorem cond_run {β : Type} {s : St} {c : Operand} {yes no : St → Option β} {r : β} (h : condK s c yes no none = some r) {n : Nat} {R : Nat → Pl → Prop} {a : Act} {w : World} (hrel : Rel w0 n R s.f a w) :
    ∃ (b : Bool) (s0 : St), a.eval c = .bool b ∧ s0.f = s.f ∧ (if b then yes s0 else no s0) = some r := by
  unfold condK at h
  split at h
  · rename_i t
    rcases tst_some h with ⟨hb, h⟩ | ⟨hb, h⟩
    · exact ⟨true, _, V2_bool (hrel.ev (x := .tmp t) hb), St.ref_f hb, h⟩
    · exact ⟨false, _, V2_bool (hrel.ev (x := .tmp t) hb), St.ref_f hb, h⟩
  · rename_i b
    cases b
    · exact ⟨false, s, rfl, rfl, h⟩
    · exact ⟨true, s, rfl, rfl, h⟩
  · simp at h
theorem ev_sound2 (hC : CfgOk P C code) : ∀ (m : Nat) (p : List Nat) (c : Code) (s : St) (e : Exit) (s' : St), codeAt p code = some c → evS C m p c s = some (e, s') →
    (∀ {R : Nat → Pl → Prop} {a : Act} {w : World}, Rel w0 C.n R s.f a w → c.wp P (fun e' a' w' => e' = e ∧ ∃ R', Rel w0 C.n R' s'.f a' w') a w) ∧
    (∀ x, c = .loop x → lookP C.L p = none → ∃ r, ∀ {R : Nat → Pl → Prop} {a : Act} {w : World}, Rel w0 C.n R s.f a w → Code.rounds P x (fun e' a' w' => e' = e ∧ ∃ R', Rel w0 C.n R' s'.f a' w') r a w) := by
  intro m
  induction m with
  | zero => intro p c s e s' _ h; simp [evS, evK] at h
  | succ m ih =>
    intro p c s e s' hp h
    unfold evS at h
    cases c with
    | skip => simp only [evK, Option.some.injEq, Prod.mk.injEq] at h; obtain ⟨rfl, rfl⟩ := h; exact ⟨fun hrel => wp_skip ⟨rfl, _, hrel⟩, nofun⟩
    | label l => simp only [evK, Option.some.injEq, Prod.mk.injEq] at h; obtain ⟨rfl, rfl⟩ := h; exact ⟨fun hrel => wp_label ⟨rfl, _, hrel⟩, nofun⟩
    | exit id => simp only [evK, Option.some.injEq, Prod.mk.injEq] at h; obtain ⟨rfl, rfl⟩ := h; exact ⟨fun hrel => wp_exit ⟨rfl, _, hrel⟩, nofun⟩
    | ret => simp only [evK, Option.some.injEq, Prod.mk.injEq] at h; obtain ⟨rfl, rfl⟩ := h; exact ⟨fun hrel => wp_ret ⟨rfl, _, hrel⟩, nofun⟩
    | region rid ops draw =>
      simp only [evK] at h
      have hnat := regK_nat (fun o : Option St => oK o (fun s' => some (Exit.normal, s')) none) C ops draw s some none
      simp only [oK] at hnat
      rw [← hnat] at h
      cases hr : regK C ops draw s some none with
      | none => rw [hr] at h; simp at h
      | some s1 =>
        rw [hr] at h
        simp only [Option.some.injEq, Prod.mk.injEq] at h
        obtain ⟨rfl, rfl⟩ := h
        exact ⟨fun hrel => reg_sound hC hr hrel, nofun⟩
    | seq x y =>
      refine ⟨fun {R a w} hrel => ?_, nofun⟩
      simp only [evK] at h
      rw [evK_eq, oK_some] at h
      obtain ⟨⟨e1, s1⟩, h1, h2⟩ := h
      have hx : codeAt (p ++ [0]) code = some x := by rw [codeAt_app, hp]; rfl
      have hy : codeAt (p ++ [1]) code = some y := by rw [codeAt_app, hp]; rfl
      refine wp_seq (wp_mono ((ih _ _ _ _ _ hx h1).1 hrel) ?_)
      rintro e' a' w' ⟨rfl, R', hrel'⟩
      cases e' with
      | normal => simp only [thenK] at h2; exact (ih _ _ _ _ _ hy h2).1 hrel'
      | _ => simp only [thenK, Option.some.injEq, Prod.mk.injEq] at h2; obtain ⟨rfl, rfl⟩ := h2; exact ⟨rfl, R', hrel'⟩
    | cond cc x y =>
      refine ⟨fun {R a w} hrel => ?_, nofun⟩
      simp only [evK] at h
      obtain ⟨b, s0, hb, hs0, h1⟩ := cond_run h hrel
      have hx : codeAt (p ++ [0]) code = some x := by rw [codeAt_app, hp]; rfl
      have hy : codeAt (p ++ [1]) code = some y := by rw [codeAt_app, hp]; rfl
      refine wp_cond hb ?_
      cases b with
      | true => exact (ih _ _ _ _ _ hx h1).1 (by rw [hs0]; exact hrel)
      | false => exact (ih _ _ _ _ _ hy h1).1 (by rw [hs0]; exact hrel)
    | block id x =>
      refine ⟨fun {R a w} hrel => ?_, nofun⟩
      simp only [evK] at h
      rw [evK_eq, oK_some] at h
      obtain ⟨⟨e1, s1⟩, h1, h2⟩ := h
      have hx : codeAt (p ++ [0]) code = some x := by rw [codeAt_app, hp]; rfl
      refine wp_block (wp_mono ((ih _ _ _ _ _ hx h1).1 hrel) ?_)
      rintro e' a' w' ⟨rfl, R', hrel'⟩
      cases e' with
      | exit j =>
        simp only [blockK] at h2
        simp only [Exit.inBlock]
        by_cases hj : j = id
        · subst hj
          simp only [Nat.beq_refl, cond_true, Option.some.injEq, Prod.mk.injEq] at h2
          obtain ⟨rfl, rfl⟩ := h2
          rw [if_pos rfl]
          exact ⟨rfl, R', hrel'⟩
        · rw [nbeq_ne hj] at h2
          simp only [cond_false, Option.some.injEq, Prod.mk.injEq] at h2
          obtain ⟨rfl, rfl⟩ := h2
          rw [if_neg hj]
          exact ⟨rfl, R', hrel'⟩
      | _ => simp only [blockK, Option.some.injEq, Prod.mk.injEq] at h2; obtain ⟨rfl, rfl⟩ := h2; exact ⟨rfl, R', hrel'⟩
    | scope x =>
      refine ⟨fun {R a w} hrel => ?_, nofun⟩
      simp only [evK] at h
      rw [evK_eq, oK_some] at h
      obtain ⟨⟨e1, s1⟩, h1, h2⟩ := h
      have hx : codeAt (p ++ [0]) code = some x := by rw [codeAt_app, hp]; rfl
      refine wp_scope_straight (wp_mono ((ih _ _ _ _ _ hx h1).1 hrel) ?_)
      rintro e' a' w' ⟨rfl, R', hrel'⟩
      cases e' with
      | goto l => simp [scopeK] at h2
      | _ => simp only [scopeK, Option.some.injEq, Prod.mk.injEq] at h2; obtain ⟨rfl, rfl⟩ := h2; exact ⟨rfl, R', hrel'⟩
    | loop x =>
      simp only [evK] at h
      have hx : codeAt (p ++ [0]) code = some x := by rw [codeAt_app, hp]; rfl
      cases hL : lookP C.L p with
      | some F =>
        rw [hL] at h
        simp only [oK, altK_eq] at h
        have hbody : loopAt p code = x := by simp [loopAt, hp]
        have h0 := hC.L p F hL
        rw [hbody] at h0
        cases hpk : pickL (F s) with
        | none => rw [hpk] at h; simp at h
        | some q =>
          rw [hpk] at h
          have h : q = (e, s') := Option.some.inj h
          subst h
          exact ⟨fun {R a w} hrel => h0 w0 R s a w hrel e s' hpk, nofun⟩
      | none =>
        rw [hL] at h
        simp only [oK] at h
        have hr : ∃ r, ∀ {R : Nat → Pl → Prop} {a : Act} {w : World}, Rel w0 C.n R s.f a w → Code.rounds P x (fun e' a' w' => e' = e ∧ ∃ R', Rel w0 C.n R' s'.f a' w') r a w := by
          rw [evK_eq, oK_some] at h
          obtain ⟨⟨e1, s1⟩, h1, h2⟩ := h
          obtain ⟨hb, _⟩ := ih _ _ _ _ _ hx h1
          cases e1 with
          | normal =>
            simp only [thenK] at h2
            obtain ⟨r, hr⟩ := (ih p (.loop x) s1 e s' hp h2).2 x rfl hL
            refine ⟨r + 1, fun {R a w} hrel => ?_⟩
            rw [rounds_succ]
            refine wp_mono (hb hrel) ?_
            rintro e' a' w' ⟨rfl, R', hrel'⟩
            exact hr hrel'
          | _ =>
            simp only [thenK, Option.some.injEq, Prod.mk.injEq] at h2
            obtain ⟨rfl, rfl⟩ := h2
            refine ⟨1, fun {R a w} hrel => wp_mono (hb hrel) ?_⟩
            rintro e' a' w' ⟨rfl, hrel'⟩
            exact ⟨rfl, hrel'⟩
        obtain ⟨r, hr⟩ := hr
        exact ⟨fun {R a w} hrel => wp_loop_rounds r (hr hrel), fun x' hx' _ => by cases hx'; exact ⟨r, hr⟩⟩
    | _ => simp [evK] at h
theorem ev_sound (hC : CfgOk P C code) {m : Nat} {p : List Nat} {c : Code} {s : St} {e : Exit} {s' : St} (hp : codeAt p code = some c) (h : evS C m p c s = some (e, s')) {R : Nat → Pl → Prop} {a : Act} {w : World} (hrel : Rel w0 C.n R s.f a w) :
    c.wp P (fun e' a' w' => e' = e ∧ ∃ R', Rel w0 C.n R' s'.f a' w') a w := (ev_sound2 hC m p c s e s' hp h).1 hrel
end
end Go.W

namespace Go.W
open Go.RowKit (Below)
section
variable {R : Type}
def resK (T : Tab) (s : St) : List ResultVar → (List Value → R) → R → R
  | [], k, _ => k []
  | .tmp t :: r, k, f => oK (look s.slots t) (fun v => resK T s r (fun vs => k (v :: vs)) f) f
  | .cell a t :: r, k, f => oK (look s.slots a) (fun v => ptrK v (fun b off => loadK T t (look s.mem) b off (fun q => resK T s r (fun vs => k (q.val :: vs)) f) f) f) f
def oneK (vs : List Value) (k : Value → R) : R :=
  match vs with
  | [v] => k v
  | vs => k (.tuple vs.toArray)
def endK (T : Tab) (fn : Func) (e : Exit) (s : St) (k : Value → R) (f : R) : R :=
  match e with
  | .normal => resK T s fn.results.toList (fun vs => oneK vs k) f
  | .ret => resK T s fn.results.toList (fun vs => oneK vs k) f
  | _ => f
def argSlots : Nat → List Value → List (Nat × Value)
  | _, [] => []
  | i, v :: r => (i, v) :: argSlots (i + 1) r
def fnK (C : Cfg) (fuel : Nat) (fn : Func) (c : Code) (args : List Value) (k : Value → R) (f : R) : R :=
  evK C fuel [] c ⟨argSlots 0 args, [], 0⟩ (fun e s => endK C.T fn e s k f) f
variable {R' : Type} (h : R → R')
end
def fnS (C : Cfg) (fuel : Nat) (fn : Func) (c : Code) (args : List Value) : Option Value := fnK C fuel fn c args some none
def resOne (tmps : Array Value) (x : ResultVar) : Sem Value :=
  match x with
  | .tmp t => pure (tmps.getD t undef)
  | .cell b t => do loadVar t (← asAddr (tmps.getD b undef))
theorem results_eq (fn : Func) (tmps : Array Value) : results fn tmps = (do
    let vs ← fn.results.mapM (resOne tmps)
    pure (if h : vs.size = 1 then vs[0] else .tuple vs)) := by
  unfold results
  congr 1
section
variable {P : Program} [Laid P] {C : Cfg} {c : Code} {w0 : Wb (lay P)} {w : World} {R : Nat → Pl → Prop} {a : Act}
theorem res_run (hC : CfgOk P C c) {s : St} (hrel : Rel w0 C.n R s.f a w) : ∀ (l : List ResultVar) {β : Type} {k : List Value → Option β} {r : β}, resK C.T s l k none = some r →
    ∃ vs vs', k vs = some r ∧ LR (V2 R) vs vs' ∧
      (l.mapM (resOne a.tmps)).run P w = .ok vs' w
  | [], β, k, r, h => ⟨[], [], h, trivial, rfl⟩
  | .tmp t :: l, β, k, r, h => by
    simp only [resK, oK_some] at h
    obtain ⟨v, hv, h⟩ := h
    obtain ⟨vs, vs', h1, h2, h3⟩ := res_run hC hrel l h
    have hev := hrel.ev (x := .tmp t) hv
    refine ⟨v :: vs, a.tmps.getD t undef :: vs', h1, ⟨hev, h2⟩, ?_⟩
    simp only [List.mapM_cons, resOne, Sem.run_bind, Sem.run_pure, Result.andThen_ok] at h3 ⊢
    simp only [h3, Result.andThen_ok]
  | .cell b t :: l, β, k, r, h => by
    simp only [resK, oK_some, ptrK_some] at h
    obtain ⟨v, hv, b1, off, rfl, h⟩ := h
    obtain ⟨p, b2, hp, hpa, hev⟩ := V2_ptr (hrel.ev (x := .tmp b) hv)
    have hev : a.tmps.getD b undef = .pointer (some ⟨b2, p.d + off, none⟩) := hev
    obtain ⟨q, hq, h⟩ : ∃ q, loadK C.T t (look s.mem) b1 off some none = some q ∧ resK C.T s l (fun vs => k (q.val :: vs)) none = some r := by
      have := loadK_nat (fun o : Option Res => oK o (fun q => resK C.T s l (fun vs => k (q.val :: vs)) none) none) C.T t (look s.mem) b1 off some none
      simp only [oK] at this
      rw [← this] at h
      cases hq : loadK C.T t (look s.mem) b1 off some none with
      | none => rw [hq] at h; simp at h
      | some q => rw [hq] at h; exact ⟨q, rfl, h⟩
    obtain ⟨_, u', h5, h4⟩ := load_run hC.T hrel.m hp hpa hq
    obtain ⟨vs, vs', h6, h7, h8⟩ := res_run hC hrel l h
    refine ⟨q.val :: vs, u' :: vs', h6, ⟨h4, h7⟩, ?_⟩
    have hadr : (asAddr (a.tmps.getD b undef)).run P w = .ok ⟨b2, p.d + off, none⟩ w := by rw [hev]; rfl
    rw [List.mapM_cons]
    have h9 : (resOne a.tmps (.cell b t)).run P w = .ok u' w := by simp only [resOne, Sem.run_bind, hadr, Result.andThen_ok, h5]
    simp only [Sem.run_bind, h9, Sem.run_pure, Result.andThen_ok, h8]
theorem oneK_some {vs : List Value} {v : Value} (h : oneK vs some = some v) : (vs = [v]) ∨ (vs.length ≠ 1 ∧ v = .tuple vs.toArray) := by
  unfold oneK at h
  split at h
  · left; simp at h; rw [h]
  · rename_i hne
    right
    simp at h
    refine ⟨fun hl => ?_, h.symm⟩
    match vs, hl with
    | [x], _ => exact hne x rfl
theorem argSlots_look : ∀ (args : List Value) (i t : Nat) (v : Value), look (argSlots i args) t = some v → ∃ j, t = i + j ∧ args[j]? = some v
  | [], _, _, _, h => by simp [argSlots, look] at h
  | x :: r, i, t, v, h => by
    simp only [argSlots, look_cons] at h
    by_cases ht : i = t
    · subst ht
      rw [upd_same] at h
      cases h
      exact ⟨0, rfl, rfl⟩
    · rw [upd_ne _ _ ht] at h
      obtain ⟨j, h1, h2⟩ := argSlots_look r (i + 1) t v h
      exact ⟨j + 1, by omega, by simpa using h2⟩
theorem fn_sound (hC : CfgOk P C c) {g : FuncId} {fn : Func} (hf : P.funcs[g]? = some fn) (hb : fn.body = some c) (hn : C.n = fn.ntmps) {args : List Value} (hlen : args.length ≤ fn.ntmps) (hp : args.all pl2 = true)
    {fuel : Nat} {v : Value} (h : fnS C fuel fn c args = some v) (hv : pl2 v = true) (w : World) (hg : GOk (lay P) w) : Calls P g args.toArray w fun e w' => e = .returned v ∧ Below w.heap.size w w' := by
  unfold fnS fnK at h
  rw [evK_eq, oK_some] at h
  obtain ⟨⟨e, s'⟩, h1, h2⟩ := h
  refine calls_of_wp hf hb ?_
  have hrel : Rel (⟨w, fun _ => False, fun _ _ => False⟩ : Wb (lay P)) C.n (fun _ _ => False) (St.f ⟨argSlots 0 args, [], 0⟩) { tmps := args.toArray ++ Array.replicate (fn.ntmps - args.toArray.size) undef, defers := [] } w := by
    refine ⟨rfl, by simp; omega, ?_, ⟨BelowX.refl _ _ _ hg (fun _ _ h => h), nofun, nofun, ?_, nofun, nofun, nofun, nofun⟩⟩
    · intro t u hu
      obtain ⟨j, rfl, hj⟩ := argSlots_look args 0 t u hu
      have hu2 := List.all_eq_true.1 hp u (List.mem_of_getElem? hj)
      have hlt : j < args.length := by
        rcases Nat.lt_or_ge j args.length with h | h
        · exact h
        · rw [List.getElem?_eq_none h] at hj; simp at hj
      refine ⟨u, ?_, (V2_plain hu2).2 rfl⟩
      rw [Nat.zero_add, Array.getElem?_append_left (by simpa using hlt)]
      simpa using hj
    · intro i blk hi; simp [St.f, look] at hi
  refine wp_mono (ev_sound hC (p := []) rfl h1 hrel) ?_
  rintro e' a' w' ⟨rfl, R', hr'⟩
  have fin : endK C.T fn e' s' some none = some v → (e' = .normal ∨ e' = .ret) → a'.defers = [] ∧ ∃ v', (results fn a'.tmps).run P w' = .ok v' w' ∧ (v' = v ∧ Below w.heap.size w w') := by
    intro h3 h4
    refine ⟨hr'.defers, ?_⟩
    have h3 : resK C.T s' fn.results.toList (fun vs => oneK vs some) none = some v := by
      rcases h4 with rfl | rfl <;> exact h3
    obtain ⟨vs, vs', h5, h6, h7⟩ := res_run hC hr' _ h3
    have hrun : (results fn a'.tmps).run P w' = .ok (if h : vs'.toArray.size = 1 then vs'.toArray[0] else .tuple vs'.toArray) w' := by
      rw [results_eq, Array.mapM_eq_mapM_toList]
      simp only [Sem.run_bind, Sem.run_map, h7, Result.andThen_ok, Sem.run_pure]
    refine ⟨_, hrun, ?_, hr'.m.below.below fun _ h => h⟩
    rcases oneK_some h5 with rfl | ⟨hl, rfl⟩
    · match vs', h6 with
      | [u], h6 =>
        have := (V2_plain hv).1 h6.1
        subst this
        simp
    · have hl' : vs'.length ≠ 1 := by rw [← LR_len h6]; exact hl
      rw [dif_neg (by simpa using hl')]
      have hall : vs.all pl1 = true := by simpa [pl2] using hv
      have : vs' = vs := by
        refine (LR_plain (r := V2 R') (pl := pl1) (fun u u' hu => ?_) hall).1 h6
        refine V2_plain ?_
        unfold pl2; split
        · simp [pl1, pl0] at hu
        · exact hu
      rw [this]
  cases e' with
  | normal => obtain ⟨k1, v', k2, rfl, k3⟩ := fin h2 (.inl rfl); exact ⟨k1, v', k2, rfl, k3⟩
  | ret => obtain ⟨k1, v', k2, rfl, k3⟩ := fin h2 (.inr rfl); exact ⟨k1, v', k2, rfl, k3⟩
  | _ => simp [endK] at h2
theorem sums_nil : SumsOk P [] := by intro g e h; simp [look] at h
theorem sums_cons {G : Sums} {g : FuncId} {F : List Value → Option (Bool × Value)} (h : Sum P g F) (hG : SumsOk P G) : SumsOk P ((g, .pl F) :: G) := by
  intro g' F' hF
  rw [look_cons] at hF
  by_cases hg : g = g'
  · subst hg; rw [upd_same] at hF; cases hF; exact h
  · rw [upd_ne _ _ hg] at hF; exact hG g' F' hF
theorem sum_of (hC : CfgOk P C c) {g : FuncId} {fn : Func} (hf : P.funcs[g]? = some fn) (hname : (fn.name == "runtime.NumGoroutine") = false) (hb : fn.body = some c) (hn : C.n = fn.ntmps) {F : List Value → Option (Bool × Value)} {fuel : Nat}
    (h : ∀ args v, F args = some (true, v) → args.all pl2 = true → args.length ≤ fn.ntmps ∧ fnS C fuel fn c args = some v ∧ pl2 v = true) : Sum P g F := by
  intro args v hF hp w hgk
  obtain ⟨h1, h2, h3⟩ := h args v hF hp
  have hne : fn.name ≠ "runtime.NumGoroutine" := by simpa using hname
  have hrun : (callFunc g args.toArray).run P w = .ok (.enter g args.toArray) w := by simp [callFunc, hf, hne, hb]
  unfold Invokes
  rw [hrun]
  refine Calls.mono (fn_sound hC hf hb hn h1 hp h2 h3 w hgk) ?_
  rintro e w' ⟨rfl, hb⟩
  exact ⟨rfl, hb⟩
theorem sum_at (hC : CfgOk P C c) {g : FuncId} {fn : Func} (hf : P.funcs[g]? = some fn) (hname : (fn.name == "runtime.NumGoroutine") = false) (hb : fn.body = some c) (hn : C.n = fn.ntmps) {args : List Value} {v : Value} {fuel : Nat}
    (h1 : args.length ≤ fn.ntmps) (h2 : fnS C fuel fn c args = some v) (h3 : pl2 v = true) : args.all pl2 = true → ∀ w, GOk (lay P) w → Invokes P g args.toArray w fun v' w' => v' = v ∧ Below w.heap.size w w' := by
  intro hp w hgk
  have hne : fn.name ≠ "runtime.NumGoroutine" := by simpa using hname
  have hrun : (callFunc g args.toArray).run P w = .ok (.enter g args.toArray) w := by simp [callFunc, hf, hne, hb]
  unfold Invokes
  rw [hrun]
  refine Calls.mono (fn_sound hC hf hb hn h1 hp h2 h3 w hgk) ?_
  rintro e w' ⟨rfl, hb⟩
  exact ⟨rfl, hb⟩
end
section
variable {P : Program}
theorem tab_nil : TabOk P [] := by intro t i h; simp [look] at h
theorem tab_cons {T : Tab} {t : Nat} {i : TInf} (h : TOk P t i) (hT : TabOk P T) : TabOk P ((t, i) :: T) := by
  intro t' i' hi
  rw [look_cons] at hi
  by_cases ht : t = t'
  · subst ht; rw [upd_same] at hi; cases hi; exact h
  · rw [upd_ne _ _ ht] at hi; exact hT t' i' hi
theorem tok_plain {t : Nat} {d : TypeDesc} {siz byt : Nat} {zer : Value} (h1 : P.underlying t = some d) (h2 : (P.info? t).map (fun i => (i.size, i.zero, i.bytes)) = some (siz, some zer, byt)) : TOk P t ⟨d, siz, zer, false, [], [], byt⟩ := by
  obtain ⟨i, h3, h4⟩ := Option.map_eq_some_iff.1 h2
  simp only [Prod.mk.injEq] at h4
  exact ⟨⟨i, h3, h4.1, h4.2.1, h4.2.2⟩, fun _ => h1, nofun, fun h => absurd rfl h⟩
theorem tok_eq {t : Nat} {d : TypeDesc} {siz byt : Nat} {zer : Value} {ks : List CK} (h1 : P.underlying t = some d) (h2 : (P.info? t).map (fun i => (i.size, i.zero, i.bytes)) = some (siz, some zer, byt)) (h3 : P.eqGuardType P.depth t = false) (h6 : kindsT P 20 t = some ks) : TOk P t ⟨d, siz, zer, false, [], ks, byt⟩ := by
  obtain ⟨i, h4, h5⟩ := Option.map_eq_some_iff.1 h2
  simp only [Prod.mk.injEq] at h5
  exact ⟨⟨i, h4, h5.1, h5.2.1, h5.2.2⟩, fun _ => h1, nofun, fun _ => ⟨h3, h6⟩⟩
end
end Go.W

namespace Go.W
open Go.RowKit (Below)
abbrev Ren := List (Nat × Nat)
def idR (l : List Nat) : Ren := l.map fun i => (i, i)
instance : Coe (List Nat) Ren := ⟨idR⟩
def swapR : Ren → Ren
  | [] => []
  | p :: l => (p.2, p.1) :: swapR l
def ren0 (ρ : Ren) : Value → Option Value
  | .pointer (some a) => oK (look ρ a.block) (fun b => some (.pointer (some ⟨b, a.off, a.spot⟩))) none
  | .slice (some a) n c => oK (look ρ a.block) (fun b => some (.slice (some ⟨b, a.off, a.spot⟩) n c)) none
  | v => some v
def renL (q : Value → Option Value) : List Value → Option (List Value)
  | [] => some []
  | v :: l => oK (q v) (fun u => oK (renL q l) (fun m => some (u :: m)) none) none
def ren1 (ρ : Ren) : Value → Option Value
  | .agg cs => oK (renL (ren0 ρ) cs.toList) (fun l => some (.agg l.toArray)) none
  | v => ren0 ρ v
def ren2 (ρ : Ren) : Value → Option Value
  | .tuple vs => oK (renL (ren1 ρ) vs.toList) (fun l => some (.tuple l.toArray)) none
  | v => ren1 ρ v
def renC (ρ : Ren) : Cells → Option Cells
  | .lst l => oK (renL (ren0 ρ) l) (fun m => some (.lst m)) none
  | .row ks n f => some (.row ks n f)
  | .elt i k sz => oK (look ρ i) (fun j => some (.elt j k sz)) none
  | .tail i l cnt sz => oK (look ρ i) (fun j => some (.tail j l cnt sz)) none
  | .fam ks n es g => some (.fam ks n es g)
  | .itr s pos => some (.itr s pos)
def renOk1 (p : Nat × Nat) : Bool := (loose p.1 == loose p.2) && (Nat.beq p.1 p.2 || Nat.blt p.1 1000000) && (Nat.blt p.1 1000000000 && Nat.blt p.2 1000000000)
def nodupB : List Nat → Bool
  | [] => true
  | x :: l => !(nmem x l) && nodupB l
def renOk (is : Ren) : Bool := is.all renOk1 && nodupB (is.map (·.1)) && nodupB (is.map (·.2))
def getSlots (s : St) (ρ : Ren) : List Nat → Option (List (Nat × Value))
  | [] => some []
  | t :: r => oK (look s.slots t) (fun v => oK (ren2 ρ v) (fun u => oK (getSlots s ρ r) (fun l => some ((t, u) :: l)) none) none) none
def getMem (s : St) (ρ : Ren) : Ren → Option (List (Nat × Blk))
  | [] => some []
  | i :: r => oK (look s.mem i.2) (fun b => oK (renC ρ b.cells) (fun c => oK (getMem s ρ r) (fun l => some ((i.1, ⟨c, b.elem, b.own⟩) :: l)) none) none) none
def restS (ts : List Nat) (is : Ren) (nx : Nat) (s : St) : Option St :=
  bif renOk is then oK (getSlots s (swapR is) ts) (fun sl => oK (getMem s (swapR is) is) (fun me => some ⟨sl, me, nx⟩) none) none else none
section
variable {GL : Glob} {w0 : Wb GL} {w : World} {n : Nat} {R : Nat → Pl → Prop} {a : Act} {is : Ren}
theorem look_swap : ∀ {is : Ren} {o i : Nat}, nodupB (is.map (·.1)) = true → look (swapR is) o = some i → look is i = some o
  | [], _, _, _, h => by simp [swapR, look] at h
  | p :: is, o, i, hn, h => by
    simp only [List.map_cons, nodupB, Bool.and_eq_true, Bool.not_eq_true'] at hn
    simp only [swapR, look_cons] at h
    by_cases hp : p.2 = o
    · subst hp
      rw [upd_same] at h
      cases h
      obtain ⟨x, y⟩ := p
      rw [look_cons, upd_same]
    · rw [upd_ne _ _ hp] at h
      have ih := look_swap hn.2 h
      obtain ⟨x, y⟩ := p
      rw [look_cons]
      by_cases hx : x = i
      · subst hx
        have : x ∈ is.map (·.1) := by
          have key : ∀ (l : Ren) (z : Nat), look l x = some z → x ∈ l.map (·.1) := by
            intro l
            induction l with
            | nil => intro z hz; simp [look] at hz
            | cons q l ih2 =>
              intro z hz
              obtain ⟨q1, q2⟩ := q
              rw [look_cons] at hz
              by_cases hq : q1 = x
              · simp [hq]
              · rw [upd_ne _ _ hq] at hz; simp [ih2 z hz]
          exact key is o ih
        rw [nmem_iff.2 this] at hn
        simp at hn
      · rw [upd_ne _ _ hx]; exact ih
theorem look_mem2 : ∀ {is : Ren} {i o : Nat}, look is i = some o → (i, o) ∈ is
  | [], _, _, h => by simp [look] at h
  | (x, y) :: is, i, o, h => by
    rw [look_cons] at h
    by_cases hx : x = i
    · subst hx; rw [upd_same] at h; cases h; simp
    · rw [upd_ne _ _ hx] at h; exact List.mem_cons_of_mem _ (look_mem2 h)
theorem look_inj : ∀ {is : Ren} {i j o : Nat}, nodupB (is.map (·.2)) = true → look is i = some o → look is j = some o → i = j
  | [], _, _, _, _, h, _ => by simp [look] at h
  | (x, y) :: is, i, j, o, hn, hi, hj => by
    simp only [List.map_cons, nodupB, Bool.and_eq_true, Bool.not_eq_true'] at hn
    rw [look_cons] at hi hj
    have out : ∀ z, look is z = some y → False := by
      intro z hz
      have : y ∈ is.map (·.2) := List.mem_map.2 ⟨(z, y), look_mem2 hz, rfl⟩
      rw [nmem_iff.2 this] at hn
      simp at hn
    by_cases hx : x = i
    · subst hx
      rw [upd_same] at hi
      cases hi
      by_cases hx2 : x = j
      · exact hx2
      · rw [upd_ne _ _ hx2] at hj; exact (out _ hj).elim
    · rw [upd_ne _ _ hx] at hi
      by_cases hx2 : x = j
      · subst hx2
        rw [upd_same] at hj
        cases hj
        exact (out _ hi).elim
      · rw [upd_ne _ _ hx2] at hj
        exact look_inj hn.2 hi hj
def renR (is : Ren) (R : Nat → Pl → Prop) (i : Nat) (p : Pl) : Prop := (∃ o, look is i = some o ∧ R o p) ∨ (1000000000 ≤ i ∧ R i p)
theorem renOk_loose (hk : renOk is = true) {i o : Nat} (h : look is i = some o) : loose i = loose o ∧ (i = o ∨ i < 1000000) := by
  unfold renOk at hk
  simp only [Bool.and_eq_true] at hk
  have := List.all_eq_true.1 hk.1.1 _ (look_mem2 h)
  simp only [renOk1, Bool.and_eq_true, beq_iff_eq, Bool.or_eq_true, nbeq, Nat.blt_eq] at this
  exact this.1
theorem renOk_lt (hk : renOk is = true) {i o : Nat} (h : look is i = some o) : i < 1000000000 ∧ o < 1000000000 := by
  unfold renOk at hk
  simp only [Bool.and_eq_true] at hk
  have := List.all_eq_true.1 hk.1.1 _ (look_mem2 h)
  simp only [renOk1, Bool.and_eq_true, beq_iff_eq, Bool.or_eq_true, nbeq, Nat.blt_eq] at this
  exact this.2
theorem V0_ren (hk : renOk is = true) {v u v' : Value} (h : V0 R v v') (hu : ren0 (swapR is) v = some u) : V0 (renR is R) u v' := by
  have hn : nodupB (is.map (·.1)) = true := by
    unfold renOk at hk
    simp only [Bool.and_eq_true] at hk
    exact hk.1.2
  unfold ren0 at hu
  split at hu
  · rename_i a
    obtain ⟨b, hb, hu⟩ := oK_some.1 hu
    cases hu
    obtain ⟨p, bl, h1, h2, h3⟩ := h
    exact ⟨p, bl, .inl ⟨a.block, look_swap hn hb, h1⟩, h2, h3⟩
  · rename_i a n c
    obtain ⟨b, hb, hu⟩ := oK_some.1 hu
    cases hu
    obtain ⟨p, h1, h2⟩ := h
    refine ⟨p, .inl ⟨a.block, look_swap hn hb, h1⟩, ?_⟩
    unfold SlOk at h2 ⊢
    simp only
    rw [(renOk_loose hk (look_swap hn hb)).1]
    exact h2
  · cases hu
    rename_i h1 h2
    unfold V0 at h ⊢
    split at h
    · exact absurd rfl (h1 _)
    · exact absurd rfl (h2 _ _ _)
    · exact h
    · exact h
    · exact h
theorem LR_ren {r r' : Value → Value → Prop} {q : Value → Option Value} (hr : ∀ v u v', r v v' → q v = some u → r' u v') : ∀ {l m l' : List Value}, LR r l l' → renL q l = some m → LR r' m l'
  | [], m, [], _, h => by simp only [renL, Option.some.injEq] at h; subst h; trivial
  | v :: l, m, v' :: l', hl, h => by
    simp only [renL, oK_some] at h
    obtain ⟨u, hu, m', hm', h⟩ := h
    cases h
    exact ⟨hr _ _ _ hl.1 hu, LR_ren hr hl.2 hm'⟩
  | [], _, _ :: _, h, _ => h.elim
  | _ :: _, _, [], h, _ => h.elim
theorem renL_len {q : Value → Option Value} : ∀ {l m : List Value}, renL q l = some m → m.length = l.length
  | [], m, h => by simp only [renL, Option.some.injEq] at h; subst h; rfl
  | v :: l, m, h => by
    simp only [renL, oK_some] at h
    obtain ⟨u, hu, m', hm', h⟩ := h
    cases h
    simp [renL_len hm']
theorem V1_ren (hk : renOk is = true) {v u v' : Value} (h : V1 R v v') (hu : ren1 (swapR is) v = some u) : V1 (renR is R) u v' := by
  unfold ren1 at hu
  split at hu
  · obtain ⟨m, hm, hu⟩ := oK_some.1 hu
    cases hu
    obtain ⟨cs', rfl, hl⟩ := h
    exact ⟨cs', rfl, LR_ren (r := V0 R) (fun _ _ _ h1 h2 => V0_ren hk h1 h2) hl hm⟩
  · rename_i hne
    have h0 : V0 R v v' := by
      unfold V1 at h
      split at h
      · exact absurd rfl (hne _)
      · exact h
    have := V0_ren hk h0 hu
    unfold V1
    split
    · exact (show False from this).elim
    · exact this
theorem V2_ren (hk : renOk is = true) {v u v' : Value} (h : V2 R v v') (hu : ren2 (swapR is) v = some u) : V2 (renR is R) u v' := by
  unfold ren2 at hu
  split at hu
  · obtain ⟨m, hm, hu⟩ := oK_some.1 hu
    cases hu
    obtain ⟨cs', rfl, hl⟩ := h
    exact ⟨cs', rfl, LR_ren (r := V1 R) (fun _ _ _ h1 h2 => V1_ren hk h1 h2) hl hm⟩
  · rename_i hne
    have h0 : V1 R v v' := by
      unfold V2 at h
      split at h
      · exact absurd rfl (hne _)
      · exact h
    exact V2_of_V1 (V1_ren hk h0 hu)
theorem getSlots_look {s : St} {ρ : Ren} : ∀ {ts : List Nat} {l : List (Nat × Value)}, getSlots s ρ ts = some l → ∀ t u, look l t = some u → ∃ v, look s.slots t = some v ∧ ren2 ρ v = some u
  | [], l, h, t, u, hv => by simp only [getSlots, Option.some.injEq] at h; subst h; simp [look] at hv
  | x :: r, l, h, t, u, hv => by
    simp only [getSlots, oK_some] at h
    obtain ⟨v, hx, u', hu, l', hl', h⟩ := h
    cases h
    rw [look_cons] at hv
    by_cases hu2 : x = t
    · subst hu2; rw [upd_same] at hv; cases hv; exact ⟨v, hx, hu⟩
    · rw [upd_ne _ _ hu2] at hv; exact getSlots_look hl' t u hv
theorem getMem_look {s : St} {ρ : Ren} : ∀ {js : Ren} {l : List (Nat × Blk)}, getMem s ρ js = some l → (∀ i, look l i = none ↔ look js i = none) ∧ ∀ i b, look l i = some b → ∃ o b0, look js i = some o ∧ look s.mem o = some b0 ∧ renC ρ b0.cells = some b.cells ∧ b.elem = b0.elem ∧ b.own = b0.own
  | [], l, h => by simp only [getMem, Option.some.injEq] at h; subst h; exact ⟨fun i => by simp [look], fun i b hb => by simp [look] at hb⟩
  | (x, y) :: r, l, h => by
    simp only [getMem, oK_some] at h
    obtain ⟨b0, hx, c, hc, l', hl', h⟩ := h
    cases h
    obtain ⟨ih1, ih2⟩ := getMem_look hl'
    constructor
    · intro i
      rw [look_cons, look_cons]
      by_cases hu : x = i
      · subst hu; simp [upd_same]
      · rw [upd_ne _ _ hu, upd_ne _ _ hu]; exact ih1 i
    · intro i b hb
      rw [look_cons] at hb ⊢
      by_cases hu : x = i
      · subst hu
        rw [upd_same] at hb
        cases hb
        exact ⟨y, b0, by rw [upd_same], hx, hc, rfl, rfl⟩
      · rw [upd_ne _ _ hu] at hb ⊢
        exact ih2 i b hb
theorem MRel.ren (hk : renOk is = true) {s : St} {me : List (Nat × Blk)} (hm : getMem s (swapR is) is = some me) (h : MRel w0 R (look s.mem) w) : MRel w0 (renR is R) (look me) w := by
  obtain ⟨g1, g2⟩ := getMem_look hm
  have hk2 := hk
  unfold renOk at hk2
  simp only [Bool.and_eq_true] at hk2
  have hn1 := hk2.1.2
  have hn2 := hk2.2
  have big : ∀ i, 1000000000 ≤ i → look is i = none := fun i hi => by
    cases hl : look is i with
    | none => rfl
    | some o => have := (renOk_lt hk hl).1; omega
  have bigm : ∀ i blk, look me i = some blk → i < 1000000000 := fun i blk hi => by
    obtain ⟨o, b0, k1, _⟩ := g2 _ _ hi
    exact (renOk_lt hk k1).1
  have frz : ∀ b, Frz R b → Frz (renR is R) b := fun b hb => .inr ⟨Nat.le_add_right _ _, hb⟩
  have row : ∀ (e : TypeId) (ks : List CK) (m : Nat) (f : Nat → List Value) (v : Value), RowAt R w e ks m f v → RowAt (renR is R) w e ks m f v := by
    intro e ks m f v hr
    rcases hr with hr | ⟨b, d, c, cs, fz, h1, h2, h3, h4, h5⟩
    · exact .inl hr
    · exact .inr ⟨b, d, c, cs, fz, h1, h2, frz _ h3, h4, h5⟩
  refine ⟨h.below, ?_, ?_, ?_, ?_, ?_, ?_, ?_⟩
  · rintro i p p' (⟨o, h1, h2⟩ | ⟨h1, h2⟩) (⟨o', h3, h4⟩ | ⟨h3, h4⟩)
    · rw [h1] at h3; cases h3
      exact h.func _ _ _ h2 h4
    · have := (renOk_lt hk h1).1; omega
    · have := (renOk_lt hk h3).1; omega
    · exact h.func _ _ _ h2 h4
  · rintro i j p q b (⟨o, h1, h2⟩ | ⟨h1, h2⟩) (⟨o', h3, h4⟩ | ⟨h3, h4⟩) ha hb hne blk hblk hown blk' hblk'
    rotate_left
    · have := bigm _ _ hblk'; omega
    · have := bigm _ _ hblk; omega
    · have := bigm _ _ hblk; omega
    obtain ⟨o1, b1, k1, k2, k3, k4, k5⟩ := g2 _ _ hblk
    obtain ⟨o2, b2, l1, l2, l3, l4, l5⟩ := g2 _ _ hblk'
    rw [h1] at k1; cases k1
    rw [h3] at l1; cases l1
    have := h.inj o o' p q b h2 h4 ha hb (fun e => hne (look_inj hn2 h1 (by rw [e]; exact h3))) b1 k2 (by rw [← k5]; exact hown) b2 l2
    refine ⟨by rw [l5]; exact this.1, ?_⟩
    have hl := this.2
    unfold renC at l3
    split at l3
    · rename_i l hc
      rw [hc] at hl
      have hl : l = [] := hl
      rw [hl] at l3
      simp only [renL, oK] at l3
      rw [← Option.some.inj l3]; rfl
    · rename_i hc
      rw [hc] at hl
      rw [← Option.some.inj l3]; exact hl
    · obtain ⟨_, _, l3⟩ := oK_some.1 l3; rw [← Option.some.inj l3]; rfl
    · obtain ⟨_, _, l3⟩ := oK_some.1 l3; rw [← Option.some.inj l3]; rfl
    · rw [← Option.some.inj l3]; rfl
    · rw [← Option.some.inj l3]; rfl
  · intro i blk hi
    obtain ⟨o, b0, k1, k2, k3, k4, k5⟩ := g2 _ _ hi
    have hmo := h.mem o b0 k2
    obtain ⟨cells, elem, own⟩ := blk
    obtain ⟨cells0, elem0, own0⟩ := b0
    simp only at k3 k4 k5
    subst k4 k5
    have cont : ∀ (c : Cells), ContOk w0 R w o ⟨cells0, elem, own⟩ → (∀ l, LP R cells0.list l → LP (renR is R) c.list l) → (cells0.list = [] → c.list = []) → (∀ p size, roomOk o cells0 p size → roomOk i c p size) → ContOk w0 (renR is R) w i ⟨c, elem, own⟩ := by
      intro c hco hlp hnil hroom
      obtain ⟨p, m1, m2⟩ := hco
      refine ⟨p, .inl ⟨o, k1, m1⟩, ?_⟩
      cases hpa : p.a with
      | none => rw [hpa] at m2; exact hnil m2
      | some b =>
        rw [hpa] at m2
        obtain ⟨cs, fz, n1, n2, n3⟩ := m2
        exact ⟨cs, fz, n1, hlp _ n2, fun ho => ⟨(n3 ho).1, (n3 ho).2.1, hroom _ _ (n3 ho).2.2⟩⟩
    unfold renC at k3
    split at k3
    · rename_i l
      obtain ⟨m, hm2, k3⟩ := oK_some.1 k3
      have k3 := (Option.some.inj k3).symm; subst k3
      refine cont (.lst m) hmo (fun l' hl' => ?_) (fun h0 => ?_) (fun p size hr => by show loose i = true → _; rw [(renOk_loose hk k1).1]; exact hr)
      · have hl' : LR (V0 R) l (l'.take l.length) := hl'
        show LR (V0 (renR is R)) m (l'.take m.length)
        rw [renL_len hm2]
        exact LR_ren (r := V0 R) (fun _ _ _ h1 h2 => V0_ren hk h1 h2) hl' hm2
      · have h0 : l = [] := h0
        rw [h0] at hm2
        simp only [renL, Option.some.injEq] at hm2
        exact hm2.symm
    · rename_i ks n f
      have k3 := (Option.some.inj k3).symm; subst k3
      refine cont (.row ks n f) hmo (fun l' hl' => ?_) (fun h0 => h0) (fun p size hr => ?_)
      · have hl' : LP R (rowL ks f 0 n) l' := hl'
        show LP (renR is R) (rowL ks f 0 n) l'
        have := (LR_plain (r := V0 R) (pl := pl0) (fun v v' hv => V0_plain hv) (rowL_pl ks f n 0)).1 hl'
        exact LP_plain (rowL_pl _ _ _ _) this
      · show loose i = true → _
        rw [(renOk_loose hk k1).1]; exact hr
    · rename_i j k sz
      obtain ⟨j', hj, k3⟩ := oK_some.1 k3
      have k3 := (Option.some.inj k3).symm; subst k3
      obtain ⟨p, q, b, m1, m2, m3⟩ := hmo
      exact ⟨p, q, b, .inl ⟨j, look_swap hn1 hj, m1⟩, .inl ⟨o, k1, m2⟩, m3⟩
    · rename_i j l cnt sz
      obtain ⟨j', hj, k3⟩ := oK_some.1 k3
      have k3 := (Option.some.inj k3).symm; subst k3
      obtain ⟨p, q, m1, m2, m3⟩ := hmo
      exact ⟨p, q, .inl ⟨j, look_swap hn1 hj, m1⟩, .inl ⟨o, k1, m2⟩, m3⟩
    · rename_i ks m es g
      have k3 := (Option.some.inj k3).symm; subst k3
      obtain ⟨p, m1, m2⟩ : FamOk w0 R w o elem own ks m es g := hmo
      refine ⟨p, .inl ⟨o, k1, m1⟩, ?_⟩
      cases hpa : p.a with
      | none => rw [hpa] at m2; exact m2
      | some b =>
        rw [hpa] at m2
        obtain ⟨cs, fz, n1, n2, n3, n4⟩ := m2
        refine ⟨cs, fz, n1, fun j hj => ?_, fun hf => frz _ (n3 hf), n4⟩
        obtain ⟨v, n5, n6⟩ := n2 j hj
        exact ⟨v, n5, row _ _ _ _ _ n6⟩
    · rename_i s pos
      have k3 := (Option.some.inj k3).symm; subst k3
      obtain ⟨b, m1, m2, m3⟩ : ItrOk w0 R w o s pos own := hmo
      exact ⟨b, .inl ⟨o, k1, m1⟩, m2, m3⟩
  · rintro i p (⟨o, h1, h2⟩ | ⟨h1, h2⟩) hvb
    · cases hl : look me i with
      | none => rw [(g1 i).1 hl] at h1; simp at h1
      | some _ => rfl
    · omega
  · rintro i p (⟨o, h1, h2⟩ | ⟨h1, h2⟩) hge hvb
    · rcases (renOk_loose hk h1).2 with e | e
      · subst e; exact h.anc _ _ h2 hge hvb
      · omega
    · omega
  · rintro i p b (⟨o, h1, h2⟩ | ⟨h1, h2⟩) hb
    · rcases h.there _ _ _ h2 hb with hc | ⟨s2, pos, j1, j2, j3⟩
      · exact .inl hc
      · cases hl : look me i with
        | none => rw [(g1 i).1 hl] at h1; simp at h1
        | some blk =>
          obtain ⟨o1, b1, k1, k2, k3, k4, k5⟩ := g2 _ _ hl
          rw [h1] at k1; cases k1
          rw [j2] at k2; cases k2
          obtain ⟨cells, elem, own⟩ := blk
          simp only [renC, Option.some.injEq] at k3 k4 k5
          subst k3 k4 k5
          exact .inr ⟨s2, pos, by rw [(renOk_loose hk h1).1]; exact j1, hl, j3⟩
    · refine .inl ((h.there _ _ _ h2 hb).loose ?_)
      unfold loose
      rw [show Nat.ble 1500000 i = true from by rw [Nat.ble_eq]; omega]
      simp
  · rintro i p (⟨o, h1, h2⟩ | ⟨h1, h2⟩) hge
    · have := (renOk_lt hk h1).1; omega
    · obtain ⟨h3, h4⟩ := h.fro i p h2 hge
      refine ⟨h3, ?_⟩
      rintro j q (⟨o, h5, h6⟩ | ⟨h5, h6⟩) hq blk hblk
      · obtain ⟨o1, b1, k1, k2, k3, k4, k5⟩ := g2 _ _ hblk
        rw [h5] at k1; cases k1
        rw [k5]; exact h4 o q h6 hq b1 k2
      · have := bigm _ _ hblk; omega
theorem Rel.rest {ts : List Nat} {nx : Nat} {s s' : St} (hr : restS ts is nx s = some s') (h : Rel w0 n R s.f a w) : ∃ R', Rel w0 n R' s'.f a w := by
  unfold restS at hr
  obtain ⟨hk, hr⟩ := cond_some.1 hr
  obtain ⟨sl, h1, hr⟩ := oK_some.1 hr
  obtain ⟨me, h2, h3⟩ := oK_some.1 hr
  cases h3
  refine ⟨renR is R, h.defers, h.size, ?_, MRel.ren hk h2 h.m⟩
  intro t u hu
  obtain ⟨v, h3, h4⟩ := getSlots_look h1 t u hu
  obtain ⟨v', h5, h6⟩ := h.slot t v h3
  exact ⟨v', h5, V2_ren hk h6 h4⟩
end
section
variable {P : Program} [Laid P] {C : Cfg} {code body : Code}
def cutK (nt : List Nat) (ni : Ren) (nx : Nat) (et : List Nat) (ei : Ren) (ex : Nat) (e : Exit) (s : St) : Option (Exit × St) :=
  match e with
  | .normal => oK (restS nt ni nx s) (fun s => some (.normal, s)) none
  | e => oK (restS et ei ex s) (fun s => some (e, s)) none
def roundS (C : Cfg) (m : Nat) (p : List Nat) (body : Code) (nt : List Nat) (ni : Ren) (nx : Nat) (et : List Nat) (ei : Ren) (ex : Nat) (s : St) : Option (Exit × St) :=
  evK C m p body s (fun e s' => cutK nt ni nx et ei ex e s') none
theorem round_sound (hC : CfgOk P C code) {p : List Nat} (hp : codeAt p code = some body) {m : Nat} {nt et : List Nat} {ni ei : Ren} {nx ex : Nat} {s s' : St} {e : Exit} (h : roundS C m p body nt ni nx et ei ex s = some (e, s'))
    {w0 : Wb (lay P)} {R : Nat → Pl → Prop} {a : Act} {w : World} (hrel : Rel w0 C.n R s.f a w) : body.wp P (fun e' a' w' => e' = e ∧ ∃ R', Rel w0 C.n R' s'.f a' w') a w := by
  unfold roundS at h
  rw [evK_eq, oK_some] at h
  obtain ⟨⟨e1, s1⟩, h1, h2⟩ := h
  refine wp_mono (ev_sound hC hp h1 hrel) ?_
  rintro e' a' w' ⟨rfl, R', hr'⟩
  cases e' <;> simp only [cutK, oK_some] at h2 <;>
    (obtain ⟨s2, h3, h4⟩ := h2; cases h4; exact ⟨rfl, Rel.rest h3 hr'⟩)
end
end Go.W

namespace Go.W
open Go.RowKit (Below)
def veq0 : Value → Value → Bool
  | .int k x, .int k' y => decide (k = k') && decide (x = y)
  | .bool a, .bool b => decide (a = b)
  | .pointer a, .pointer b => decide (a = b)
  | .slice a n c, .slice b m d => decide (a = b) && Nat.beq n m && Nat.beq c d
  | .string s, .string t => decide (s = t)
  | _, _ => false
def leq (q : Value → Value → Bool) : List Value → List Value → Bool
  | [], [] => true
  | a :: l, b :: m => q a b && leq q l m
  | _, _ => false
def veq1 : Value → Value → Bool
  | .agg xs, .agg ys => leq veq0 xs.toList ys.toList
  | v, u => veq0 v u
def slotsEq : List (Nat × Value) → List (Nat × Value) → Bool
  | [], [] => true
  | a :: l, b :: m => Nat.beq a.1 b.1 && veq1 a.2 b.2 && slotsEq l m
  | _, _ => false
noncomputable def rowEq (ks : List CK) (n : Nat) (f g : Nat → List Value) : Bool := @decide (∀ j, j < n → nrmK ks (f j) = nrmK ks (g j)) (Classical.propDecidable _)
noncomputable def lstEq (l m : List Value) : Bool := @decide (l = m) (Classical.propDecidable _)
noncomputable def famEq (ks : List CK) (n : Nat) (es es' : Nat → TypeId) (g g' : Nat → Nat × (Nat → List Value)) : Bool := @decide (∀ j, j < n → es j = es' j ∧ (g j).1 = (g' j).1 ∧ ∀ x, x < (g j).1 → nrmK ks ((g j).2 x) = nrmK ks ((g' j).2 x)) (Classical.propDecidable _)
noncomputable def txtEq (s t : ByteArray) : Bool := @decide (s = t) (Classical.propDecidable _)
noncomputable def cellsEq (i : Nat) : Cells → Cells → Bool
  | .lst l, .lst m => leq veq0 l m
  | .row ks n f, .row ks' n' g => ksEq ks ks' && Nat.beq n n' && rowEq ks n f g
  | .lst l, .row ks n f => !(loose i) && lstEq l (rowL ks f 0 n)
  | .row ks n f, .lst l => !(loose i) && lstEq (rowL ks f 0 n) l
  | .elt a k sz, .elt b k' sz' => Nat.beq a b && Nat.beq k k' && Nat.beq sz sz'
  | .tail a l c sz, .tail b l' c' sz' => Nat.beq a b && Nat.beq l l' && Nat.beq c c' && Nat.beq sz sz'
  | .fam ks n es g, .fam ks' n' es' g' => ksEq ks ks' && Nat.beq n n' && famEq ks n es es' g g'
  | .itr s p, .itr s' p' => txtEq s s' && Nat.beq p p'
  | _, _ => false
noncomputable def memEq : List (Nat × Blk) → List (Nat × Blk) → Bool
  | [], [] => true
  | a :: l, b :: m => Nat.beq a.1 b.1 && cellsEq a.1 a.2.cells b.2.cells && Nat.beq a.2.elem b.2.elem && decide (a.2.own = b.2.own) && memEq l m
  | _, _ => false
noncomputable def stEq (s t : St) : Bool := slotsEq s.slots t.slots && memEq s.mem t.mem && Nat.beq s.next t.next
theorem veq0_eq {a b : Value} (h : veq0 a b = true) : a = b := by
  unfold veq0 at h
  split at h <;> simp_all
theorem leq_eq {q : Value → Value → Bool} (hq : ∀ a b, q a b = true → a = b) : ∀ {l m : List Value}, leq q l m = true → l = m
  | [], [], _ => rfl
  | a :: l, b :: m, h => by
    simp only [leq, Bool.and_eq_true] at h
    rw [hq a b h.1, leq_eq hq h.2]
  | [], _ :: _, h => by simp [leq] at h
  | _ :: _, [], h => by simp [leq] at h
theorem veq1_eq {a b : Value} (h : veq1 a b = true) : a = b := by
  unfold veq1 at h
  split at h
  · rename_i xs ys
    congr 1
    exact Array.toList_inj.1 (leq_eq (fun _ _ => veq0_eq) h)
  · exact veq0_eq h
theorem slotsEq_eq : ∀ {l m : List (Nat × Value)}, slotsEq l m = true → l = m
  | [], [], _ => rfl
  | (a, x) :: l, (b, y) :: m, h => by
    simp only [slotsEq, Bool.and_eq_true] at h
    rw [nbeq.1 h.1.1, veq1_eq h.1.2, slotsEq_eq h.2]
  | [], _ :: _, h => by simp [slotsEq] at h
  | _ :: _, [], h => by simp [slotsEq] at h
def CellsEqv (i : Nat) (c c' : Cells) : Prop := c' = c ∨ (∃ ks n es es' g g', c = .fam ks n es g ∧ c' = .fam ks n es' g' ∧ ∀ j, j < n → es j = es' j ∧ (g j).1 = (g' j).1 ∧ ∀ x, x < (g j).1 → nrmK ks ((g j).2 x) = nrmK ks ((g' j).2 x)) ∨ ((∀ ks n es g, c ≠ .fam ks n es g) ∧ (∀ ks n es g, c' ≠ .fam ks n es g) ∧ (∀ a k sz, c ≠ .elt a k sz) ∧ (∀ a l k sz, c ≠ .tail a l k sz) ∧ (∀ a k sz, c' ≠ .elt a k sz) ∧ (∀ a l k sz, c' ≠ .tail a l k sz) ∧ (∀ s pos, c ≠ .itr s pos) ∧ (∀ s pos, c' ≠ .itr s pos) ∧ c'.list = c.list ∧ ∀ p size, roomOk i c p size → roomOk i c' p size)
theorem cellsEq_eqv {i : Nat} {c c' : Cells} (h : cellsEq i c c' = true) : CellsEqv i c c' := by
  unfold cellsEq at h
  split at h
  · left; rw [leq_eq (fun _ _ => veq0_eq) h]
  · rename_i ks n f ks' n' g
    simp only [Bool.and_eq_true] at h
    obtain ⟨⟨h1, h2⟩, h3⟩ := h
    have h1 := ksEq_eq h1; subst h1
    have h2 := nbeq.1 h2; subst h2
    have h3 : ∀ j, j < n → nrmK ks (f j) = nrmK ks (g j) := @of_decide_eq_true _ (Classical.propDecidable _) h3
    refine .inr (.inr ⟨nofun, nofun, nofun, nofun, nofun, nofun, nofun, nofun, ?_, fun _ _ h => h⟩)
    exact rowL_congr ks n 0 (fun j _ hj => (h3 j (by omega)).symm)
  · rename_i l ks n f
    simp only [Bool.and_eq_true, Bool.not_eq_true'] at h
    have h2 : l = rowL ks f 0 n := @of_decide_eq_true _ (Classical.propDecidable _) h.2
    refine .inr (.inr ⟨nofun, nofun, nofun, nofun, nofun, nofun, nofun, nofun, h2.symm, fun p size _ => ?_⟩)
    show loose i = true → _
    rw [h.1]; intro e; simp at e
  · rename_i ks n f l
    simp only [Bool.and_eq_true, Bool.not_eq_true'] at h
    have h2 : rowL ks f 0 n = l := @of_decide_eq_true _ (Classical.propDecidable _) h.2
    exact .inr (.inr ⟨nofun, nofun, nofun, nofun, nofun, nofun, nofun, nofun, h2.symm, fun p size _ => by show loose i = true → _; rw [h.1]; intro e; simp at e⟩)
  · simp only [Bool.and_eq_true] at h
    left; rw [nbeq.1 h.1.1, nbeq.1 h.1.2, nbeq.1 h.2]
  · simp only [Bool.and_eq_true] at h
    left; rw [nbeq.1 h.1.1.1, nbeq.1 h.1.1.2, nbeq.1 h.1.2, nbeq.1 h.2]
  · rename_i ks n es g ks' n' es' g'
    simp only [Bool.and_eq_true] at h
    obtain ⟨⟨h1, h2⟩, h3⟩ := h
    have h1 := ksEq_eq h1; subst h1
    have h2 := nbeq.1 h2; subst h2
    exact .inr (.inl ⟨ks, n, es, es', g, g', rfl, rfl, @of_decide_eq_true _ (Classical.propDecidable _) h3⟩)
  · rename_i s p s' p'
    simp only [Bool.and_eq_true] at h
    have h1 : s = s' := @of_decide_eq_true _ (Classical.propDecidable _) h.1
    left; rw [h1, nbeq.1 h.2]
  · simp at h
theorem memEq_eqv : ∀ {l m : List (Nat × Blk)}, memEq l m = true → ∀ i, (look l i = none ∧ look m i = none) ∨ ∃ b b', look l i = some b ∧ look m i = some b' ∧ b'.elem = b.elem ∧ b'.own = b.own ∧ CellsEqv i b.cells b'.cells
  | [], [], _, i => .inl ⟨rfl, rfl⟩
  | (x, b) :: l, (y, b') :: m, h, i => by
    simp only [memEq, Bool.and_eq_true, decide_eq_true_eq] at h
    obtain ⟨⟨⟨⟨h1, h2⟩, h3⟩, h4⟩, h5⟩ := h
    have h1 := nbeq.1 h1; subst h1
    rw [look_cons, look_cons]
    by_cases hi : x = i
    · subst hi
      rw [upd_same, upd_same]
      exact .inr ⟨b, b', rfl, rfl, (nbeq.1 h3).symm, h4.symm, cellsEq_eqv h2⟩
    · rw [upd_ne _ _ hi, upd_ne _ _ hi]
      exact memEq_eqv h5 i
  | [], _ :: _, h, _ => by simp [memEq] at h
  | _ :: _, [], h, _ => by simp [memEq] at h
theorem Rel.eqv {GL : Glob} {w0 : Wb GL} {n : Nat} {R : Nat → Pl → Prop} {s t : St} {a : Act} {w : World} (he : stEq s t = true) (h : Rel w0 n R s.f a w) : Rel w0 n R t.f a w := by
  obtain ⟨sl, me, nx⟩ := s
  obtain ⟨sl', me', nx'⟩ := t
  simp only [stEq, Bool.and_eq_true] at he
  obtain ⟨⟨h1, h2⟩, _⟩ := he
  have h1 := slotsEq_eq h1
  subst h1
  have hm := memEq_eqv h2
  refine ⟨h.defers, h.size, h.slot, h.m.below, h.m.func, ?_, ?_, ?_, h.m.anc, fun i1 p1 b1 h3 h4 => (h.m.there i1 p1 b1 h3 h4).mono (fun s pos hs => by
    have hs : look me i1 = some ⟨.itr s pos, 0, true⟩ := hs
    show look me' i1 = look me i1
    rcases hm i1 with ⟨e, _⟩ | ⟨c, c', k1, k2, k3, k4, k5⟩
    · rw [e] at hs; simp at hs
    · rw [k1] at hs; cases hs
      rw [k1, k2]
      obtain ⟨cells', elem', own'⟩ := c'
      simp only at k3 k4 k5
      subst k3 k4
      rcases k5 with e | ⟨_, _, _, _, _, _, e, _⟩ | ⟨_, _, _, _, _, _, e, _⟩
      · rw [e]
      · cases e
      · exact absurd rfl (e s pos)) rfl, fun i1 p1 h1 hge1 => by
    obtain ⟨h2, h3⟩ := h.m.fro i1 p1 h1 hge1
    refine ⟨h2, fun j q hj hq blk1 hblk1 => ?_⟩
    have hblk1 : look me' j = some blk1 := hblk1
    rcases hm j with ⟨_, e⟩ | ⟨c, c', k1, k2, k3, k4, _⟩
    · rw [e] at hblk1; simp at hblk1
    · rw [k2] at hblk1; cases hblk1
      rw [k4]; exact h3 j q hj hq c k1⟩
  · intro i j p q b r1 r2 ha hb hne blk hblk hown blk' hblk'
    have hblk : look me' i = some blk := hblk
    have hblk' : look me' j = some blk' := hblk'
    rcases hm i with ⟨_, e⟩ | ⟨c, c', k1, k2, k3, k4, _⟩
    · rw [e] at hblk; simp at hblk
    · rw [k2] at hblk; cases hblk
      rcases hm j with ⟨_, e⟩ | ⟨d, d', l1, l2, l3, l4, l5⟩
      · rw [e] at hblk'; simp at hblk'
      · rw [l2] at hblk'; cases hblk'
        have := h.m.inj i j p q b r1 r2 ha hb hne c k1 (by rw [← k4]; exact hown) d l1
        refine ⟨by rw [l4]; exact this.1, ?_⟩
        rcases l5 with e | ⟨_, _, _, _, _, _, _, e, _⟩ | ⟨_, _, _, _, _, _, _, _, e, _⟩
        · rw [e]; exact this.2
        · rw [e]; rfl
        · rw [e]; exact this.2
  · intro i blk hblk
    have hblk : look me' i = some blk := hblk
    rcases hm i with ⟨_, e⟩ | ⟨c, c', k1, k2, k3, k4, k5⟩
    · rw [e] at hblk; simp at hblk
    · rw [k2] at hblk; cases hblk
      have hmo := h.m.mem i c k1
      obtain ⟨cells, elem, own⟩ := c
      obtain ⟨cells', elem', own'⟩ := blk
      simp only at k3 k4 k5
      subst k3 k4
      rcases k5 with e | ⟨ks, m, es, es', g, g', rfl, rfl, e⟩ | ⟨f1, f2, e1, e2, e3, e4, g1, g2, e5, e6⟩
      · subst e; exact hmo
      · obtain ⟨p, m1, m2⟩ : FamOk w0 R w i elem' own' ks m es g := hmo
        refine ⟨p, m1, ?_⟩
        cases hpa : p.a with
        | none => rw [hpa] at m2; exact m2
        | some b =>
          rw [hpa] at m2
          obtain ⟨cs, fz, n1, n2, n3⟩ := m2
          refine ⟨cs, fz, n1, fun j hj => ?_, n3.1, fun ho => ⟨(n3.2 ho).1, (n3.2 ho).2.1, (n3.2 ho).2.2.1, fun j hj v hv => by rw [← (e j hj).2.1]; exact (n3.2 ho).2.2.2 j hj v hv⟩⟩
          obtain ⟨v, n5, n6⟩ := n2 j hj
          obtain ⟨d1, d2, d3⟩ := e j hj
          refine ⟨v, n5, ?_⟩
          rw [← d1, ← d2]
          rcases n6 with n6 | ⟨b2, d, c, cs2, fz2, o1, o2, o3, o4, o5⟩
          · exact .inl n6
          · exact .inr ⟨b2, d, c, cs2, fz2, o1, o2, o3, o4, by rw [o5]; exact rowL_congr ks _ 0 (fun x _ hx => d3 x (by omega))⟩
      · have hco : ContOk w0 R w i ⟨cells, elem', own'⟩ := by
          unfold MemOk at hmo
          split at hmo
          · rename_i hc; exact absurd hc (e1 _ _ _)
          · rename_i hc; exact absurd hc (e2 _ _ _ _)
          · rename_i hc; exact absurd hc (f1 _ _ _ _)
          · rename_i hc; exact absurd hc (g1 _ _)
          · exact hmo
        unfold MemOk
        split
        · rename_i hc; exact absurd hc (e3 _ _ _)
        · rename_i hc; exact absurd hc (e4 _ _ _ _)
        · rename_i hc; exact absurd hc (f2 _ _ _ _)
        · rename_i hc; exact absurd hc (g2 _ _)
        · obtain ⟨p, m1, m2⟩ := hco
          refine ⟨p, m1, ?_⟩
          cases hpa : p.a with
          | none => rw [hpa] at m2; show cells'.list = []; rw [e5]; exact m2
          | some b =>
            rw [hpa] at m2
            obtain ⟨cs, fz, n1, n2, n3⟩ := m2
            refine ⟨cs, fz, n1, ?_, fun ho => ⟨(n3 ho).1, (n3 ho).2.1, e6 _ _ (n3 ho).2.2⟩⟩
            show LP R cells'.list _
            rw [e5]; exact n2
  · intro i p hp hvb
    have := h.m.dom i p hp hvb
    show (look me' i).isSome = true
    rcases hm i with ⟨e, _⟩ | ⟨c, c', k1, k2, _⟩
    · have this : (look me i).isSome = true := this
      rw [e] at this; simp at this
    · rw [k2]; rfl
def vok0 : Value → Bool
  | .int _ _ => true
  | .bool _ => true
  | .pointer _ => true
  | .slice _ _ _ => true
  | .string _ => true
  | _ => false
def vok1 : Value → Bool
  | .agg xs => xs.toList.all vok0
  | v => vok0 v
def vokC : Cells → Bool
  | .lst l => l.all vok0
  | _ => true
def stOk (s : St) : Bool := s.slots.all (fun p => vok1 p.2) && s.mem.all (fun p => vokC p.2.cells)
theorem veq0_refl {a : Value} (h : vok0 a = true) : veq0 a a = true := by
  unfold vok0 at h
  split at h <;> simp_all [veq0]
theorem leq_refl {q : Value → Value → Bool} {p : Value → Bool} (hq : ∀ a, p a = true → q a a = true) : ∀ {l : List Value}, l.all p = true → leq q l l = true
  | [], _ => rfl
  | a :: l, h => by
    simp only [List.all_cons, Bool.and_eq_true] at h
    simp only [leq, hq a h.1, leq_refl hq h.2, Bool.and_self]
theorem veq1_refl {a : Value} (h : vok1 a = true) : veq1 a a = true := by
  unfold vok1 at h
  split at h
  · exact leq_refl (fun _ => veq0_refl) h
  · rename_i hne
    unfold veq1
    split
    · exact absurd rfl (hne _)
    · exact veq0_refl h
theorem slotsEq_refl : ∀ {l : List (Nat × Value)}, l.all (fun p => vok1 p.2) = true → slotsEq l l = true
  | [], _ => rfl
  | (a, x) :: l, h => by
    simp only [List.all_cons, Bool.and_eq_true] at h
    simp only [slotsEq, Nat.beq_refl, veq1_refl h.1, slotsEq_refl h.2, Bool.and_self]
theorem cellsEq_refl {i : Nat} {c : Cells} (h : vokC c = true) : cellsEq i c c = true := by
  cases c with
  | lst l => exact leq_refl (fun _ => veq0_refl) h
  | row ks n f =>
    have : rowEq ks n f f = true := @decide_eq_true _ (Classical.propDecidable _) (fun _ _ => rfl)
    simp only [cellsEq, ksEq_refl, Nat.beq_refl, this, Bool.and_self]
  | elt a k sz => simp only [cellsEq, Nat.beq_refl, Bool.and_self]
  | tail a l k sz => simp only [cellsEq, Nat.beq_refl, Bool.and_self]
  | fam ks n es g =>
    have : famEq ks n es es g g = true := @decide_eq_true _ (Classical.propDecidable _) (fun _ _ => ⟨rfl, rfl, fun _ _ => rfl⟩)
    simp only [cellsEq, ksEq_refl, Nat.beq_refl, this, Bool.and_self]
  | itr s p =>
    have : txtEq s s = true := @decide_eq_true _ (Classical.propDecidable _) rfl
    simp only [cellsEq, Nat.beq_refl, this, Bool.and_self]
theorem memEq_refl : ∀ {l : List (Nat × Blk)}, l.all (fun p => vokC p.2.cells) = true → memEq l l = true
  | [], _ => rfl
  | (a, ⟨c, e, o⟩) :: l, h => by
    simp only [List.all_cons, Bool.and_eq_true] at h
    have h5 := cellsEq_refl (i := a) h.1
    simp only [memEq, Nat.beq_refl, h5, memEq_refl h.2, Bool.and_self, decide_true]
theorem stEq_refl {s : St} (h : stOk s = true) : stEq s s = true := by
  simp only [stOk, Bool.and_eq_true] at h
  simp only [stEq, slotsEq_refl h.1, memEq_refl h.2, Nat.beq_refl, Bool.and_self]
theorem cellsEq_rr {i : Nat} {ks : List CK} {n : Nat} {f g : Nat → List Value} (h : ∀ j, j < n → nrmK ks (f j) = nrmK ks (g j)) : cellsEq i (.row ks n f) (.row ks n g) = true := by
  have : rowEq ks n f g = true := @decide_eq_true _ (Classical.propDecidable _) h
  simp only [cellsEq, ksEq_refl, Nat.beq_refl, this, Bool.and_self]
theorem memEq_cons {a : Nat} {c c' : Cells} {e : TypeId} {o : Bool} {l m : List (Nat × Blk)} (h : cellsEq a c c' = true) (h2 : memEq l m = true) : memEq ((a, ⟨c, e, o⟩) :: l) ((a, ⟨c', e, o⟩) :: m) = true := by
  simp only [memEq, Nat.beq_refl, h, h2, Bool.and_self, decide_true]
theorem stEq_mk {sl : List (Nat × Value)} {m m' : List (Nat × Blk)} {nx : Nat} (h1 : sl.all (fun p => vok1 p.2) = true) (h2 : memEq m m' = true) : stEq ⟨sl, m, nx⟩ ⟨sl, m', nx⟩ = true := by
  simp only [stEq, slotsEq_refl h1, h2, Nat.beq_refl, Bool.and_self]
noncomputable def atSt (ts : List Nat) (is : Ren) (nx : Nat) (s0 : St) (e : Exit) (sf : St) (s : St) : List (Bool × Exit × St) :=
  oK (restS ts is nx s) (fun s1 => [(stEq s1 s0, e, sf)]) []
theorem atSt_ok {P : Program} [Laid P] {n : Nat} {body : Code} {ts : List Nat} {is : Ren} {nx : Nat} {s0 : St} {e : Exit} {sf : St}
    (h : ∀ (w0 : Wb (lay P)) (R : Nat → Pl → Prop) (a : Act) (w : World), Rel w0 n R s0.f a w → (Code.loop body).wp P (fun e' a' w' => e' = e ∧ ∃ R', Rel w0 n R' sf.f a' w') a w) : LoopOk P n body (atSt ts is nx s0 e sf) := by
  intro w0 R s a w hrel e' s' hp
  unfold atSt at hp
  cases hr : restS ts is nx s with
  | none => rw [hr] at hp; simp [oK, pickL] at hp
  | some s1 =>
    rw [hr] at hp
    simp only [oK, pickL, cond_some] at hp
    obtain ⟨h1, h2⟩ := hp
    cases h2
    obtain ⟨R', hr'⟩ := Rel.rest hr hrel
    exact h w0 R' a w (hr'.eqv h1)
theorem oneL {P : Program} [Laid P] {n : Nat} {c : Code} {p : List Nat} {F : St → List (Bool × Exit × St)} (h : LoopOk P n (loopAt p c) F) : ∀ q F', lookP [(p, F)] q = some F' → LoopOk P n (loopAt q c) F' := by
  intro q F' hq
  simp only [lookP] at hq
  cases he : nlEq p q with
  | false => rw [he] at hq; simp at hq
  | true => rw [he] at hq; simp at hq; subst hq; rw [← nlEq_iff he]; exact h
end Go.W

namespace Go.Proofs.Ytheldjiikjaimaa
set_option maxRecDepth 100000
open Go.W
theorem tt2 : TOk Try.prog 2 ⟨.int .i64, 1, .int .i64 0, false, [], [.i .i64], 8⟩ := tok_eq (by kernel_rfl) (by kernel_rfl) (by kernel_rfl) (by kernel_rfl)
theorem tt3 : TOk Try.prog 3 ⟨.int .i64, 1, .int .i64 0, false, [], [.i .i64], 8⟩ := tok_eq (by kernel_rfl) (by kernel_rfl) (by kernel_rfl) (by kernel_rfl)
theorem tt4 : TOk Try.prog 4 ⟨.bool, 1, .bool false, false, [], [.b], 1⟩ := tok_eq (by kernel_rfl) (by kernel_rfl) (by kernel_rfl) (by kernel_rfl)
theorem tt5 : TOk Try.prog 5 ⟨.int .u8, 1, .int .u8 0, false, [], [.i .u8], 1⟩ := tok_eq (by kernel_rfl) (by kernel_rfl) (by kernel_rfl) (by kernel_rfl)
theorem tt9 : TOk Try.prog 9 ⟨.string, 1, .string ⟨#[]⟩, false, [], [.s], 16⟩ := tok_eq (by kernel_rfl) (by kernel_rfl) (by kernel_rfl) (by kernel_rfl)
theorem tt12 : TOk Try.prog 12 ⟨.int .u64, 1, .int .u64 0, false, [], [.i .u64], 8⟩ := tok_eq (by kernel_rfl) (by kernel_rfl) (by kernel_rfl) (by kernel_rfl)
theorem tt21 : TOk Try.prog 21 ⟨.int .i32, 1, .int .i32 0, false, [], [.i .i32], 4⟩ := tok_eq (by kernel_rfl) (by kernel_rfl) (by kernel_rfl) (by kernel_rfl)
theorem tt22 : TOk Try.prog 22 ⟨.int .i64, 1, .int .i64 0, false, [], [.i .i64], 8⟩ := tok_eq (by kernel_rfl) (by kernel_rfl) (by kernel_rfl) (by kernel_rfl)
theorem tt31 : TOk Try.prog 31 ⟨.slice 21, 1, .slice none 0 0, false, [], [], 24⟩ := tok_plain (by kernel_rfl) (by kernel_rfl)
theorem tt34 : TOk Try.prog 34 ⟨.slice 9, 1, .slice none 0 0, false, [], [], 24⟩ := tok_plain (by kernel_rfl) (by kernel_rfl)
theorem tt35 : TOk Try.prog 35 ⟨.int .u64, 1, .int .u64 0, false, [], [.i .u64], 8⟩ := tok_eq (by kernel_rfl) (by kernel_rfl) (by kernel_rfl) (by kernel_rfl)
theorem tt39 : TOk Try.prog 39 ⟨.slice 5, 1, .slice none 0 0, false, [], [], 24⟩ := tok_plain (by kernel_rfl) (by kernel_rfl)
theorem tt48 : TOk Try.prog 48 ⟨.int .u32, 1, .int .u32 0, false, [], [.i .u32], 4⟩ := tok_eq (by kernel_rfl) (by kernel_rfl) (by kernel_rfl) (by kernel_rfl)
def tab : Tab := [(2, ⟨.int .i64, 1, .int .i64 0, false, [], [.i .i64], 8⟩),
  (3, ⟨.int .i64, 1, .int .i64 0, false, [], [.i .i64], 8⟩),
  (4, ⟨.bool, 1, .bool false, false, [], [.b], 1⟩),
  (5, ⟨.int .u8, 1, .int .u8 0, false, [], [.i .u8], 1⟩),
  (9, ⟨.string, 1, .string ⟨#[]⟩, false, [], [.s], 16⟩),
  (12, ⟨.int .u64, 1, .int .u64 0, false, [], [.i .u64], 8⟩),
  (21, ⟨.int .i32, 1, .int .i32 0, false, [], [.i .i32], 4⟩),
  (22, ⟨.int .i64, 1, .int .i64 0, false, [], [.i .i64], 8⟩),
  (31, ⟨.slice 21, 1, .slice none 0 0, false, [], [], 24⟩),
  (34, ⟨.slice 9, 1, .slice none 0 0, false, [], [], 24⟩),
  (35, ⟨.int .u64, 1, .int .u64 0, false, [], [.i .u64], 8⟩),
  (39, ⟨.slice 5, 1, .slice none 0 0, false, [], [], 24⟩),
  (48, ⟨.int .u32, 1, .int .u32 0, false, [], [.i .u32], 4⟩)]
theorem tabOk : TabOk Try.prog tab := (tab_cons tt2 (tab_cons tt3 (tab_cons tt4 (tab_cons tt5 (tab_cons tt9 (tab_cons tt12 (tab_cons tt21 (tab_cons tt22 (tab_cons tt31 (tab_cons tt34 (tab_cons tt35 (tab_cons tt39 (tab_cons tt48 tab_nil)))))))))))))
instance laidRows : Laid Try.prog := ⟨[]⟩
theorem mixed : Try.prog.follows .mixedOrders = true := by kernel_rfl
def bodyOf (f : Func) : Code :=
  match f.body with
  | some c => c
  | none => .skip
theorem noL {P : Program} [Laid P] {n : Nat} {c : Code} : ∀ p F, lookP ([] : List (List Nat × (St → List (Bool × Exit × St)))) p = some F → LoopOk P n (loopAt p c) F := by
  intro p F h; simp [lookP] at h
theorem noneL2 {C : Code} {n : Nat} {p : List Nat} : ∀ q F, lookP [(p, fun _ : St => ([] : List (Bool × Exit × St)))] q = some F → LoopOk Try.prog n (loopAt q C) F := by
  refine oneL ?_
  intro w0 R s a w hrel e' s' hp
  simp [pickL] at hp
end Go.Proofs.Ytheldjiikjaimaa

namespace Go.W
def dig : Nat → Nat → Nat
  | X, 0 => X % 18446744073709551616
  | X, i + 1 => dig (X / 18446744073709551616) i
def u64 (x : Nat) : Value := .int .u64 (x : Int)
def i64 (x : Int) : Value := .int .i64 x
def numd (a b c d : Nat) : Value := .agg #[u64 a, u64 b, u64 c, u64 d]
def num (X : Nat) : Value := numd (dig X 0) (dig X 1) (dig X 2) (dig X 3)
def intN : Value → Nat
  | .int _ x => x.toNat
  | _ => 0
def limbs : List Value → Nat
  | [] => 0
  | v :: r => intN v + 18446744073709551616 * limbs r
def unnum (v : Value) : Nat := limbs v.cells.toList
def isU64 : Value → Bool
  | .int .u64 x => decide (0 ≤ x) && Nat.ble x.toNat 18446744073709551615
  | _ => false
def isNums (n : Nat) (v : Value) : Bool := aggK v (fun l => Nat.beq l.length n && l.all isU64) false
def isNum (v : Value) : Bool := isNums 4 v
def req {α : Type} (b : Bool) (k : Option α) : Option α := bif b then k else none
theorem req_true {α : Type} {b : Bool} {k : Option α} (h : b = true) : req b k = k := by subst h; rfl
end Go.W

namespace Go.W
def iAdd (k : IntKind) (a b : Int) : Int := k.wrap (a + b)
theorem wrap_i64 {n : Int} (h : -9223372036854775808 ≤ n ∧ n < 9223372036854775808) : IntKind.i64.wrap n = n := by
  have e : IntKind.i64.wrap n = if n % 18446744073709551616 ≥ 9223372036854775808 then n % 18446744073709551616 - 18446744073709551616 else n % 18446744073709551616 := by
    simp [IntKind.wrap, IntKind.bits, IntKind.signed]
  rw [e]
  split <;> omega
end Go.W

namespace Go.W
def one (c : Nat) : Value := .agg #[u64 c, u64 0, u64 0, u64 0]
def r2 {α : Type} (x y : Value) (k : Option α) : Option α := req (isNum x && isNum y) k
end Go.W

namespace Go.W
def len8S : ByteArray := ⟨#[0, 1, 2, 2, 3, 3, 3, 3, 4, 4, 4, 4, 4, 4, 4, 4, 5, 5, 5, 5, 5, 5, 5, 5, 5, 5, 5, 5, 5, 5, 5, 5, 6, 6, 6, 6, 6, 6, 6, 6, 6, 6, 6, 6, 6, 6, 6, 6, 6, 6, 6, 6, 6, 6, 6, 6, 6, 6, 6, 6, 6, 6, 6, 6, 7, 7, 7, 7, 7, 7, 7, 7, 7, 7, 7, 7, 7, 7, 7, 7, 7, 7, 7, 7, 7, 7, 7, 7, 7, 7, 7, 7, 7, 7, 7, 7, 7, 7, 7, 7, 7, 7, 7, 7, 7, 7, 7, 7, 7, 7, 7, 7, 7, 7, 7, 7, 7, 7, 7, 7, 7, 7, 7, 7, 7, 7, 7, 7, 8, 8, 8, 8, 8, 8, 8, 8, 8, 8, 8, 8, 8, 8, 8, 8, 8, 8, 8, 8, 8, 8, 8, 8, 8, 8, 8, 8, 8, 8, 8, 8, 8, 8, 8, 8, 8, 8, 8, 8, 8, 8, 8, 8, 8, 8, 8, 8, 8, 8, 8, 8, 8, 8, 8, 8, 8, 8, 8, 8, 8, 8, 8, 8, 8, 8, 8, 8, 8, 8, 8, 8, 8, 8, 8, 8, 8, 8, 8, 8, 8, 8, 8, 8, 8, 8, 8, 8, 8, 8, 8, 8, 8, 8, 8, 8, 8, 8, 8, 8, 8, 8, 8, 8, 8, 8, 8, 8, 8, 8, 8, 8, 8, 8, 8, 8, 8, 8, 8, 8, 8, 8, 8, 8, 8, 8, 8, 8]⟩
def l8 (x n : Int) : Option Value :=
  bif inR (IntKind.u8.wrap x) len8S.size then some (i64 (iAdd .i64 n (IntKind.i64.wrap ((len8S.data.toList.getD (IntKind.u8.wrap x).toNat 0).toNat : Int)))) else none
theorem wrap_u8 (n : Int) : IntKind.u8.wrap n = n % 256 := by simp [IntKind.wrap, IntKind.bits, IntKind.signed]
def u8 (x : Nat) : Value := .int .u8 (x : Int)
end Go.W

namespace Go.W
def r3 {α : Type} (x y z : Value) (k : Option α) : Option α := req (isNum x && isNum y && isNum z) k
end Go.W

namespace Go.W
def Prim (p : Nat) : Prop := 1 < p ∧ ∀ d, d ∣ p → d = 1 ∨ d = p
def powF : Nat → Nat → Nat → Nat → Nat
  | 0, _, _, m => 1 % m
  | f + 1, b, e, m => bif Nat.beq (e % 2) 1 then b * powF f (b * b % m) (e / 2) m % m else powF f (b * b % m) (e / 2) m
theorem powF_eq : ∀ (f b e m : Nat), e < 2 ^ f → powF f b e m = b ^ e % m
  | 0, b, e, m, h => by
    have : e = 0 := by simpa using h
    subst this; rfl
  | f + 1, b, e, m, h => by
    have he : e / 2 < 2 ^ f := by rw [Nat.pow_succ] at h; omega
    have ih := powF_eq f (b * b % m) (e / 2) m he
    have hsq : (b * b % m) ^ (e / 2) % m = b ^ (2 * (e / 2)) % m := by rw [← Nat.pow_mod, Nat.pow_mul]; congr 2; exact (Nat.pow_two b).symm
    unfold powF
    rw [ih, hsq]
    rcases Nat.mod_two_eq_zero_or_one e with h0 | h1
    · rw [h0]
      show b ^ (2 * (e / 2)) % m = _
      rw [show 2 * (e / 2) = e from by omega]
    · rw [h1]
      show b * (b ^ (2 * (e / 2)) % m) % m = _
      rw [Nat.mul_mod, Nat.mod_mod, ← Nat.mul_mod, ← Nat.pow_succ', show (2 * (e / 2)).succ = e from by omega]
def triB : Nat → Nat → Bool
  | 0, _ => true
  | k + 1, p => (Nat.ble (k + 1) 1 || !(Nat.beq (p % (k + 1)) 0)) && triB k p
theorem triB_at : ∀ (k p : Nat), triB k p = true → ∀ d, 2 ≤ d → d ≤ k → p % d ≠ 0
  | 0, _, _, d, h1, h2 => by omega
  | k + 1, p, h, d, h1, h2 => by
    simp only [triB, Bool.and_eq_true, Bool.or_eq_true, Nat.ble_eq, Bool.not_eq_true'] at h
    rcases Nat.lt_or_ge d (k + 1) with h3 | h3
    · exact triB_at k p h.2 d h1 (by omega)
    · have : d = k + 1 := by omega
      subst this
      rcases h.1 with h4 | h4
      · omega
      · intro h5
        rw [h5] at h4
        simp at h4
theorem prim_tri {k p : Nat} (h1 : 1 < p) (h : triB k p = true) (hk : p < (k + 1) * (k + 1)) : Prim p := by
  refine ⟨h1, fun d hd => ?_⟩
  obtain ⟨e, rfl⟩ := hd
  have hd0 : d ≠ 0 := by rintro rfl; simp at h1
  have he0 : e ≠ 0 := by rintro rfl; simp at h1
  by_cases hd1 : d = 1
  · exact .inl hd1
  · right
    by_cases he1 : e = 1
    · rw [he1, Nat.mul_one]
    · exfalso
      rcases Nat.lt_or_ge k d with h3 | h3
      · rcases Nat.lt_or_ge k e with h4 | h4
        · have := Nat.mul_le_mul (show k + 1 ≤ d by omega) (show k + 1 ≤ e by omega)
          omega
        · exact triB_at k _ h e (by omega) h4 (Nat.mul_mod_left d e)
      · exact triB_at k _ h d (by omega) h3 (Nat.mul_mod_right d e)
theorem pigeon : ∀ (n : Nat) (f : Nat → Nat), (∀ i, i < n → f i < n) → (∀ i j, i < j → j < n → f i ≠ f j) → ∀ y, y < n → ∃ i, i < n ∧ f i = y
  | 0, _, _, _, y, hy => by omega
  | n + 1, f, hf, hinj, y, hy => by
    -- where the last one goes, the first ones are moved off it
    let g : Nat → Nat := fun i => if f i = n then f n else f i
    have hg : ∀ i, i < n → g i < n := by
      intro i hi
      show (if f i = n then f n else f i) < n
      split
      · rename_i h
        have h1 := hf n (by omega)
        have h2 := hinj i n hi (by omega)
        omega
      · have := hf i (by omega); omega
    have hginj : ∀ i j, i < j → j < n → g i ≠ g j := by
      intro i j hij hj
      show (if f i = n then f n else f i) ≠ (if f j = n then f n else f j)
      have h1 := hinj i j hij (by omega)
      have h2 := hinj i n (by omega) (by omega)
      have h3 := hinj j n hj (by omega)
      split <;> split
      · omega
      · exact fun h => h3 h.symm
      · exact h2
      · exact h1
    by_cases hy' : y = f n
    · exact ⟨n, by omega, hy'.symm⟩
    · by_cases hyn : y = n
      · -- n is met: else all go below n, and f n too
        subst hyn
        have hfn : f y < y := by have := hf y (by omega); omega
        obtain ⟨i, hi, h⟩ := pigeon y g hg hginj (f y) hfn
        by_cases h1 : f i = y
        · exact ⟨i, by omega, h1⟩
        · exfalso
          have : g i = f i := if_neg h1
          exact hinj i y hi (by omega) (by rw [← this, h])
      · obtain ⟨i, hi, h⟩ := pigeon n g hg hginj y (by omega)
        by_cases h1 : f i = n
        · exfalso
          have : g i = f n := if_pos h1
          exact hy' (by rw [← h, this])
        · have : g i = f i := if_neg h1
          exact ⟨i, by omega, by rw [← this, h]⟩
theorem pow_one_mul {g p e k : Nat} (h : g ^ e % p = 1 % p) : g ^ (e * k) % p = 1 % p := by
  rw [Nat.pow_mul, Nat.pow_mod, h, ← Nat.pow_mod, Nat.one_pow]
theorem pow_one_gcd {g p : Nat} (e f : Nat) : g ^ e % p = 1 % p → g ^ f % p = 1 % p → g ^ (Nat.gcd e f) % p = 1 % p := by
  induction e, f using Nat.gcd.induction with
  | H0 f => intro _ h; rw [Nat.gcd_zero_left]; exact h
  | H1 e f hpos ih =>
    intro h1 h2
    rw [Nat.gcd_rec]
    refine ih ?_ h1
    have h3 : g ^ f = g ^ (f % e) * g ^ (e * (f / e)) := by rw [← Nat.pow_add, Nat.mod_add_div]
    rw [h3, Nat.mul_mod, pow_one_mul h1, ← Nat.mul_mod, Nat.mul_one] at h2
    exact h2
def prodL : List Nat → Nat
  | [] => 1
  | q :: l => q * prodL l
theorem prim_in {m : Nat} : ∀ (qs : List Nat), (∀ q ∈ qs, Prim q) → 1 < m → m ∣ prodL qs → ∃ q ∈ qs, q ∣ m
  | [], _, h1, h => by
    have := Nat.le_of_dvd (by decide) h
    simp only [prodL] at this; omega
  | q :: qs, hq, h1, h => by
    have hp := hq q (by simp)
    rcases hp.2 (Nat.gcd m q) (Nat.gcd_dvd_right m q) with hg | hg
    · have : m ∣ prodL qs := Nat.Coprime.dvd_of_dvd_mul_left hg h
      obtain ⟨r, hr, hd⟩ := prim_in qs (fun r hr => hq r (by simp [hr])) h1 this
      exact ⟨r, by simp [hr], hd⟩
    · exact ⟨q, by simp, by rw [← hg]; exact Nat.gcd_dvd_left m q⟩
def Gen (p g : Nat) : Prop := 1 < p ∧ g ^ (p - 1) % p = 1 ∧ ∀ a, 0 < a → a < p → ∃ k, k < p - 1 ∧ g ^ k % p = a
theorem gen_of {p g : Nat} {qs : List Nat} (hp : 1 < p) (hqs : ∀ q ∈ qs, Prim q) (hprod : prodL qs = p - 1) (h1 : g ^ (p - 1) % p = 1) (h2 : ∀ q ∈ qs, g ^ ((p - 1) / q) % p ≠ 1) : Gen p g := by
  have h1p : 1 % p = 1 := Nat.mod_eq_of_lt hp
  have hone : ∀ e, 0 < e → e < p - 1 → g ^ e % p ≠ 1 := by
    intro e he0 he h
    have hf := pow_one_gcd (g := g) (p := p) e (p - 1) (by rw [h1p]; exact h) (by rw [h1p]; exact h1)
    rw [h1p] at hf
    obtain ⟨m, hm⟩ := Nat.gcd_dvd_right e (p - 1)
    have hle : Nat.gcd e (p - 1) ≤ e := Nat.le_of_dvd he0 (Nat.gcd_dvd_left e (p - 1))
    have hm1 : 1 < m := by
      rcases Nat.lt_or_ge 1 m with h3 | h3
      · exact h3
      · exfalso
        have h4 : Nat.gcd e (p - 1) * m ≤ Nat.gcd e (p - 1) * 1 := Nat.mul_le_mul_left _ h3
        omega
    obtain ⟨q, hq, m', hm'⟩ := prim_in qs hqs hm1 (by rw [hprod]; exact ⟨Nat.gcd e (p - 1), by rw [Nat.mul_comm]; exact hm⟩)
    have hq1 := (hqs q hq).1
    have hdiv : (p - 1) / q = Nat.gcd e (p - 1) * m' := by
      have e1 : p - 1 = q * (Nat.gcd e (p - 1) * m') := by
        have e2 : Nat.gcd e (p - 1) * (q * m') = q * (Nat.gcd e (p - 1) * m') := by rw [Nat.mul_left_comm]
        rw [← hm'] at e2
        exact hm.trans e2
      have e3 : q * (Nat.gcd e (p - 1) * m') / q = Nat.gcd e (p - 1) * m' := Nat.mul_div_cancel_left _ (by omega)
      rw [← e1] at e3
      exact e3
    apply h2 q hq
    rw [hdiv]
    have := pow_one_mul (k := m') (show g ^ Nat.gcd e (p - 1) % p = 1 % p by rw [hf, h1p])
    rw [this, h1p]
  have hnz : ∀ i, i < p - 1 → g ^ i % p ≠ 0 := by
    intro i hi h
    have e1 : g ^ (p - 1) = g ^ i * g ^ (p - 1 - i) := by rw [← Nat.pow_add]; congr 1; omega
    rw [e1, Nat.mul_mod, h, Nat.zero_mul, Nat.zero_mod] at h1
    omega
  refine ⟨hp, h1, ?_⟩
  have hpig := pigeon (p - 1) (fun i => g ^ i % p - 1)
    (fun i hi => by have := hnz i hi; have := Nat.mod_lt (g ^ i) (show 0 < p by omega); omega)
    (fun i j hij hj => by
      intro h
      have hi0 := hnz i (by omega)
      have hj0 := hnz j hj
      have he : g ^ i % p = g ^ j % p := by
        have h' : g ^ i % p - 1 = g ^ j % p - 1 := h
        omega
      refine hone (j - i) (by omega) (by omega) ?_
      have e1 : g ^ (j - i) * g ^ (p - 1) = g ^ j * g ^ (p - 1 - i) := by rw [← Nat.pow_add, ← Nat.pow_add]; congr 1; omega
      have e2 : g ^ i * g ^ (p - 1 - i) = g ^ (p - 1) := by rw [← Nat.pow_add]; congr 1; omega
      have e3 : g ^ (j - i) % p = g ^ (j - i) * g ^ (p - 1) % p := by rw [Nat.mul_mod, h1, Nat.mul_one, Nat.mod_mod]
      rw [e3, e1, Nat.mul_mod, ← he, ← Nat.mul_mod, e2, h1])
  intro a ha0 hap
  obtain ⟨k, hk, h⟩ := hpig (a - 1) (by omega)
  have := hnz k hk
  have h' : g ^ k % p - 1 = a - 1 := h
  exact ⟨k, hk, by omega⟩
theorem Gen.prim {p g : Nat} (h : Gen p g) : Prim p := by
  refine ⟨h.1, fun d hd => ?_⟩
  have hp := h.1
  have hd0 : 0 < d := Nat.pos_of_dvd_of_pos hd (by omega)
  have hle := Nat.le_of_dvd (by omega) hd
  by_cases hdp : d = p
  · exact .inr hdp
  · left
    obtain ⟨k, hk, hk2⟩ := h.2.2 d hd0 (by omega)
    have e1 : d * g ^ (p - 1 - k) % p = 1 := by
      rw [← hk2, Nat.mul_mod, Nat.mod_mod, ← Nat.mul_mod, ← Nat.pow_add, show k + (p - 1 - k) = p - 1 from by omega]
      exact h.2.1
    have h3 : d ∣ d * g ^ (p - 1 - k) := Nat.dvd_mul_right d _
    have h4 : d ∣ 1 := by
      have h5 := Nat.div_add_mod (d * g ^ (p - 1 - k)) p
      rw [e1] at h5
      have h6 : d ∣ p * (d * g ^ (p - 1 - k) / p) := Nat.dvd_trans hd (Nat.dvd_mul_right p _)
      have h7 : d ∣ p * (d * g ^ (p - 1 - k) / p) + 1 := by rw [h5]; exact h3
      exact (Nat.dvd_add_right h6).1 h7
    exact Nat.eq_one_of_dvd_one h4
theorem Gen.fermat {p g a : Nat} (h : Gen p g) (ha : a % p ≠ 0) : a ^ (p - 1) % p = 1 := by
  have hp := h.1
  obtain ⟨k, _, hk⟩ := h.2.2 (a % p) (by omega) (Nat.mod_lt _ (by omega))
  rw [Nat.pow_mod, ← hk, ← Nat.pow_mod, ← Nat.pow_mul, Nat.mul_comm, Nat.pow_mul, Nat.pow_mod, h.2.1, Nat.one_pow, Nat.mod_eq_of_lt hp]
def cert (p g : Nat) (qs : List Nat) : Bool :=
  Nat.blt 1 p && Nat.beq (prodL qs) (p - 1) && Nat.blt p (2 ^ 256) && Nat.beq (powF 256 g (p - 1) p) 1 && qs.all (fun q => !(Nat.beq (powF 256 g ((p - 1) / q) p) 1))
theorem gen_cert {p g : Nat} {qs : List Nat} (h : cert p g qs = true) (hqs : ∀ q ∈ qs, Prim q) : Gen p g := by
  simp only [cert, Bool.and_eq_true, Nat.blt_eq, List.all_eq_true, Bool.not_eq_true'] at h
  obtain ⟨⟨⟨⟨h1, h2⟩, h3⟩, h4⟩, h5⟩ := h
  have h4 := Nat.eq_of_beq_eq_true h4
  rw [powF_eq _ _ _ _ (by omega)] at h4
  refine gen_of h1 hqs (Nat.eq_of_beq_eq_true h2) h4 fun q hq hone => ?_
  have := h5 q hq
  rw [powF_eq _ _ _ _ (Nat.lt_of_le_of_lt (Nat.div_le_self _ _) (by omega)), hone] at this
  simp at this
end Go.W

namespace Go.W
theorem pr2 : Prim 2 := prim_tri (k := 1) (by decide) (by decide +kernel) (by decide)
theorem pr3 : Prim 3 := prim_tri (k := 1) (by decide) (by decide +kernel) (by decide)
theorem pr5 : Prim 5 := prim_tri (k := 2) (by decide) (by decide +kernel) (by decide)
theorem pr7 : Prim 7 := prim_tri (k := 2) (by decide) (by decide +kernel) (by decide)
theorem pr11 : Prim 11 := prim_tri (k := 3) (by decide) (by decide +kernel) (by decide)
theorem pr29 : Prim 29 := prim_tri (k := 5) (by decide) (by decide +kernel) (by decide)
theorem pr31 : Prim 31 := prim_tri (k := 5) (by decide) (by decide +kernel) (by decide)
theorem pr53 : Prim 53 := prim_tri (k := 7) (by decide) (by decide +kernel) (by decide)
theorem pr971 : Prim 971 := prim_tri (k := 31) (by decide) (by decide +kernel) (by decide)
theorem pr1373 : Prim 1373 := prim_tri (k := 37) (by decide) (by decide +kernel) (by decide)
theorem pr1627 : Prim 1627 := prim_tri (k := 40) (by decide) (by decide +kernel) (by decide)
theorem pr2621 : Prim 2621 := prim_tri (k := 51) (by decide) (by decide +kernel) (by decide)
theorem pr2657 : Prim 2657 := prim_tri (k := 51) (by decide) (by decide +kernel) (by decide)
theorem pr4423 : Prim 4423 := prim_tri (k := 66) (by decide) (by decide +kernel) (by decide)
theorem pr5323 : Prim 5323 := prim_tri (k := 72) (by decide) (by decide +kernel) (by decide)
theorem pr7723 : Prim 7723 := prim_tri (k := 87) (by decide) (by decide +kernel) (by decide)
theorem pr13441 : Prim 13441 := prim_tri (k := 115) (by decide) (by decide +kernel) (by decide)
theorem pr20113 : Prim 20113 := prim_tri (k := 141) (by decide) (by decide +kernel) (by decide)
theorem pr24809 : Prim 24809 := prim_tri (k := 157) (by decide) (by decide +kernel) (by decide)
theorem pr41201 : Prim 41201 := prim_tri (k := 202) (by decide) (by decide +kernel) (by decide)
theorem pr96557 : Prim 96557 := prim_tri (k := 310) (by decide) (by decide +kernel) (by decide)
theorem allP_nil : ∀ q ∈ ([] : List Nat), Prim q := by simp
theorem allP_cons {q : Nat} {l : List Nat} (h : Prim q) (hl : ∀ r ∈ l, Prim r) : ∀ r ∈ q :: l, Prim r := by
  intro r hr
  rcases List.mem_cons.1 hr with rfl | hr
  · exact h
  · exact hl r hr
theorem ge13331831 : Gen 13331831 13 := gen_cert (qs := [2, 5, 971, 1373]) (by decide +kernel) (allP_cons pr2 (allP_cons pr5 (allP_cons pr971 (allP_cons pr1373 allP_nil))))
theorem pr13331831 : Prim 13331831 := ge13331831.prim
theorem ge173378833005251801 : Gen 173378833005251801 6 := gen_cert (qs := [2, 2, 2, 5, 5, 2621, 24809, 13331831]) (by decide +kernel) (allP_cons pr2 (allP_cons pr2 (allP_cons pr2 (allP_cons pr5 (allP_cons pr5 (allP_cons pr2621 (allP_cons pr24809 (allP_cons pr13331831 allP_nil))))))))
theorem pr173378833005251801 : Prim 173378833005251801 := ge173378833005251801.prim
theorem ge22149492674086928081353 : Gen 22149492674086928081353 5 := gen_cert (qs := [2, 2, 2, 3, 5323, 173378833005251801]) (by decide +kernel) (allP_cons pr2 (allP_cons pr2 (allP_cons pr2 (allP_cons pr3 (allP_cons pr5323 (allP_cons pr173378833005251801 allP_nil))))))
theorem pr22149492674086928081353 : Prim 22149492674086928081353 := ge22149492674086928081353.prim
theorem ge132896956044521568488119 : Gen 132896956044521568488119 6 := gen_cert (qs := [2, 3, 22149492674086928081353]) (by decide +kernel) (allP_cons pr2 (allP_cons pr3 (allP_cons pr22149492674086928081353 allP_nil)))
theorem pr132896956044521568488119 : Prim 132896956044521568488119 := ge132896956044521568488119.prim
theorem ge1206781 : Gen 1206781 10 := gen_cert (qs := [2, 2, 3, 5, 20113]) (by decide +kernel) (allP_cons pr2 (allP_cons pr2 (allP_cons pr3 (allP_cons pr5 (allP_cons pr20113 allP_nil)))))
theorem pr1206781 : Prim 1206781 := ge1206781.prim
theorem ge7240687 : Gen 7240687 3 := gen_cert (qs := [2, 3, 1206781]) (by decide +kernel) (allP_cons pr2 (allP_cons pr3 (allP_cons pr1206781 allP_nil)))
theorem pr7240687 : Prim 7240687 := ge7240687.prim
theorem ge107590001 : Gen 107590001 3 := gen_cert (qs := [2, 2, 2, 2, 5, 5, 5, 5, 7, 29, 53]) (by decide +kernel) (allP_cons pr2 (allP_cons pr2 (allP_cons pr2 (allP_cons pr2 (allP_cons pr5 (allP_cons pr5 (allP_cons pr5 (allP_cons pr5 (allP_cons pr7 (allP_cons pr29 (allP_cons pr53 allP_nil)))))))))))
theorem pr107590001 : Prim 107590001 := ge107590001.prim
theorem ge255515944373312847190720520512484175977 : Gen 255515944373312847190720520512484175977 3 := gen_cert (qs := [2, 2, 2, 7, 7, 11, 1627, 2657, 4423, 41201, 96557, 7240687, 107590001]) (by decide +kernel) (allP_cons pr2 (allP_cons pr2 (allP_cons pr2 (allP_cons pr7 (allP_cons pr7 (allP_cons pr11 (allP_cons pr1627 (allP_cons pr2657 (allP_cons pr4423 (allP_cons pr41201 (allP_cons pr96557 (allP_cons pr7240687 (allP_cons pr107590001 allP_nil)))))))))))))
theorem pr255515944373312847190720520512484175977 : Prim 255515944373312847190720520512484175977 := ge255515944373312847190720520512484175977.prim
theorem ge205115282021455665897114700593932402728804164701536103180137503955397371 : Gen 205115282021455665897114700593932402728804164701536103180137503955397371 10 := gen_cert (qs := [2, 3, 5, 29, 29, 31, 7723, 132896956044521568488119, 255515944373312847190720520512484175977]) (by decide +kernel) (allP_cons pr2 (allP_cons pr3 (allP_cons pr5 (allP_cons pr29 (allP_cons pr29 (allP_cons pr31 (allP_cons pr7723 (allP_cons pr132896956044521568488119 (allP_cons pr255515944373312847190720520512484175977 allP_nil)))))))))
theorem pr205115282021455665897114700593932402728804164701536103180137503955397371 : Prim 205115282021455665897114700593932402728804164701536103180137503955397371 := ge205115282021455665897114700593932402728804164701536103180137503955397371.prim
theorem ge115792089237316195423570985008687907853269984665640564039457584007908834671663 : Gen 115792089237316195423570985008687907853269984665640564039457584007908834671663 3 := gen_cert (qs := [2, 3, 7, 13441, 205115282021455665897114700593932402728804164701536103180137503955397371]) (by decide +kernel) (allP_cons pr2 (allP_cons pr3 (allP_cons pr7 (allP_cons pr13441 (allP_cons pr205115282021455665897114700593932402728804164701536103180137503955397371 allP_nil)))))
def pP : Nat := 115792089237316195423570985008687907853269984665640564039457584007908834671663
def pN : Nat := 115792089237316195423570985008687907852837564279074904382605163141518161494337
def gP : Nat := 3
theorem genP : Gen pP gP := ge115792089237316195423570985008687907853269984665640564039457584007908834671663
end Go.W

namespace Go.W
theorem Gen.mul_ne {p g a b : Nat} (h : Gen p g) (ha : a % p ≠ 0) (hb : b % p ≠ 0) : a * b % p ≠ 0 := by
  intro h0
  have h1 := h.fermat ha
  have h2 := h.fermat hb
  have h3 : (a * b) ^ (p - 1) % p = 1 := by rw [Nat.mul_pow, Nat.mul_mod, h1, h2]; exact Nat.mod_eq_of_lt h.1
  rw [Nat.pow_mod, h0] at h3
  have hp := h.1
  rw [Nat.zero_pow (by omega), Nat.zero_mod] at h3
  omega
theorem Gen.inv {p g a : Nat} (h : Gen p g) (ha : a % p ≠ 0) : a * a ^ (p - 2) % p = 1 := by
  have hp := h.1
  rw [← Nat.pow_succ', Nat.succ_eq_add_one, show p - 2 + 1 = p - 1 from by omega]
  exact h.fermat ha
theorem Gen.cancel {p g a b c : Nat} (h : Gen p g) (ha : a % p ≠ 0) (he : a * b % p = a * c % p) : b % p = c % p := by
  have hi := h.inv ha
  have key : ∀ x, x % p = a ^ (p - 2) * (a * x) % p := by
    intro x
    rw [← Nat.mul_assoc, Nat.mul_comm (a ^ (p - 2)) a, Nat.mul_mod, hi, Nat.one_mul, Nat.mod_mod]
  rw [key b, key c, Nat.mul_mod, he, ← Nat.mul_mod]
theorem Gen.sq_eq {p g a b : Nat} (h : Gen p g) (he : a * a % p = b * b % p) : a % p = b % p ∨ (a + b) % p = 0 := by
  by_cases hs : (a + b) % p = 0
  · exact .inr hs
  · left
    have hp := h.1
    -- (a + b) a = a a + a b = b b + a b = (a + b) b
    refine h.cancel (a := a + b) hs ?_
    have e1 : (a + b) * a = a * a + a * b := by rw [Nat.add_mul, Nat.mul_comm b a]
    have e2 : (a + b) * b = b * b + a * b := by rw [Nat.add_mul, Nat.add_comm]
    rw [e1, e2, Nat.add_mod, he, ← Nat.add_mod]
end Go.W

namespace Go.W
def primeN (w : Int) : Nat := if w = 0 then pP else if w = 1 then pN else 0
def okW (w : Int) : Bool := w == 0 || w == 1
end Go.W

namespace Go.W
def redN (w : Int) (A : Nat) : Nat := if okW w = true then A % primeN w else 0
def faddN (w : Int) (A B : Nat) : Nat := redN w (A + B)
def fmulN (w : Int) (A B : Nat) : Nat := redN w (A * B)
def fsubN (w : Int) (A B : Nat) : Nat := redN w (A + (primeN w - B % primeN w))
end Go.W

namespace Go.W
structure Ops (A : Type) where
  zero : A
  one : A
  add : A → A → A
  sub : A → A → A
  mul : A → A → A
structure ORel {A B : Type} (o : Ops A) (o' : Ops B) (R : A → B → Prop) : Prop where
  zero : R o.zero o'.zero
  one : R o.one o'.one
  add : ∀ a b a' b', R a a' → R b b' → R (o.add a b) (o'.add a' b')
  sub : ∀ a b a' b', R a a' → R b b' → R (o.sub a b) (o'.sub a' b')
  mul : ∀ a b a' b', R a a' → R b b' → R (o.mul a b) (o'.mul a' b')
inductive PE where
  | v (i : Nat)
  | one
  | add (a b : PE)
  | sub (a b : PE)
  | mul (a b : PE)
def PE.ev {A : Type} (o : Ops A) (env : Nat → A) : PE → A
  | .v i => env i
  | .one => o.one
  | .add a b => o.add (a.ev o env) (b.ev o env)
  | .sub a b => o.sub (a.ev o env) (b.ev o env)
  | .mul a b => o.mul (a.ev o env) (b.ev o env)
theorem PE.rel {A B : Type} {o : Ops A} {o' : Ops B} {R : A → B → Prop} (h : ORel o o' R) {env : Nat → A} {env' : Nat → B} (he : ∀ i, R (env i) (env' i)) : ∀ e : PE, R (e.ev o env) (e.ev o' env')
  | .v i => he i
  | .one => h.one
  | .add a b => h.add _ _ _ _ (PE.rel h he a) (PE.rel h he b)
  | .sub a b => h.sub _ _ _ _ (PE.rel h he a) (PE.rel h he b)
  | .mul a b => h.mul _ _ _ _ (PE.rel h he a) (PE.rel h he b)
section
variable {A : Type} (o : Ops A)
def addL : List A → List A → List A
  | [], m => m
  | a :: l, [] => a :: l
  | a :: l, b :: m => o.add a b :: addL l m
def subL : List A → List A → List A
  | [], m => m.map (o.sub o.zero)
  | a :: l, [] => a :: l
  | a :: l, b :: m => o.sub a b :: subL l m
def mulL : List A → List A → List A
  | [], _ => []
  | a :: l, m => addL o (m.map (o.mul a)) (o.zero :: mulL l m)
def lOps : Ops (List A) := ⟨[], [o.one], addL o, subL o, mulL o⟩
def yOps (r : A) : Ops (A × A) :=
  ⟨(o.zero, o.zero), (o.one, o.zero), fun u v => (o.add u.1 v.1, o.add u.2 v.2), fun u v => (o.sub u.1 v.1, o.sub u.2 v.2),
   fun u v => (o.add (o.mul u.1 v.1) (o.mul (o.mul u.2 v.2) r), o.add (o.mul u.1 v.2) (o.mul u.2 v.1))⟩
end
structure RgOk {K : Type} (k : Ops K) : Prop where
  r1 : ∀ b, k.add k.zero b = b
  r2 : ∀ a, k.add a k.zero = a
  r3 : ∀ a b l m t, k.add (k.add a b) (k.mul t (k.add l m)) = k.add (k.add a (k.mul t l)) (k.add b (k.mul t m))
  r4 : k.sub k.zero k.zero = k.zero
  r5 : ∀ a l t, k.add (k.sub k.zero a) (k.mul t (k.sub k.zero l)) = k.sub k.zero (k.add a (k.mul t l))
  r6 : ∀ a, k.sub a k.zero = a
  r7 : ∀ a b l m t, k.add (k.sub a b) (k.mul t (k.sub l m)) = k.sub (k.add a (k.mul t l)) (k.add b (k.mul t m))
  r8 : ∀ a, k.mul a k.zero = k.zero
  r9 : ∀ a b l t, k.add (k.mul a b) (k.mul t (k.mul a l)) = k.mul a (k.add b (k.mul t l))
  r10 : ∀ m, k.mul k.zero m = k.zero
  r11 : ∀ a l m t, k.add (k.mul a m) (k.add k.zero (k.mul t (k.mul l m))) = k.mul (k.add a (k.mul t l)) m
  r14 : ∀ a b c d y, k.add (k.add a c) (k.mul (k.add b d) y) = k.add (k.add a (k.mul b y)) (k.add c (k.mul d y))
  r15 : ∀ a b c d y, k.add (k.sub a c) (k.mul (k.sub b d) y) = k.sub (k.add a (k.mul b y)) (k.add c (k.mul d y))
  r16 : ∀ a b c d y, k.add (k.add (k.mul a c) (k.mul (k.mul b d) (k.mul y y))) (k.mul (k.add (k.mul a d) (k.mul b c)) y) = k.mul (k.add a (k.mul b y)) (k.add c (k.mul d y))
section
variable {A K : Type} {k : Ops K} {o : Ops A} {φ : A → K} {t : K}
def evL (k : Ops K) (φ : A → K) (t : K) : List A → K
  | [] => k.zero
  | a :: l => k.add (φ a) (k.mul t (evL k φ t l))
abbrev Hom (k : Ops K) (o : Ops A) (φ : A → K) : Prop := ORel o k (fun a x => φ a = x)
theorem Hom.z (h : Hom k o φ) : φ o.zero = k.zero := h.zero
theorem Hom.a (h : Hom k o φ) (a b : A) : φ (o.add a b) = k.add (φ a) (φ b) := h.add _ _ _ _ rfl rfl
theorem Hom.s (h : Hom k o φ) (a b : A) : φ (o.sub a b) = k.sub (φ a) (φ b) := h.sub _ _ _ _ rfl rfl
theorem Hom.m (h : Hom k o φ) (a b : A) : φ (o.mul a b) = k.mul (φ a) (φ b) := h.mul _ _ _ _ rfl rfl
theorem evL_add (hk : RgOk k) (h : Hom k o φ) : ∀ l m : List A, evL k φ t (addL o l m) = k.add (evL k φ t l) (evL k φ t m)
  | [], m => by simp only [addL, evL, hk.r1]
  | a :: l, [] => by simp only [addL, evL, hk.r2]
  | a :: l, b :: m => by simp only [addL, evL, h.a, evL_add hk h l m, hk.r3]
theorem evL_neg (hk : RgOk k) (h : Hom k o φ) : ∀ m : List A, evL k φ t (m.map (o.sub o.zero)) = k.sub k.zero (evL k φ t m)
  | [] => by simp only [List.map_nil, evL, hk.r4]
  | a :: l => by simp only [List.map_cons, evL, h.s, h.z, evL_neg hk h l, hk.r5]
theorem evL_sub (hk : RgOk k) (h : Hom k o φ) : ∀ l m : List A, evL k φ t (subL o l m) = k.sub (evL k φ t l) (evL k φ t m)
  | [], m => by simp only [subL, evL_neg hk h, evL]
  | a :: l, [] => by simp only [subL, evL, hk.r6]
  | a :: l, b :: m => by simp only [subL, evL, h.s, evL_sub hk h l m, hk.r7]
theorem evL_scale (hk : RgOk k) (h : Hom k o φ) (a : A) : ∀ m : List A, evL k φ t (m.map (o.mul a)) = k.mul (φ a) (evL k φ t m)
  | [] => by simp only [List.map_nil, evL, hk.r8]
  | b :: l => by simp only [List.map_cons, evL, h.m, evL_scale hk h a l, hk.r9]
theorem evL_mul (hk : RgOk k) (h : Hom k o φ) : ∀ l m : List A, evL k φ t (mulL o l m) = k.mul (evL k φ t l) (evL k φ t m)
  | [], m => by simp only [mulL, evL, hk.r10]
  | a :: l, m => by simp only [mulL, evL, evL_add hk h, evL_scale hk h, h.z, evL_mul hk h l m, hk.r11]
theorem hom_lOps (hk : RgOk k) (h : Hom k o φ) : Hom k (lOps o) (evL k φ t) where
  zero := rfl
  one := by show k.add (φ o.one) (k.mul t k.zero) = k.one; rw [show φ o.one = k.one from h.one, hk.r8, hk.r2]
  add := by rintro a b _ _ rfl rfl; exact evL_add hk h a b
  sub := by rintro a b _ _ rfl rfl; exact evL_sub hk h a b
  mul := by rintro a b _ _ rfl rfl; exact evL_mul hk h a b
theorem hom_yOps (hk : RgOk k) (h : Hom k o φ) {r : A} {y : K} (hy : k.mul y y = φ r) : Hom k (yOps o r) (fun q => k.add (φ q.1) (k.mul (φ q.2) y)) where
  zero := by show k.add (φ o.zero) (k.mul (φ o.zero) y) = k.zero; rw [h.z, hk.r10, hk.r2]
  one := by show k.add (φ o.one) (k.mul (φ o.zero) y) = k.one; rw [h.z, show φ o.one = k.one from h.one, hk.r10, hk.r2]
  add := by rintro a b _ _ rfl rfl; simp only [yOps, h.a, hk.r14]
  sub := by rintro a b _ _ rfl rfl; simp only [yOps, h.s, hk.r15]
  mul := by rintro a b _ _ rfl rfl; simp only [yOps, h.a, h.m, ← hy, hk.r16]
end
section
variable {A : Type} {o : Ops A} {ν : A → Nat} {w : Nat}
structure Nrm (o : Ops A) (ν : A → Nat) : Prop where
  zero : ν o.zero = 0
  one : ν o.one ≤ 1
  add : ∀ a b, ν (o.add a b) ≤ ν a + ν b
  sub : ∀ a b, ν (o.sub a b) ≤ ν a + ν b
  mul : ∀ a b, ν (o.mul a b) ≤ ν a * ν b
def nL (ν : A → Nat) (w : Nat) : List A → Nat
  | [] => 0
  | a :: l => ν a + w * nL ν w l
theorem nL_add (h : Nrm o ν) : ∀ l m : List A, nL ν w (addL o l m) ≤ nL ν w l + nL ν w m
  | [], m => by simp only [addL, nL]; omega
  | a :: l, [] => by simp only [addL, nL]; omega
  | a :: l, b :: m => by
    have h1 := h.add a b
    have h2 := Nat.mul_le_mul_left w (nL_add h l m)
    rw [Nat.mul_add] at h2
    simp only [addL, nL]; omega
theorem nL_neg (h : Nrm o ν) : ∀ m : List A, nL ν w (m.map (o.sub o.zero)) ≤ nL ν w m
  | [] => by simp [nL]
  | a :: l => by
    have h1 := h.sub o.zero a
    rw [h.zero] at h1
    have h2 := Nat.mul_le_mul_left w (nL_neg h l)
    simp only [List.map_cons, nL]; omega
theorem nL_sub (h : Nrm o ν) : ∀ l m : List A, nL ν w (subL o l m) ≤ nL ν w l + nL ν w m
  | [], m => by simp only [subL, nL, Nat.zero_add]; exact nL_neg h m
  | a :: l, [] => by simp only [subL, nL]; omega
  | a :: l, b :: m => by
    have h1 := h.sub a b
    have h2 := Nat.mul_le_mul_left w (nL_sub h l m)
    rw [Nat.mul_add] at h2
    simp only [subL, nL]; omega
theorem nL_scale (h : Nrm o ν) (a : A) : ∀ m : List A, nL ν w (m.map (o.mul a)) ≤ ν a * nL ν w m
  | [] => by simp [nL]
  | b :: l => by
    have h1 := h.mul a b
    have h2 := Nat.mul_le_mul_left w (nL_scale h a l)
    simp only [List.map_cons, nL, Nat.mul_add]
    rw [Nat.mul_left_comm w] at h2
    omega
theorem nL_mul (h : Nrm o ν) : ∀ l m : List A, nL ν w (mulL o l m) ≤ nL ν w l * nL ν w m
  | [], m => by simp [mulL, nL]
  | a :: l, m => by
    have h1 := nL_add (w := w) h (m.map (o.mul a)) (o.zero :: mulL o l m)
    have h2 := nL_scale (w := w) h a m
    have h3 := Nat.mul_le_mul_left w (nL_mul h l m)
    simp only [nL, h.zero, Nat.zero_add] at h1
    simp only [mulL, nL, Nat.add_mul, Nat.mul_assoc]
    omega
theorem nrm_lOps (h : Nrm o ν) : Nrm (lOps o) (nL ν w) where
  zero := rfl
  one := by show ν o.one + w * 0 ≤ 1; have := h.one; omega
  add := nL_add h
  sub := nL_sub h
  mul := nL_mul h
def aOps : Ops Nat := ⟨0, 1, (· + ·), (· + ·), (· * ·)⟩
theorem nrm_rel (h : Nrm o ν) : ORel o aOps (fun a n => ν a ≤ n) where
  zero := by show ν o.zero ≤ 0; rw [h.zero]; exact Nat.le_refl _
  one := h.one
  add := fun a b a' b' h1 h2 => Nat.le_trans (h.add a b) (Nat.add_le_add h1 h2)
  sub := fun a b a' b' h1 h2 => Nat.le_trans (h.sub a b) (Nat.add_le_add h1 h2)
  mul := fun a b a' b' h1 h2 => Nat.le_trans (h.mul a b) (Nat.mul_le_mul h1 h2)
theorem rel_yOps {B : Type} {o' : Ops B} {R : A → B → Prop} (h : ORel o o' R) {r : A} {r' : B} (hr : R r r') : ORel (yOps o r) (yOps o' r') (fun q q' => R q.1 q'.1 ∧ R q.2 q'.2) where
  zero := ⟨h.zero, h.zero⟩
  one := ⟨h.one, h.zero⟩
  add := fun _ _ _ _ h1 h2 => ⟨h.add _ _ _ _ h1.1 h2.1, h.add _ _ _ _ h1.2 h2.2⟩
  sub := fun _ _ _ _ h1 h2 => ⟨h.sub _ _ _ _ h1.1 h2.1, h.sub _ _ _ _ h1.2 h2.2⟩
  mul := fun _ _ _ _ h1 h2 => ⟨h.add _ _ _ _ (h.mul _ _ _ _ h1.1 h2.1) (h.mul _ _ _ _ (h.mul _ _ _ _ h1.2 h2.2) hr), h.add _ _ _ _ (h.mul _ _ _ _ h1.1 h2.2) (h.mul _ _ _ _ h1.2 h2.1)⟩
end
end Go.W

namespace Go.W
def oI : Ops Int := ⟨0, 1, (· + ·), (· - ·), (· * ·)⟩
theorem rgI : RgOk oI := by
  constructor <;> simp only [oI] <;> (intros; grind)
def oF (P0 : Nat) [NeZero P0] : Ops (Fin P0) := ⟨0, 1, (· + ·), (· - ·), (· * ·)⟩
theorem rgF (P0 : Nat) [NeZero P0] : RgOk (oF P0) := by
  constructor <;> simp only [oF] <;> (intros; grind)
section
variable {A : Type} {φ : A → Int} {ν : A → Nat}
theorem nL_mem (ν : A → Nat) : ∀ (l : List A) (a : A), a ∈ l → ν a ≤ nL ν 1 l
  | b :: l, a, h => by
    rcases List.mem_cons.1 h with rfl | h
    · simp only [nL]; omega
    · have := nL_mem ν l a h
      simp only [nL]; omega
theorem natAbs_evL (h : ∀ a, (φ a).natAbs ≤ ν a) (N : Nat) : ∀ l : List A, (evL oI φ (N : Int) l).natAbs ≤ nL ν N l
  | [] => Nat.le_refl 0
  | a :: l => by
    have h1 := h a
    have h2 := Nat.mul_le_mul_left N (natAbs_evL h N l)
    have h3 := Int.natAbs_add_le (φ a) ((N : Int) * evL oI φ (N : Int) l)
    have h4 : ((N : Int) * evL oI φ (N : Int) l).natAbs = N * (evL oI φ (N : Int) l).natAbs := by rw [Int.natAbs_mul, Int.natAbs_natCast]
    show (φ a + (N : Int) * evL oI φ (N : Int) l).natAbs ≤ ν a + N * nL ν N l
    omega
theorem stepZ (h : ∀ a, (φ a).natAbs ≤ ν a) {N : Nat} : ∀ (l : List A), nL ν 1 l < N → evL oI φ (N : Int) l = 0 → ∀ a ∈ l, φ a = 0
  | [], _, _, a, ha => by simp at ha
  | b :: l, hn, hz, a, ha => by
    simp only [nL, Nat.one_mul] at hn
    replace hz : φ b + (N : Int) * evL oI φ (N : Int) l = 0 := hz
    have h1 := h b
    have hb : φ b = 0 := by
      have hd : (N : Int) ∣ φ b := ⟨-(evL oI φ (N : Int) l), by rw [Int.mul_neg]; omega⟩
      refine Int.eq_zero_of_dvd_of_natAbs_lt_natAbs hd ?_
      rw [Int.natAbs_natCast]; omega
    rw [hb, Int.zero_add] at hz
    have hl : evL oI φ (N : Int) l = 0 := by
      rcases Int.mul_eq_zero.1 hz with h | h
      · omega
      · exact h
    rcases List.mem_cons.1 ha with rfl | ha
    · exact hb
    · exact stepZ h l (by omega) hl a ha
theorem evL_zero {K : Type} {k : Ops K} (hk : RgOk k) {φ : A → K} {t : K} : ∀ (l : List A), (∀ a ∈ l, φ a = k.zero) → evL k φ t l = k.zero
  | [], _ => rfl
  | a :: l, h => by
    simp only [evL, h a (by simp), evL_zero hk l fun b hb => h b (by simp [hb]), hk.r8, hk.r2]
end
abbrev P1 := List Int
abbrev P2 := List P1
abbrev P3 := List P2
def o1 : Ops P1 := lOps oI
def o2 : Ops P2 := lOps o1
def o3 : Ops P3 := lOps o2
def X1 : P3 := [[[0, 1]]]
def X2 : P3 := [[[], [1]]]
def X3 : P3 := [[], [[1]]]
def idI (z : Int) : Int := z
theorem homI : Hom oI oI idI := ⟨rfl, rfl, by rintro _ _ _ _ rfl rfl; rfl, by rintro _ _ _ _ rfl rfl; rfl, by rintro _ _ _ _ rfl rfl; rfl⟩
theorem fin_ext {P0 : Nat} {a b : Fin P0} (h : (a.val : Int) = (b.val : Int)) : a = b := Fin.ext (by omega)
section
variable {P0 : Nat} [NeZero P0]
def castI (P0 : Nat) [NeZero P0] (z : Int) : Fin P0 := Fin.ofNat P0 (z % (P0 : Int)).toNat
theorem cast_val (z : Int) : ((castI P0 z).val : Int) = z % (P0 : Int) := by
  have hp : 0 < P0 := Nat.pos_of_ne_zero (NeZero.ne P0)
  have h1 : 0 ≤ z % (P0 : Int) := Int.emod_nonneg _ (by omega)
  have h2 : z % (P0 : Int) < P0 := Int.emod_lt_of_pos _ (by omega)
  show (((z % (P0 : Int)).toNat % P0 : Nat) : Int) = _
  rw [Nat.mod_eq_of_lt (by omega)]; omega
theorem cast0 : castI P0 0 = 0 := by
  apply fin_ext; rw [cast_val]
  show (0 : Int) % _ = (((0 : Nat) % P0 : Nat) : Int)
  rw [Nat.zero_mod, Int.zero_emod]; rfl
theorem cast1 : castI P0 1 = 1 := by
  apply fin_ext; rw [cast_val]
  show (1 : Int) % _ = (((1 : Nat) % P0 : Nat) : Int)
  rw [Int.natCast_emod]; rfl
theorem homK : Hom (oF P0) oI (castI P0) where
  zero := cast0
  one := cast1
  add := by
    rintro a b _ _ rfl rfl
    apply fin_ext
    show ((castI P0 (a + b)).val : Int) = ((((castI P0 a).val + (castI P0 b).val) % P0 : Nat) : Int)
    rw [cast_val, Int.natCast_emod, Int.natCast_add, cast_val, cast_val, ← Int.add_emod]
  sub := by
    rintro a b _ _ rfl rfl
    have key : castI P0 (a - b) + castI P0 b = castI P0 a := by
      apply fin_ext
      show ((((castI P0 (a - b)).val + (castI P0 b).val) % P0 : Nat) : Int) = _
      rw [Int.natCast_emod, Int.natCast_add, cast_val, cast_val, cast_val, ← Int.add_emod, Int.sub_add_cancel]
    show castI P0 (a - b) = castI P0 a - castI P0 b
    rw [← key]; grind
  mul := by
    rintro a b _ _ rfl rfl
    apply fin_ext
    show ((castI P0 (a * b)).val : Int) = ((((castI P0 a).val * (castI P0 b).val) % P0 : Nat) : Int)
    rw [cast_val, Int.natCast_emod, Int.natCast_mul, cast_val, cast_val, ← Int.mul_emod]
end
theorem nrmI : Nrm oI Int.natAbs where
  zero := rfl
  one := by decide
  add := Int.natAbs_add_le
  sub := fun a b => by show (a - b).natAbs ≤ _; omega
  mul := fun a b => Nat.le_of_eq (Int.natAbs_mul a b)
def φ3 {K : Type} (k : Ops K) (f : Int → K) (a b c : K) : P3 → K := evL k (evL k (evL k f a) b) c
def ν3 (a b c : Nat) : P3 → Nat := nL (nL (nL Int.natAbs a) b) c
theorem hom3 {K : Type} {k : Ops K} (hk : RgOk k) {f : Int → K} (h : Hom k oI f) (a b c : K) : Hom k o3 (φ3 k f a b c) := hom_lOps hk (hom_lOps hk (hom_lOps hk h))
theorem nrm3 (a b c : Nat) : Nrm o3 (ν3 a b c) := nrm_lOps (nrm_lOps (nrm_lOps nrmI))
theorem zero3 {N1 N2 N3 M : Nat} {p : P3} (h0 : (M : Int) ∣ φ3 oI idI (N1 : Int) (N2 : Int) (N3 : Int) p) (hM : ν3 N1 N2 N3 p < M) (h3 : ν3 N1 N2 1 p < N3) (h2 : ν3 N1 1 1 p < N2) (h1 : ν3 1 1 1 p < N1)
    {P0 : Nat} [NeZero P0] (a b c : Fin P0) : φ3 (oF P0) (castI P0) a b c p = 0 := by
  have q0 : ∀ z : Int, (idI z).natAbs ≤ Int.natAbs z := fun z => Nat.le_refl _
  have q1 : ∀ l : P1, (evL oI idI (N1 : Int) l).natAbs ≤ nL Int.natAbs N1 l := natAbs_evL q0 N1
  have q2 : ∀ l : P2, (evL oI (evL oI idI (N1 : Int)) (N2 : Int) l).natAbs ≤ nL (nL Int.natAbs N1) N2 l := natAbs_evL q1 N2
  have q3 : (φ3 oI idI (N1 : Int) (N2 : Int) (N3 : Int) p).natAbs ≤ ν3 N1 N2 N3 p := natAbs_evL q2 N3 p
  have hz : φ3 oI idI (N1 : Int) (N2 : Int) (N3 : Int) p = 0 := Int.eq_zero_of_dvd_of_natAbs_lt_natAbs h0 (by rw [Int.natAbs_natCast]; omega)
  have z2 := stepZ q2 p h3 hz
  refine evL_zero (rgF P0) p fun q hq => ?_
  have n2 : nL (nL Int.natAbs N1) 1 q < N2 := Nat.lt_of_le_of_lt (nL_mem (nL (nL Int.natAbs N1) 1) p q hq) h2
  have z1 := stepZ q1 q n2 (z2 q hq)
  refine evL_zero (rgF P0) q fun s hs => ?_
  have n1 : nL Int.natAbs 1 s < N1 := Nat.lt_of_le_of_lt (nL_mem (nL Int.natAbs 1) q s hs) (Nat.lt_of_le_of_lt (nL_mem (nL (nL Int.natAbs 1) 1) p q hq) h1)
  have z0 := stepZ q0 s n1 (z1 s hs)
  refine evL_zero (rgF P0) s fun z hz => ?_
  have : z = 0 := z0 z hz
  rw [this]; exact cast0
abbrev T8 (A : Type) := ((A × A) × (A × A)) × ((A × A) × (A × A))
section
variable {A : Type} (o : Ops A)
def seven : A := o.add (o.add (o.add o.one o.one) (o.add o.one o.one)) (o.add (o.add o.one o.one) o.one)
def cub (x : A) : A := o.add (o.mul (o.mul x x) x) (seven o)
def tow (x1 x2 x3 : A) : Ops (T8 A) := yOps (yOps (yOps o (cub o x1)) (cub o x2, o.zero)) ((cub o x3, o.zero), (o.zero, o.zero))
def env8 (x1 x2 x3 : A) : Nat → T8 A
  | 0 => (((x1, o.zero), (o.zero, o.zero)), ((o.zero, o.zero), (o.zero, o.zero)))
  | 1 => (((o.zero, o.one), (o.zero, o.zero)), ((o.zero, o.zero), (o.zero, o.zero)))
  | 2 => (((x2, o.zero), (o.zero, o.zero)), ((o.zero, o.zero), (o.zero, o.zero)))
  | 3 => (((o.zero, o.zero), (o.one, o.zero)), ((o.zero, o.zero), (o.zero, o.zero)))
  | 4 => (((x3, o.zero), (o.zero, o.zero)), ((o.zero, o.zero), (o.zero, o.zero)))
  | _ => (((o.zero, o.zero), (o.zero, o.zero)), ((o.one, o.zero), (o.zero, o.zero)))
end
def all8 {A B : Type} (R : A → B → Prop) (u : T8 A) (v : T8 B) : Prop :=
  ((R u.1.1.1 v.1.1.1 ∧ R u.1.1.2 v.1.1.2) ∧ (R u.1.2.1 v.1.2.1 ∧ R u.1.2.2 v.1.2.2)) ∧ ((R u.2.1.1 v.2.1.1 ∧ R u.2.1.2 v.2.1.2) ∧ (R u.2.2.1 v.2.2.1 ∧ R u.2.2.2 v.2.2.2))
section
variable {A B : Type} {o : Ops A} {o' : Ops B} {R : A → B → Prop}
theorem rel_seven (h : ORel o o' R) : R (seven o) (seven o') := by
  unfold seven
  have h2 := h.add _ _ _ _ h.one h.one
  exact h.add _ _ _ _ (h.add _ _ _ _ h2 h2) (h.add _ _ _ _ h2 h.one)
theorem rel_cub (h : ORel o o' R) {x : A} {x' : B} (hx : R x x') : R (cub o x) (cub o' x') := h.add _ _ _ _ (h.mul _ _ _ _ (h.mul _ _ _ _ hx hx) hx) (rel_seven h)
theorem rel_tow (h : ORel o o' R) {x1 x2 x3 : A} {y1 y2 y3 : B} (h1 : R x1 y1) (h2 : R x2 y2) (h3 : R x3 y3) : ORel (tow o x1 x2 x3) (tow o' y1 y2 y3) (all8 R) :=
  rel_yOps (rel_yOps (rel_yOps h (rel_cub h h1)) ⟨rel_cub h h2, h.zero⟩) ⟨⟨rel_cub h h3, h.zero⟩, ⟨h.zero, h.zero⟩⟩
theorem rel_env (h : ORel o o' R) {x1 x2 x3 : A} {y1 y2 y3 : B} (h1 : R x1 y1) (h2 : R x2 y2) (h3 : R x3 y3) (i : Nat) : all8 R (env8 o x1 x2 x3 i) (env8 o' y1 y2 y3 i) := by
  have z := h.zero
  have e := h.one
  match i with
  | 0 => exact ⟨⟨⟨h1, z⟩, z, z⟩, ⟨z, z⟩, z, z⟩
  | 1 => exact ⟨⟨⟨z, e⟩, z, z⟩, ⟨z, z⟩, z, z⟩
  | 2 => exact ⟨⟨⟨h2, z⟩, z, z⟩, ⟨z, z⟩, z, z⟩
  | 3 => exact ⟨⟨⟨z, z⟩, e, z⟩, ⟨z, z⟩, z, z⟩
  | 4 => exact ⟨⟨⟨h3, z⟩, z, z⟩, ⟨z, z⟩, z, z⟩
  | _ + 5 => exact ⟨⟨⟨z, z⟩, z, z⟩, ⟨e, z⟩, z, z⟩
end
def mOps (M : Nat) : Ops Nat := ⟨0, 1, fun a b => (a + b) % M, fun a b => (a + (M - b % M)) % M, fun a b => a * b % M⟩
def mdR (M : Nat) (f : P3 → Int) (p : P3) (n : Nat) : Prop := (M : Int) ∣ f p - (n : Int)
theorem rel_mod {M : Nat} (hM : 0 < M) {f : P3 → Int} (h : Hom oI o3 f) : ORel o3 (mOps M) (mdR M f) := by
  have red : ∀ (z : Int) (n : Nat), (M : Int) ∣ z - (n : Int) → (M : Int) ∣ z - ((n % M : Nat) : Int) := by
    intro z n hz
    have e : (n : Int) = (M : Int) * ((n / M : Nat) : Int) + ((n % M : Nat) : Int) := by exact_mod_cast (Nat.div_add_mod n M).symm
    obtain ⟨k, hk⟩ := hz
    exact ⟨k + ((n / M : Nat) : Int), by rw [Int.mul_add]; omega⟩
  have Z0 : f o3.zero = 0 := h.z
  have Ad : ∀ a b, f (o3.add a b) = f a + f b := fun a b => h.a a b
  have Sb : ∀ a b, f (o3.sub a b) = f a - f b := fun a b => h.s a b
  have Mu : ∀ a b, f (o3.mul a b) = f a * f b := fun a b => h.m a b
  refine ⟨?_, ?_, ?_, ?_, ?_⟩
  · show (M : Int) ∣ f o3.zero - ((0 : Nat) : Int); rw [Z0]; exact ⟨0, by simp⟩
  · show (M : Int) ∣ f o3.one - ((1 : Nat) : Int); rw [show f o3.one = 1 from h.one]; exact ⟨0, by simp⟩
  · rintro a b m n ⟨k, hk⟩ ⟨l, hl⟩
    refine red _ _ ⟨k + l, ?_⟩
    rw [Ad, Int.mul_add]; omega
  · rintro a b m n ⟨k, hk⟩ ⟨l, hl⟩
    refine red _ _ ?_
    have hlt : n % M < M := Nat.mod_lt _ hM
    have e : (n : Int) = (M : Int) * ((n / M : Nat) : Int) + ((n % M : Nat) : Int) := by exact_mod_cast (Nat.div_add_mod n M).symm
    refine ⟨k - l - ((n / M : Nat) : Int) - 1, ?_⟩
    rw [Sb, Int.mul_sub, Int.mul_sub, Int.mul_sub]; omega
  · rintro a b m n ⟨k, hk⟩ ⟨l, hl⟩
    refine red _ _ ⟨k * f b + (m : Int) * l, ?_⟩
    rw [Mu]
    have e1 : f a = (m : Int) + (M : Int) * k := by omega
    have e2 : f b = (n : Int) + (M : Int) * l := by omega
    rw [e1, e2, Int.natCast_mul]
    grind
def frc {R : Type} (n : Nat) (k : Nat → R) : R :=
  match n with
  | 0 => k 0
  | m + 1 => k (m + 1)
theorem frc_eq {R : Type} (n : Nat) (k : Nat → R) : frc n k = k n := by cases n <;> rfl
def frc8 (u : T8 Nat) : T8 Nat :=
  frc u.1.1.1 fun a => frc u.1.1.2 fun b => frc u.1.2.1 fun c => frc u.1.2.2 fun d => frc u.2.1.1 fun e => frc u.2.1.2 fun f => frc u.2.2.1 fun g => frc u.2.2.2 fun h => (((a, b), (c, d)), ((e, f), (g, h)))
theorem frc8_eq (u : T8 Nat) : frc8 u = u := by simp only [frc8, frc_eq]
def fOps (o : Ops (T8 Nat)) : Ops (T8 Nat) := ⟨o.zero, o.one, fun u v => frc8 (o.add u v), fun u v => frc8 (o.sub u v), fun u v => frc8 (o.mul u v)⟩
theorem fOps_eq (o : Ops (T8 Nat)) : fOps o = o := by unfold fOps; simp only [frc8_eq]
def lt8 (N : Nat) (u : T8 Nat) : Bool := Nat.blt u.1.1.1 N && Nat.blt u.1.1.2 N && Nat.blt u.1.2.1 N && Nat.blt u.1.2.2 N && Nat.blt u.2.1.1 N && Nat.blt u.2.1.2 N && Nat.blt u.2.2.1 N && Nat.blt u.2.2.2 N
def absOk (a b c N : Nat) (e : PE) : Bool := lt8 N (e.ev (fOps (tow aOps a b c)) (env8 aOps a b c))
def modOk (a b c M : Nat) (e : PE) : Bool := lt8 1 (e.ev (fOps (tow (mOps M) a b c)) (env8 (mOps M) a b c))
def chkP (N1 N2 N3 M : Nat) (e : PE) : Bool := absOk 1 1 1 N1 e && absOk N1 1 1 N2 e && absOk N1 N2 1 N3 e && absOk N1 N2 N3 M e && modOk N1 N2 N3 M e
theorem lt8_iff {N : Nat} {u : T8 Nat} (h : lt8 N u = true) : ((u.1.1.1 < N ∧ u.1.1.2 < N) ∧ (u.1.2.1 < N ∧ u.1.2.2 < N)) ∧ ((u.2.1.1 < N ∧ u.2.1.2 < N) ∧ (u.2.2.1 < N ∧ u.2.2.2 < N)) := by
  simp only [lt8, Bool.and_eq_true, Nat.blt_eq] at h
  obtain ⟨⟨⟨⟨⟨⟨⟨h0, h1⟩, h2⟩, h3⟩, h4⟩, h5⟩, h6⟩, h7⟩ := h
  exact ⟨⟨⟨h0, h1⟩, h2, h3⟩, ⟨h4, h5⟩, h6, h7⟩
def PE.p8 (e : PE) : T8 P3 := e.ev (tow o3 X1 X2 X3) (env8 o3 X1 X2 X3)
theorem abs_le (a b c N : Nat) (e : PE) (h : absOk a b c N e = true) : all8 (fun (p : P3) (_ : Nat) => ν3 a b c p < N) e.p8 (((0, 0), (0, 0)), ((0, 0), (0, 0))) := by
  unfold absOk at h
  rw [fOps_eq] at h
  have hr := nrm_rel (nrm3 a b c)
  have x1 : ν3 a b c X1 ≤ a := by simp [ν3, X1, nL]
  have x2 : ν3 a b c X2 ≤ b := by simp [ν3, X2, nL]
  have x3 : ν3 a b c X3 ≤ c := by simp [ν3, X3, nL]
  have key := PE.rel (rel_tow hr x1 x2 x3) (rel_env hr x1 x2 x3) e
  obtain ⟨⟨⟨k0, k1⟩, k2, k3⟩, ⟨k4, k5⟩, k6, k7⟩ := key
  obtain ⟨⟨⟨l0, l1⟩, l2, l3⟩, ⟨l4, l5⟩, l6, l7⟩ := lt8_iff h
  exact ⟨⟨⟨Nat.lt_of_le_of_lt k0 l0, Nat.lt_of_le_of_lt k1 l1⟩, Nat.lt_of_le_of_lt k2 l2, Nat.lt_of_le_of_lt k3 l3⟩, ⟨Nat.lt_of_le_of_lt k4 l4, Nat.lt_of_le_of_lt k5 l5⟩, Nat.lt_of_le_of_lt k6 l6, Nat.lt_of_le_of_lt k7 l7⟩
theorem mod_zero (a b c M : Nat) (hM : 0 < M) (e : PE) (h : modOk a b c M e = true) : all8 (fun (p : P3) (_ : Nat) => (M : Int) ∣ φ3 oI idI (a : Int) (b : Int) (c : Int) p) e.p8 (((0, 0), (0, 0)), ((0, 0), (0, 0))) := by
  unfold modOk at h
  rw [fOps_eq] at h
  have hr := rel_mod hM (hom3 rgI homI (a : Int) (b : Int) (c : Int))
  have x1 : mdR M (φ3 oI idI (a : Int) (b : Int) (c : Int)) X1 a := ⟨0, by simp [φ3, X1, evL, idI, oI]⟩
  have x2 : mdR M (φ3 oI idI (a : Int) (b : Int) (c : Int)) X2 b := ⟨0, by simp [φ3, X2, evL, idI, oI]⟩
  have x3 : mdR M (φ3 oI idI (a : Int) (b : Int) (c : Int)) X3 c := ⟨0, by simp [φ3, X3, evL, idI, oI]⟩
  have key := PE.rel (rel_tow hr x1 x2 x3) (rel_env hr x1 x2 x3) e
  have z : ∀ (p : P3) (n : Nat), mdR M (φ3 oI idI (a : Int) (b : Int) (c : Int)) p n → n < 1 → (M : Int) ∣ φ3 oI idI (a : Int) (b : Int) (c : Int) p := by
    intro p n hp hn
    have : n = 0 := by omega
    subst this
    obtain ⟨k, hk⟩ := hp
    exact ⟨k, by omega⟩
  obtain ⟨⟨⟨k0, k1⟩, k2, k3⟩, ⟨k4, k5⟩, k6, k7⟩ := key
  obtain ⟨⟨⟨l0, l1⟩, l2, l3⟩, ⟨l4, l5⟩, l6, l7⟩ := lt8_iff h
  exact ⟨⟨⟨z _ _ k0 l0, z _ _ k1 l1⟩, z _ _ k2 l2, z _ _ k3 l3⟩, ⟨z _ _ k4 l4, z _ _ k5 l5⟩, z _ _ k6 l6, z _ _ k7 l7⟩
section
variable {P0 : Nat} [NeZero P0]
def envK (x1 y1 x2 y2 x3 y3 : Fin P0) : Nat → Fin P0
  | 0 => x1
  | 1 => y1
  | 2 => x2
  | 3 => y2
  | 4 => x3
  | _ => y3
theorem e8a (a y1 y2 y3 : Fin P0) : ((a + 0 * y1) + (0 + 0 * y1) * y2) + ((0 + 0 * y1) + (0 + 0 * y1) * y2) * y3 = a := by grind
theorem e8b (y1 y2 y3 : Fin P0) : ((0 + 1 * y1) + (0 + 0 * y1) * y2) + ((0 + 0 * y1) + (0 + 0 * y1) * y2) * y3 = y1 := by grind
theorem e8c (y1 y2 y3 : Fin P0) : ((0 + 0 * y1) + (1 + 0 * y1) * y2) + ((0 + 0 * y1) + (0 + 0 * y1) * y2) * y3 = y2 := by grind
theorem e8d (y1 y2 y3 : Fin P0) : ((0 + 0 * y1) + (0 + 0 * y1) * y2) + ((1 + 0 * y1) + (0 + 0 * y1) * y2) * y3 = y3 := by grind
theorem e8s (x1 x2 x3 : Fin P0) : φ3 (oF P0) (castI P0) x1 x2 x3 (seven o3) = 7 := by
  have := rel_seven (hom3 (rgF P0) (homK (P0 := P0)) x1 x2 x3)
  rw [this]; simp only [seven, oF]; grind
theorem e8x (x1 x2 x3 : Fin P0) : φ3 (oF P0) (castI P0) x1 x2 x3 X1 = x1 := by simp only [φ3, X1, evL, cast0, cast1, oF]; grind
theorem e8y (x1 x2 x3 : Fin P0) : φ3 (oF P0) (castI P0) x1 x2 x3 X2 = x2 := by simp only [φ3, X2, evL, cast1, oF]; grind
theorem e8z (x1 x2 x3 : Fin P0) : φ3 (oF P0) (castI P0) x1 x2 x3 X3 = x3 := by simp only [φ3, X3, evL, cast1, oF]; grind
theorem e8r (a y : Fin P0) : a + 0 * y = a := by grind
theorem poly_zero {N1 N2 N3 M : Nat} {e : PE} (hM : 0 < M) (h : chkP N1 N2 N3 M e = true) {x1 y1 x2 y2 x3 y3 : Fin P0} (h1 : y1 * y1 = x1 * x1 * x1 + 7) (h2 : y2 * y2 = x2 * x2 * x2 + 7) (h3 : y3 * y3 = x3 * x3 * x3 + 7) :
    e.ev (oF P0) (envK x1 y1 x2 y2 x3 y3) = 0 := by
  simp only [chkP, Bool.and_eq_true] at h
  obtain ⟨⟨⟨⟨a1, a2⟩, a3⟩, a4⟩, a5⟩ := h
  have b1 := abs_le _ _ _ _ e a1
  have b2 := abs_le _ _ _ _ e a2
  have b3 := abs_le _ _ _ _ e a3
  have b4 := abs_le _ _ _ _ e a4
  have b5 := mod_zero _ _ _ _ hM e a5
  have z : ∀ p : P3, ((M : Int) ∣ φ3 oI idI (N1 : Int) (N2 : Int) (N3 : Int) p) → ν3 N1 N2 N3 p < M → ν3 N1 N2 1 p < N3 → ν3 N1 1 1 p < N2 → ν3 1 1 1 p < N1 → φ3 (oF P0) (castI P0) x1 x2 x3 p = 0 :=
    fun p q0 q1 q2 q3 q4 => zero3 q0 q1 q2 q3 q4 x1 x2 x3
  have hφ := hom3 (rgF P0) (homK (P0 := P0)) x1 x2 x3
  have s7 := e8s x1 x2 x3
  have c1 := e8x x1 x2 x3
  have c2 := e8y x1 x2 x3
  have c3 := e8z x1 x2 x3
  generalize φ3 (oF P0) (castI P0) x1 x2 x3 = φ at hφ s7 c1 c2 c3 z
  have hz : φ o3.zero = 0 := hφ.z
  have ho : φ o3.one = 1 := hφ.one
  have cu : ∀ (X : P3) (x : Fin P0), φ X = x → φ (cub o3 X) = x * x * x + 7 := by
    intro X x hx
    have e : φ (cub o3 X) = φ X * φ X * φ X + φ (seven o3) := by unfold cub; rw [hφ.a, hφ.m, hφ.m]; rfl
    rw [e, hx, s7]
  have H1 := hom_yOps (rgF P0) hφ (r := cub o3 X1) (y := y1) (by rw [cu _ _ c1]; exact h1)
  have H2 := hom_yOps (rgF P0) H1 (r := (cub o3 X2, o3.zero)) (y := y2) (by
    show y2 * y2 = φ (cub o3 X2) + φ o3.zero * y1
    rw [cu _ _ c2, hz, e8r, h2])
  have H3 := hom_yOps (rgF P0) H2 (r := ((cub o3 X3, o3.zero), (o3.zero, o3.zero))) (y := y3) (by
    show y3 * y3 = (φ (cub o3 X3) + φ o3.zero * y1) + (φ o3.zero + φ o3.zero * y1) * y2
    rw [cu _ _ c3, hz, e8r, e8r, e8r, h3])
  have key := PE.rel H3 (env := env8 o3 X1 X2 X3) (env' := envK x1 y1 x2 y2 x3 y3) (by
    intro i
    match i with
    | 0 =>
      show ((φ X1 + φ o3.zero * y1) + (φ o3.zero + φ o3.zero * y1) * y2) + ((φ o3.zero + φ o3.zero * y1) + (φ o3.zero + φ o3.zero * y1) * y2) * y3 = x1
      rw [hz, c1]; exact e8a _ _ _ _
    | 1 =>
      show ((φ o3.zero + φ o3.one * y1) + (φ o3.zero + φ o3.zero * y1) * y2) + ((φ o3.zero + φ o3.zero * y1) + (φ o3.zero + φ o3.zero * y1) * y2) * y3 = y1
      rw [hz, ho]; exact e8b _ _ _
    | 2 =>
      show ((φ X2 + φ o3.zero * y1) + (φ o3.zero + φ o3.zero * y1) * y2) + ((φ o3.zero + φ o3.zero * y1) + (φ o3.zero + φ o3.zero * y1) * y2) * y3 = x2
      rw [hz, c2]; exact e8a _ _ _ _
    | 3 =>
      show ((φ o3.zero + φ o3.zero * y1) + (φ o3.one + φ o3.zero * y1) * y2) + ((φ o3.zero + φ o3.zero * y1) + (φ o3.zero + φ o3.zero * y1) * y2) * y3 = y2
      rw [hz, ho]; exact e8c _ _ _
    | 4 =>
      show ((φ X3 + φ o3.zero * y1) + (φ o3.zero + φ o3.zero * y1) * y2) + ((φ o3.zero + φ o3.zero * y1) + (φ o3.zero + φ o3.zero * y1) * y2) * y3 = x3
      rw [hz, c3]; exact e8a _ _ _ _
    | _ + 5 =>
      show ((φ o3.zero + φ o3.zero * y1) + (φ o3.zero + φ o3.zero * y1) * y2) + ((φ o3.one + φ o3.zero * y1) + (φ o3.zero + φ o3.zero * y1) * y2) * y3 = y3
      rw [hz, ho]; exact e8d _ _ _) e
  rw [← key]
  show ((φ e.p8.1.1.1 + φ e.p8.1.1.2 * y1) + (φ e.p8.1.2.1 + φ e.p8.1.2.2 * y1) * y2) + ((φ e.p8.2.1.1 + φ e.p8.2.1.2 * y1) + (φ e.p8.2.2.1 + φ e.p8.2.2.2 * y1) * y2) * y3 = 0
  rw [z _ b5.1.1.1 b4.1.1.1 b3.1.1.1 b2.1.1.1 b1.1.1.1, z _ b5.1.1.2 b4.1.1.2 b3.1.1.2 b2.1.1.2 b1.1.1.2, z _ b5.1.2.1 b4.1.2.1 b3.1.2.1 b2.1.2.1 b1.1.2.1, z _ b5.1.2.2 b4.1.2.2 b3.1.2.2 b2.1.2.2 b1.1.2.2,
    z _ b5.2.1.1 b4.2.1.1 b3.2.1.1 b2.2.1.1 b1.2.1.1, z _ b5.2.1.2 b4.2.1.2 b3.2.1.2 b2.2.1.2 b1.2.1.2, z _ b5.2.2.1 b4.2.2.1 b3.2.2.1 b2.2.2.1 b1.2.2.1, z _ b5.2.2.2 b4.2.2.2 b3.2.2.2 b2.2.2.2 b1.2.2.2]
  exact e8a 0 _ _ _
end
end Go.W

namespace Go.W
section
variable {P0 : Nat} [NeZero P0]
def fX (X1 Y1 Z1 X2 Y2 Z2 : (Fin P0)) : (Fin P0) := (X1 * Y2 + X2 * Y1) * (Y1 * Y2 - 21 * (Z1 * Z2)) - 21 * (Y1 * Z2 + Y2 * Z1) * (X1 * Z2 + X2 * Z1)
def fY (X1 Y1 Z1 X2 Y2 Z2 : (Fin P0)) : (Fin P0) := (Y1 * Y2 + 21 * (Z1 * Z2)) * (Y1 * Y2 - 21 * (Z1 * Z2)) + 63 * (X1 * X2) * (X1 * Z2 + X2 * Z1)
def fZ (X1 Y1 Z1 X2 Y2 Z2 : (Fin P0)) : (Fin P0) := (Y1 * Z2 + Y2 * Z1) * (Y1 * Y2 + 21 * (Z1 * Z2)) + 3 * (X1 * X2) * (X1 * Y2 + X2 * Y1)
end
def e3 : PE := .add (.add .one .one) .one
def e7 : PE := .add (.add (.add .one .one) (.add .one .one)) e3
def e21 : PE := .mul e3 e7
def e63 : PE := .mul e3 e21
def eX (X1 Y1 Z1 X2 Y2 Z2 : PE) : PE := .sub (.mul (.add (.mul X1 Y2) (.mul X2 Y1)) (.sub (.mul Y1 Y2) (.mul e21 (.mul Z1 Z2)))) (.mul (.mul e21 (.add (.mul Y1 Z2) (.mul Y2 Z1))) (.add (.mul X1 Z2) (.mul X2 Z1)))
def eY (X1 Y1 Z1 X2 Y2 Z2 : PE) : PE := .add (.mul (.add (.mul Y1 Y2) (.mul e21 (.mul Z1 Z2))) (.sub (.mul Y1 Y2) (.mul e21 (.mul Z1 Z2)))) (.mul (.mul e63 (.mul X1 X2)) (.add (.mul X1 Z2) (.mul X2 Z1)))
def eZ (X1 Y1 Z1 X2 Y2 Z2 : PE) : PE := .add (.mul (.add (.mul Y1 Z2) (.mul Y2 Z1)) (.add (.mul Y1 Y2) (.mul e21 (.mul Z1 Z2)))) (.mul (.mul e3 (.mul X1 X2)) (.add (.mul X1 Y2) (.mul X2 Y1)))
def ePQ (f : PE → PE → PE → PE → PE → PE → PE) : PE := f (.v 0) (.v 1) .one (.v 2) (.v 3) .one
def eQR (f : PE → PE → PE → PE → PE → PE → PE) : PE := f (.v 2) (.v 3) .one (.v 4) (.v 5) .one
def eL (f : PE → PE → PE → PE → PE → PE → PE) : PE := f (ePQ eX) (ePQ eY) (ePQ eZ) (.v 4) (.v 5) .one
def eR (f : PE → PE → PE → PE → PE → PE → PE) : PE := f (.v 0) (.v 1) .one (eQR eX) (eQR eY) (eQR eZ)
def asX : PE := .sub (.mul (eL eX) (eR eZ)) (.mul (eL eZ) (eR eX))
def asY : PE := .sub (.mul (eL eY) (eR eZ)) (.mul (eL eZ) (eR eY))
theorem asX_chk : chkP (2 ^ 49) (2 ^ 472) (2 ^ 6114) (2 ^ 61036) asX = true := by kernel_rfl
theorem asY_chk : chkP (2 ^ 49) (2 ^ 472) (2 ^ 6114) (2 ^ 61036) asY = true := by kernel_rfl
section
variable {P0 : Nat} [NeZero P0]
theorem e3_ev (env : Nat → (Fin P0)) : e3.ev (oF P0) env = 3 := by simp only [e3, PE.ev, oF]; grind
theorem e7_ev (env : Nat → (Fin P0)) : e7.ev (oF P0) env = 7 := by simp only [e7, e3, PE.ev, oF]; grind
theorem e21_ev (env : Nat → (Fin P0)) : e21.ev (oF P0) env = 21 := by
  show e3.ev (oF P0) env * e7.ev (oF P0) env = 21
  rw [e3_ev, e7_ev]; grind
theorem e63_ev (env : Nat → (Fin P0)) : e63.ev (oF P0) env = 63 := by
  show e3.ev (oF P0) env * e21.ev (oF P0) env = 63
  rw [e3_ev, e21_ev]; grind
theorem eX_ev (env : Nat → (Fin P0)) (a b c d e f : PE) : (eX a b c d e f).ev (oF P0) env = fX (a.ev (oF P0) env) (b.ev (oF P0) env) (c.ev (oF P0) env) (d.ev (oF P0) env) (e.ev (oF P0) env) (f.ev (oF P0) env) := by
  unfold fX
  rw [← e21_ev env]; rfl
theorem eY_ev (env : Nat → (Fin P0)) (a b c d e f : PE) : (eY a b c d e f).ev (oF P0) env = fY (a.ev (oF P0) env) (b.ev (oF P0) env) (c.ev (oF P0) env) (d.ev (oF P0) env) (e.ev (oF P0) env) (f.ev (oF P0) env) := by
  unfold fY
  rw [← e21_ev env, ← e63_ev env]; rfl
theorem eZ_ev (env : Nat → (Fin P0)) (a b c d e f : PE) : (eZ a b c d e f).ev (oF P0) env = fZ (a.ev (oF P0) env) (b.ev (oF P0) env) (c.ev (oF P0) env) (d.ev (oF P0) env) (e.ev (oF P0) env) (f.ev (oF P0) env) := by
  unfold fZ
  rw [← e21_ev env, ← e3_ev env]; rfl
theorem assocX {x1 y1 x2 y2 x3 y3 : (Fin P0)} (h1 : y1 * y1 = x1 * x1 * x1 + 7) (h2 : y2 * y2 = x2 * x2 * x2 + 7) (h3 : y3 * y3 = x3 * x3 * x3 + 7) :
    fX (fX x1 y1 1 x2 y2 1) (fY x1 y1 1 x2 y2 1) (fZ x1 y1 1 x2 y2 1) x3 y3 1 * fZ x1 y1 1 (fX x2 y2 1 x3 y3 1) (fY x2 y2 1 x3 y3 1) (fZ x2 y2 1 x3 y3 1) =
    fZ (fX x1 y1 1 x2 y2 1) (fY x1 y1 1 x2 y2 1) (fZ x1 y1 1 x2 y2 1) x3 y3 1 * fX x1 y1 1 (fX x2 y2 1 x3 y3 1) (fY x2 y2 1 x3 y3 1) (fZ x2 y2 1 x3 y3 1) := by
  have h := poly_zero (Nat.two_pow_pos _) asX_chk h1 h2 h3
  have e : asX.ev (oF P0) (envK x1 y1 x2 y2 x3 y3) = (eL eX).ev (oF P0) (envK x1 y1 x2 y2 x3 y3) * (eR eZ).ev (oF P0) (envK x1 y1 x2 y2 x3 y3) - (eL eZ).ev (oF P0) (envK x1 y1 x2 y2 x3 y3) * (eR eX).ev (oF P0) (envK x1 y1 x2 y2 x3 y3) := rfl
  rw [e] at h
  simp only [eL, eR, ePQ, eQR, eX_ev, eY_ev, eZ_ev, PE.ev, envK] at h
  have o : (oF P0).one = 1 := rfl
  rw [o] at h
  generalize fX (fX x1 y1 1 x2 y2 1) (fY x1 y1 1 x2 y2 1) (fZ x1 y1 1 x2 y2 1) x3 y3 1 = A at *
  generalize fZ (fX x1 y1 1 x2 y2 1) (fY x1 y1 1 x2 y2 1) (fZ x1 y1 1 x2 y2 1) x3 y3 1 = B at *
  generalize fX x1 y1 1 (fX x2 y2 1 x3 y3 1) (fY x2 y2 1 x3 y3 1) (fZ x2 y2 1 x3 y3 1) = C at *
  generalize fZ x1 y1 1 (fX x2 y2 1 x3 y3 1) (fY x2 y2 1 x3 y3 1) (fZ x2 y2 1 x3 y3 1) = D at *
  grind
theorem assocY {x1 y1 x2 y2 x3 y3 : (Fin P0)} (h1 : y1 * y1 = x1 * x1 * x1 + 7) (h2 : y2 * y2 = x2 * x2 * x2 + 7) (h3 : y3 * y3 = x3 * x3 * x3 + 7) :
    fY (fX x1 y1 1 x2 y2 1) (fY x1 y1 1 x2 y2 1) (fZ x1 y1 1 x2 y2 1) x3 y3 1 * fZ x1 y1 1 (fX x2 y2 1 x3 y3 1) (fY x2 y2 1 x3 y3 1) (fZ x2 y2 1 x3 y3 1) =
    fZ (fX x1 y1 1 x2 y2 1) (fY x1 y1 1 x2 y2 1) (fZ x1 y1 1 x2 y2 1) x3 y3 1 * fY x1 y1 1 (fX x2 y2 1 x3 y3 1) (fY x2 y2 1 x3 y3 1) (fZ x2 y2 1 x3 y3 1) := by
  have h := poly_zero (Nat.two_pow_pos _) asY_chk h1 h2 h3
  have e : asY.ev (oF P0) (envK x1 y1 x2 y2 x3 y3) = (eL eY).ev (oF P0) (envK x1 y1 x2 y2 x3 y3) * (eR eZ).ev (oF P0) (envK x1 y1 x2 y2 x3 y3) - (eL eZ).ev (oF P0) (envK x1 y1 x2 y2 x3 y3) * (eR eY).ev (oF P0) (envK x1 y1 x2 y2 x3 y3) := rfl
  rw [e] at h
  simp only [eL, eR, ePQ, eQR, eX_ev, eY_ev, eZ_ev, PE.ev, envK] at h
  have o : (oF P0).one = 1 := rfl
  rw [o] at h
  generalize fY (fX x1 y1 1 x2 y2 1) (fY x1 y1 1 x2 y2 1) (fZ x1 y1 1 x2 y2 1) x3 y3 1 = A at *
  generalize fZ (fX x1 y1 1 x2 y2 1) (fY x1 y1 1 x2 y2 1) (fZ x1 y1 1 x2 y2 1) x3 y3 1 = B at *
  generalize fY x1 y1 1 (fX x2 y2 1 x3 y3 1) (fY x2 y2 1 x3 y3 1) (fZ x2 y2 1 x3 y3 1) = C at *
  generalize fZ x1 y1 1 (fX x2 y2 1 x3 y3 1) (fY x2 y2 1 x3 y3 1) (fZ x2 y2 1 x3 y3 1) = D at *
  grind
end
end Go.W

namespace Go.W
section
variable {P0 : Nat} [NeZero P0]
theorem g1 {a b c x : (Fin P0)} (h : a - b - c = x) : a = x + b + c := by grind
theorem g2 (k x1 y1 x3 : (Fin P0)) : (k * (x1 - x3) - y1) * (k * (x1 - x3) - y1) = (k * k) * ((x3 - x1) * (x3 - x1)) + (2 * k * y1) * (x3 - x1) + y1 * y1 := by grind
theorem g3 {a b c : (Fin P0)} (h : a - b - c = 0) : c = a - b := by grind
theorem g4 (x1 x2 x3 : (Fin P0)) : (x3 + x1 + x2) * ((x3 - x1) * (x3 - x1)) + (x1 * x1 + x1 * x2 + x2 * x2 - (x3 + x1 + x2) * (x2 - x1)) * (x3 - x1) + (x1 * x1 * x1 + 7) = x3 * x3 * x3 + 7 := by grind
theorem g5 {a b c : (Fin P0)} (h1 : a * a = c) (h2 : b * b = c) : (a + b) * (a - b) = 0 := by grind
theorem g6 {a b : (Fin P0)} (h : a - b = 0) : a = b := by grind
theorem g7 (x1 y1 x2 k : (Fin P0)) : (x2 - x1) * (x1 * x1 + x1 * x2 + x2 * x2 - k * k * (x2 - x1) - 2 * k * y1) = (x2 * x2 * x2 + 7) - (x1 * x1 * x1 + 7) - (k * (x2 - x1)) * (k * (x2 - x1) + 2 * y1) := by grind
theorem g8 (y1 y2 : (Fin P0)) : y2 * y2 - y1 * y1 - (y2 - y1) * (y2 - y1 + 2 * y1) = 0 := by grind
theorem g9 (a i d : (Fin P0)) : a * i * d = a * (d * i) := by grind
theorem g10 (a : (Fin P0)) : a * 1 = a := by grind
theorem g11 (y : (Fin P0)) : (0 - y) * (0 - y) = y * y := by grind
theorem g12 (k d x1 x2 y1 : (Fin P0)) : (k * d) * ((x1 + x1 + x2) * (d * d) - (k * d) * (k * d)) - y1 * (d * d * d) = d * (d * (d * (k * (x1 - (k * k - x1 - x2)) - y1))) := by grind
theorem g13 (C k d x1 x2 : (Fin P0)) : C * ((k * d) * (k * d) - (x1 + x2) * (d * d)) = d * d * (C * (k * k - x1 - x2)) := by grind
theorem g14 (C k d x1 x2 y1 : (Fin P0)) : C * ((k * d) * ((x1 + x1 + x2) * (d * d) - (k * d) * (k * d)) - y1 * (d * d * d)) = d * d * d * (C * (k * (x1 - (k * k - x1 - x2)) - y1)) := by grind
theorem g15 (k d x : (Fin P0)) : d * ((k * d) * (k * d) - (x + x) * (d * d)) = d * (d * d) * (k * k - x - x) := by grind
theorem g16 (k d x y : (Fin P0)) : (k * d) * ((x + x + x) * (d * d) - (k * d) * (k * d)) - y * (d * (d * d)) = d * (d * d) * (k * (x - (k * k - x - x)) - y) := by grind
theorem g17 (a : (Fin P0)) : a = a * 1 := by grind
theorem g18 {a b : (Fin P0)} (h : a + b = 0) : b = 0 - a := by grind
theorem g19 (a b c : (Fin P0)) : a * a * (b * c) = a * a * b * c := by grind
theorem g21 {c d x1 x2 : (Fin P0)} (h : c * x1 * (d * 1) = c * 1 * (d * x2)) : c * d * x1 = c * d * x2 := by grind
theorem g22 {c d y : (Fin P0)} (h : c * 1 * (d * 1) = c * 0 * (d * y)) : c * d = 0 := by grind
theorem g23 {c d y : (Fin P0)} (h : c * y * (d * 0) = c * 1 * (d * 1)) : c * d = 0 := by grind
theorem g24 {a b c : (Fin P0)} (h : a * b = a * c) : a * (b - c) = 0 := by grind
theorem g25 {x y k : (Fin P0)} (hk : k * (2 * y) = 3 * (x * x)) : x * x + x * x + x * x - k * k * (x - x) - 2 * k * y = 0 := by grind
theorem g26 (a i b : (Fin P0)) (h : a * i = 1) : b = i * (a * b) := by grind
theorem g27 (a : (Fin P0)) : a * 0 = 0 := by grind
theorem g30 (a b : (Fin P0)) : a * b = b * a := by grind
end
structure Fld (P0 : Nat) [NeZero P0] (inv : Fin P0 → Fin P0) : Prop where
  inv : ∀ a : (Fin P0), a ≠ 0 → a * inv a = 1
  one : (1 : (Fin P0)) ≠ 0
  two : (2 : (Fin P0)) ≠ 0
  tor : ∀ x y : (Fin P0), y * y = x * x * x + 7 → y ≠ 0
inductive Pt (KK : Type) where
  | inf
  | aff (x y : KK)
  deriving DecidableEq
section
variable {P0 : Nat} [NeZero P0]
theorem gz {x1 y1 x2 y2 : (Fin P0)} (h1 : y1 * y1 = x1 * x1 * x1 + 7) (h2 : y2 * y2 = x2 * x2 * x2 + 7) :
    fZ x1 y1 1 x2 y2 1 = (0 - y2 - y1) * ((x1 + x1 + x2) * ((x2 - x1) * (x2 - x1)) - (0 - y2 - y1) * (0 - y2 - y1)) - y1 * ((x2 - x1) * (x2 - x1) * (x2 - x1)) := by unfold fZ; grind
theorem gxx {x1 y1 x2 y2 : (Fin P0)} (h1 : y1 * y1 = x1 * x1 * x1 + 7) (h2 : y2 * y2 = x2 * x2 * x2 + 7) :
    (x2 - x1) * (x2 - x1) * fX x1 y1 1 x2 y2 1 = fZ x1 y1 1 x2 y2 1 * ((y2 - y1) * (y2 - y1) - (x1 + x2) * ((x2 - x1) * (x2 - x1))) := by unfold fX fZ; grind
theorem gyy {x1 y1 x2 y2 : (Fin P0)} (h1 : y1 * y1 = x1 * x1 * x1 + 7) (h2 : y2 * y2 = x2 * x2 * x2 + 7) :
    (x2 - x1) * (x2 - x1) * (x2 - x1) * fY x1 y1 1 x2 y2 1 = fZ x1 y1 1 x2 y2 1 * ((y2 - y1) * ((x1 + x1 + x2) * ((x2 - x1) * (x2 - x1)) - (y2 - y1) * (y2 - y1)) - y1 * ((x2 - x1) * (x2 - x1) * (x2 - x1))) := by unfold fY fZ; grind
theorem gtz {x y : (Fin P0)} (h1 : y * y = x * x * x + 7) : fZ x y 1 x y 1 = (2 * y) * ((2 * y) * (2 * y)) := by unfold fZ; grind
theorem gtx {x y : (Fin P0)} (h1 : y * y = x * x * x + 7) : fX x y 1 x y 1 = (2 * y) * ((3 * (x * x)) * (3 * (x * x)) - (x + x) * ((2 * y) * (2 * y))) := by unfold fX; grind
theorem gty {x y : (Fin P0)} (h1 : y * y = x * x * x + 7) : fY x y 1 x y 1 = (3 * (x * x)) * ((x + x + x) * ((2 * y) * (2 * y)) - (3 * (x * x)) * (3 * (x * x))) - y * ((2 * y) * ((2 * y) * (2 * y))) := by unfold fY; grind
theorem gox (x y : (Fin P0)) : fX x y 1 x (0 - y) 1 = 0 := by unfold fX; grind
theorem goz (x y : (Fin P0)) : fZ x y 1 x (0 - y) 1 = 0 := by unfold fZ; grind
theorem goy {x y : (Fin P0)} (h1 : y * y = x * x * x + 7) : fY x y 1 x (0 - y) 1 = (3 * (x * x)) * ((x + x + x) * ((2 * y) * (2 * y)) - (3 * (x * x)) * (3 * (x * x))) - y * ((2 * y) * (2 * y) * (2 * y)) := by unfold fY; grind
end
section
variable {P0 : Nat} [NeZero P0] {inv : Fin P0 → Fin P0}
theorem Fld.dom (F : Fld P0 inv) {a b : (Fin P0)} (h : a * b = 0) : a = 0 ∨ b = 0 := by
  by_cases ha : a = 0
  · exact .inl ha
  · right
    have h1 := F.inv a ha
    rw [g26 a (inv a) b h1, h, g27]
theorem Fld.mul_ne (F : Fld P0 inv) {a b : (Fin P0)} (ha : a ≠ 0) (hb : b ≠ 0) : a * b ≠ 0 := fun h => (F.dom h).elim ha hb
theorem Fld.cancel (F : Fld P0 inv) {a b c : (Fin P0)} (ha : a ≠ 0) (h : a * b = a * c) : b = c := by
  rcases F.dom (g24 h) with h1 | h1
  · exact absurd h1 ha
  · exact g6 h1
def On : Pt (Fin P0) → Prop
  | .inf => True
  | .aff x y => y * y = x * x * x + 7
def line (k x1 y1 x2 : (Fin P0)) : Pt (Fin P0) := .aff (k * k - x1 - x2) (k * (x1 - (k * k - x1 - x2)) - y1)
theorem line_on {k x1 y1 x2 : (Fin P0)} (h1 : y1 * y1 = x1 * x1 * x1 + 7) (hE : x1 * x1 + x1 * x2 + x2 * x2 - k * k * (x2 - x1) - 2 * k * y1 = 0) : On (line k x1 y1 x2) := by
  show (k * (x1 - (k * k - x1 - x2)) - y1) * (k * (x1 - (k * k - x1 - x2)) - y1) = (k * k - x1 - x2) * (k * k - x1 - x2) * (k * k - x1 - x2) + 7
  generalize hx : k * k - x1 - x2 = x3
  have hk : k * k = x3 + x1 + x2 := g1 hx
  have e2 := g3 hE
  rw [hk] at e2
  rw [g2, e2, hk, h1]; exact g4 x1 x2 x3
theorem sq_eq (F : Fld P0 inv) {x y1 y2 : (Fin P0)} (h1 : y1 * y1 = x * x * x + 7) (h2 : y2 * y2 = x * x * x + 7) : y1 + y2 = 0 ∨ y1 = y2 := by
  rcases F.dom (g5 h1 h2) with h | h
  · exact .inl h
  · exact .inr (g6 h)
theorem chord_E (F : Fld P0 inv) {x1 y1 x2 y2 k : (Fin P0)} (h1 : y1 * y1 = x1 * x1 * x1 + 7) (h2 : y2 * y2 = x2 * x2 * x2 + 7) (hd : x2 - x1 ≠ 0) (hk : k * (x2 - x1) = y2 - y1) :
    x1 * x1 + x1 * x2 + x2 * x2 - k * k * (x2 - x1) - 2 * k * y1 = 0 := by
  have e := g7 x1 y1 x2 k
  rw [hk, ← h1, ← h2, g8] at e
  exact (F.dom e).resolve_left hd
theorem tan_E {x y k : (Fin P0)} (hk : k * (2 * y) = 3 * (x * x)) : x * x + x * x + x * x - k * k * (x - x) - 2 * k * y = 0 := g25 hk
theorem chord_k (F : Fld P0 inv) {x1 y1 x2 y2 : (Fin P0)} (hd : x2 - x1 ≠ 0) : (y2 - y1) * inv (x2 - x1) * (x2 - x1) = y2 - y1 := by
  rw [g9, F.inv _ hd, g10]
theorem tan_k (F : Fld P0 inv) {x y : (Fin P0)} (hd : 2 * y ≠ 0) : 3 * (x * x) * inv (2 * y) * (2 * y) = 3 * (x * x) := by
  rw [g9, F.inv _ hd, g10]
def pX : Pt (Fin P0) → (Fin P0)
  | .inf => 0
  | .aff x _ => x
def pY : Pt (Fin P0) → (Fin P0)
  | .inf => 1
  | .aff _ y => y
def pZ : Pt (Fin P0) → (Fin P0)
  | .inf => 0
  | .aff _ _ => 1
def Is (c : (Fin P0)) (p : Pt (Fin P0)) (X Y Z : (Fin P0)) : Prop := X = c * pX p ∧ Y = c * pY p ∧ Z = c * pZ p
theorem chord_is (F : Fld P0 inv) {x1 y1 x2 y2 k : (Fin P0)} (h1 : y1 * y1 = x1 * x1 * x1 + 7) (h2 : y2 * y2 = x2 * x2 * x2 + 7) (hd : x2 - x1 ≠ 0) (hk : k * (x2 - x1) = y2 - y1) :
    fZ x1 y1 1 x2 y2 1 ≠ 0 ∧ Is (fZ x1 y1 1 x2 y2 1) (line k x1 y1 x2) (fX x1 y1 1 x2 y2 1) (fY x1 y1 1 x2 y2 1) (fZ x1 y1 1 x2 y2 1) := by
  constructor
  · -- the other point's counterpart
    have h2' : (0 - y2) * (0 - y2) = x2 * x2 * x2 + 7 := by rw [g11, h2]
    have hk' := chord_k F (y1 := y1) (y2 := 0 - y2) hd
    have hon := line_on h1 (chord_E F h1 h2' hd hk')
    generalize (0 - y2 - y1) * inv (x2 - x1) = k' at hk' hon
    have hy := F.tor _ _ hon
    have e : fZ x1 y1 1 x2 y2 1 = (x2 - x1) * ((x2 - x1) * ((x2 - x1) * (k' * (x1 - (k' * k' - x1 - x2)) - y1))) := by
      rw [gz h1 h2, ← hk']; exact g12 _ _ _ _ _
    rw [e]
    exact F.mul_ne hd (F.mul_ne hd (F.mul_ne hd hy))
  · have gx := gxx h1 h2
    have gy := gyy h1 h2
    generalize fX x1 y1 1 x2 y2 1 = A at *
    generalize fY x1 y1 1 x2 y2 1 = B at *
    generalize fZ x1 y1 1 x2 y2 1 = C at *
    have hd2 := F.mul_ne hd hd
    refine ⟨F.cancel hd2 ?_, F.cancel (F.mul_ne hd2 hd) ?_, ?_⟩
    · show (x2 - x1) * (x2 - x1) * A = (x2 - x1) * (x2 - x1) * (C * (k * k - x1 - x2))
      rw [gx, ← hk]; exact g13 _ _ _ _ _
    · show (x2 - x1) * (x2 - x1) * (x2 - x1) * B = (x2 - x1) * (x2 - x1) * (x2 - x1) * (C * (k * (x1 - (k * k - x1 - x2)) - y1))
      rw [gy, ← hk]; exact g14 _ _ _ _ _ _
    · show C = C * 1
      exact g17 _
theorem tan_is (F : Fld P0 inv) {x y k : (Fin P0)} (h1 : y * y = x * x * x + 7) (hk : k * (2 * y) = 3 * (x * x)) :
    fZ x y 1 x y 1 ≠ 0 ∧ Is (fZ x y 1 x y 1) (line k x y x) (fX x y 1 x y 1) (fY x y 1 x y 1) (fZ x y 1 x y 1) := by
  have hy := F.tor _ _ h1
  have h2 := F.mul_ne F.two hy
  have hz := gtz h1
  constructor
  · rw [hz]; exact F.mul_ne h2 (F.mul_ne h2 h2)
  · have gx := gtx h1
    have gy := gty h1
    refine ⟨?_, ?_, ?_⟩
    · show _ = fZ x y 1 x y 1 * (k * k - x - x)
      rw [gx, hz, ← hk]; exact g15 _ _ _
    · show _ = fZ x y 1 x y 1 * (k * (x - (k * k - x - x)) - y)
      rw [gy, hz, ← hk]; exact g16 _ _ _ _
    · show _ = fZ x y 1 x y 1 * 1
      exact g17 _
theorem same_pt (F : Fld P0 inv) {p q : Pt (Fin P0)} {c d X Y Z X' Y' Z' : (Fin P0)} (hc : c ≠ 0) (hd : d ≠ 0) (hp : Is c p X Y Z) (hq : Is d q X' Y' Z') (hx : X * Z' = Z * X') (hy : Y * Z' = Z * Y') : p = q := by
  obtain ⟨rfl, rfl, rfl⟩ := hp
  obtain ⟨rfl, rfl, rfl⟩ := hq
  have hcd := F.mul_ne hc hd
  match p, q, hx, hy with
  | .inf, .inf, _, _ => rfl
  | .inf, .aff x y, hx, hy =>
    simp only [pY, pZ] at hy
    exact absurd (g22 hy) hcd
  | .aff x y, .inf, hx, hy =>
    simp only [pY, pZ] at hy
    exact absurd (g23 hy) hcd
  | .aff x1 y1, .aff x2 y2, hx, hy =>
    simp only [pX, pY, pZ] at hx hy
    have e1 : x1 = x2 := F.cancel hcd (g21 hx)
    have e2 : y1 = y2 := F.cancel hcd (g21 hy)
    rw [e1, e2]
theorem f_left (c X Y Z X' Y' Z' : (Fin P0)) : fX (c * X) (c * Y) (c * Z) X' Y' Z' = c * c * fX X Y Z X' Y' Z' ∧ fY (c * X) (c * Y) (c * Z) X' Y' Z' = c * c * fY X Y Z X' Y' Z' ∧ fZ (c * X) (c * Y) (c * Z) X' Y' Z' = c * c * fZ X Y Z X' Y' Z' := by
  refine ⟨?_, ?_, ?_⟩
  · unfold fX; grind
  · unfold fY; grind
  · unfold fZ; grind
theorem f_right (c X Y Z X' Y' Z' : (Fin P0)) : fX X' Y' Z' (c * X) (c * Y) (c * Z) = c * c * fX X' Y' Z' X Y Z ∧ fY X' Y' Z' (c * X) (c * Y) (c * Z) = c * c * fY X' Y' Z' X Y Z ∧ fZ X' Y' Z' (c * X) (c * Y) (c * Z) = c * c * fZ X' Y' Z' X Y Z := by
  refine ⟨?_, ?_, ?_⟩
  · unfold fX; grind
  · unfold fY; grind
  · unfold fZ; grind
def addP (inv : (Fin P0) → (Fin P0)) : Pt (Fin P0) → Pt (Fin P0) → Pt (Fin P0)
  | .inf, q => q
  | .aff x y, .inf => .aff x y
  | .aff x1 y1, .aff x2 y2 =>
    if x1 = x2 then (if y1 + y2 = 0 then .inf else line (3 * (x1 * x1) * inv (2 * y1)) x1 y1 x1)
    else line ((y2 - y1) * inv (x2 - x1)) x1 y1 x2
theorem addP_aff (x1 y1 x2 y2 : (Fin P0)) : addP inv (.aff x1 y1) (.aff x2 y2) = if x1 = x2 then (if y1 + y2 = 0 then .inf else line (3 * (x1 * x1) * inv (2 * y1)) x1 y1 x1)
    else line ((y2 - y1) * inv (x2 - x1)) x1 y1 x2 := rfl
theorem add_on (F : Fld P0 inv) {p q : Pt (Fin P0)} (hp : On p) (hq : On q) : On (addP inv p q) := by
  match p, q, hp, hq with
  | .inf, q, _, hq => exact hq
  | .aff x y, .inf, hp, _ => exact hp
  | .aff x1 y1, .aff x2 y2, hp, hq =>
    rw [addP_aff]
    split
    · rename_i hx
      split
      · trivial
      · have hy : y1 ≠ 0 := F.tor _ _ hp
        exact line_on hp (tan_E (tan_k F (F.mul_ne F.two hy)))
    · rename_i hx
      have hd : x2 - x1 ≠ 0 := fun h => hx (g6 h).symm
      exact line_on hp (chord_E F hp hq hd (chord_k F hd))
theorem add_is (F : Fld P0 inv) {p q : Pt (Fin P0)} (hp : On p) (hq : On q) : ∃ c, c ≠ 0 ∧
    Is c (addP inv p q) (fX (pX p) (pY p) (pZ p) (pX q) (pY q) (pZ q)) (fY (pX p) (pY p) (pZ p) (pX q) (pY q) (pZ q)) (fZ (pX p) (pY p) (pZ p) (pX q) (pY q) (pZ q)) := by
  match p, q, hp, hq with
  | .inf, .inf, _, _ =>
    refine ⟨1, F.one, ?_, ?_, ?_⟩ <;> simp only [fX, fY, fZ, pX, pY, pZ, addP] <;> grind
  | .inf, .aff x y, _, hq =>
    refine ⟨y, F.tor _ _ hq, ?_, ?_, ?_⟩ <;> simp only [fX, fY, fZ, pX, pY, pZ, addP] <;> grind
  | .aff x y, .inf, hp, _ =>
    refine ⟨y, F.tor _ _ hp, ?_, ?_, ?_⟩ <;> simp only [fX, fY, fZ, pX, pY, pZ, addP] <;> grind
  | .aff x1 y1, .aff x2 y2, hp, hq =>
    rw [addP_aff]
    split
    · rename_i hx
      subst hx
      split
      · rename_i hy
        have e : y2 = 0 - y1 := g18 hy
        subst e
        have hy1 := F.tor _ _ hp
        have hk := tan_k F (x := x1) (F.mul_ne F.two hy1)
        have hon := line_on hp (tan_E hk)
        generalize 3 * (x1 * x1) * inv (2 * y1) = k at hk hon
        have hy3 := F.tor _ _ hon
        have h2 := F.mul_ne F.two hy1
        have e : fY x1 y1 1 x1 (0 - y1) 1 = (2 * y1) * ((2 * y1) * ((2 * y1) * (k * (x1 - (k * k - x1 - x1)) - y1))) := by
          rw [goy hp, ← hk]; exact g12 _ _ _ _ _
        refine ⟨fY x1 y1 1 x1 (0 - y1) 1, by rw [e]; exact F.mul_ne h2 (F.mul_ne h2 (F.mul_ne h2 hy3)), ?_, ?_, ?_⟩
        · show fX x1 y1 1 x1 (0 - y1) 1 = _ * 0
          rw [gox, g27]
        · show _ = fY x1 y1 1 x1 (0 - y1) 1 * 1
          exact g17 _
        · show fZ x1 y1 1 x1 (0 - y1) 1 = _ * 0
          rw [goz, g27]
      · rename_i hy
        have e : y1 = y2 := (sq_eq F hp hq).resolve_left hy
        subst e
        have hy1 := F.tor _ _ hp
        exact ⟨_, tan_is F hp (tan_k F (F.mul_ne F.two hy1))⟩
    · rename_i hx
      have hd : x2 - x1 ≠ 0 := fun h => hx (g6 h).symm
      exact ⟨_, chord_is F hp hq hd (chord_k F hd)⟩
theorem add_comm (F : Fld P0 inv) {p q : Pt (Fin P0)} (hp : On p) (hq : On q) : addP inv p q = addP inv q p := by
  obtain ⟨c, hc, h1⟩ := add_is F hp hq
  obtain ⟨d, hd, h2⟩ := add_is F hq hp
  refine same_pt F hc hd h1 h2 ?_ ?_
  · have a : ∀ X1 Y1 Z1 X2 Y2 Z2 : (Fin P0), fX X1 Y1 Z1 X2 Y2 Z2 = fX X2 Y2 Z2 X1 Y1 Z1 := by intros; unfold fX; grind
    have b : ∀ X1 Y1 Z1 X2 Y2 Z2 : (Fin P0), fZ X1 Y1 Z1 X2 Y2 Z2 = fZ X2 Y2 Z2 X1 Y1 Z1 := by intros; unfold fZ; grind
    rw [a (pX p), b (pX p)]; exact g30 _ _
  · have a : ∀ X1 Y1 Z1 X2 Y2 Z2 : (Fin P0), fY X1 Y1 Z1 X2 Y2 Z2 = fY X2 Y2 Z2 X1 Y1 Z1 := by intros; unfold fY; grind
    have b : ∀ X1 Y1 Z1 X2 Y2 Z2 : (Fin P0), fZ X1 Y1 Z1 X2 Y2 Z2 = fZ X2 Y2 Z2 X1 Y1 Z1 := by intros; unfold fZ; grind
    rw [a (pX p), b (pX p)]; exact g30 _ _
theorem add_inf (p : Pt (Fin P0)) : addP inv p .inf = p := by cases p <;> rfl
theorem add_assoc (F : Fld P0 inv) {p q r : Pt (Fin P0)} (hp : On p) (hq : On q) (hr : On r) : addP inv (addP inv p q) r = addP inv p (addP inv q r) := by
  match p, q, r, hp, hq, hr with
  | .inf, q, r, _, _, _ => rfl
  | .aff x1 y1, .inf, r, _, _, _ => rfl
  | .aff x1 y1, .aff x2 y2, .inf, _, _, _ => rw [add_inf, add_inf]
  | .aff x1 y1, .aff x2 y2, .aff x3 y3, hp, hq, hr =>
    obtain ⟨c1, n1, a1, a2, a3⟩ := add_is F hp hq
    obtain ⟨c2, n2, b1, b2, b3⟩ := add_is F (add_on F hp hq) hr
    obtain ⟨c3, n3, d1, d2, d3⟩ := add_is F hq hr
    obtain ⟨c4, n4, g1, g2, g3⟩ := add_is F hp (add_on F hq hr)
    replace a1 : fX x1 y1 1 x2 y2 1 = _ := a1
    replace a2 : fY x1 y1 1 x2 y2 1 = _ := a2
    replace a3 : fZ x1 y1 1 x2 y2 1 = _ := a3
    replace d1 : fX x2 y2 1 x3 y3 1 = _ := d1
    replace d2 : fY x2 y2 1 x3 y3 1 = _ := d2
    replace d3 : fZ x2 y2 1 x3 y3 1 = _ := d3
    have hX := assocX hp hq hr
    have hY := assocY hp hq hr
    rw [a1, a2, a3, d1, d2, d3] at hX hY
    obtain ⟨l1, l2, l3⟩ := f_left c1 (pX (addP inv (.aff x1 y1) (.aff x2 y2))) (pY (addP inv (.aff x1 y1) (.aff x2 y2))) (pZ (addP inv (.aff x1 y1) (.aff x2 y2))) x3 y3 1
    obtain ⟨r1, r2, r3⟩ := f_right c3 (pX (addP inv (.aff x2 y2) (.aff x3 y3))) (pY (addP inv (.aff x2 y2) (.aff x3 y3))) (pZ (addP inv (.aff x2 y2) (.aff x3 y3))) x1 y1 1
    rw [l1, l3, r1, r3] at hX
    rw [l2, l3, r2, r3] at hY
    have k1 : c1 * c1 * c2 ≠ 0 := F.mul_ne (F.mul_ne n1 n1) n2
    have k2 : c3 * c3 * c4 ≠ 0 := F.mul_ne (F.mul_ne n3 n3) n4
    refine same_pt F k1 k2 (X := c1 * c1 * fX (pX (addP inv (.aff x1 y1) (.aff x2 y2))) (pY (addP inv (.aff x1 y1) (.aff x2 y2))) (pZ (addP inv (.aff x1 y1) (.aff x2 y2))) x3 y3 1) (Y := c1 * c1 * fY (pX (addP inv (.aff x1 y1) (.aff x2 y2))) (pY (addP inv (.aff x1 y1) (.aff x2 y2))) (pZ (addP inv (.aff x1 y1) (.aff x2 y2))) x3 y3 1) (Z := c1 * c1 * fZ (pX (addP inv (.aff x1 y1) (.aff x2 y2))) (pY (addP inv (.aff x1 y1) (.aff x2 y2))) (pZ (addP inv (.aff x1 y1) (.aff x2 y2))) x3 y3 1)
      (X' := c3 * c3 * fX x1 y1 1 (pX (addP inv (.aff x2 y2) (.aff x3 y3))) (pY (addP inv (.aff x2 y2) (.aff x3 y3))) (pZ (addP inv (.aff x2 y2) (.aff x3 y3)))) (Y' := c3 * c3 * fY x1 y1 1 (pX (addP inv (.aff x2 y2) (.aff x3 y3))) (pY (addP inv (.aff x2 y2) (.aff x3 y3))) (pZ (addP inv (.aff x2 y2) (.aff x3 y3)))) (Z' := c3 * c3 * fZ x1 y1 1 (pX (addP inv (.aff x2 y2) (.aff x3 y3))) (pY (addP inv (.aff x2 y2) (.aff x3 y3))) (pZ (addP inv (.aff x2 y2) (.aff x3 y3)))) ?_ ?_ hX hY
    · refine ⟨?_, ?_, ?_⟩
      · rw [show fX (pX (addP inv (.aff x1 y1) (.aff x2 y2))) (pY (addP inv (.aff x1 y1) (.aff x2 y2))) (pZ (addP inv (.aff x1 y1) (.aff x2 y2))) x3 y3 1 = _ from b1]; exact g19 _ _ _
      · rw [show fY (pX (addP inv (.aff x1 y1) (.aff x2 y2))) (pY (addP inv (.aff x1 y1) (.aff x2 y2))) (pZ (addP inv (.aff x1 y1) (.aff x2 y2))) x3 y3 1 = _ from b2]; exact g19 _ _ _
      · rw [show fZ (pX (addP inv (.aff x1 y1) (.aff x2 y2))) (pY (addP inv (.aff x1 y1) (.aff x2 y2))) (pZ (addP inv (.aff x1 y1) (.aff x2 y2))) x3 y3 1 = _ from b3]; exact g19 _ _ _
    · refine ⟨?_, ?_, ?_⟩
      · rw [show fX x1 y1 1 (pX (addP inv (.aff x2 y2) (.aff x3 y3))) (pY (addP inv (.aff x2 y2) (.aff x3 y3))) (pZ (addP inv (.aff x2 y2) (.aff x3 y3))) = _ from g1]; exact g19 _ _ _
      · rw [show fY x1 y1 1 (pX (addP inv (.aff x2 y2) (.aff x3 y3))) (pY (addP inv (.aff x2 y2) (.aff x3 y3))) (pZ (addP inv (.aff x2 y2) (.aff x3 y3))) = _ from g2]; exact g19 _ _ _
      · rw [show fZ x1 y1 1 (pX (addP inv (.aff x2 y2) (.aff x3 y3))) (pY (addP inv (.aff x2 y2) (.aff x3 y3))) (pZ (addP inv (.aff x2 y2) (.aff x3 y3))) = _ from g3]; exact g19 _ _ _
end
end Go.W

namespace Go.W
instance neP : NeZero pP := ⟨by decide⟩
abbrev Kp := Fin pP
def zP (X : Nat) : Kp := Fin.ofNat pP X
theorem prime_pos : 0 < pP ∧ 1 < pP := by decide
theorem fermat {A : Nat} (h : A % pP ≠ 0) : A ^ (pP - 1) % pP = 1 := by
  have := genP.inv h
  rw [show pP - 1 = (pP - 2) + 1 from by have := prime_pos; omega, Nat.pow_succ, Nat.mul_comm]
  exact this
abbrev N3 := Nat × Nat × Nat
end Go.W

namespace Go.W
section
variable {P0 : Nat} [NeZero P0]
theorem j1 (x b : (Fin P0)) : (x + b) * (x + b) - x * x - b * b = 2 * (x * b) := by grind
theorem j2 (k a b z : (Fin P0)) : (k * (2 * b) * (z * z * (z * z))) * (k * (2 * b) * (z * z * (z * z))) - (4 * (a * (z * z) * (b * (z * z * z) * (b * (z * z * z)))) + 4 * (a * (z * z) * (b * (z * z * z) * (b * (z * z * z))))) =
    (k * k - a - a) * ((b * (z * z * z) * z + b * (z * z * z) * z) * (b * (z * z * z) * z + b * (z * z * z) * z)) := by grind
theorem j3 (a z : (Fin P0)) : a * (z * z) * (a * (z * z)) + a * (z * z) * (a * (z * z)) + a * (z * z) * (a * (z * z)) = 3 * (a * a) * (z * z * (z * z)) := by grind
end
def Jr {P0 : Nat} [NeZero P0] (p : Pt (Fin P0)) (x y z : (Fin P0)) : Prop := (z = 0 ∧ p = .inf) ∨ (z ≠ 0 ∧ ∃ a b, p = .aff a b ∧ x = a * (z * z) ∧ y = b * (z * z * z))
section
variable {P0 : Nat} [NeZero P0] {inv : Fin P0 → Fin P0}
end
section
variable {P0 : Nat} [NeZero P0] {inv : Fin P0 → Fin P0}
def twX (x y : (Fin P0)) : (Fin P0) := (x * x + x * x + x * x) * (x * x + x * x + x * x) - (((x + y * y) * (x + y * y) - x * x - y * y * (y * y) + ((x + y * y) * (x + y * y) - x * x - y * y * (y * y))) + ((x + y * y) * (x + y * y) - x * x - y * y * (y * y) + ((x + y * y) * (x + y * y) - x * x - y * y * (y * y))))
def twY (x y : (Fin P0)) : (Fin P0) := (x * x + x * x + x * x) * (((x + y * y) * (x + y * y) - x * x - y * y * (y * y) + ((x + y * y) * (x + y * y) - x * x - y * y * (y * y))) - twX x y) -
  (y * y * (y * y) + y * y * (y * y) + (y * y * (y * y) + y * y * (y * y)) + (y * y * (y * y) + y * y * (y * y) + (y * y * (y * y) + y * y * (y * y))))
def twZ (y z : (Fin P0)) : (Fin P0) := y * z + y * z
def plU (x1 z2 : (Fin P0)) : (Fin P0) := x1 * (z2 * z2)
def plS (y1 z2 : (Fin P0)) : (Fin P0) := y1 * (z2 * z2 * z2)
def plX (u h r : (Fin P0)) : (Fin P0) := r * r - h * h * h - (u * (h * h) + u * (h * h))
end
end Go.W

namespace Go.W
def mp (a b : Nat) : Nat := fmulN 0 a b
def ap (a b : Nat) : Nat := faddN 0 a b
def sp (a b : Nat) : Nat := fsubN 0 a b
structure J3 (p : Pt Kp) (t : N3) : Prop where
  jr : Jr p (zP t.1) (zP t.2.1) (zP t.2.2)
  x : t.1 < pP
  y : t.2.1 < pP
  z : t.2.2 < pP
end Go.W

namespace Go.W
def mv (a b : Value) : Value := num (mp (unnum a) (unnum b))
def av (a b : Value) : Value := num (ap (unnum a) (unnum b))
def sv (a b : Value) : Value := num (sp (unnum a) (unnum b))
section
variable {α : Type}
def m2 (a b : Value) (k : Value → Option α) : Option α := r2 a b (k (mv a b))
def a2 (a b : Value) (k : Value → Option α) : Option α := r2 a b (k (av a b))
def s2 (a b : Value) (k : Value → Option α) : Option α := r2 a b (k (sv a b))
end
end Go.W

namespace Go.W
noncomputable def hide {α : Type} (a : α) : α := Classical.choose (⟨a, rfl⟩ : ∃ x : α, x = a)
theorem hide_eq {α : Type} (a : α) : hide a = a := Classical.choose_spec (⟨a, rfl⟩ : ∃ x : α, x = a)
end Go.W
