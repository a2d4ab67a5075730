/-
  The engine, part 10: the evaluator of a body, and that the body does what it says.
-/
import Derived.Test.YtdhbnidobpkkfaaW9
import Derived.LoopN
import Derived.Scope
namespace Go.W
open Go.RowKit (Below)

structure St where
  slots : List (Nat × Value)
  mem : List (Nat × Blk)
  next : Nat

def St.f (s : St) : FS := ⟨look s.slots, look s.mem⟩

def memL (mem : List (Nat × Blk)) (id : Nat) (new : Option Blk) (wr : Option (Nat × Blk)) : List (Nat × Blk) :=
  match wr with
  | some p => p :: (match new with
    | some b => (id, b) :: mem
    | none => mem)
  | none => (match new with
    | some b => (id, b) :: mem
    | none => mem)

theorem look_memL (mem : List (Nat × Blk)) (id : Nat) (new : Option Blk) (wr : Option (Nat × Blk)) : look (memL mem id new wr) = memF (look mem) id new wr := by
  cases new <;> cases wr <;> rfl

def slotL (slots : List (Nat × Value)) (d : Option Nat) (v : Value) : List (Nat × Value) :=
  match d with
  | some t => (t, v) :: slots
  | none => slots

def St.app (s : St) (dst : Option Nat) (id : Nat) (r : Res) : St := ⟨slotL s.slots dst r.val, memL s.mem id r.new r.wr, s.next⟩

theorem St.app_f (s : St) (dst : Option Nat) (id : Nat) (r : Res) : (s.app dst id r).f = s.f.apply dst id r := by
  unfold St.app St.f FS.apply
  congr 1
  · cases dst <;> rfl
  · exact look_memL _ _ _ _

def St.ref (s : St) (t : Nat) (b : Bool) : St := ⟨(t, .bool b) :: s.slots, s.mem, s.next⟩

theorem St.ref_f {s : St} {t : Nat} {b : Bool} (h : look s.slots t = some (.bool b)) : (s.ref t b).f = s.f := by
  unfold St.ref St.f
  simp only [look_cons, upd_idem _ h]

structure Cfg where
  T : Tab
  G : Sums
  n : Nat
  L : List (List Nat × (St → List (Bool × Exit × St)))

section
variable {R : Type}

/-- A test of what stands in a slot: what comes of it is known from there on. -/
def tstK (s : St) (t : Nat) (yes no : St → R) (f : R) : R :=
  oK (look s.slots t) (fun v => boolK v (fun b => bif b then yes (s.ref t true) else no (s.ref t false)) f) f

def grdK (ops : Array Oper) (o : Oper) (s : St) (yes no : St → R) (f : R) : R :=
  match o.guard with
  | none => yes s
  | some g => oK (gslot ops o) (fun t => oK (look s.slots t) (fun v => bif isTup v then no s else bif g.2 then tstK s t yes no f else tstK s t no yes f) f) f

def dstLt (n : Nat) (d : Option Nat) : Bool :=
  match d with
  | some t => Nat.blt t n
  | none => true

def rgK (C : Cfg) (ops : Array Oper) (base : Nat) : List Oper → Nat → St → List Rec → (St → List Rec → R) → R → R
  | [], _, s, acc, k, _ => k s acc
  | o :: rest, i, s, acc, k, f =>
    bif dstLt C.n o.dst then
      grdK ops o s
        (fun s => opK C.T C.G (base + i) o.op (evF (look s.slots)) (look s.mem) (fun r => rgK C ops base rest (i + 1) (s.app o.dst (base + i) r) (acc ++ [⟨o, base + i, r⟩]) k f) f)
        (fun s => rgK C ops base rest (i + 1) (s.app o.dst (base + i) (val undef)) (acc ++ [⟨o, base + i, val undef⟩]) k f) f
    else f

def St.bump (s : St) (m : Nat) : St := ⟨s.slots, s.mem, m⟩

def regK (C : Cfg) (ops : Array Oper) (draw : Bool) (s : St) (k : St → R) (f : R) : R :=
  rgK C ops s.next ops.toList 0 s [] (fun s' acc => bif !draw || drawOk ops acc then k (s'.bump (s.next + ops.toList.length)) else f) f

def nlEq : List Nat → List Nat → Bool
  | [], [] => true
  | a :: l, b :: m => Nat.beq a b && nlEq l m
  | _, _ => false

theorem nlEq_iff : ∀ {l m : List Nat}, nlEq l m = true → l = m
  | [], [], _ => rfl
  | a :: l, b :: m, h => by
    simp only [nlEq, Bool.and_eq_true] at h
    rw [nbeq.1 h.1, nlEq_iff h.2]
  | [], _ :: _, h => by simp [nlEq] at h
  | _ :: _, [], h => by simp [nlEq] at h

def lookP {α : Type} : List (List Nat × α) → List Nat → Option α
  | [], _ => none
  | p :: r, t => bif nlEq p.1 t then some p.2 else lookP r t

def altK : List (Bool × Exit × St) → (Exit → St → R) → R → R
  | [], _, f => f
  | p :: r, k, f => bif p.1 then k p.2.1 p.2.2 else altK r k f

def thenK (e : Exit) (s : St) (nxt : St → R) (k : Exit → St → R) : R :=
  match e with
  | .normal => nxt s
  | e => k e s

def blockK (id : Nat) (e : Exit) (s : St) (k : Exit → St → R) : R :=
  match e with
  | .exit j => bif Nat.beq j id then k .normal s else k (.exit j) s
  | e => k e s

def scopeK (e : Exit) (s : St) (k : Exit → St → R) (f : R) : R :=
  match e with
  | .goto _ => f
  | e => k e s

def condK (s : St) (c : Operand) (yes no : St → R) (f : R) : R :=
  match c with
  | .tmp t => tstK s t yes no f
  | .const (.bool b) => bif b then yes s else no s
  | _ => f

def evK (C : Cfg) : Nat → List Nat → Code → St → (Exit → St → R) → R → R
  | 0, _, _, _, _, f => f
  | m + 1, p, c, s, k, f =>
    match c with
    | .skip => k .normal s
    | .label _ => k .normal s
    | .region _ ops draw => regK C ops draw s (fun s' => k .normal s') f
    | .seq x y => evK C m (p ++ [0]) x s (fun e s' => thenK e s' (fun s' => evK C m (p ++ [1]) y s' k f) k) f
    | .cond c x y => condK s c (fun s => evK C m (p ++ [0]) x s k f) (fun s => evK C m (p ++ [1]) y s k f) f
    | .block id x => evK C m (p ++ [0]) x s (fun e s' => blockK id e s' k) f
    | .loop x => oK (lookP C.L p) (fun F => altK (F s) k f) (evK C m (p ++ [0]) x s (fun e s' => thenK e s' (fun s' => evK C m p (.loop x) s' k f) k) f)
    | .exit id => k (.exit id) s
    | .scope x => evK C m (p ++ [0]) x s (fun e s' => scopeK e s' k f) f
    | .ret => k .ret s
    | _ => f

variable {R' : Type} (h : R → R')

theorem tstK_nat (s : St) (t : Nat) (yes no : St → R) (f : R) : h (tstK s t yes no f) = tstK s t (fun s => h (yes s)) (fun s => h (no s)) (h f) := by
  simp only [tstK, oK_nat h, boolK_nat h, cond_nat h]

theorem grdK_nat (ops : Array Oper) (o : Oper) (s : St) (yes no : St → R) (f : R) : h (grdK ops o s yes no f) = grdK ops o s (fun s => h (yes s)) (fun s => h (no s)) (h f) := by
  unfold grdK; split <;> simp only [oK_nat h, cond_nat h, tstK_nat h]

theorem rgK_nat (C : Cfg) (ops : Array Oper) (base : Nat) : ∀ (l : List Oper) (i : Nat) (s : St) (acc : List Rec) (k : St → List Rec → R) (f : R),
    h (rgK C ops base l i s acc k f) = rgK C ops base l i s acc (fun s a => h (k s a)) (h f)
  | [], _, _, _, _, _ => rfl
  | o :: rest, i, s, acc, k, f => by
    simp only [rgK, cond_nat h, grdK_nat h, opK_nat h, rgK_nat C ops base rest]

theorem regK_nat (C : Cfg) (ops : Array Oper) (draw : Bool) (s : St) (k : St → R) (f : R) : h (regK C ops draw s k f) = regK C ops draw s (fun s => h (k s)) (h f) := by
  simp only [regK, rgK_nat h, cond_nat h]

theorem altK_nat : ∀ (l : List (Bool × Exit × St)) (k : Exit → St → R) (f : R), h (altK l k f) = altK l (fun e s => h (k e s)) (h f)
  | [], _, _ => rfl
  | p :: r, k, f => by simp only [altK, cond_nat h, altK_nat r]

theorem thenK_nat (e : Exit) (s : St) (nxt : St → R) (k : Exit → St → R) : h (thenK e s nxt k) = thenK e s (fun s => h (nxt s)) (fun e s => h (k e s)) := by
  cases e <;> rfl

theorem blockK_nat (id : Nat) (e : Exit) (s : St) (k : Exit → St → R) : h (blockK id e s k) = blockK id e s (fun e s => h (k e s)) := by
  cases e <;> simp only [blockK, cond_nat h]

theorem scopeK_nat (e : Exit) (s : St) (k : Exit → St → R) (f : R) : h (scopeK e s k f) = scopeK e s (fun e s => h (k e s)) (h f) := by
  cases e <;> rfl

theorem condK_nat (s : St) (c : Operand) (yes no : St → R) (f : R) : h (condK s c yes no f) = condK s c (fun s => h (yes s)) (fun s => h (no s)) (h f) := by
  unfold condK; split <;> simp only [tstK_nat h, cond_nat h]

theorem evK_nat (C : Cfg) : ∀ (m : Nat) (p : List Nat) (c : Code) (s : St) (k : Exit → St → R) (f : R), h (evK C m p c s k f) = evK C m p c s (fun e s => h (k e s)) (h f)
  | 0, _, _, _, _, _ => rfl
  | m + 1, p, c, s, k, f => by
    cases c <;> simp only [evK] <;> first | rfl | simp only [regK_nat h, evK_nat C m, thenK_nat h, condK_nat h, blockK_nat h, scopeK_nat h, oK_nat h, altK_nat h]

end

def evS (C : Cfg) (m : Nat) (p : List Nat) (c : Code) (s : St) : Option (Exit × St) := evK C m p c s (fun e s => some (e, s)) none

theorem evK_eq {R : Type} (C : Cfg) (m : Nat) (p : List Nat) (c : Code) (s : St) (k : Exit → St → R) (f : R) : evK C m p c s k f = oK (evS C m p c s) (fun q => k q.1 q.2) f :=
  (evK_nat (fun o : Option (Exit × St) => oK o (fun q => k q.1 q.2) f) C m p c s (fun e s => some (e, s)) none).symm

def codeAt : List Nat → Code → Option Code
  | [], c => some c
  | i :: p, c =>
    match c with
    | .seq a b => codeAt p (bif Nat.beq i 0 then a else b)
    | .cond _ a b => codeAt p (bif Nat.beq i 0 then a else b)
    | .block _ b => codeAt p b
    | .loop b => codeAt p b
    | .scope b => codeAt p b
    | _ => none

theorem codeAt_app (i : Nat) : ∀ (p : List Nat) (c : Code), codeAt (p ++ [i]) c = (codeAt p c).bind (codeAt [i])
  | [], c => by cases c <;> simp [codeAt]
  | j :: p, c => by cases c <;> simp [codeAt, codeAt_app i p]

def loopAt (p : List Nat) (c : Code) : Code :=
  match codeAt p c with
  | some (.loop b) => b
  | _ => .skip

def pickL : List (Bool × Exit × St) → Option (Exit × St)
  | [] => none
  | p :: r => bif p.1 then some p.2 else pickL r

theorem altK_eq {R : Type} (l : List (Bool × Exit × St)) (k : Exit → St → R) (f : R) : altK l k f = oK (pickL l) (fun q => k q.1 q.2) f := by
  induction l with
  | nil => rfl
  | cons p r ih => simp only [altK, pickL, ih]; cases p.1 <;> rfl

/-- What a loop comes to, if it is told. -/
def LoopOk (P : Program) (n : Nat) (body : Code) (F : St → List (Bool × Exit × St)) : Prop :=
  ∀ w0 R s a w, Rel w0 n R s.f a w → ∀ e s', pickL (F s) = some (e, s') → (Code.loop body).wp P (fun e' a' w' => e' = e ∧ ∃ R', Rel w0 n R' s'.f a' w') a w

structure CfgOk (P : Program) (C : Cfg) (code : Code) : Prop where
  mixed : P.follows .mixedOrders = true
  T : TabOk P C.T
  G : SumsOk P C.G
  L : ∀ p F, lookP C.L p = some F → LoopOk P C.n (loopAt p code) F

section
variable {P : Program} {C : Cfg} {code : Code} {w0 : World}

theorem tst_some {β : Type} {s : St} {t : Nat} {yes no : St → Option β} {r : β} (h : tstK s t yes no none = some r) :
    (look s.slots t = some (.bool true) ∧ yes (s.ref t true) = some r) ∨ (look s.slots t = some (.bool false) ∧ no (s.ref t false) = some r) := by
  simp only [tstK, oK_some, boolK_some] at h
  obtain ⟨v, hv, b, rfl, h⟩ := h
  cases b
  · exact .inr ⟨hv, h⟩
  · exact .inl ⟨hv, h⟩

/-- A region's run, in the order of the text, with what each operation came to. -/
theorem rg_run {ops : Array Oper} {base : Nat} : ∀ (l : List Oper) (i : Nat) (s : St) (acc : List Rec) {s' : St} {acc' : List Rec},
    rgK C ops base l i s acc (fun s a => some (s, a)) none = some (s', acc') →
      ∃ recs, acc' = acc ++ recs ∧ recs.map (·.o) = l ∧ (∀ c ∈ recs, ∀ t, c.o.dst = some t → t < C.n) ∧ RunL C.T C.G ops recs s.f s'.f
  | [], _, s, acc, s', acc', h => by
    simp only [rgK, Option.some.injEq, Prod.mk.injEq] at h
    obtain ⟨rfl, rfl⟩ := h
    exact ⟨[], by simp, rfl, by simp, rfl⟩
  | o :: rest, i, s, acc, s', acc', h => by
    simp only [rgK, cond_some] at h
    obtain ⟨hd, h⟩ := h
    have hdst : ∀ t, o.dst = some t → t < C.n := by
      intro t ht
      simp only [dstLt, ht, Nat.blt_eq] at hd
      exact hd
    -- what is common to the ways
    have go : ∀ (s0 : St) (r : Res), s0.f = s.f → stepF C.T C.G ops (base + i) o s.f = some r →
        rgK C ops base rest (i + 1) (s0.app o.dst (base + i) r) (acc ++ [⟨o, base + i, r⟩]) (fun s a => some (s, a)) none = some (s', acc') →
        ∃ recs, acc' = acc ++ recs ∧ recs.map (·.o) = o :: rest ∧ (∀ c ∈ recs, ∀ t, c.o.dst = some t → t < C.n) ∧ RunL C.T C.G ops recs s.f s'.f := by
      intro s0 r hs hstep hrest
      obtain ⟨recs, h1, h2, h3, h4⟩ := rg_run rest (i + 1) _ _ hrest
      refine ⟨⟨o, base + i, r⟩ :: recs, by rw [h1]; simp, by simp [h2], ?_, hstep, ?_⟩
      · intro c hc
        rcases List.mem_cons.1 hc with rfl | hc
        · exact hdst
        · exact h3 c hc
      · rw [St.app_f, hs] at h4; exact h4
    have goOp : ∀ (s0 : St), s0.f = s.f → (∀ r, opS C.T C.G (base + i) o.op (evF s.f.fs) s.f.fm = some r → stepF C.T C.G ops (base + i) o s.f = some r) →
        opK C.T C.G (base + i) o.op (evF (look s0.slots)) (look s0.mem) (fun r => rgK C ops base rest (i + 1) (s0.app o.dst (base + i) r) (acc ++ [⟨o, base + i, r⟩]) (fun s a => some (s, a)) none) none = some (s', acc') →
        ∃ recs, acc' = acc ++ recs ∧ recs.map (·.o) = o :: rest ∧ (∀ c ∈ recs, ∀ t, c.o.dst = some t → t < C.n) ∧ RunL C.T C.G ops recs s.f s'.f := by
      intro s0 hs hst hop
      rw [opK_eq, oK_some] at hop
      obtain ⟨r, hr, hop⟩ := hop
      have e1 : look s0.slots = s.f.fs := congrArg FS.fs hs
      have e2 : look s0.mem = s.f.fm := congrArg FS.fm hs
      rw [e1, e2] at hr
      exact go s0 r hs (hst r hr) hop
    unfold grdK at h
    split at h
    · rename_i hg
      exact goOp s rfl (fun r hr => by simp only [stepF, hg]; exact hr) h
    · rename_i g hg
      simp only [oK_some] at h
      obtain ⟨t, ht, v0, hv0, h⟩ := h
      cases hu : isTup v0 with
      | true =>
        simp only [hu, cond_true] at h
        refine go s _ rfl ?_ h
        simp only [stepF, hg, ht, oK]
        have : s.f.fs t = some v0 := hv0
        simp only [this, hu, cond_true]
      | false =>
      simp only [hu, cond_false] at h
      have hstep : ∀ (b : Bool) (r : Res), look s.slots t = some (.bool b) → (bif b == g.2 then opS C.T C.G (base + i) o.op (evF s.f.fs) s.f.fm else some (val undef)) = some r → stepF C.T C.G ops (base + i) o s.f = some r := by
        intro b r hb hr
        simp only [stepF, hg, ht, oK]
        have : s.f.fs t = some (.bool b) := hb
        simp only [this, boolK, isTup, cond_false]
        exact hr
      cases hg2 : g.2 with
      | true =>
        simp only [hg2, cond_true] at h
        rcases tst_some h with ⟨hb, h⟩ | ⟨hb, h⟩
        · exact goOp _ (St.ref_f hb) (fun r hr => hstep true r hb (by simp [hg2, hr])) h
        · exact go _ _ (St.ref_f hb) (hstep false _ hb (by simp [hg2])) h
      | false =>
        simp only [hg2, cond_false] at h
        rcases tst_some h with ⟨hb, h⟩ | ⟨hb, h⟩
        · exact go _ _ (St.ref_f hb) (hstep true _ hb (by simp [hg2])) h
        · exact goOp _ (St.ref_f hb) (fun r hr => hstep false r hb (by simp [hg2, hr])) h

theorem zip_fst {α : Type} : ∀ (recs : List α) (i : Nat), (recs.zipIdx i).map (·.2) = List.range' i recs.length
  | [], _ => rfl
  | c :: r, i => by simp [List.range'_succ, zip_fst r (i + 1)]

def pairUp (recs : List Rec) : List (Nat × Rec) := recs.zipIdx.map fun q => (q.2, q.1)

theorem pairUp_fst (recs : List Rec) : (pairUp recs).map (·.1) = List.range recs.length := by
  unfold pairUp
  rw [List.map_map, List.range_eq_range', ← zip_fst recs 0]
  rfl

theorem pairUp_snd (recs : List Rec) : (pairUp recs).map (·.2) = recs := by
  unfold pairUp
  rw [List.map_map]
  have : ((fun x : Nat × Rec => x.2) ∘ fun q : Rec × Nat => (q.2, q.1)) = Prod.fst := rfl
  rw [this, List.zipIdx_map_fst]

theorem pairUp_mem {recs : List Rec} {c : Nat × Rec} (h : c ∈ pairUp recs) : recs[c.1]? = some c.2 := by
  unfold pairUp at h
  obtain ⟨q, hq, rfl⟩ := List.mem_map.1 h
  exact List.mem_zipIdx_iff_getElem?.1 hq

theorem pairUp_of {recs : List Rec} {j : Nat} (h : j < recs.length) : ∃ c ∈ pairUp recs, c.1 = j := by
  have : j ∈ (pairUp recs).map (·.1) := by rw [pairUp_fst]; exact List.mem_range.2 h
  obtain ⟨c, hc, rfl⟩ := List.mem_map.1 this
  exact ⟨c, hc, rfl⟩

theorem reg_sound (hC : CfgOk P C code) {ops : Array Oper} {draw : Bool} {rid : Nat} {s s' : St} (h : regK C ops draw s some none = some s') {R : Nat → Nat → Prop} {a : Act} {w : World} (hrel : Rel w0 C.n R s.f a w) :
    (Code.region rid ops draw).wp P (fun e a' w' => e = .normal ∧ ∃ R', Rel w0 C.n R' s'.f a' w') a w := by
  unfold regK at h
  have hnat := rgK_nat (fun o : Option (St × List Rec) => oK o (fun q => bif !draw || drawOk ops q.2 then some (q.1.bump (s.next + ops.toList.length)) else none) none) C ops s.next ops.toList 0 s [] (fun s a => some (s, a)) none
  simp only [oK] at hnat
  rw [← hnat] at h
  cases hrun : rgK C ops s.next ops.toList 0 s [] (fun s a => some (s, a)) none with
  | none => rw [hrun] at h; simp at h
  | some q =>
    obtain ⟨s1, acc⟩ := q
    rw [hrun] at h
    simp only [cond_some] at h
    obtain ⟨hok, h⟩ := h
    have h := Option.some.inj h
    have hf : s'.f = s1.f := by rw [← h]; rfl
    obtain ⟨recs, h1, h2, h3, h4⟩ := rg_run _ _ _ _ hrun
    simp only [List.nil_append] at h1
    subst h1
    have hlen : acc.length = ops.size := by rw [← Array.length_toList, ← h2, List.length_map]
    have hI : ∀ c ∈ pairUp acc, ops[c.1]? = some c.2.o ∧ ∀ t, c.2.o.dst = some t → t < C.n := by
      intro c hc
      have hc' := pairUp_mem hc
      refine ⟨?_, h3 c.2 (List.mem_of_getElem? hc')⟩
      rw [← Array.getElem?_toList, ← h2, List.getElem?_map, hc']
      rfl
    have hQ : ∀ R a w, Rel w0 C.n R s1.f a w → (fun e a' w' => e = Exit.normal ∧ ∃ R', Rel w0 C.n R' s'.f a' w') Exit.normal a w := by
      intro R a w hr; exact ⟨rfl, R, by rw [hf]; exact hr⟩
    cases draw with
    | false =>
      refine wp_region ?_
      have := text_sound (Q := fun e a' w' => e = Exit.normal ∧ ∃ R', Rel w0 C.n R' s'.f a' w') hC.T hC.G (pairUp acc) (by rw [pairUp_snd]; exact h4) hrel hI hQ
      rw [pairUp_fst, hlen] at this
      exact this
    | true =>
      simp only [Bool.not_true, Bool.false_or] at hok
      refine wp_region_any hC.mixed ?_
      have hrel' : Rel w0 C.n R s.f a { w with drawn := w.drawn + 1 } := hrel.world ⟨rfl, rfl, rfl, Nat.le_refl _, fun _ _ => rfl⟩
      refine any_sound hC.T hC.G hok ops.size (pairUp acc) _ (by rw [← List.length_map (f := (·.1)), pairUp_fst, List.length_range, hlen]; exact Nat.le_refl _) ?_ (fun c hc => ⟨(hI c hc).1, pairUp_mem hc, (hI c hc).2⟩) ?_ (by simp) ?_ (by rw [pairUp_snd]; exact h4) hrel' hQ
      · have : ((pairUp acc).map (·.1)).Pairwise (· < ·) := by rw [pairUp_fst]; exact List.pairwise_lt_range
        exact List.pairwise_map.1 this
      · intro j
        constructor
        · rintro ⟨c, hc, rfl⟩
          have h5 := (hI c hc).1
          have hlt : c.1 < ops.size := by
            rcases Nat.lt_or_ge c.1 ops.size with h | h
            · exact h
            · rw [Array.getElem?_eq_none h] at h5; simp at h5
          exact ⟨hlt, by simp [Array.getD_eq_getD_getElem?, hlt]⟩
        · rintro ⟨hlt, _⟩
          exact pairUp_of (by omega)
      · intro j o ho hj
        rw [Array.getElem?_replicate] at hj
        split at hj <;> simp at hj

theorem cond_run {β : Type} {s : St} {c : Operand} {yes no : St → Option β} {r : β} (h : condK s c yes no none = some r) {n : Nat} {R : Nat → Nat → Prop} {a : Act} {w : World} (hrel : Rel w0 n R s.f a w) :
    ∃ (b : Bool) (s0 : St), a.eval c = .bool b ∧ s0.f = s.f ∧ (if b then yes s0 else no s0) = some r := by
  unfold condK at h
  split at h
  · rename_i t
    rcases tst_some h with ⟨hb, h⟩ | ⟨hb, h⟩
    · exact ⟨true, _, V2_bool (hrel.ev (x := .tmp t) hb), St.ref_f hb, h⟩
    · exact ⟨false, _, V2_bool (hrel.ev (x := .tmp t) hb), St.ref_f hb, h⟩
  · rename_i b
    cases b
    · exact ⟨false, s, rfl, rfl, h⟩
    · exact ⟨true, s, rfl, rfl, h⟩
  · simp at h

/-- THE BODY DOES WHAT THE EVALUATOR SAYS. -/
theorem ev_sound2 (hC : CfgOk P C code) : ∀ (m : Nat) (p : List Nat) (c : Code) (s : St) (e : Exit) (s' : St), codeAt p code = some c → evS C m p c s = some (e, s') →
    (∀ {R : Nat → Nat → Prop} {a : Act} {w : World}, Rel w0 C.n R s.f a w → c.wp P (fun e' a' w' => e' = e ∧ ∃ R', Rel w0 C.n R' s'.f a' w') a w) ∧
    (∀ x, c = .loop x → lookP C.L p = none → ∃ r, ∀ {R : Nat → Nat → Prop} {a : Act} {w : World}, Rel w0 C.n R s.f a w → Code.rounds P x (fun e' a' w' => e' = e ∧ ∃ R', Rel w0 C.n R' s'.f a' w') r a w) := by
  intro m
  induction m with
  | zero => intro p c s e s' _ h; simp [evS, evK] at h
  | succ m ih =>
    intro p c s e s' hp h
    unfold evS at h
    cases c with
    | skip => simp only [evK, Option.some.injEq, Prod.mk.injEq] at h; obtain ⟨rfl, rfl⟩ := h; exact ⟨fun hrel => wp_skip ⟨rfl, _, hrel⟩, nofun⟩
    | label l => simp only [evK, Option.some.injEq, Prod.mk.injEq] at h; obtain ⟨rfl, rfl⟩ := h; exact ⟨fun hrel => wp_label ⟨rfl, _, hrel⟩, nofun⟩
    | exit id => simp only [evK, Option.some.injEq, Prod.mk.injEq] at h; obtain ⟨rfl, rfl⟩ := h; exact ⟨fun hrel => wp_exit ⟨rfl, _, hrel⟩, nofun⟩
    | ret => simp only [evK, Option.some.injEq, Prod.mk.injEq] at h; obtain ⟨rfl, rfl⟩ := h; exact ⟨fun hrel => wp_ret ⟨rfl, _, hrel⟩, nofun⟩
    | region rid ops draw =>
      simp only [evK] at h
      have hnat := regK_nat (fun o : Option St => oK o (fun s' => some (Exit.normal, s')) none) C ops draw s some none
      simp only [oK] at hnat
      rw [← hnat] at h
      cases hr : regK C ops draw s some none with
      | none => rw [hr] at h; simp at h
      | some s1 =>
        rw [hr] at h
        simp only [Option.some.injEq, Prod.mk.injEq] at h
        obtain ⟨rfl, rfl⟩ := h
        exact ⟨fun hrel => reg_sound hC hr hrel, nofun⟩
    | seq x y =>
      refine ⟨fun {R a w} hrel => ?_, nofun⟩
      simp only [evK] at h
      rw [evK_eq, oK_some] at h
      obtain ⟨⟨e1, s1⟩, h1, h2⟩ := h
      have hx : codeAt (p ++ [0]) code = some x := by rw [codeAt_app, hp]; rfl
      have hy : codeAt (p ++ [1]) code = some y := by rw [codeAt_app, hp]; rfl
      refine wp_seq (wp_mono ((ih _ _ _ _ _ hx h1).1 hrel) ?_)
      rintro e' a' w' ⟨rfl, R', hrel'⟩
      cases e' with
      | normal => simp only [thenK] at h2; exact (ih _ _ _ _ _ hy h2).1 hrel'
      | _ => simp only [thenK, Option.some.injEq, Prod.mk.injEq] at h2; obtain ⟨rfl, rfl⟩ := h2; exact ⟨rfl, R', hrel'⟩
    | cond cc x y =>
      refine ⟨fun {R a w} hrel => ?_, nofun⟩
      simp only [evK] at h
      obtain ⟨b, s0, hb, hs0, h1⟩ := cond_run h hrel
      have hx : codeAt (p ++ [0]) code = some x := by rw [codeAt_app, hp]; rfl
      have hy : codeAt (p ++ [1]) code = some y := by rw [codeAt_app, hp]; rfl
      refine wp_cond hb ?_
      cases b with
      | true => exact (ih _ _ _ _ _ hx h1).1 (by rw [hs0]; exact hrel)
      | false => exact (ih _ _ _ _ _ hy h1).1 (by rw [hs0]; exact hrel)
    | block id x =>
      refine ⟨fun {R a w} hrel => ?_, nofun⟩
      simp only [evK] at h
      rw [evK_eq, oK_some] at h
      obtain ⟨⟨e1, s1⟩, h1, h2⟩ := h
      have hx : codeAt (p ++ [0]) code = some x := by rw [codeAt_app, hp]; rfl
      refine wp_block (wp_mono ((ih _ _ _ _ _ hx h1).1 hrel) ?_)
      rintro e' a' w' ⟨rfl, R', hrel'⟩
      cases e' with
      | exit j =>
        simp only [blockK] at h2
        simp only [Exit.inBlock]
        by_cases hj : j = id
        · subst hj
          simp only [Nat.beq_refl, cond_true, Option.some.injEq, Prod.mk.injEq] at h2
          obtain ⟨rfl, rfl⟩ := h2
          rw [if_pos rfl]
          exact ⟨rfl, R', hrel'⟩
        · rw [nbeq_ne hj] at h2
          simp only [cond_false, Option.some.injEq, Prod.mk.injEq] at h2
          obtain ⟨rfl, rfl⟩ := h2
          rw [if_neg hj]
          exact ⟨rfl, R', hrel'⟩
      | _ => simp only [blockK, Option.some.injEq, Prod.mk.injEq] at h2; obtain ⟨rfl, rfl⟩ := h2; exact ⟨rfl, R', hrel'⟩
    | scope x =>
      refine ⟨fun {R a w} hrel => ?_, nofun⟩
      simp only [evK] at h
      rw [evK_eq, oK_some] at h
      obtain ⟨⟨e1, s1⟩, h1, h2⟩ := h
      have hx : codeAt (p ++ [0]) code = some x := by rw [codeAt_app, hp]; rfl
      refine wp_scope_straight (wp_mono ((ih _ _ _ _ _ hx h1).1 hrel) ?_)
      rintro e' a' w' ⟨rfl, R', hrel'⟩
      cases e' with
      | goto l => simp [scopeK] at h2
      | _ => simp only [scopeK, Option.some.injEq, Prod.mk.injEq] at h2; obtain ⟨rfl, rfl⟩ := h2; exact ⟨rfl, R', hrel'⟩
    | loop x =>
      simp only [evK] at h
      have hx : codeAt (p ++ [0]) code = some x := by rw [codeAt_app, hp]; rfl
      cases hL : lookP C.L p with
      | some F =>
        rw [hL] at h
        simp only [oK, altK_eq] at h
        have hbody : loopAt p code = x := by simp [loopAt, hp]
        have h0 := hC.L p F hL
        rw [hbody] at h0
        cases hpk : pickL (F s) with
        | none => rw [hpk] at h; simp at h
        | some q =>
          rw [hpk] at h
          have h : q = (e, s') := Option.some.inj h
          subst h
          exact ⟨fun {R a w} hrel => h0 w0 R s a w hrel e s' hpk, nofun⟩
      | none =>
        rw [hL] at h
        simp only [oK] at h
        have hr : ∃ r, ∀ {R : Nat → Nat → Prop} {a : Act} {w : World}, Rel w0 C.n R s.f a w → Code.rounds P x (fun e' a' w' => e' = e ∧ ∃ R', Rel w0 C.n R' s'.f a' w') r a w := by
          rw [evK_eq, oK_some] at h
          obtain ⟨⟨e1, s1⟩, h1, h2⟩ := h
          obtain ⟨hb, _⟩ := ih _ _ _ _ _ hx h1
          cases e1 with
          | normal =>
            simp only [thenK] at h2
            obtain ⟨r, hr⟩ := (ih p (.loop x) s1 e s' hp h2).2 x rfl hL
            refine ⟨r + 1, fun {R a w} hrel => ?_⟩
            rw [rounds_succ]
            refine wp_mono (hb hrel) ?_
            rintro e' a' w' ⟨rfl, R', hrel'⟩
            exact hr hrel'
          | _ =>
            simp only [thenK, Option.some.injEq, Prod.mk.injEq] at h2
            obtain ⟨rfl, rfl⟩ := h2
            refine ⟨1, fun {R a w} hrel => wp_mono (hb hrel) ?_⟩
            rintro e' a' w' ⟨rfl, hrel'⟩
            exact ⟨rfl, hrel'⟩
        obtain ⟨r, hr⟩ := hr
        exact ⟨fun {R a w} hrel => wp_loop_rounds r (hr hrel), fun x' hx' _ => by cases hx'; exact ⟨r, hr⟩⟩
    | _ => simp [evK] at h

theorem ev_sound (hC : CfgOk P C code) {m : Nat} {p : List Nat} {c : Code} {s : St} {e : Exit} {s' : St} (hp : codeAt p code = some c) (h : evS C m p c s = some (e, s')) {R : Nat → Nat → Prop} {a : Act} {w : World} (hrel : Rel w0 C.n R s.f a w) :
    c.wp P (fun e' a' w' => e' = e ∧ ∃ R', Rel w0 C.n R' s'.f a' w') a w := (ev_sound2 hC m p c s e s' hp h).1 hrel

end
end Go.W
