/-
  Several texts in one.
-/
import Derived.Test.YtbklbmiddacaiaaEf
import Derived.Test.YtbklbmiddacaiaaEd
/-
  The engine, part 21: calls with slices of slices, and calls that may write behind a row that is the caller's own.
-/
namespace Go.W
open Go.RowKit (Below)

section
variable {P : Program} [Laid P]

theorem msum_core2 {g : FuncId} {fn : Func} {c : Code} (hf : P.funcs[g]? = some fn) (hname : (fn.name == "runtime.NumGoroutine") = false) (hb : fn.body = some c) {fuel next : Nat}
    {w0 : Wb (lay P)} {R : Nat → Pl → Prop} {fm : Nat → Option Blk} {w : World} (hm : MRel w0 R fm w) {args' : List Value} {id : Nat} (hlt : id < 60000) {v : Value} {l : List (Nat × Blk)} (hl1 : l = [] ∨ ∃ blk, l = [(nid id 0, blk)]) (hnew : ∀ p ∈ l, nid id 0 ≤ p.1 ∧ p.1 < nid id 8 → fm p.1 = none)
    {A Rc : Nat → Pl → Prop} {memC : List (Nat × Blk)} {argsC : List Value} (hmC : MRel (⟨w, fun _ => False, A⟩ : Wb (lay P)) Rc (look memC) w) (hargs : LR (V2 Rc) argsC args') (hlen : argsC.length ≤ fn.ntmps)
    {C : Cfg} (hC : CfgOk P C c) (hn : C.n = fn.ntmps) (hev : fnMS C fuel fn c argsC memC next id = some (v, l)) :
    Invokes P g args'.toArray w fun v' w' => ∃ R' : Nat → Pl → Prop, (∀ i p, R i p → R' i p) ∧ V2 R' v v' ∧ MRel w0 R' (memF fm l) w' := by
  have hne : fn.name ≠ "runtime.NumGoroutine" := by simpa using hname
  have hrun : (callFunc g args'.toArray).run P w = .ok (.enter g args'.toArray) w := by simp [callFunc, hf, hne, hb]
  unfold Invokes
  rw [hrun]
  unfold fnMS fnM at hev
  rw [evK_eq, oK_some] at hev
  obtain ⟨⟨e, s'⟩, he1, he2⟩ := hev
  obtain ⟨vC, he3, he4⟩ : ∃ vC, endK C.T fn e s' some none = some vC ∧ expK C.T (look s'.mem) id vC (fun v l => some (v, l)) none = some (v, l) := by
    unfold endK at he2 ⊢
    have key : ∀ lr : List ResultVar, resK C.T s' lr (fun vs => oneK vs fun v => expK C.T (look s'.mem) id v (fun v l => some (v, l)) none) none = some (v, l) → ∃ vC, resK C.T s' lr (fun vs => oneK vs some) none = some vC ∧ expK C.T (look s'.mem) id vC (fun v l => some (v, l)) none = some (v, l) := by
      intro lr hh
      have e1 : resK C.T s' lr (fun vs => oneK vs fun v => expK C.T (look s'.mem) id v (fun v l => some (v, l)) none) none = oK (resK C.T s' lr (fun vs => oneK vs some) none) (fun v => expK C.T (look s'.mem) id v (fun v l => some (v, l)) none) none := by
        rw [resK_nat (fun o : Option Value => oK o (fun v => expK C.T (look s'.mem) id v (fun v l => some (v, l)) none) none)]
        congr 1; funext vs
        exact (oneK_nat (fun o : Option Value => oK o (fun v => expK C.T (look s'.mem) id v (fun v l => some (v, l)) none) none) vs some).symm
      rw [e1] at hh
      exact oK_some.1 hh
    cases e <;> simp only at he2 ⊢ <;> first | exact key _ he2 | (simp at he2; done)
  refine Calls.mono (fn_mem hC hf hb hn hmC hargs hlen he1 he3) ?_
  rintro ex w' ⟨R', v', rfl, hvv, hvt, hm'⟩
  show ∃ R2 : Nat → Pl → Prop, _ ∧ _ ∧ _
  have hX : ∀ k, ¬ (⟨w, fun _ => False, A⟩ : Wb (lay P)).X k := fun _ h => h
  have h8 : nid id 0 < nid id 8 := by unfold nid; omega
  have hbel : Below w.heap.size w w' := hm'.below.below hX
  have none_case : l = [] → expK C.T (look s'.mem) id vC (fun v l => some (v, l)) none = some (v, []) → ∃ R2 : Nat → Pl → Prop, (∀ i p, R i p → R2 i p) ∧ V2 R2 v v' ∧ MRel w0 R2 (memF fm []) w' := by
    intro _ he
    refine ⟨R, fun _ _ h => h, ?_, hm.world hbel⟩
    unfold expK at he
    split at he
    · rename_i ws
      obtain ⟨us, l2, hu, he⟩ := expL_some.1 he
      simp only [Option.some.injEq, Prod.mk.injEq] at he
      obtain ⟨rfl, rfl⟩ := he
      obtain ⟨vs', rfl, hl2⟩ := hvt ws rfl
      obtain ⟨j1, j2⟩ := expL_nil hm' hl2 hu
      refine ⟨vs', rfl, ?_⟩
      rw [j2, List.toList_toArray]
      exact (LR_plain (r := V1 R) (pl := pl1) (fun _ _ hv => V1_plain hv) j1).2 rfl
    · rename_i hnt
      have hv2 := hvv hnt
      have := expL_nil (T := C.T) (id := id) hm' (vs := [vC]) (us := [v]) (vs' := [v']) ⟨hv2, trivial⟩ (by
        simp only [expL]
        exact expV_some.2 ⟨v, [], he, rfl⟩)
      obtain ⟨j1, j2⟩ := this
      simp only [List.all_cons, List.all_nil, Bool.and_true] at j1
      simp only [List.cons.injEq, and_true] at j2
      subst j2
      exact V2_of_V1 ((V1_plain j1).2 rfl)
  rcases hl1 with rfl | ⟨blk, rfl⟩
  · exact none_case rfl he4
  · have hid : fm (nid id 0) = none := hnew _ (List.mem_singleton.2 rfl) ⟨Nat.le_refl _, h8⟩
    unfold expK at he4
    split at he4
    · rename_i ws
      obtain ⟨us, l2, hu, he⟩ := expL_some.1 he4
      simp only [Option.some.injEq, Prod.mk.injEq] at he
      obtain ⟨rfl, rfl⟩ := he
      obtain ⟨vs', rfl, hl2⟩ := hvt ws rfl
      obtain ⟨R2, j1, j2, j3⟩ := expL_ok hm hm' rfl hX hid hlt hl2 hu
      exact ⟨R2, j1, ⟨vs', rfl, by rw [List.toList_toArray]; exact j2⟩, j3⟩
    · rename_i hnt
      have hv2 := hvv hnt
      rcases expV_ok hm hm' rfl hX hid hlt hv2 he4 with ⟨h0, _⟩ | ⟨R2, j1, j2, _, j4⟩
      · simp at h0
      · exact ⟨R2, j1, j2, j4⟩

end


def RowW (w : World) (e : TypeId) (ks : List CK) (m : Nat) (f : Nat → List Value) (v : Value) : Prop :=
  (m = 0 ∧ Emp v) ∨ ∃ b d c cs fz, v = .slice (some ⟨b, d, none⟩) m c ∧ m ≤ c ∧ w.heap[b]? = some (.cells cs e fz) ∧ (cs.toList.drop d).take (m * ks.length) = rowL ks f 0 m

def srcF (mm : Nat → Option Blk) (ks : List CK) (v : Value) : Bool × Nat × (Nat → Nat × (Nat → List Value)) :=
  match v with
  | .slice none n c => (Nat.beq n 0 && Nat.beq c 0, 0, fun _ => (0, fun _ => []))
  | .slice (some ⟨b, off, none⟩) n c => (match mm b with
    | some blk => (match blk.cells with
      | .lst l => (Nat.ble (off + n) l.length && ((l.drop off).take n).all (fun x => (srcB mm ks x).1) && Nat.ble n c, n, fun j => (srcB mm ks (((l.drop off).take n).getD j (.slice none 0 0))).2)
      | .fam ks' m _ g => (Nat.beq off 0 && Nat.ble n m && ksEq ks' ks && Nat.ble n c, n, g)
      | _ => (false, 0, fun _ => (0, fun _ => [])))
    | none => (false, 0, fun _ => (0, fun _ => [])))
  | _ => (false, 0, fun _ => (0, fun _ => []))

def FamW (w : World) (e : TypeId) (ks : List CK) (n : Nat) (es : Nat → TypeId) (g : Nat → Nat × (Nat → List Value)) (p : Pl) (v' : Value) : Prop :=
  n ≤ p.c ∧ (match p.a with
    | some b => v' = .slice (some ⟨b, p.d, none⟩) n p.c ∧ ∃ cs fz, w.heap[b]? = some (.cells cs e fz) ∧ ∀ j, j < n → ∃ u, cs.toList[p.d + j]? = some u ∧ RowW w (es j) ks (g j).1 (g j).2 u
    | none => n = 0 ∧ p.c = 0 ∧ p.d = 0 ∧ Emp v')

section
variable {GL : Glob} {w0 : Wb GL} {R : Nat → Pl → Prop} {fm : Nat → Option Blk} {w : World}

theorem srcB_rowW (h : MRel w0 R fm w) {ks : List CK} {v v' : Value} {n : Nat} {g : Nat → List Value} (hq : srcB fm ks v = (true, n, g)) (hv : V2 R v v') : ∃ e, RowW w e ks n g v' := by
  obtain ⟨p, e, h1, h2⟩ := src_heap h hq hv
  refine ⟨e, ?_⟩
  cases hpa : p.a with
  | none => rw [hpa] at h2; exact .inl ⟨h2.1, h2.2.2.2⟩
  | some b =>
    rw [hpa] at h2
    obtain ⟨h3, cs, fz, h4, h5⟩ := h2
    refine .inr ⟨b, p.d, p.c, cs, fz, h3, h1, h4, ?_⟩
    have := (LR_plain (r := V0 R) (pl := pl0) (fun _ _ hv => V0_plain hv) (rowL_pl ks g n 0)).1 h5
    rw [rowL_len] at this; exact this

theorem fam_heap (h : MRel w0 R fm w) {ks : List CK} {v v' : Value} {n : Nat} {g : Nat → Nat × (Nat → List Value)} (hq : srcF fm ks v = (true, n, g)) (hv : V2 R v v') : ∃ (p : Pl) (e : TypeId) (es : Nat → TypeId), FamW w e ks n es g p v' := by
  unfold srcF at hq
  split at hq
  · rename_i n0 c
    simp only [Prod.mk.injEq, Bool.and_eq_true] at hq
    obtain ⟨⟨h0, h1⟩, rfl, _⟩ := hq
    have h0 := nbeq.1 h0; subst h0
    have h1 := nbeq.1 h1; subst h1
    have := (V2_plain (R := R) (v := .slice none 0 0) rfl).1 hv
    exact ⟨⟨none, 0, 0⟩, 0, fun _ => 0, Nat.le_refl _, rfl, rfl, rfl, none, this⟩
  · rename_i b off n0 c
    obtain ⟨p0, hp0, hsl⟩ := V2_slice hv
    split at hq
    · rename_i blk hb
      obtain ⟨cells, e, own⟩ := blk
      simp only at hq
      have place : n ≤ c → n0 = n → ∀ es : Nat → TypeId, (∀ bl, p0.a = some bl → n ≠ 0 → ∃ cs fz, w.heap[bl]? = some (.cells cs e fz) ∧ ∀ j, j < n → ∃ u, cs.toList[p0.d + off + j]? = some u ∧ RowW w (es j) ks (g j).1 (g j).2 u) → ∃ (p : Pl) (e : TypeId) (es : Nat → TypeId), FamW w e ks n es g p v' := by
        intro hnc hn es hcont
        subst hn
        have some_case : ∀ bl c', p0.a = some bl → c ≤ c' → v' = .slice (some ⟨bl, p0.d + off, none⟩) n0 c' → ∃ (p : Pl) (e : TypeId) (es : Nat → TypeId), FamW w e ks n0 es g p v' := by
          intro bl c' hpa hcc hv'
          by_cases h0 : n0 = 0
          · obtain ⟨cs, e1, fz, h1⟩ := h.there _ _ _ hp0 hpa
            exact ⟨⟨some bl, p0.d + off, c'⟩, e1, es, by simp only; omega, hv', cs, fz, h1, fun j hj => by omega⟩
          · obtain ⟨cs, fz, h1, h2⟩ := hcont bl hpa h0
            exact ⟨⟨some bl, p0.d + off, c'⟩, e, es, by simp only; omega, hv', cs, fz, h1, h2⟩
        cases hlo : loose b with
        | false =>
          obtain ⟨bl, h1, h2⟩ := SlOk_tight hlo hsl
          exact some_case bl c h1 (Nat.le_refl _) h2
        | true =>
          obtain ⟨rfl, h2, ⟨bl, h3, h4⟩ | ⟨h3, h4, h5, h6⟩⟩ := SlOk_loose hlo hsl
          · exact some_case bl p0.c h3 h2 (by rw [Nat.add_zero]; exact h4)
          · exact ⟨⟨none, 0, 0⟩, 0, es, by simp only; omega, h4, rfl, rfl, h6⟩
      split at hq
      · rename_i l
        simp only [Prod.mk.injEq, Bool.and_eq_true] at hq
        obtain ⟨⟨⟨h1, h2⟩, h3⟩, h4, h5⟩ := hq
        have h1 := Nat.le_of_ble_eq_true h1
        have h3 := Nat.le_of_ble_eq_true h3
        obtain ⟨p', hp', hcont⟩ := memOk_lst h hb
        have := h.func _ _ _ hp0 hp'; subst this
        cases hpa : p0.a with
        | none =>
          rw [hpa] at hcont
          have hcont : l = [] := hcont
          rw [hcont] at h1
          have h0 : n0 = 0 := by simp at h1; omega
          exact place (by omega) h4 (fun _ => 0) (fun bl hb2 => by rw [hpa] at hb2; simp at hb2)
        | some bl =>
          rw [hpa] at hcont
          obtain ⟨cs, fz, k1, k2, _⟩ := hcont
          have k2 : LP R l (cs.toList.drop p0.d) := k2
          have row : ∀ j, j < n0 → ∃ u e1, cs.toList[p0.d + off + j]? = some u ∧ RowW w e1 ks (g j).1 (g j).2 u := by
            intro j hj
            have hx : l[off + j]? = some (l[off + j]'(by omega)) := List.getElem?_eq_getElem (by omega)
            obtain ⟨u, k3, k4⟩ := LP_get k2 hx
            rw [List.getElem?_drop, ← Nat.add_assoc] at k3
            have hmem : (l[off + j]'(by omega)) ∈ (l.drop off).take n0 := by
              rw [List.mem_iff_getElem?]
              refine ⟨j, ?_⟩
              rw [List.getElem?_take_of_lt hj, List.getElem?_drop]; exact hx
            have h6 := List.all_eq_true.1 h2 _ hmem
            have h7 : ((l.drop off).take n0).getD j (.slice none 0 0) = l[off + j]'(by omega) := by
              simp only [List.getD, List.getElem?_take_of_lt hj, List.getElem?_drop, hx, Option.getD_some]
            obtain ⟨e1, k5⟩ := srcB_rowW h (n := (g j).1) (g := (g j).2) (by
              rw [← h5]
              simp only [h7]
              exact Prod.ext h6 rfl) (V2_of_V0 k4)
            exact ⟨u, e1, k3, k5⟩
          refine place (by omega) h4 (fun j => if hj : j < n0 then Classical.choose (Classical.choose_spec (row j hj)) else 0) (fun bl2 hb2 _ => ?_)
          rw [hpa] at hb2; cases hb2
          refine ⟨cs, fz, k1, fun j hj => ?_⟩
          have hj0 : j < n0 := by omega
          have hs := Classical.choose_spec (Classical.choose_spec (row j hj0))
          refine ⟨_, hs.1, ?_⟩
          rw [dif_pos hj0]; exact hs.2
      · rename_i ks' m es g'
        simp only [Prod.mk.injEq, Bool.and_eq_true] at hq
        obtain ⟨⟨⟨⟨h1, h2⟩, h2'⟩, h3⟩, h4, h5⟩ := hq
        have h1 := nbeq.1 h1
        have h2 := Nat.le_of_ble_eq_true h2
        have h2' := ksEq_eq h2'
        have h3 := Nat.le_of_ble_eq_true h3
        subst h1 h2' h5
        obtain ⟨p', hp', hcont⟩ : FamOk w0 R w b e own ks' m es g' := h.mem b _ hb
        have := h.func _ _ _ hp0 hp'; subst this
        refine place (by omega) h4 es (fun bl hpa _ => ?_)
        rw [hpa] at hcont
        obtain ⟨cs, fz, k1, k2, _⟩ := hcont
        refine ⟨cs, fz, k1, fun j hj => ?_⟩
        obtain ⟨u, k3, k4⟩ := k2 j (by omega)
        refine ⟨u, by rw [Nat.add_zero]; exact k3, ?_⟩
        rcases k4 with k4 | ⟨b2, d, c2, cs2, fz2, o1, o2, _, o4, o5⟩
        · exact .inl k4
        · exact .inr ⟨b2, d, c2, cs2, fz2, o1, o2, o4, o5⟩
      · simp at hq
    · simp at hq
  · simp at hq

end

inductive ArgF where
  | pl (v : Value)
  | sl (ks : List CK) (n : Nat) (g : Nat → List Value)
  | fm (ks : List CK) (n : Nat) (g : Nat → Nat × (Nat → List Value))

def cArgsF : List ArgF → Nat → List Value
  | [], _ => []
  | .pl v :: r, k => v :: cArgsF r (k + 1)
  | .sl _ n _ :: r, k => .slice (some ⟨argId k, 0, none⟩) n n :: cArgsF r (k + 1)
  | .fm _ n _ :: r, k => .slice (some ⟨argId k, 0, none⟩) n n :: cArgsF r (k + 1)
def cMemF (es : Nat → TypeId) (er : Nat → Nat → TypeId) : List ArgF → Nat → List (Nat × Blk)
  | [], _ => []
  | .pl _ :: r, k => cMemF es er r (k + 1)
  | .sl ks n g :: r, k => (argId k, ⟨.row ks n g, es k, false⟩) :: cMemF es er r (k + 1)
  | .fm ks n g :: r, k => (argId k, ⟨.fam ks n (er k) g, es k, false⟩) :: cMemF es er r (k + 1)
def ArgsW (w : World) (es : Nat → TypeId) (er : Nat → Nat → TypeId) (pl : Nat → Option Pl) : List ArgF → List Value → Nat → Prop
  | [], [], _ => True
  | .pl v :: r, v' :: args', k => pl2 v = true ∧ v' = v ∧ ArgsW w es er pl r args' (k + 1)
  | .sl ks n g :: r, v' :: args', k => (∃ p, pl k = some p ∧ n ≤ p.c ∧ (match p.a with
      | some b => v' = .slice (some ⟨b, p.d, none⟩) n p.c ∧ ∃ cs fz, w.heap[b]? = some (.cells cs (es k) fz) ∧ (cs.toList.drop p.d).take (n * ks.length) = rowL ks g 0 n
      | none => n = 0 ∧ p.c = 0 ∧ p.d = 0 ∧ Emp v')) ∧ ArgsW w es er pl r args' (k + 1)
  | .fm ks n g :: r, v' :: args', k => (∃ p, pl k = some p ∧ FamW w (es k) ks n (er k) g p v') ∧ ArgsW w es er pl r args' (k + 1)
  | _, _, _ => False
def AOkF (mm : Nat → Option Blk) : List Value → List ArgF → Prop
  | [], [] => True
  | v :: vs, .pl u :: A => v = u ∧ pl2 u = true ∧ AOkF mm vs A
  | v :: vs, .sl ks n g :: A => srcB mm ks v = (true, n, g) ∧ AOkF mm vs A
  | v :: vs, .fm ks n g :: A => srcF mm ks v = (true, n, g) ∧ AOkF mm vs A
  | _, _ => False

def RcF (w : World) (pl : Nat → Option Pl) (N : Nat) (i : Nat) (p : Pl) : Prop :=
  (∃ j, j < N ∧ i = argId j ∧ pl j = some p) ∨ (∃ b, (∃ cs e fz, w.heap[b]? = some (.cells cs e fz)) ∧ i = 1000000000 + b ∧ p = ⟨some b, 0, 0⟩)

theorem RowW.at {w : World} {e : TypeId} {ks : List CK} {m : Nat} {f : Nat → List Value} {v : Value} (h : RowW w e ks m f v) (pl : Nat → Option Pl) (N : Nat) : RowAt (RcF w pl N) w e ks m f v := by
  rcases h with h | ⟨b, d, c, cs, fz, h1, h2, h3, h4⟩
  · exact .inl h
  · exact .inr ⟨b, d, c, cs, fz, h1, h2, .inr ⟨b, ⟨cs, e, fz, h3⟩, rfl, rfl⟩, h3, h4⟩

theorem argsW_congr {w : World} {es es' : Nat → TypeId} {er er' : Nat → Nat → TypeId} {pl pl' : Nat → Option Pl} : ∀ (A : List ArgF) (args' : List Value) (k : Nat), (∀ j, k ≤ j → es j = es' j ∧ er j = er' j ∧ pl j = pl' j) → ArgsW w es er pl A args' k → ArgsW w es' er' pl' A args' k
  | [], [], _, _, h => h
  | .pl v :: r, v' :: args', k, he, h => ⟨h.1, h.2.1, argsW_congr r args' (k + 1) (fun j hj => he j (by omega)) h.2.2⟩
  | .sl ks n g :: r, v' :: args', k, he, h => by
    obtain ⟨⟨p, h1, h2⟩, h3⟩ := h
    refine ⟨⟨p, by rw [← (he k (Nat.le_refl _)).2.2]; exact h1, ?_⟩, argsW_congr r args' (k + 1) (fun j hj => he j (by omega)) h3⟩
    rw [← (he k (Nat.le_refl _)).1]; exact h2
  | .fm ks n g :: r, v' :: args', k, he, h => by
    obtain ⟨⟨p, h1, h2⟩, h3⟩ := h
    refine ⟨⟨p, by rw [← (he k (Nat.le_refl _)).2.2]; exact h1, ?_⟩, argsW_congr r args' (k + 1) (fun j hj => he j (by omega)) h3⟩
    rw [← (he k (Nat.le_refl _)).1, ← (he k (Nat.le_refl _)).2.1]; exact h2
  | [], _ :: _, _, _, h => h.elim
  | .pl _ :: _, [], _, _, h => h.elim
  | .sl _ _ _ :: _, [], _, _, h => h.elim
  | .fm _ _ _ :: _, [], _, _, h => h.elim

def setAt {α : Type} (k : Nat) (x : α) (f : Nat → α) (j : Nat) : α := if j = k then x else f j

section
variable {GL : Glob} {w0 : Wb GL} {R : Nat → Pl → Prop} {fm : Nat → Option Blk} {w : World}

theorem argsW_of (h : MRel w0 R fm w) : ∀ (A : List ArgF) (vs args' : List Value) (k : Nat), AOkF fm vs A → LR (V2 R) vs args' → ∃ es er pl, ArgsW w es er pl A args' k
  | [], [], [], _, _, _ => ⟨fun _ => 0, fun _ _ => 0, fun _ => none, trivial⟩
  | .pl u :: A, v :: vs, v' :: args', k, hA, hl => by
    obtain ⟨rfl, hp, hA⟩ := hA
    obtain ⟨es, er, pl, h1⟩ := argsW_of h A vs args' (k + 1) hA hl.2
    exact ⟨es, er, pl, hp, (V2_plain hp).1 hl.1, h1⟩
  | .sl ks n g :: A, v :: vs, v' :: args', k, hA, hl => by
    obtain ⟨es, er, pl, h1⟩ := argsW_of h A vs args' (k + 1) hA.2 hl.2
    obtain ⟨p, e, hc, hm⟩ := src_heap h hA.1 hl.1
    refine ⟨setAt k e es, er, setAt k (some p) pl, ⟨p, by simp [setAt], hc, ?_⟩, argsW_congr A args' (k + 1) (fun j hj => ⟨by simp [setAt]; omega, rfl, by simp [setAt]; omega⟩) h1⟩
    cases hpa : p.a with
    | none => rw [hpa] at hm; exact hm
    | some b =>
      rw [hpa] at hm
      obtain ⟨h2, cs, fz, h3, h4⟩ := hm
      refine ⟨h2, cs, fz, by simp only [setAt, if_pos]; exact h3, ?_⟩
      have := (LR_plain (r := V0 R) (pl := pl0) (fun _ _ hv => V0_plain hv) (rowL_pl ks g n 0)).1 h4
      rw [rowL_len] at this; exact this
  | .fm ks n g :: A, v :: vs, v' :: args', k, hA, hl => by
    obtain ⟨es, er, pl, h1⟩ := argsW_of h A vs args' (k + 1) hA.2 hl.2
    obtain ⟨p, e, es1, hm⟩ := fam_heap h hA.1 hl.1
    refine ⟨setAt k e es, setAt k es1 er, setAt k (some p) pl, ⟨p, by simp [setAt], by simp only [setAt, if_pos]; exact hm⟩, argsW_congr A args' (k + 1) (fun j hj => ⟨by simp [setAt]; omega, by simp [setAt]; omega, by simp [setAt]; omega⟩) h1⟩
  | [], _ :: _, _, _, hA, _ => hA.elim
  | .pl _ :: _, [], _, _, hA, _ => hA.elim
  | .sl _ _ _ :: _, [], _, _, hA, _ => hA.elim
  | .fm _ _ _ :: _, [], _, _, hA, _ => hA.elim
  | [], [], _ :: _, _, _, hl => hl.elim
  | .pl _ :: _, _ :: _, [], _, _, hl => hl.elim
  | .sl _ _ _ :: _, _ :: _, [], _, _, hl => hl.elim
  | .fm _ _ _ :: _, _ :: _, [], _, _, hl => hl.elim

theorem cArgsF_len : ∀ (A : List ArgF) (k : Nat), (cArgsF A k).length = A.length
  | [], _ => rfl
  | .pl _ :: r, k => by simp [cArgsF, cArgsF_len r]
  | .sl _ _ _ :: r, k => by simp [cArgsF, cArgsF_len r]
  | .fm _ _ _ :: r, k => by simp [cArgsF, cArgsF_len r]

def plF : List ArgF → Nat → (Nat → Option Pl) → Nat → Option Pl
  | [], _, _ => fun _ => none
  | .pl _ :: r, k, pl => plF r (k + 1) pl
  | .sl _ _ _ :: r, k, pl => fun j => if j = k then pl k else plF r (k + 1) pl j
  | .fm _ _ _ :: r, k, pl => fun j => if j = k then pl k else plF r (k + 1) pl j

theorem plF_lo : ∀ (A : List ArgF) (k : Nat) (pl : Nat → Option Pl) (j : Nat), j < k → plF A k pl j = none
  | [], _, _, _, _ => rfl
  | .pl _ :: r, k, pl, j, h => plF_lo r (k + 1) pl j (by omega)
  | .sl _ _ _ :: r, k, pl, j, h => by simp only [plF]; rw [if_neg (by omega)]; exact plF_lo r (k + 1) pl j (by omega)
  | .fm _ _ _ :: r, k, pl, j, h => by simp only [plF]; rw [if_neg (by omega)]; exact plF_lo r (k + 1) pl j (by omega)

theorem memF_at {w : World} {es : Nat → TypeId} {er : Nat → Nat → TypeId} {pl : Nat → Option Pl} : ∀ (A : List ArgF) (args' : List Value) (k : Nat), ArgsW w es er pl A args' k →
    (∀ i blk, look (cMemF es er A k) i = some blk → ∃ j p, k ≤ j ∧ j < k + A.length ∧ i = argId j ∧ plF A k pl j = some p ∧ blk.own = false ∧
      ((∃ ks n g, blk.cells = .row ks n g ∧ (match p.a with
        | some b => ∃ cs fz, w.heap[b]? = some (.cells cs blk.elem fz) ∧ (cs.toList.drop p.d).take (n * ks.length) = rowL ks g 0 n
        | none => n = 0)) ∨
       (∃ ks n es' g, blk.cells = .fam ks n es' g ∧ (match p.a with
        | some b => ∃ cs fz, w.heap[b]? = some (.cells cs blk.elem fz) ∧ ∀ j, j < n → ∃ u, cs.toList[p.d + j]? = some u ∧ RowW w (es' j) ks (g j).1 (g j).2 u
        | none => n = 0)))) ∧
    (∀ j p, plF A k pl j = some p → j < k + A.length ∧ (look (cMemF es er A k) (argId j)).isSome = true ∧ ∀ b, p.a = some b → ∃ cs e fz, w.heap[b]? = some (.cells cs e fz)) ∧
    ∀ (R' : Nat → Pl → Prop), (∀ j p, plF A k pl j = some p → R' (argId j) p) → LR (V2 R') (cArgsF A k) args'
  | [], [], _, _ => ⟨fun i blk hi => by simp [cMemF, look] at hi, fun j p hp => by simp [plF] at hp, fun _ _ => trivial⟩
  | .pl v :: A, v' :: args', k, h => by
    obtain ⟨h1, rfl, h2⟩ := h
    obtain ⟨k1, k2, k3⟩ := memF_at A args' (k + 1) h2
    refine ⟨fun i blk hi => ?_, fun j p hp => ?_, fun R' hR => ⟨(V2_plain h1).2 rfl, k3 R' hR⟩⟩
    · obtain ⟨j, p, m1, m2, m3⟩ := k1 i blk hi
      exact ⟨j, p, by omega, by simp only [List.length_cons]; omega, m3⟩
    · obtain ⟨m1, m2⟩ := k2 j p hp
      exact ⟨by simp only [List.length_cons]; omega, m2⟩
  | .sl ks n g :: A, v' :: args', k, h => by
    obtain ⟨⟨p, h1, hc, h2⟩, h3⟩ := h
    obtain ⟨k1, k2, k3⟩ := memF_at A args' (k + 1) h3
    have hpk : plF (.sl ks n g :: A) k pl k = some p := by simp only [plF, if_pos]; exact h1
    have hpn : ∀ j, j ≠ k → plF (.sl ks n g :: A) k pl j = plF A (k + 1) pl j := fun j hj => by simp only [plF, if_neg hj]
    refine ⟨fun i blk hi => ?_, fun j q hq => ?_, fun R' hR => ⟨?_, k3 R' fun j q hq => ?_⟩⟩
    · rw [cMemF, look_cons] at hi
      by_cases e1 : argId k = i
      · subst e1
        rw [upd_same] at hi
        cases hi
        refine ⟨k, p, Nat.le_refl _, by simp only [List.length_cons]; omega, rfl, hpk, rfl, .inl ⟨ks, n, g, rfl, ?_⟩⟩
        cases hpa : p.a with
        | none => rw [hpa] at h2; exact h2.1
        | some b => rw [hpa] at h2; exact h2.2
      · rw [upd_ne _ _ e1] at hi
        obtain ⟨j, q, m1, m2, m3, m4, m5⟩ := k1 i blk hi
        exact ⟨j, q, by omega, by simp only [List.length_cons]; omega, m3, by rw [hpn j (by omega)]; exact m4, m5⟩
    · rw [cMemF, look_cons]
      by_cases e1 : j = k
      · subst e1
        rw [hpk] at hq; cases hq
        rw [upd_same]
        refine ⟨by simp only [List.length_cons]; omega, rfl, fun b hb => ?_⟩
        rw [hb] at h2
        obtain ⟨_, cs, fz, m1, _⟩ := h2
        exact ⟨cs, _, fz, m1⟩
      · rw [hpn j e1] at hq
        rw [upd_ne _ _ (by unfold argId; omega)]
        obtain ⟨m1, m2⟩ := k2 j q hq
        exact ⟨by simp only [List.length_cons]; omega, m2⟩
    · refine slice_V2 (q := p) (argId_loose k) (hR k p hpk) hc ?_
      cases hpa : p.a with
      | none => rw [hpa] at h2; exact ⟨h2.1, h2.2.1, h2.2.2.2⟩
      | some b => rw [hpa] at h2; exact h2.1
    · have hjk : j ≠ k := fun e => by rw [e, plF_lo A (k + 1) pl k (by omega)] at hq; simp at hq
      exact hR j q (by rw [hpn j hjk]; exact hq)
  | .fm ks n g :: A, v' :: args', k, h => by
    obtain ⟨⟨p, h1, hc, h2⟩, h3⟩ := h
    obtain ⟨k1, k2, k3⟩ := memF_at A args' (k + 1) h3
    have hpk : plF (.fm ks n g :: A) k pl k = some p := by simp only [plF, if_pos]; exact h1
    have hpn : ∀ j, j ≠ k → plF (.fm ks n g :: A) k pl j = plF A (k + 1) pl j := fun j hj => by simp only [plF, if_neg hj]
    refine ⟨fun i blk hi => ?_, fun j q hq => ?_, fun R' hR => ⟨?_, k3 R' fun j q hq => ?_⟩⟩
    · rw [cMemF, look_cons] at hi
      by_cases e1 : argId k = i
      · subst e1
        rw [upd_same] at hi
        cases hi
        refine ⟨k, p, Nat.le_refl _, by simp only [List.length_cons]; omega, rfl, hpk, rfl, .inr ⟨ks, n, er k, g, rfl, ?_⟩⟩
        cases hpa : p.a with
        | none => rw [hpa] at h2; exact h2.1
        | some b => rw [hpa] at h2; exact h2.2
      · rw [upd_ne _ _ e1] at hi
        obtain ⟨j, q, m1, m2, m3, m4, m5⟩ := k1 i blk hi
        exact ⟨j, q, by omega, by simp only [List.length_cons]; omega, m3, by rw [hpn j (by omega)]; exact m4, m5⟩
    · rw [cMemF, look_cons]
      by_cases e1 : j = k
      · subst e1
        rw [hpk] at hq; cases hq
        rw [upd_same]
        refine ⟨by simp only [List.length_cons]; omega, rfl, fun b hb => ?_⟩
        rw [hb] at h2
        obtain ⟨_, cs, fz, m1, _⟩ := h2
        exact ⟨cs, _, fz, m1⟩
      · rw [hpn j e1] at hq
        rw [upd_ne _ _ (by unfold argId; omega)]
        obtain ⟨m1, m2⟩ := k2 j q hq
        exact ⟨by simp only [List.length_cons]; omega, m2⟩
    · refine slice_V2 (q := p) (argId_loose k) (hR k p hpk) hc ?_
      cases hpa : p.a with
      | none => rw [hpa] at h2; exact ⟨h2.1, h2.2.1, h2.2.2.2⟩
      | some b => rw [hpa] at h2; exact h2.1
    · have hjk : j ≠ k := fun e => by rw [e, plF_lo A (k + 1) pl k (by omega)] at hq; simp at hq
      exact hR j q (by rw [hpn j hjk]; exact hq)
  | [], _ :: _, _, h => h.elim
  | .pl _ :: _, [], _, h => h.elim
  | .sl _ _ _ :: _, [], _, h => h.elim
  | .fm _ _ _ :: _, [], _, h => h.elim

theorem callee_relF (hg : GOk GL w) {es : Nat → TypeId} {er : Nat → Nat → TypeId} {pl : Nat → Option Pl} {A : List ArgF} {args' : List Value} (h : ArgsW w es er pl A args' 0) (hA : A.length ≤ 900000000) :
    MRel (⟨w, fun _ => False, RcF w (plF A 0 pl) A.length⟩ : Wb GL) (RcF w (plF A 0 pl) A.length) (look (cMemF es er A 0)) w ∧ LR (V2 (RcF w (plF A 0 pl) A.length)) (cArgsF A 0) args' := by
  obtain ⟨h1, h2, h3⟩ := memF_at A args' 0 h
  have frz : ∀ b cs e fz, w.heap[b]? = some (.cells cs e fz) → Frz (RcF w (plF A 0 pl) A.length) b := fun b cs e fz hb => .inr ⟨b, ⟨cs, e, fz, hb⟩, rfl, rfl⟩
  refine ⟨⟨BelowX.refl _ _ _ hg (fun _ _ h => h), ?_, ?_, ?_, ?_, fun _ _ h _ _ => h, ?_, ?_⟩, h3 _ fun j p hp => .inl ⟨j, by have := (h2 j p hp).1; omega, rfl, hp⟩⟩
  · rintro i p p' (⟨j, hj, rfl, h4⟩ | ⟨b, hb, rfl, rfl⟩) (⟨j', hj', e, h5⟩ | ⟨b', hb', e, rfl⟩)
    · have : j = j' := by unfold argId at e; omega
      subst this
      rw [h4] at h5; exact Option.some.inj h5
    · unfold argId at e; omega
    · unfold argId at e; omega
    · have : b = b' := by omega
      rw [this]
  · rintro i j p q b _ _ _ _ _ blk hblk hown _ _
    obtain ⟨_, _, _, _, _, _, k, _⟩ := h1 _ _ hblk
    rw [k] at hown; simp at hown
  · intro i blk hi
    obtain ⟨j, p, _, hj, rfl, k2, k3, k4⟩ := h1 _ _ hi
    have hR : RcF w (plF A 0 pl) A.length (argId j) p := .inl ⟨j, by omega, rfl, k2⟩
    obtain ⟨cells, elem, own⟩ := blk
    simp only at k3 k4
    subst k3
    rcases k4 with ⟨ks, n, g, rfl, k5⟩ | ⟨ks, n, es', g, rfl, k5⟩
    · refine ⟨p, hR, ?_⟩
      cases hpa : p.a with
      | none => rw [hpa] at k5; show rowL ks g 0 n = []; rw [k5]; rfl
      | some b =>
        rw [hpa] at k5
        obtain ⟨cs, fz, m1, m2⟩ := k5
        exact ⟨cs, fz, m1, LP_plain (rowL_pl _ _ _ _) (by rw [show (Cells.row ks n g).list = rowL ks g 0 n from rfl, rowL_len]; exact m2), fun ho => by simp at ho⟩
    · refine ⟨p, hR, ?_⟩
      cases hpa : p.a with
      | none => rw [hpa] at k5; exact k5
      | some b =>
        rw [hpa] at k5
        obtain ⟨cs, fz, m1, m2⟩ := k5
        refine ⟨cs, fz, m1, fun j hj => ?_, fun _ => frz b cs elem fz m1, fun ho => by simp at ho⟩
        obtain ⟨u, m3, m4⟩ := m2 j hj
        exact ⟨u, m3, m4.at _ _⟩
  · rintro i p (⟨j, hj, rfl, h4⟩ | ⟨b, hb, rfl, rfl⟩) hvb
    · exact (h2 j p h4).2.1
    · omega
  · rintro i p b (⟨j, hj, rfl, h4⟩ | ⟨b', hb, rfl, rfl⟩) hpa
    · exact (h2 j p h4).2.2 b hpa
    · cases hpa; exact hb
  · rintro i p (⟨j, hj, rfl, h4⟩ | ⟨b', hb, rfl, rfl⟩) hge
    · unfold argId at hge; omega
    · refine ⟨by rw [Nat.add_sub_cancel_left], fun j q _ _ blk hblk => ?_⟩
      obtain ⟨_, _, _, _, _, _, k, _⟩ := h1 _ _ hblk
      exact k

end

theorem srcF_mono {mm fm : Nat → Option Blk} (hsub : ∀ b blk, mm b = some blk → fm b = some blk) {ks : List CK} {v : Value} {n : Nat} {g : Nat → Nat × (Nat → List Value)} (h : srcF mm ks v = (true, n, g)) : srcF fm ks v = (true, n, g) := by
  unfold srcF at h ⊢
  split at h
  · exact h
  · rename_i b off n0 c0
    split at h
    · rename_i blk hb
      rw [hsub b blk hb]
      obtain ⟨cells, e, own⟩ := blk
      simp only at h ⊢
      split at h
      · rename_i l
        simp only [Prod.mk.injEq, Bool.and_eq_true] at h ⊢
        obtain ⟨⟨⟨h1, h2⟩, h3⟩, h4, h5⟩ := h
        have key : ∀ x ∈ (l.drop off).take n0, srcB fm ks x = srcB mm ks x := fun x hx => by
          have := List.all_eq_true.1 h2 x hx
          have e : srcB mm ks x = (true, (srcB mm ks x).2) := Prod.ext this rfl
          have := srcB_mono hsub (n := (srcB mm ks x).2.1) (g := (srcB mm ks x).2.2) e
          rw [this, ← e]
        refine ⟨⟨⟨h1, List.all_eq_true.2 fun x hx => by rw [key x hx]; exact List.all_eq_true.1 h2 x hx⟩, h3⟩, h4, ?_⟩
        rw [← h5]
        funext j
        by_cases hj : j < ((l.drop off).take n0).length
        · have : ((l.drop off).take n0).getD j (.slice none 0 0) ∈ (l.drop off).take n0 := by
            simp only [List.getD, List.getElem?_eq_getElem hj, Option.getD_some]; exact List.getElem_mem hj
          rw [key _ this]
        · have : ((l.drop off).take n0).getD j (.slice none 0 0) = .slice none 0 0 := by simp only [List.getD, List.getElem?_eq_none (show ((l.drop off).take n0).length ≤ j by omega), Option.getD_none]
          rw [this]; rfl
      · exact h
      · simp at h
    · simp at h
  · simp at h

theorem AOkF_mono {mm fm : Nat → Option Blk} (hsub : ∀ b blk, mm b = some blk → fm b = some blk) : ∀ {vs : List Value} {A : List ArgF}, AOkF mm vs A → AOkF fm vs A
  | [], [], _ => trivial
  | _ :: _, .pl _ :: _, h => ⟨h.1, h.2.1, AOkF_mono hsub h.2.2⟩
  | _ :: _, .sl _ _ _ :: _, h => ⟨srcB_mono hsub h.1, AOkF_mono hsub h.2⟩
  | _ :: _, .fm _ _ _ :: _, h => ⟨srcF_mono hsub h.1, AOkF_mono hsub h.2⟩
  | [], .pl _ :: _, h => h.elim
  | [], .sl _ _ _ :: _, h => h.elim
  | [], .fm _ _ _ :: _, h => h.elim
  | _ :: _, [], h => h.elim

section
variable {P : Program} [Laid P]

theorem msum_atF {g : FuncId} {fn : Func} {c : Code} (hf : P.funcs[g]? = some fn) (hname : (fn.name == "runtime.NumGoroutine") = false) (hb : fn.body = some c) {fuel next : Nat}
    {w0 : Wb (lay P)} {R : Nat → Pl → Prop} {fm : Nat → Option Blk} {w : World} (hm : MRel w0 R fm w) {vs args' : List Value} (hl : LR (V2 R) vs args') {mm : Nat → Option Blk} (hsub : ∀ b blk, mm b = some blk → fm b = some blk) {id : Nat} (hlt : id < 60000)
    {A : List ArgF} (hA : AOkF mm vs A) (hlen : A.length ≤ fn.ntmps) {v : Value} {l : List (Nat × Blk)} (hl1 : l = [] ∨ ∃ blk, l = [(nid id 0, blk)]) (hnew : ∀ p ∈ l, (nid id 0 ≤ p.1 ∧ p.1 < nid id 8 → fm p.1 = none) ∧ (¬ (nid id 0 ≤ p.1 ∧ p.1 < nid id 8) → (mm p.1).isSome = true))
    (hev0 : ∀ es er, ∃ C, CfgOk P C c ∧ C.n = fn.ntmps ∧ fnMS C fuel fn c (cArgsF A 0) (cMemF es er A 0) next id = some (v, l)) (hnt : fn.ntmps ≤ 900000000 := by decide +kernel) :
    Invokes P g args'.toArray w fun v' w' => ∃ R' : Nat → Pl → Prop, (∀ i p, R i p → R' i p) ∧ V2 R' v v' ∧ MRel w0 R' (memF fm l) w' := by
  obtain ⟨es, er, pl, hW⟩ := argsW_of hm A vs args' 0 (AOkF_mono hsub hA) hl
  obtain ⟨hmC, hargs⟩ := callee_relF hm.below.gok hW (Nat.le_trans hlen hnt)
  obtain ⟨C, hC, hn, hev⟩ := hev0 es er
  exact msum_core2 hf hname hb hm hlt hl1 (fun p hp => (hnew p hp).1) hmC hargs (by rw [cArgsF_len]; exact hlen) hC hn hev

end
end Go.W

/-
  The engine, part 23: a statement's function, called from outside with slices of rows.
-/
namespace Go.W
open Go.RowKit (Below)

section
variable {P : Program} {w : World}

theorem lawF_sound [Laid P] {c : Code} {g : FuncId} {fn : Func} (hf : P.funcs[g]? = some fn) (hb : fn.body = some c) {A : List ArgF} {args' : List Value} {es : Nat → TypeId} {er : Nat → Nat → TypeId} {pl : Nat → Option Pl} (hW : ArgsW w es er pl A args' 0) (hg : GOk (lay P) w) (hlen : A.length ≤ fn.ntmps) {v : Value} (hv : pl2 v = true) (hnt : ∀ vs, v ≠ .tuple vs) {fuel next : Nat}
    (hev0 : ∀ es er, ∃ C, CfgOk P C c ∧ C.n = fn.ntmps ∧ fnA C fuel fn c (cArgsF A 0) (cMemF es er A 0) next = some v) (hbt : fn.ntmps ≤ 900000000 := by decide +kernel) : Calls P g args'.toArray w fun e w' => e = .returned v ∧ Below w.heap.size w w' := by
  obtain ⟨hmC, hargs⟩ := callee_relF hg hW (Nat.le_trans hlen hbt)
  obtain ⟨C, hC, hn, hev⟩ := hev0 es er
  unfold fnA at hev
  rw [evK_eq, oK_some] at hev
  obtain ⟨⟨e, s'⟩, he1, he2⟩ := hev
  refine Calls.mono (fn_mem hC hf hb hn hmC hargs (by rw [cArgsF_len]; exact hlen) he1 he2) ?_
  rintro ex w' ⟨R', v', rfl, hvv, hvt, hm'⟩
  have := (V2_plain hv).1 (hvv hnt)
  subst this
  exact ⟨rfl, hm'.below.below fun _ h => h⟩
end

section
variable {P : Program} {H : Type} {enc : TypeId × Value → H} {W : World} {base b0 : Nat} {held : Bool} {r : Reach} {t e b8 : TypeId} {v : Value} {d : DataW H} {p : List MemPlace}
open Go.ChangeShapes Go.WideShapes

theorem cell_place {a : Addr} {i : Nat} {x : Value} (h : W.cell? (a.add i) = some x) : ∃ cs e fz, W.heap[a.block]? = some (.cells cs e fz) ∧ cs.toList[a.off + i]? = some x := by
  unfold World.cell? at h
  rw [block_add] at h
  split at h
  · rename_i cs e fz hb
    split at h
    · cases h
    · have eo : (a.add i).off = a.off + i := by unfold Addr.add; split <;> simp_all
      rw [eo] at h
      exact ⟨cs, e, fz, hb, by rw [Array.getElem?_toList]; exact h⟩
  · cases h
theorem cell_spot {a : Addr} {x : Value} (h : W.cell? (a.add 0) = some x) : a.spot = none := by
  unfold World.cell? at h
  split at h
  · split at h
    · cases h
    · rename_i hs
      cases hsp : a.spot with
      | none => rfl
      | some s => exfalso; apply hs; unfold Addr.add; simp [hsp]
  · cases h

theorem row_at {fuel : Nat} {x : DataW H × List MemPlace} (he : P.underlying e = some (.slice b8)) (hb : P.underlying b8 = some (.int .u8)) (hc : P.cellsOf b8 = 1) (h : DataW.trod enc P W b0 (fun _ => true) held fuel e [v] = some x) :
    ∃ (er : TypeId) (n : Nat) (f : Nat → List Value), RowW W er kB n f v ∧ ∀ i, ∃ x : Nat, x < 256 ∧ f i = [.int .u8 (x : Int)] := by
  rcases open_ints he hb hc h with ⟨h1, _⟩ | ⟨a, len, cap, zs, h1, _, hl, _, hz, _, hcell, hwf⟩
  · simp only [List.cons.injEq, and_true] at h1
    exact ⟨0, 0, fun _ => [.int .u8 ((0 : Nat) : Int)], .inl ⟨rfl, none, h1⟩, fun _ => ⟨0, by omega, rfl⟩⟩
  · simp only [List.cons.injEq, and_true] at h1
    simp only [if_true] at hz
    have hall : ∀ i, ∃ x : Nat, x < 256 ∧ ([.int .u8 (zs.getD i 0)] : List Value) = [.int .u8 (x : Int)] := by
      intro i
      by_cases hi : i < zs.length
      · have hm : zs.getD i 0 ∈ zs := by
          simp only [List.getD, List.getElem?_eq_getElem hi, Option.getD_some]; exact List.getElem_mem hi
        obtain ⟨x, hx, e1⟩ := wf_u8 (hwf _ hm)
        exact ⟨x, hx, by simp only [e1]⟩
      · refine ⟨0, by omega, ?_⟩
        have : zs.getD i 0 = 0 := by simp [List.getD, List.getElem?_eq_none (show zs.length ≤ i by omega)]
        simp only [this]; rfl
    by_cases h0 : cap = 0
    · have hl0 : len = 0 := by omega
      subst h0 hl0
      exact ⟨0, 0, fun i => [.int .u8 (zs.getD i 0)], .inl ⟨rfl, some a, h1⟩, hall⟩
    · have hs := cell_spot (hcell 0 (by omega))
      obtain ⟨cs, er, fz, hb', _⟩ := cell_place (hcell 0 (by omega))
      refine ⟨er, len, fun i => [.int .u8 (zs.getD i 0)], .inr ⟨a.block, a.off, cap, cs, fz, ?_, hl, hb', ?_⟩, hall⟩
      · obtain ⟨bl, off, spot⟩ := a
        simp only at hs; subst hs; exact h1
      · rw [show len * kB.length = len from Nat.mul_one _]
        refine take_rowL len 0 _ (fun i hi => ?_)
        obtain ⟨cs', e', fz', k1, k2⟩ := cell_place (hcell i (by omega))
        rw [hb'] at k1
        cases k1
        rw [List.getElem?_drop, Nat.zero_add]; exact k2

theorem open_rows (ht : P.underlying t = some (.slice e)) (he : P.underlying e = some (.slice b8)) (hb : P.underlying b8 = some (.int .u8)) (hce : P.cellsOf e = 1) (hcb : P.cellsOf b8 = 1) (hv : Value.okWide P W r base t v) (h : DataW.Trod enc P W b0 (fun _ => true) held t v d p) :
    ∃ (n : Nat) (g : Nat → Nat × (Nat → List Value)) (q : Pl) (et : TypeId) (er : Nat → TypeId), FamW W et kB n er g q v ∧ ∀ j i, ∃ x : Nat, x < 256 ∧ (g j).2 i = [.int .u8 (x : Int)] := by
  obtain ⟨a0, len, cap, rfl⟩ := okWide_slice ht hv
  obtain ⟨fuel, hf⟩ := h
  rcases Go.Deep.open_slice1 ht hce hf with ⟨h1, _⟩ | ⟨a, len', cap', m, nf, V, D, Pl', h1, _, hl, _, hm, _, hx⟩
  · have h1 : Value.slice a0 len cap = .slice none 0 0 := by simpa [Value.cells] using h1
    cases h1
    exact ⟨0, fun _ => (0, fun _ => [.int .u8 ((0 : Nat) : Int)]), ⟨none, 0, 0⟩, 0, fun _ => 0, ⟨Nat.le_refl _, rfl, rfl, rfl, none, rfl⟩, fun _ _ => ⟨0, by omega, rfl⟩⟩
  · have h1 : Value.slice a0 len cap = .slice (some a) len' cap' := by simpa [Value.cells] using h1
    cases h1
    simp only [if_true] at hm
    subst hm
    by_cases h0 : m = 0
    · have hl0 : len = 0 := by omega
      subst h0 hl0
      exact ⟨0, fun _ => (0, fun _ => [.int .u8 ((0 : Nat) : Int)]), ⟨none, 0, 0⟩, 0, fun _ => 0, ⟨Nat.le_refl _, rfl, rfl, rfl, some a, rfl⟩, fun _ _ => ⟨0, by omega, rfl⟩⟩
    · have hs := cell_spot (hx 0 (by omega)).1
      obtain ⟨cs, et, fz, hb', _⟩ := cell_place (hx 0 (by omega)).1
      have row : ∀ j, ∃ y : TypeId × Nat × (Nat → List Value), (j < len → RowW W y.1 kB y.2.1 y.2.2 (V j)) ∧ ∀ i, ∃ x : Nat, x < 256 ∧ y.2.2 i = [.int .u8 (x : Int)] := by
        intro j
        by_cases hj : j < len
        · obtain ⟨er, n, f, k1, k2⟩ := row_at he hb hcb (hx j (by omega)).2
          exact ⟨(er, n, f), fun _ => k1, k2⟩
        · exact ⟨(0, 0, fun _ => [.int .u8 ((0 : Nat) : Int)]), fun h => absurd h hj, fun _ => ⟨0, by omega, rfl⟩⟩
      refine ⟨len, fun j => (Classical.choose (row j)).2, ⟨some a.block, a.off, m⟩, et, fun j => (Classical.choose (row j)).1, ⟨hl, ?_, cs, fz, hb', fun j hj => ?_⟩, fun j => (Classical.choose_spec (row j)).2⟩
      · obtain ⟨bl, off, spot⟩ := a
        simp only at hs; subst hs; rfl
      · obtain ⟨cs', e', fz', k1, k2⟩ := cell_place (hx j (by omega)).1
        rw [hb'] at k1
        cases k1
        exact ⟨V j, k2, (Classical.choose_spec (row j)).1 hj⟩
end
end Go.W

/-
  The engine, part 24: arguments that are slices of elements of several cells, opened.
-/
namespace Go.W

theorem take_rowK {ks : List CK} {k : Nat} {f : Nat → List Value} : ∀ (n lo : Nat) (l : List Value), (∀ i, i < n → (l.drop (i * k)).take k = nrmK ks (f (lo + i))) → l.take (n * k) = rowL ks f lo n
  | 0, _, l, _ => by rw [Nat.zero_mul]; rfl
  | n + 1, lo, l, h => by
    have h0 := h 0 (by omega)
    rw [Nat.zero_mul, List.drop_zero, Nat.add_zero] at h0
    have ih := take_rowK n (lo + 1) (l.drop k) (fun i hi => by
      have := h (i + 1) (by omega)
      rw [List.drop_drop, show k + i * k = (i + 1) * k by rw [Nat.add_mul, Nat.one_mul, Nat.add_comm], this, Nat.add_assoc, Nat.add_comm 1 i])
    rw [show (n + 1) * k = k + n * k by rw [Nat.add_mul, Nat.one_mul, Nat.add_comm], List.take_add, h0, ih]
    rfl

section
variable {P : Program} {H : Type} {enc : TypeId × Value → H} {W : World} {base b0 : Nat} {held : Bool} {r : Reach} {t e : TypeId} {v : Value} {d : DataW H} {p : List MemPlace}
open Go.ChangeShapes Go.WideShapes

theorem open_els {k : Nat} (hk : 0 < k) {ks : List CK} (hks : ks.length = k) {α : Type} (z0 : α) (F : α → List Value) (B : α → Prop) (hz0 : B z0) (hF : ∀ z, B z → nrmK ks (F z) = F z)
    (ht : P.underlying t = some (.slice e)) (hce : P.cellsOf e = k) (hel : ∀ fuel cs x, DataW.trod enc P W b0 (fun _ => true) held fuel e cs = some x → ∃ z, B z ∧ cs = F z)
    (hv : Value.okWide P W r base t v) (h : DataW.Trod enc P W b0 (fun _ => true) held t v d p) :
    ∃ (n : Nat) (Z : Nat → α), SrcW W ks n (fun i => F (Z i)) v ∧ ∀ i, B (Z i) := by
  obtain ⟨a0, len, cap, rfl⟩ := okWide_slice ht hv
  obtain ⟨fuel, hf⟩ := h
  rcases Go.Deep.open_slice ht hf with ⟨h1, _⟩ | ⟨a, len', cap', m, nf, D, Pl', h1, _, hl, _, hm, _, hx⟩
  · have h1 : Value.slice a0 len cap = .slice none 0 0 := by simpa [Value.cells] using h1
    cases h1
    exact ⟨0, fun _ => z0, ⟨⟨none, 0, 0⟩, 0, Nat.le_refl _, rfl, rfl, rfl, none, rfl⟩, fun _ => hz0⟩
  · have h1 : Value.slice a0 len cap = .slice (some a) len' cap' := by simpa [Value.cells] using h1
    cases h1
    simp only [if_true] at hm
    subst hm
    by_cases h0 : m = 0
    · have hl0 : len = 0 := by omega
      subst h0 hl0
      exact ⟨0, fun _ => z0, ⟨⟨none, 0, 0⟩, 0, Nat.le_refl _, rfl, rfl, rfl, some a, rfl⟩, fun _ => hz0⟩
    · rw [hce] at hx
      have cell : ∀ i, i < m → ∃ cs', cs'.length = k ∧ (∀ j, j < k → W.cell? (a.add (i * k + j)) = cs'[j]?) ∧ ∃ z, B z ∧ cs' = F z := by
        intro i hi
        obtain ⟨cs', h2, h3⟩ := hx i hi
        obtain ⟨_, h4, h5⟩ := World.cells?_some h2
        refine ⟨cs', h4, fun j hj => ?_, hel _ _ _ h3⟩
        have := h5 j hj
        rw [Go.Deep.add_add] at this
        exact this
      obtain ⟨c0, hc0, hc1, _⟩ := cell 0 (by omega)
      have hcell0 : W.cell? (a.add 0) = some (c0[0]'(by omega)) := by
        have := hc1 0 hk
        rw [Nat.zero_mul, Nat.add_zero, List.getElem?_eq_getElem (by omega)] at this
        exact this
      have hs := cell_spot hcell0
      obtain ⟨cs, et, fz, hb, _⟩ := cell_place hcell0
      have el : ∀ i, ∃ z, B z ∧ (i < len → ((cs.toList.drop a.off).drop (i * k)).take k = F z) := by
        intro i
        by_cases hi : i < len
        · obtain ⟨cs', g1, g2, z, g3, g4⟩ := cell i (by omega)
          refine ⟨z, g3, fun _ => ?_⟩
          rw [← g4]
          apply List.ext_getElem?
          intro j
          by_cases hj : j < k
          · have g5 := g2 j hj
            rw [List.getElem?_eq_getElem (show j < cs'.length by omega)] at g5
            obtain ⟨cs2, e2, fz2, k1, k2⟩ := cell_place g5
            rw [hb] at k1
            cases k1
            rw [List.getElem?_take_of_lt hj, List.getElem?_drop, List.getElem?_drop, List.getElem?_eq_getElem (show j < cs'.length by omega), ← k2]
          · rw [List.getElem?_eq_none (show cs'.length ≤ j by omega), List.getElem?_eq_none (by simp only [List.length_take]; omega)]
        · exact ⟨z0, hz0, fun h => absurd h hi⟩
      refine ⟨len, fun i => Classical.choose (el i), ⟨⟨some a.block, a.off, m⟩, et, hl, ?_, cs, fz, hb, ?_⟩, fun i => (Classical.choose_spec (el i)).1⟩
      · obtain ⟨bl, off, spot⟩ := a
        simp only at hs; subst hs; rfl
      · refine LP_plain (rowL_pl _ _ _ _) ?_
        rw [rowL_len, hks]
        refine take_rowK len 0 _ fun i hi => ?_
        rw [(Classical.choose_spec (el i)).2 hi, Nat.zero_add, hF _ (Classical.choose_spec (el i)).1]

def kN4 : List CK := [.i .u64, .i .u64, .i .u64, .i .u64]
def nmL (X : Nat) : List Value := [u64 (dig X 0), u64 (dig X 1), u64 (dig X 2), u64 (dig X 3)]
theorem open_nums {u : TypeId} (ht : P.underlying t = some (.slice e)) (he : P.underlying e = some (.array 4 u)) (hu : P.underlying u = some (.int .u64)) (hcu : P.cellsOf u = 1) (hce : P.cellsOf e = 4)
    (hv : Value.okWide P W r base t v) (h : DataW.Trod enc P W b0 (fun _ => true) held t v d p) :
    ∃ (n : Nat) (X : Nat → Nat), SrcW W kN4 n (fun i => nmL (X i)) v ∧ ∀ i, X i < 2 ^ 256 :=
  open_els (k := 4) (by omega) rfl 0 nmL (fun X => X < 2 ^ 256) (by decide) (fun _ _ => rfl) ht hce (fun fuel cs x hf => by
    obtain ⟨h1, h2⟩ := trod_row he hu hcu hce hf
    exact row_num h1 h2) hv h

def kN8 : List CK := [.i .u64, .i .u64, .i .u64, .i .u64, .i .u64, .i .u64, .i .u64, .i .u64]
def shL (X : Nat × Nat) : List Value := [u64 (dig X.1 0), u64 (dig X.1 1), u64 (dig X.1 2), u64 (dig X.1 3), u64 (dig X.2 0), u64 (dig X.2 1), u64 (dig X.2 2), u64 (dig X.2 3)]
theorem open_shares {u tn : TypeId} {fs : Array Field} (ht : P.underlying t = some (.slice e)) (he : P.underlying e = some (.struct fs)) (hfs : fs.toList.map (fun f => (f.offset, f.type)) = [(0, tn), (4, tn)]) (hn : P.underlying tn = some (.array 4 u)) (hu : P.underlying u = some (.int .u64)) (hcu : P.cellsOf u = 1) (hcn : P.cellsOf tn = 4) (hce : P.cellsOf e = 8)
    (hv : Value.okWide P W r base t v) (h : DataW.Trod enc P W b0 (fun _ => true) held t v d p) :
    ∃ (n : Nat) (X : Nat → Nat × Nat), SrcW W kN8 n (fun i => shL (X i)) v ∧ ∀ i, (X i).1 < 2 ^ 256 ∧ (X i).2 < 2 ^ 256 :=
  open_els (k := 8) (by omega) rfl (0, 0) shL (fun X => X.1 < 2 ^ 256 ∧ X.2 < 2 ^ 256) ⟨by decide, by decide⟩ (fun _ _ => rfl) ht hce (fun fuel cs x hf => by
    obtain ⟨xs, m, rfl, _, hl, hxl, hget⟩ := DataW.trod_struct he hf
    obtain ⟨f0, f1, rfl, o0, t0, o1, t1⟩ : ∃ f0 f1, fs = #[f0, f1] ∧ f0.offset = 0 ∧ f0.type = tn ∧ f1.offset = 4 ∧ f1.type = tn := by
      obtain ⟨l, rfl⟩ : ∃ l, fs = List.toArray l := ⟨fs.toList, by simp⟩
      rw [List.toList_toArray] at hfs
      have hl2 : l.length = 2 := by simpa using congrArg List.length hfs
      match l, hl2, hfs with
      | [f0, f1], _, hfs =>
        simp only [List.map_cons, List.map_nil, List.cons.injEq, Prod.mk.injEq, and_true] at hfs
        exact ⟨f0, f1, rfl, hfs.1.1, hfs.1.2, hfs.2.1, hfs.2.2⟩
    have hxl : xs.length = 2 := by rw [hxl]; rfl
    have g0 := hget 0 f0 rfl
    have g1 := hget 1 f1 rfl
    rw [o0, t0, hcn, List.drop_zero, List.getElem?_eq_getElem (by omega)] at g0
    rw [o1, t1, hcn, List.getElem?_eq_getElem (by omega)] at g1
    obtain ⟨a1, a2⟩ := trod_row hn hu hcu hcn g0
    obtain ⟨b1, b2⟩ := trod_row hn hu hcu hcn g1
    obtain ⟨X, hX, eX⟩ := row_num a1 a2
    obtain ⟨Y, hY, eY⟩ := row_num b1 b2
    refine ⟨(X, Y), ⟨hX, hY⟩, ?_⟩
    have h4 : (cs.drop 4).take 4 = cs.drop 4 := List.take_of_length_le (by rw [List.length_drop, hl, hce]; omega)
    rw [← List.take_append_drop 4 cs, eX, ← h4, eY]; rfl) hv h

def kI1 : List CK := [.i .i64]
def i1L (z : Int) : List Value := [.int .i64 z]
theorem open_i64s (ht : P.underlying t = some (.slice e)) (he : P.underlying e = some (.int .i64)) (hce : P.cellsOf e = 1)
    (hv : Value.okWide P W r base t v) (h : DataW.Trod enc P W b0 (fun _ => true) held t v d p) :
    ∃ (n : Nat) (Z : Nat → Int), SrcW W kI1 n (fun i => i1L (Z i)) v ∧ ∀ i, (Lit.int .i64 (Z i)).wf = true :=
  open_els (k := 1) (by omega) rfl 0 i1L (fun z => (Lit.int .i64 z).wf = true) (by decide) (fun _ _ => rfl) ht hce (fun fuel cs x hf => by
    obtain ⟨z, h1, _, h2⟩ := DataW.trod_int he hf
    exact ⟨z, h2, h1⟩) hv h
end
end Go.W
