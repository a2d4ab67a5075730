/-
  Several texts in one.
-/
import Derived.Test.YtafeeiodgfgepaaDoorEf
import Derived.Test.YtafeeiodgfgepaaDoorEd
import Derived.KernelRfl
/-
  The engine, part 21: calls with slices of slices, and calls that may write behind a row that is the caller's own.
-/
namespace Go.W
open Go.RowKit (Below)
section
variable {P : Program} [Laid P]
theorem msum_core2 {g : FuncId} {fn : Func} {c : Code} (hf : P.funcs[g]? = some fn) (hname : (fn.name == "runtime.NumGoroutine") = false) (hb : fn.body = some c) {fuel next : Nat}
    {w0 : Wb (lay P)} {R : Nat → Pl → Prop} {fm : Nat → Option Blk} {w : World} (hm : MRel w0 R fm w) {args' : List Value} {id : Nat} (hlt : id < 60000) {v : Value} {l : List (Nat × Blk)} (hl1 : l = [] ∨ ∃ blk, l = [(nid id 0, blk)]) (hnew : ∀ p ∈ l, nid id 0 ≤ p.1 ∧ p.1 < nid id 8 → fm p.1 = none)
    {A Rc : Nat → Pl → Prop} {memC : List (Nat × Blk)} {argsC : List Value} (hmC : MRel (⟨w, fun _ => False, A⟩ : Wb (lay P)) Rc (look memC) w) (hargs : LR (V2 Rc) argsC args') (hlen : argsC.length ≤ fn.ntmps)
    {C : Cfg} (hC : CfgOk P C c) (hn : C.n = fn.ntmps) (hev : fnMS C fuel fn c argsC memC next id = some (v, l)) :
    Invokes P g args'.toArray w fun v' w' => ∃ R' : Nat → Pl → Prop, (∀ i p, R i p → R' i p) ∧ V2 R' v v' ∧ MRel w0 R' (memF fm l) w' := by
  have hne : fn.name ≠ "runtime.NumGoroutine" := by simpa using hname
  have hrun : (callFunc g args'.toArray).run P w = .ok (.enter g args'.toArray) w := by simp [callFunc, hf, hne, hb]
  unfold Invokes
  rw [hrun]
  unfold fnMS fnM at hev
  rw [evK_eq, oK_some] at hev
  obtain ⟨⟨e, s'⟩, he1, he2⟩ := hev
  obtain ⟨vC, he3, he4⟩ : ∃ vC, endK C.T fn e s' some none = some vC ∧ expK C.T (look s'.mem) id vC (fun v l => some (v, l)) none = some (v, l) := by
    unfold endK at he2 ⊢
    have key : ∀ lr : List ResultVar, resK C.T s' lr (fun vs => oneK vs fun v => expK C.T (look s'.mem) id v (fun v l => some (v, l)) none) none = some (v, l) → ∃ vC, resK C.T s' lr (fun vs => oneK vs some) none = some vC ∧ expK C.T (look s'.mem) id vC (fun v l => some (v, l)) none = some (v, l) := by
      intro lr hh
      have e1 : resK C.T s' lr (fun vs => oneK vs fun v => expK C.T (look s'.mem) id v (fun v l => some (v, l)) none) none = oK (resK C.T s' lr (fun vs => oneK vs some) none) (fun v => expK C.T (look s'.mem) id v (fun v l => some (v, l)) none) none := by
        rw [resK_nat (fun o : Option Value => oK o (fun v => expK C.T (look s'.mem) id v (fun v l => some (v, l)) none) none)]
        congr 1; funext vs
        exact (oneK_nat (fun o : Option Value => oK o (fun v => expK C.T (look s'.mem) id v (fun v l => some (v, l)) none) none) vs some).symm
      rw [e1] at hh
      exact oK_some.1 hh
    cases e <;> simp only at he2 ⊢ <;> first | exact key _ he2 | (simp at he2; done)
  refine Calls.mono (fn_mem hC hf hb hn hmC hargs hlen he1 he3) ?_
  rintro ex w' ⟨R', v', rfl, hvv, hvt, hm'⟩
  show ∃ R2 : Nat → Pl → Prop, _ ∧ _ ∧ _
  have hX : ∀ k, ¬ (⟨w, fun _ => False, A⟩ : Wb (lay P)).X k := fun _ h => h
  have h8 : nid id 0 < nid id 8 := by unfold nid; omega
  have hbel : Below w.heap.size w w' := hm'.below.below hX
  have none_case : l = [] → expK C.T (look s'.mem) id vC (fun v l => some (v, l)) none = some (v, []) → ∃ R2 : Nat → Pl → Prop, (∀ i p, R i p → R2 i p) ∧ V2 R2 v v' ∧ MRel w0 R2 (memF fm []) w' := by
    intro _ he
    refine ⟨R, fun _ _ h => h, ?_, hm.world hbel⟩
    unfold expK at he
    split at he
    · rename_i ws
      obtain ⟨us, l2, hu, he⟩ := expL_some.1 he
      simp only [Option.some.injEq, Prod.mk.injEq] at he
      obtain ⟨rfl, rfl⟩ := he
      obtain ⟨vs', rfl, hl2⟩ := hvt ws rfl
      obtain ⟨j1, j2⟩ := expL_nil hm' hl2 hu
      refine ⟨vs', rfl, ?_⟩
      rw [j2, List.toList_toArray]
      exact (LR_plain (r := V1 R) (pl := pl1) (fun _ _ hv => V1_plain hv) j1).2 rfl
    · rename_i hnt
      have hv2 := hvv hnt
      have := expL_nil (T := C.T) (id := id) hm' (vs := [vC]) (us := [v]) (vs' := [v']) ⟨hv2, trivial⟩ (by
        simp only [expL]
        exact expV_some.2 ⟨v, [], he, rfl⟩)
      obtain ⟨j1, j2⟩ := this
      simp only [List.all_cons, List.all_nil, Bool.and_true] at j1
      simp only [List.cons.injEq, and_true] at j2
      subst j2
      exact V2_of_V1 ((V1_plain j1).2 rfl)
  rcases hl1 with rfl | ⟨blk, rfl⟩
  · exact none_case rfl he4
  · have hid : fm (nid id 0) = none := hnew _ (List.mem_singleton.2 rfl) ⟨Nat.le_refl _, h8⟩
    unfold expK at he4
    split at he4
    · rename_i ws
      obtain ⟨us, l2, hu, he⟩ := expL_some.1 he4
      simp only [Option.some.injEq, Prod.mk.injEq] at he
      obtain ⟨rfl, rfl⟩ := he
      obtain ⟨vs', rfl, hl2⟩ := hvt ws rfl
      obtain ⟨R2, j1, j2, j3⟩ := expL_ok hm hm' rfl hX hid hlt hl2 hu
      exact ⟨R2, j1, ⟨vs', rfl, by rw [List.toList_toArray]; exact j2⟩, j3⟩
    · rename_i hnt
      have hv2 := hvv hnt
      rcases expV_ok hm hm' rfl hX hid hlt hv2 he4 with ⟨h0, _⟩ | ⟨R2, j1, j2, _, j4⟩
      · simp at h0
      · exact ⟨R2, j1, j2, j4⟩
end
def RowW (w : World) (e : TypeId) (ks : List CK) (m : Nat) (f : Nat → List Value) (v : Value) : Prop :=
  (m = 0 ∧ Emp v) ∨ ∃ b d c cs fz, v = .slice (some ⟨b, d, none⟩) m c ∧ m ≤ c ∧ w.heap[b]? = some (.cells cs e fz) ∧ (cs.toList.drop d).take (m * ks.length) = rowL ks f 0 m
def srcF (mm : Nat → Option Blk) (ks : List CK) (v : Value) : Bool × Nat × (Nat → Nat × (Nat → List Value)) :=
  match v with
  | .slice none n c => (Nat.beq n 0 && Nat.beq c 0, 0, fun _ => (0, fun _ => []))
  | .slice (some ⟨b, off, none⟩) n c => (match mm b with
    | some blk => (match blk.cells with
      | .lst l => (Nat.ble (off + n) l.length && ((l.drop off).take n).all (fun x => (srcB mm ks x).1) && Nat.ble n c, n, fun j => (srcB mm ks (((l.drop off).take n).getD j (.slice none 0 0))).2)
      | .fam ks' m _ g => (Nat.beq off 0 && Nat.ble n m && ksEq ks' ks && Nat.ble n c, n, g)
      | _ => (false, 0, fun _ => (0, fun _ => [])))
    | none => (false, 0, fun _ => (0, fun _ => [])))
  | _ => (false, 0, fun _ => (0, fun _ => []))
def FamW (w : World) (e : TypeId) (ks : List CK) (n : Nat) (es : Nat → TypeId) (g : Nat → Nat × (Nat → List Value)) (p : Pl) (v' : Value) : Prop :=
  n ≤ p.c ∧ (match p.a with
    | some b => v' = .slice (some ⟨b, p.d, none⟩) n p.c ∧ ∃ cs fz, w.heap[b]? = some (.cells cs e fz) ∧ ∀ j, j < n → ∃ u, cs.toList[p.d + j]? = some u ∧ RowW w (es j) ks (g j).1 (g j).2 u
    | none => n = 0 ∧ p.c = 0 ∧ p.d = 0 ∧ Emp v')
section
variable {GL : Glob} {w0 : Wb GL} {R : Nat → Pl → Prop} {fm : Nat → Option Blk} {w : World}
theorem srcB_rowW (h : MRel w0 R fm w) {ks : List CK} {v v' : Value} {n : Nat} {g : Nat → List Value} (hq : srcB fm ks v = (true, n, g)) (hv : V2 R v v') : ∃ e, RowW w e ks n g v' := by
  obtain ⟨p, e, h1, h2⟩ := src_heap h hq hv
  refine ⟨e, ?_⟩
  cases hpa : p.a with
  | none => rw [hpa] at h2; exact .inl ⟨h2.1, h2.2.2.2⟩
  | some b =>
    rw [hpa] at h2
    obtain ⟨h3, cs, fz, h4, h5⟩ := h2
    refine .inr ⟨b, p.d, p.c, cs, fz, h3, h1, h4, ?_⟩
    have := (LR_plain (r := V0 R) (pl := pl0) (fun _ _ hv => V0_plain hv) (rowL_pl ks g n 0)).1 h5
    rw [rowL_len] at this; exact this
theorem fam_heap (h : MRel w0 R fm w) {ks : List CK} {v v' : Value} {n : Nat} {g : Nat → Nat × (Nat → List Value)} (hq : srcF fm ks v = (true, n, g)) (hv : V2 R v v') : ∃ (p : Pl) (e : TypeId) (es : Nat → TypeId), FamW w e ks n es g p v' := by
  unfold srcF at hq
  split at hq
  · rename_i n0 c
    simp only [Prod.mk.injEq, Bool.and_eq_true] at hq
    obtain ⟨⟨h0, h1⟩, rfl, _⟩ := hq
    have h0 := nbeq.1 h0; subst h0
    have h1 := nbeq.1 h1; subst h1
    have := (V2_plain (R := R) (v := .slice none 0 0) rfl).1 hv
    exact ⟨⟨none, 0, 0⟩, 0, fun _ => 0, Nat.le_refl _, rfl, rfl, rfl, none, this⟩
  · rename_i b off n0 c
    obtain ⟨p0, hp0, hsl⟩ := V2_slice hv
    split at hq
    · rename_i blk hb
      obtain ⟨cells, e, own⟩ := blk
      simp only at hq
      have place : n ≤ c → n0 = n → ∀ es : Nat → TypeId, (∀ bl, p0.a = some bl → n ≠ 0 → ∃ cs fz, w.heap[bl]? = some (.cells cs e fz) ∧ ∀ j, j < n → ∃ u, cs.toList[p0.d + off + j]? = some u ∧ RowW w (es j) ks (g j).1 (g j).2 u) → ∃ (p : Pl) (e : TypeId) (es : Nat → TypeId), FamW w e ks n es g p v' := by
        intro hnc hn es hcont
        subst hn
        have some_case : ∀ bl c', p0.a = some bl → c ≤ c' → v' = .slice (some ⟨bl, p0.d + off, none⟩) n0 c' → ∃ (p : Pl) (e : TypeId) (es : Nat → TypeId), FamW w e ks n0 es g p v' := by
          intro bl c' hpa hcc hv'
          by_cases h0 : n0 = 0
          · obtain ⟨cs, e1, fz, h1⟩ := h.there _ _ _ hp0 hpa
            exact ⟨⟨some bl, p0.d + off, c'⟩, e1, es, by simp only; omega, hv', cs, fz, h1, fun j hj => by omega⟩
          · obtain ⟨cs, fz, h1, h2⟩ := hcont bl hpa h0
            exact ⟨⟨some bl, p0.d + off, c'⟩, e, es, by simp only; omega, hv', cs, fz, h1, h2⟩
        cases hlo : loose b with
        | false =>
          obtain ⟨bl, h1, h2⟩ := SlOk_tight hlo hsl
          exact some_case bl c h1 (Nat.le_refl _) h2
        | true =>
          obtain ⟨rfl, h2, ⟨bl, h3, h4⟩ | ⟨h3, h4, h5, h6⟩⟩ := SlOk_loose hlo hsl
          · exact some_case bl p0.c h3 h2 (by rw [Nat.add_zero]; exact h4)
          · exact ⟨⟨none, 0, 0⟩, 0, es, by simp only; omega, h4, rfl, rfl, h6⟩
      split at hq
      · rename_i l
        simp only [Prod.mk.injEq, Bool.and_eq_true] at hq
        obtain ⟨⟨⟨h1, h2⟩, h3⟩, h4, h5⟩ := hq
        have h1 := Nat.le_of_ble_eq_true h1
        have h3 := Nat.le_of_ble_eq_true h3
        obtain ⟨p', hp', hcont⟩ := memOk_lst h hb
        have := h.func _ _ _ hp0 hp'; subst this
        cases hpa : p0.a with
        | none =>
          rw [hpa] at hcont
          have hcont : l = [] := hcont
          rw [hcont] at h1
          have h0 : n0 = 0 := by simp at h1; omega
          exact place (by omega) h4 (fun _ => 0) (fun bl hb2 => by rw [hpa] at hb2; simp at hb2)
        | some bl =>
          rw [hpa] at hcont
          obtain ⟨cs, fz, k1, k2, _⟩ := hcont
          have k2 : LP R l (cs.toList.drop p0.d) := k2
          have row : ∀ j, j < n0 → ∃ u e1, cs.toList[p0.d + off + j]? = some u ∧ RowW w e1 ks (g j).1 (g j).2 u := by
            intro j hj
            have hx : l[off + j]? = some (l[off + j]'(by omega)) := List.getElem?_eq_getElem (by omega)
            obtain ⟨u, k3, k4⟩ := LP_get k2 hx
            rw [List.getElem?_drop, ← Nat.add_assoc] at k3
            have hmem : (l[off + j]'(by omega)) ∈ (l.drop off).take n0 := by
              rw [List.mem_iff_getElem?]
              refine ⟨j, ?_⟩
              rw [List.getElem?_take_of_lt hj, List.getElem?_drop]; exact hx
            have h6 := List.all_eq_true.1 h2 _ hmem
            have h7 : ((l.drop off).take n0).getD j (.slice none 0 0) = l[off + j]'(by omega) := by
              simp only [List.getD, List.getElem?_take_of_lt hj, List.getElem?_drop, hx, Option.getD_some]
            obtain ⟨e1, k5⟩ := srcB_rowW h (n := (g j).1) (g := (g j).2) (by
              rw [← h5]
              simp only [h7]
              exact Prod.ext h6 rfl) (V2_of_V0 k4)
            exact ⟨u, e1, k3, k5⟩
          refine place (by omega) h4 (fun j => if hj : j < n0 then Classical.choose (Classical.choose_spec (row j hj)) else 0) (fun bl2 hb2 _ => ?_)
          rw [hpa] at hb2; cases hb2
          refine ⟨cs, fz, k1, fun j hj => ?_⟩
          have hj0 : j < n0 := by omega
          have hs := Classical.choose_spec (Classical.choose_spec (row j hj0))
          refine ⟨_, hs.1, ?_⟩
          rw [dif_pos hj0]; exact hs.2
      · rename_i ks' m es g'
        simp only [Prod.mk.injEq, Bool.and_eq_true] at hq
        obtain ⟨⟨⟨⟨h1, h2⟩, h2'⟩, h3⟩, h4, h5⟩ := hq
        have h1 := nbeq.1 h1
        have h2 := Nat.le_of_ble_eq_true h2
        have h2' := ksEq_eq h2'
        have h3 := Nat.le_of_ble_eq_true h3
        subst h1 h2' h5
        obtain ⟨p', hp', hcont⟩ : FamOk w0 R w b e own ks' m es g' := h.mem b _ hb
        have := h.func _ _ _ hp0 hp'; subst this
        refine place (by omega) h4 es (fun bl hpa _ => ?_)
        rw [hpa] at hcont
        obtain ⟨cs, fz, k1, k2, _⟩ := hcont
        refine ⟨cs, fz, k1, fun j hj => ?_⟩
        obtain ⟨u, k3, k4⟩ := k2 j (by omega)
        refine ⟨u, by rw [Nat.add_zero]; exact k3, ?_⟩
        rcases k4 with k4 | ⟨b2, d, c2, cs2, fz2, o1, o2, _, o4, o5⟩
        · exact .inl k4
        · exact .inr ⟨b2, d, c2, cs2, fz2, o1, o2, o4, o5⟩
      · simp at hq
    · simp at hq
  · simp at hq
end
inductive ArgF where
  | pl (v : Value)
  | sl (ks : List CK) (n : Nat) (g : Nat → List Value)
  | fm (ks : List CK) (n : Nat) (g : Nat → Nat × (Nat → List Value))
def cArgsF : List ArgF → Nat → List Value
  | [], _ => []
  | .pl v :: r, k => v :: cArgsF r (k + 1)
  | .sl _ n _ :: r, k => .slice (some ⟨argId k, 0, none⟩) n n :: cArgsF r (k + 1)
  | .fm _ n _ :: r, k => .slice (some ⟨argId k, 0, none⟩) n n :: cArgsF r (k + 1)
def cMemF (es : Nat → TypeId) (er : Nat → Nat → TypeId) : List ArgF → Nat → List (Nat × Blk)
  | [], _ => []
  | .pl _ :: r, k => cMemF es er r (k + 1)
  | .sl ks n g :: r, k => (argId k, ⟨.row ks n g, es k, false⟩) :: cMemF es er r (k + 1)
  | .fm ks n g :: r, k => (argId k, ⟨.fam ks n (er k) g, es k, false⟩) :: cMemF es er r (k + 1)
def ArgsW (w : World) (es : Nat → TypeId) (er : Nat → Nat → TypeId) (pl : Nat → Option Pl) : List ArgF → List Value → Nat → Prop
  | [], [], _ => True
  | .pl v :: r, v' :: args', k => pl2 v = true ∧ v' = v ∧ ArgsW w es er pl r args' (k + 1)
  | .sl ks n g :: r, v' :: args', k => (∃ p, pl k = some p ∧ n ≤ p.c ∧ (match p.a with
      | some b => v' = .slice (some ⟨b, p.d, none⟩) n p.c ∧ ∃ cs fz, w.heap[b]? = some (.cells cs (es k) fz) ∧ (cs.toList.drop p.d).take (n * ks.length) = rowL ks g 0 n
      | none => n = 0 ∧ p.c = 0 ∧ p.d = 0 ∧ Emp v')) ∧ ArgsW w es er pl r args' (k + 1)
  | .fm ks n g :: r, v' :: args', k => (∃ p, pl k = some p ∧ FamW w (es k) ks n (er k) g p v') ∧ ArgsW w es er pl r args' (k + 1)
  | _, _, _ => False
def AOkF (mm : Nat → Option Blk) : List Value → List ArgF → Prop
  | [], [] => True
  | v :: vs, .pl u :: A => v = u ∧ pl2 u = true ∧ AOkF mm vs A
  | v :: vs, .sl ks n g :: A => srcB mm ks v = (true, n, g) ∧ AOkF mm vs A
  | v :: vs, .fm ks n g :: A => srcF mm ks v = (true, n, g) ∧ AOkF mm vs A
  | _, _ => False
def RcF (w : World) (pl : Nat → Option Pl) (N : Nat) (i : Nat) (p : Pl) : Prop :=
  (∃ j, j < N ∧ i = argId j ∧ pl j = some p) ∨ (∃ b, (∃ cs e fz, w.heap[b]? = some (.cells cs e fz)) ∧ i = 1000000000 + b ∧ p = ⟨some b, 0, 0⟩)
theorem RowW.at {w : World} {e : TypeId} {ks : List CK} {m : Nat} {f : Nat → List Value} {v : Value} (h : RowW w e ks m f v) (pl : Nat → Option Pl) (N : Nat) : RowAt (RcF w pl N) w e ks m f v := by
  rcases h with h | ⟨b, d, c, cs, fz, h1, h2, h3, h4⟩
  · exact .inl h
  · exact .inr ⟨b, d, c, cs, fz, h1, h2, .inr ⟨b, ⟨cs, e, fz, h3⟩, rfl, rfl⟩, h3, h4⟩
theorem argsW_congr {w : World} {es es' : Nat → TypeId} {er er' : Nat → Nat → TypeId} {pl pl' : Nat → Option Pl} : ∀ (A : List ArgF) (args' : List Value) (k : Nat), (∀ j, k ≤ j → es j = es' j ∧ er j = er' j ∧ pl j = pl' j) → ArgsW w es er pl A args' k → ArgsW w es' er' pl' A args' k
  | [], [], _, _, h => h
  | .pl v :: r, v' :: args', k, he, h => ⟨h.1, h.2.1, argsW_congr r args' (k + 1) (fun j hj => he j (by omega)) h.2.2⟩
  | .sl ks n g :: r, v' :: args', k, he, h => by
    obtain ⟨⟨p, h1, h2⟩, h3⟩ := h
    refine ⟨⟨p, by rw [← (he k (Nat.le_refl _)).2.2]; exact h1, ?_⟩, argsW_congr r args' (k + 1) (fun j hj => he j (by omega)) h3⟩
    rw [← (he k (Nat.le_refl _)).1]; exact h2
  | .fm ks n g :: r, v' :: args', k, he, h => by
    obtain ⟨⟨p, h1, h2⟩, h3⟩ := h
    refine ⟨⟨p, by rw [← (he k (Nat.le_refl _)).2.2]; exact h1, ?_⟩, argsW_congr r args' (k + 1) (fun j hj => he j (by omega)) h3⟩
    rw [← (he k (Nat.le_refl _)).1, ← (he k (Nat.le_refl _)).2.1]; exact h2
  | [], _ :: _, _, _, h => h.elim
  | .pl _ :: _, [], _, _, h => h.elim
  | .sl _ _ _ :: _, [], _, _, h => h.elim
  | .fm _ _ _ :: _, [], _, _, h => h.elim
def setAt {α : Type} (k : Nat) (x : α) (f : Nat → α) (j : Nat) : α := if j = k then x else f j
section
variable {GL : Glob} {w0 : Wb GL} {R : Nat → Pl → Prop} {fm : Nat → Option Blk} {w : World}
theorem argsW_of (h : MRel w0 R fm w) : ∀ (A : List ArgF) (vs args' : List Value) (k : Nat), AOkF fm vs A → LR (V2 R) vs args' → ∃ es er pl, ArgsW w es er pl A args' k
  | [], [], [], _, _, _ => ⟨fun _ => 0, fun _ _ => 0, fun _ => none, trivial⟩
  | .pl u :: A, v :: vs, v' :: args', k, hA, hl => by
    obtain ⟨rfl, hp, hA⟩ := hA
    obtain ⟨es, er, pl, h1⟩ := argsW_of h A vs args' (k + 1) hA hl.2
    exact ⟨es, er, pl, hp, (V2_plain hp).1 hl.1, h1⟩
  | .sl ks n g :: A, v :: vs, v' :: args', k, hA, hl => by
    obtain ⟨es, er, pl, h1⟩ := argsW_of h A vs args' (k + 1) hA.2 hl.2
    obtain ⟨p, e, hc, hm⟩ := src_heap h hA.1 hl.1
    refine ⟨setAt k e es, er, setAt k (some p) pl, ⟨p, by simp [setAt], hc, ?_⟩, argsW_congr A args' (k + 1) (fun j hj => ⟨by simp [setAt]; omega, rfl, by simp [setAt]; omega⟩) h1⟩
    cases hpa : p.a with
    | none => rw [hpa] at hm; exact hm
    | some b =>
      rw [hpa] at hm
      obtain ⟨h2, cs, fz, h3, h4⟩ := hm
      refine ⟨h2, cs, fz, by simp only [setAt, if_pos]; exact h3, ?_⟩
      have := (LR_plain (r := V0 R) (pl := pl0) (fun _ _ hv => V0_plain hv) (rowL_pl ks g n 0)).1 h4
      rw [rowL_len] at this; exact this
  | .fm ks n g :: A, v :: vs, v' :: args', k, hA, hl => by
    obtain ⟨es, er, pl, h1⟩ := argsW_of h A vs args' (k + 1) hA.2 hl.2
    obtain ⟨p, e, es1, hm⟩ := fam_heap h hA.1 hl.1
    refine ⟨setAt k e es, setAt k es1 er, setAt k (some p) pl, ⟨p, by simp [setAt], by simp only [setAt, if_pos]; exact hm⟩, argsW_congr A args' (k + 1) (fun j hj => ⟨by simp [setAt]; omega, by simp [setAt]; omega, by simp [setAt]; omega⟩) h1⟩
  | [], _ :: _, _, _, hA, _ => hA.elim
  | .pl _ :: _, [], _, _, hA, _ => hA.elim
  | .sl _ _ _ :: _, [], _, _, hA, _ => hA.elim
  | .fm _ _ _ :: _, [], _, _, hA, _ => hA.elim
  | [], [], _ :: _, _, _, hl => hl.elim
  | .pl _ :: _, _ :: _, [], _, _, hl => hl.elim
  | .sl _ _ _ :: _, _ :: _, [], _, _, hl => hl.elim
  | .fm _ _ _ :: _, _ :: _, [], _, _, hl => hl.elim
theorem cArgsF_len : ∀ (A : List ArgF) (k : Nat), (cArgsF A k).length = A.length
  | [], _ => rfl
  | .pl _ :: r, k => by simp [cArgsF, cArgsF_len r]
  | .sl _ _ _ :: r, k => by simp [cArgsF, cArgsF_len r]
  | .fm _ _ _ :: r, k => by simp [cArgsF, cArgsF_len r]
def plF : List ArgF → Nat → (Nat → Option Pl) → Nat → Option Pl
  | [], _, _ => fun _ => none
  | .pl _ :: r, k, pl => plF r (k + 1) pl
  | .sl _ _ _ :: r, k, pl => fun j => if j = k then pl k else plF r (k + 1) pl j
  | .fm _ _ _ :: r, k, pl => fun j => if j = k then pl k else plF r (k + 1) pl j
theorem plF_lo : ∀ (A : List ArgF) (k : Nat) (pl : Nat → Option Pl) (j : Nat), j < k → plF A k pl j = none
  | [], _, _, _, _ => rfl
  | .pl _ :: r, k, pl, j, h => plF_lo r (k + 1) pl j (by omega)
  | .sl _ _ _ :: r, k, pl, j, h => by simp only [plF]; rw [if_neg (by omega)]; exact plF_lo r (k + 1) pl j (by omega)
  | .fm _ _ _ :: r, k, pl, j, h => by simp only [plF]; rw [if_neg (by omega)]; exact plF_lo r (k + 1) pl j (by omega)
theorem memF_at {w : World} {es : Nat → TypeId} {er : Nat → Nat → TypeId} {pl : Nat → Option Pl} : ∀ (A : List ArgF) (args' : List Value) (k : Nat), ArgsW w es er pl A args' k →
    (∀ i blk, look (cMemF es er A k) i = some blk → ∃ j p, k ≤ j ∧ j < k + A.length ∧ i = argId j ∧ plF A k pl j = some p ∧ blk.own = false ∧
      ((∃ ks n g, blk.cells = .row ks n g ∧ (match p.a with
        | some b => ∃ cs fz, w.heap[b]? = some (.cells cs blk.elem fz) ∧ (cs.toList.drop p.d).take (n * ks.length) = rowL ks g 0 n
        | none => n = 0)) ∨
       (∃ ks n es' g, blk.cells = .fam ks n es' g ∧ (match p.a with
        | some b => ∃ cs fz, w.heap[b]? = some (.cells cs blk.elem fz) ∧ ∀ j, j < n → ∃ u, cs.toList[p.d + j]? = some u ∧ RowW w (es' j) ks (g j).1 (g j).2 u
        | none => n = 0)))) ∧
    (∀ j p, plF A k pl j = some p → j < k + A.length ∧ (look (cMemF es er A k) (argId j)).isSome = true ∧ ∀ b, p.a = some b → ∃ cs e fz, w.heap[b]? = some (.cells cs e fz)) ∧
    ∀ (R' : Nat → Pl → Prop), (∀ j p, plF A k pl j = some p → R' (argId j) p) → LR (V2 R') (cArgsF A k) args'
  | [], [], _, _ => ⟨fun i blk hi => by simp [cMemF, look] at hi, fun j p hp => by simp [plF] at hp, fun _ _ => trivial⟩
  | .pl v :: A, v' :: args', k, h => by
    obtain ⟨h1, rfl, h2⟩ := h
    obtain ⟨k1, k2, k3⟩ := memF_at A args' (k + 1) h2
    refine ⟨fun i blk hi => ?_, fun j p hp => ?_, fun R' hR => ⟨(V2_plain h1).2 rfl, k3 R' hR⟩⟩
    · obtain ⟨j, p, m1, m2, m3⟩ := k1 i blk hi
      exact ⟨j, p, by omega, by simp only [List.length_cons]; omega, m3⟩
    · obtain ⟨m1, m2⟩ := k2 j p hp
      exact ⟨by simp only [List.length_cons]; omega, m2⟩
  | .sl ks n g :: A, v' :: args', k, h => by
    obtain ⟨⟨p, h1, hc, h2⟩, h3⟩ := h
    obtain ⟨k1, k2, k3⟩ := memF_at A args' (k + 1) h3
    have hpk : plF (.sl ks n g :: A) k pl k = some p := by simp only [plF, if_pos]; exact h1
    have hpn : ∀ j, j ≠ k → plF (.sl ks n g :: A) k pl j = plF A (k + 1) pl j := fun j hj => by simp only [plF, if_neg hj]
    refine ⟨fun i blk hi => ?_, fun j q hq => ?_, fun R' hR => ⟨?_, k3 R' fun j q hq => ?_⟩⟩
    · rw [cMemF, look_cons] at hi
      by_cases e1 : argId k = i
      · subst e1
        rw [upd_same] at hi
        cases hi
        refine ⟨k, p, Nat.le_refl _, by simp only [List.length_cons]; omega, rfl, hpk, rfl, .inl ⟨ks, n, g, rfl, ?_⟩⟩
        cases hpa : p.a with
        | none => rw [hpa] at h2; exact h2.1
        | some b => rw [hpa] at h2; exact h2.2
      · rw [upd_ne _ _ e1] at hi
        obtain ⟨j, q, m1, m2, m3, m4, m5⟩ := k1 i blk hi
        exact ⟨j, q, by omega, by simp only [List.length_cons]; omega, m3, by rw [hpn j (by omega)]; exact m4, m5⟩
    · rw [cMemF, look_cons]
      by_cases e1 : j = k
      · subst e1
        rw [hpk] at hq; cases hq
        rw [upd_same]
        refine ⟨by simp only [List.length_cons]; omega, rfl, fun b hb => ?_⟩
        rw [hb] at h2
        obtain ⟨_, cs, fz, m1, _⟩ := h2
        exact ⟨cs, _, fz, m1⟩
      · rw [hpn j e1] at hq
        rw [upd_ne _ _ (by unfold argId; omega)]
        obtain ⟨m1, m2⟩ := k2 j q hq
        exact ⟨by simp only [List.length_cons]; omega, m2⟩
    · refine slice_V2 (q := p) (argId_loose k) (hR k p hpk) hc ?_
      cases hpa : p.a with
      | none => rw [hpa] at h2; exact ⟨h2.1, h2.2.1, h2.2.2.2⟩
      | some b => rw [hpa] at h2; exact h2.1
    · have hjk : j ≠ k := fun e => by rw [e, plF_lo A (k + 1) pl k (by omega)] at hq; simp at hq
      exact hR j q (by rw [hpn j hjk]; exact hq)
  | .fm ks n g :: A, v' :: args', k, h => by
    obtain ⟨⟨p, h1, hc, h2⟩, h3⟩ := h
    obtain ⟨k1, k2, k3⟩ := memF_at A args' (k + 1) h3
    have hpk : plF (.fm ks n g :: A) k pl k = some p := by simp only [plF, if_pos]; exact h1
    have hpn : ∀ j, j ≠ k → plF (.fm ks n g :: A) k pl j = plF A (k + 1) pl j := fun j hj => by simp only [plF, if_neg hj]
    refine ⟨fun i blk hi => ?_, fun j q hq => ?_, fun R' hR => ⟨?_, k3 R' fun j q hq => ?_⟩⟩
    · rw [cMemF, look_cons] at hi
      by_cases e1 : argId k = i
      · subst e1
        rw [upd_same] at hi
        cases hi
        refine ⟨k, p, Nat.le_refl _, by simp only [List.length_cons]; omega, rfl, hpk, rfl, .inr ⟨ks, n, er k, g, rfl, ?_⟩⟩
        cases hpa : p.a with
        | none => rw [hpa] at h2; exact h2.1
        | some b => rw [hpa] at h2; exact h2.2
      · rw [upd_ne _ _ e1] at hi
        obtain ⟨j, q, m1, m2, m3, m4, m5⟩ := k1 i blk hi
        exact ⟨j, q, by omega, by simp only [List.length_cons]; omega, m3, by rw [hpn j (by omega)]; exact m4, m5⟩
    · rw [cMemF, look_cons]
      by_cases e1 : j = k
      · subst e1
        rw [hpk] at hq; cases hq
        rw [upd_same]
        refine ⟨by simp only [List.length_cons]; omega, rfl, fun b hb => ?_⟩
        rw [hb] at h2
        obtain ⟨_, cs, fz, m1, _⟩ := h2
        exact ⟨cs, _, fz, m1⟩
      · rw [hpn j e1] at hq
        rw [upd_ne _ _ (by unfold argId; omega)]
        obtain ⟨m1, m2⟩ := k2 j q hq
        exact ⟨by simp only [List.length_cons]; omega, m2⟩
    · refine slice_V2 (q := p) (argId_loose k) (hR k p hpk) hc ?_
      cases hpa : p.a with
      | none => rw [hpa] at h2; exact ⟨h2.1, h2.2.1, h2.2.2.2⟩
      | some b => rw [hpa] at h2; exact h2.1
    · have hjk : j ≠ k := fun e => by rw [e, plF_lo A (k + 1) pl k (by omega)] at hq; simp at hq
      exact hR j q (by rw [hpn j hjk]; exact hq)
  | [], _ :: _, _, h => h.elim
  | .pl _ :: _, [], _, h => h.elim
  | .sl _ _ _ :: _, [], _, h => h.elim
  | .fm _ _ _ :: _, [], _, h => h.elim
theorem callee_relF (hg : GOk GL w) {es : Nat → TypeId} {er : Nat → Nat → TypeId} {pl : Nat → Option Pl} {A : List ArgF} {args' : List Value} (h : ArgsW w es er pl A args' 0) (hA : A.length ≤ 900000000) :
    MRel (⟨w, fun _ => False, RcF w (plF A 0 pl) A.length⟩ : Wb GL) (RcF w (plF A 0 pl) A.length) (look (cMemF es er A 0)) w ∧ LR (V2 (RcF w (plF A 0 pl) A.length)) (cArgsF A 0) args' := by
  obtain ⟨h1, h2, h3⟩ := memF_at A args' 0 h
  have frz : ∀ b cs e fz, w.heap[b]? = some (.cells cs e fz) → Frz (RcF w (plF A 0 pl) A.length) b := fun b cs e fz hb => .inr ⟨b, ⟨cs, e, fz, hb⟩, rfl, rfl⟩
  refine ⟨⟨BelowX.refl _ _ _ hg (fun _ _ h => h), ?_, ?_, ?_, ?_, fun _ _ h _ _ => h, ?_, ?_⟩, h3 _ fun j p hp => .inl ⟨j, by have := (h2 j p hp).1; omega, rfl, hp⟩⟩
  · rintro i p p' (⟨j, hj, rfl, h4⟩ | ⟨b, hb, rfl, rfl⟩) (⟨j', hj', e, h5⟩ | ⟨b', hb', e, rfl⟩)
    · have : j = j' := by unfold argId at e; omega
      subst this
      rw [h4] at h5; exact Option.some.inj h5
    · unfold argId at e; omega
    · unfold argId at e; omega
    · have : b = b' := by omega
      rw [this]
  · rintro i j p q b _ _ _ _ _ blk hblk hown _ _
    obtain ⟨_, _, _, _, _, _, k, _⟩ := h1 _ _ hblk
    rw [k] at hown; simp at hown
  · intro i blk hi
    obtain ⟨j, p, _, hj, rfl, k2, k3, k4⟩ := h1 _ _ hi
    have hR : RcF w (plF A 0 pl) A.length (argId j) p := .inl ⟨j, by omega, rfl, k2⟩
    obtain ⟨cells, elem, own⟩ := blk
    simp only at k3 k4
    subst k3
    rcases k4 with ⟨ks, n, g, rfl, k5⟩ | ⟨ks, n, es', g, rfl, k5⟩
    · refine ⟨p, hR, ?_⟩
      cases hpa : p.a with
      | none => rw [hpa] at k5; show rowL ks g 0 n = []; rw [k5]; rfl
      | some b =>
        rw [hpa] at k5
        obtain ⟨cs, fz, m1, m2⟩ := k5
        exact ⟨cs, fz, m1, LP_plain (rowL_pl _ _ _ _) (by rw [show (Cells.row ks n g).list = rowL ks g 0 n from rfl, rowL_len]; exact m2), fun ho => by simp at ho⟩
    · refine ⟨p, hR, ?_⟩
      cases hpa : p.a with
      | none => rw [hpa] at k5; exact k5
      | some b =>
        rw [hpa] at k5
        obtain ⟨cs, fz, m1, m2⟩ := k5
        refine ⟨cs, fz, m1, fun j hj => ?_, fun _ => frz b cs elem fz m1, fun ho => by simp at ho⟩
        obtain ⟨u, m3, m4⟩ := m2 j hj
        exact ⟨u, m3, m4.at _ _⟩
  · rintro i p (⟨j, hj, rfl, h4⟩ | ⟨b, hb, rfl, rfl⟩) hvb
    · exact (h2 j p h4).2.1
    · omega
  · rintro i p b (⟨j, hj, rfl, h4⟩ | ⟨b', hb, rfl, rfl⟩) hpa
    · exact (h2 j p h4).2.2 b hpa
    · cases hpa; exact hb
  · rintro i p (⟨j, hj, rfl, h4⟩ | ⟨b', hb, rfl, rfl⟩) hge
    · unfold argId at hge; omega
    · refine ⟨by rw [Nat.add_sub_cancel_left], fun j q _ _ blk hblk => ?_⟩
      obtain ⟨_, _, _, _, _, _, k, _⟩ := h1 _ _ hblk
      exact k
end
theorem srcF_mono {mm fm : Nat → Option Blk} (hsub : ∀ b blk, mm b = some blk → fm b = some blk) {ks : List CK} {v : Value} {n : Nat} {g : Nat → Nat × (Nat → List Value)} (h : srcF mm ks v = (true, n, g)) : srcF fm ks v = (true, n, g) := by
  unfold srcF at h ⊢
  split at h
  · exact h
  · rename_i b off n0 c0
    split at h
    · rename_i blk hb
      rw [hsub b blk hb]
      obtain ⟨cells, e, own⟩ := blk
      simp only at h ⊢
      split at h
      · rename_i l
        simp only [Prod.mk.injEq, Bool.and_eq_true] at h ⊢
        obtain ⟨⟨⟨h1, h2⟩, h3⟩, h4, h5⟩ := h
        have key : ∀ x ∈ (l.drop off).take n0, srcB fm ks x = srcB mm ks x := fun x hx => by
          have := List.all_eq_true.1 h2 x hx
          have e : srcB mm ks x = (true, (srcB mm ks x).2) := Prod.ext this rfl
          have := srcB_mono hsub (n := (srcB mm ks x).2.1) (g := (srcB mm ks x).2.2) e
          rw [this, ← e]
        refine ⟨⟨⟨h1, List.all_eq_true.2 fun x hx => by rw [key x hx]; exact List.all_eq_true.1 h2 x hx⟩, h3⟩, h4, ?_⟩
        rw [← h5]
        funext j
        by_cases hj : j < ((l.drop off).take n0).length
        · have : ((l.drop off).take n0).getD j (.slice none 0 0) ∈ (l.drop off).take n0 := by
            simp only [List.getD, List.getElem?_eq_getElem hj, Option.getD_some]; exact List.getElem_mem hj
          rw [key _ this]
        · have : ((l.drop off).take n0).getD j (.slice none 0 0) = .slice none 0 0 := by simp only [List.getD, List.getElem?_eq_none (show ((l.drop off).take n0).length ≤ j by omega), Option.getD_none]
          rw [this]; rfl
      · exact h
      · simp at h
    · simp at h
  · simp at h
theorem AOkF_mono {mm fm : Nat → Option Blk} (hsub : ∀ b blk, mm b = some blk → fm b = some blk) : ∀ {vs : List Value} {A : List ArgF}, AOkF mm vs A → AOkF fm vs A
  | [], [], _ => trivial
  | _ :: _, .pl _ :: _, h => ⟨h.1, h.2.1, AOkF_mono hsub h.2.2⟩
  | _ :: _, .sl _ _ _ :: _, h => ⟨srcB_mono hsub h.1, AOkF_mono hsub h.2⟩
  | _ :: _, .fm _ _ _ :: _, h => ⟨srcF_mono hsub h.1, AOkF_mono hsub h.2⟩
  | [], .pl _ :: _, h => h.elim
  | [], .sl _ _ _ :: _, h => h.elim
  | [], .fm _ _ _ :: _, h => h.elim
  | _ :: _, [], h => h.elim
section
variable {P : Program} [Laid P]
theorem msum_atF {g : FuncId} {fn : Func} {c : Code} (hf : P.funcs[g]? = some fn) (hname : (fn.name == "runtime.NumGoroutine") = false) (hb : fn.body = some c) {fuel next : Nat}
    {w0 : Wb (lay P)} {R : Nat → Pl → Prop} {fm : Nat → Option Blk} {w : World} (hm : MRel w0 R fm w) {vs args' : List Value} (hl : LR (V2 R) vs args') {mm : Nat → Option Blk} (hsub : ∀ b blk, mm b = some blk → fm b = some blk) {id : Nat} (hlt : id < 60000)
    {A : List ArgF} (hA : AOkF mm vs A) (hlen : A.length ≤ fn.ntmps) {v : Value} {l : List (Nat × Blk)} (hl1 : l = [] ∨ ∃ blk, l = [(nid id 0, blk)]) (hnew : ∀ p ∈ l, (nid id 0 ≤ p.1 ∧ p.1 < nid id 8 → fm p.1 = none) ∧ (¬ (nid id 0 ≤ p.1 ∧ p.1 < nid id 8) → (mm p.1).isSome = true))
    (hev0 : ∀ es er, ∃ C, CfgOk P C c ∧ C.n = fn.ntmps ∧ fnMS C fuel fn c (cArgsF A 0) (cMemF es er A 0) next id = some (v, l)) (hnt : fn.ntmps ≤ 900000000 := by decide +kernel) :
    Invokes P g args'.toArray w fun v' w' => ∃ R' : Nat → Pl → Prop, (∀ i p, R i p → R' i p) ∧ V2 R' v v' ∧ MRel w0 R' (memF fm l) w' := by
  obtain ⟨es, er, pl, hW⟩ := argsW_of hm A vs args' 0 (AOkF_mono hsub hA) hl
  obtain ⟨hmC, hargs⟩ := callee_relF hm.below.gok hW (Nat.le_trans hlen hnt)
  obtain ⟨C, hC, hn, hev⟩ := hev0 es er
  exact msum_core2 hf hname hb hm hlt hl1 (fun p hp => (hnew p hp).1) hmC hargs (by rw [cArgsF_len]; exact hlen) hC hn hev
end
end Go.W
/-
  The engine, part 22: calls that may write behind a row that is the caller's own; what they answer is plain.
-/
namespace Go.W
open Go.RowKit (Below)
def fnO (C : Cfg) (fuel : Nat) (fn : Func) (c : Code) (args : List Value) (mem : List (Nat × Blk)) (next i0 : Nat) : Option (Value × Option Blk) :=
  evK C fuel [] c ⟨argSlots 0 args, mem, next⟩ (fun e s => endK C.T fn e s (fun v => some (v, look s.mem i0)) none) none
def srcO (mm : Nat → Option Blk) (ks : List CK) (e : TypeId) (v : Value) : Bool × Nat × (Nat → List Value) :=
  match v with
  | .slice (some ⟨b, off, none⟩) n c => (match mm b with
    | some blk => (match blk.cells with
      | .row ks' m f => (loose b && blk.own && Nat.beq blk.elem e && Nat.beq off 0 && Nat.beq n m && ksEq ks' ks && Nat.ble n c && Nat.blt 0 n, n, f)
      | _ => (false, 0, fun _ => []))
    | none => (false, 0, fun _ => []))
  | _ => (false, 0, fun _ => [])
def apart2 (mm : Nat → Option Blk) (b : Nat) (u : Value) : Bool :=
  match u with
  | .slice none _ _ => true
  | .slice (some a) _ _ => !(Nat.beq b a.block) && (match mm a.block with
    | some blk => (match blk.cells with
      | .lst _ => true
      | .row _ _ _ => true
      | _ => false)
    | none => false)
  | .int _ _ => true
  | _ => false
def apart (mm : Nat → Option Blk) (v u : Value) : Bool :=
  match v with
  | .slice (some a) _ _ => apart2 mm a.block u
  | _ => false
theorem srcO_some {mm : Nat → Option Blk} {ks : List CK} {e : TypeId} {v : Value} {n : Nat} {f : Nat → List Value} (h : srcO mm ks e v = (true, n, f)) : ∃ b c, v = .slice (some ⟨b, 0, none⟩) n c ∧ mm b = some ⟨.row ks n f, e, true⟩ ∧ loose b = true ∧ n ≤ c ∧ 0 < n := by
  unfold srcO at h
  split at h
  · rename_i b off n0 c
    split at h
    · rename_i blk hb
      obtain ⟨cells, e0, own⟩ := blk
      simp only at h
      split at h
      · rename_i ks' m f'
        simp only [Prod.mk.injEq, Bool.and_eq_true, Nat.blt_eq] at h
        obtain ⟨⟨⟨⟨⟨⟨⟨⟨h1, h2⟩, h3⟩, h4⟩, h5⟩, h6⟩, h7⟩, h8⟩, rfl, rfl⟩ := h
        have h3 := nbeq.1 h3
        have h4 := nbeq.1 h4
        have h5 := nbeq.1 h5
        have h6 := ksEq_eq h6
        subst h2 h3 h4 h5 h6
        exact ⟨b, c, rfl, hb, h1, Nat.le_of_ble_eq_true h7, h8⟩
      · simp at h
    · simp at h
  · simp at h
section
variable {GL : Glob} {w0 : Wb GL} {R : Nat → Pl → Prop} {fm : Nat → Option Blk} {w : World}
def RoF (i0 : Nat) (p : Pl) (pl1 : Option Pl) (i : Nat) (q : Pl) : Prop := (i = i0 ∧ q = p) ∨ (i = argId 1 ∧ pl1 = some q)
theorem own_rel (hg : GOk GL w) {i0 : Nat} (hi0 : i0 = argId 0 ∨ i0 = 1000000) {ow : Bool} {p : Pl} {b' : Nat} (hpa : p.a = some b') {ks : List CK} {n : Nat} {f : Nat → List Value} {e : TypeId} {cs : Array Value} {fz : Nat × Nat} (g1 : w.heap[b']? = some (.cells cs e fz)) (g2 : (cs.toList.drop p.d).take (n * ks.length) = rowL ks f 0 n)
    (hfz : ow = true → fz = (0, 0) ∧ p.d + p.c * ks.length ≤ cs.size) (hgl : ∀ x ∈ GL, x.1 ≠ b') {mem1 : List (Nat × Blk)} {pl1 : Option Pl}
    (h1 : (mem1 = [] ∧ pl1 = none) ∨ ∃ ks1 m g e1 p1, mem1 = [(argId 1, ⟨.row ks1 m g, e1, false⟩)] ∧ pl1 = some p1 ∧ (p1.a = some b' → rowL ks1 g 0 m = []) ∧ (match p1.a with
      | some b => ∃ cs fz, w.heap[b]? = some (.cells cs e1 fz) ∧ (cs.toList.drop p1.d).take (m * ks1.length) = rowL ks1 g 0 m
      | none => m = 0)) :
    MRel (⟨w, fun k => ow = true ∧ k = b', RoF i0 p pl1⟩ : Wb GL) (RoF i0 p pl1) (look ((i0, ⟨.row ks n f, e, ow⟩) :: mem1)) w := by
  have hne : i0 ≠ argId 1 := by rcases hi0 with h | h <;> (rw [h]; unfold argId; omega)
  have hlt : i0 < 1000000000 := by
    rcases hi0 with h | h
    · rw [h]; unfold argId; omega
    · omega
  have hrow : LP (RoF i0 p pl1) (rowL ks f 0 n) (cs.toList.drop p.d) := LP_plain (rowL_pl _ _ _ _) (by rw [rowL_len]; exact g2)
  have hmem : ∀ i blk, look ((i0, ⟨.row ks n f, e, ow⟩) :: mem1) i = some blk → (i = i0 ∧ blk = ⟨.row ks n f, e, ow⟩) ∨ (i = argId 1 ∧ ∃ ks1 m g e1 p1, blk = ⟨.row ks1 m g, e1, false⟩ ∧ pl1 = some p1 ∧ (p1.a = some b' → rowL ks1 g 0 m = []) ∧ (match p1.a with
      | some b => ∃ cs fz, w.heap[b]? = some (.cells cs e1 fz) ∧ (cs.toList.drop p1.d).take (m * ks1.length) = rowL ks1 g 0 m
      | none => m = 0)) := by
    intro i blk hi
    rw [look_cons] at hi
    by_cases e1 : i0 = i
    · subst e1; rw [upd_same] at hi; cases hi; exact .inl ⟨rfl, rfl⟩
    · rw [upd_ne _ _ e1] at hi
      rcases h1 with ⟨rfl, _⟩ | ⟨ks1, m, g, e2, p1, rfl, k2, k3⟩
      · simp [look] at hi
      · rw [look_cons] at hi
        by_cases e3 : argId 1 = i
        · subst e3; rw [upd_same] at hi; cases hi; exact .inr ⟨rfl, ks1, m, g, e2, p1, rfl, k2, k3⟩
        · rw [upd_ne _ _ e3] at hi; simp [look] at hi
  refine ⟨BelowX.refl _ _ _ hg (fun x hx h => hgl x hx h.2), ?_, ?_, ?_, ?_, fun _ _ h _ _ => h, ?_, ?_⟩
  · rintro i q q' (⟨rfl, rfl⟩ | ⟨rfl, h2⟩) (⟨h3, rfl⟩ | ⟨h3, h4⟩)
    · rfl
    · exact absurd h3 hne
    · exact absurd h3.symm hne
    · rw [h2] at h4; exact Option.some.inj h4
  · intro i j q q' b hq hq' ha hb hij blk hblk hown blk' hblk'
    rcases hmem i blk hblk with ⟨rfl, rfl⟩ | ⟨rfl, _, _, _, _, _, rfl, _⟩
    · rcases hmem j blk' hblk' with ⟨rfl, rfl⟩ | ⟨rfl, ks1, m, g, e1, p1, rfl, k2, k3, _⟩
      · exact absurd rfl hij
      · have e1 : q = p := by rcases hq with ⟨_, h⟩ | ⟨h, _⟩; exact h; exact absurd h hne
        have e2 : q' = p1 := by
          rcases hq' with ⟨h, _⟩ | ⟨_, h⟩
          · exact absurd h.symm hne
          · rw [k2] at h; exact (Option.some.inj h).symm
        subst e1 e2
        rw [hpa] at ha; cases ha
        exact ⟨rfl, k3 hb⟩
    · simp at hown
  · intro i blk hi
    rcases hmem i blk hi with ⟨rfl, rfl⟩ | ⟨rfl, ks1, m, g, e1, p1, rfl, k2, _, k4⟩
    · refine ⟨p, .inl ⟨rfl, rfl⟩, ?_⟩
      rw [hpa]
      exact ⟨cs, fz, g1, hrow, fun ho => ⟨(hfz ho).1, .inl ⟨ho, rfl⟩, fun _ _ => (hfz ho).2⟩⟩
    · refine ⟨p1, .inr ⟨rfl, k2⟩, ?_⟩
      cases hpa1 : p1.a with
      | none => rw [hpa1] at k4; show rowL ks1 g 0 m = []; rw [k4]; rfl
      | some b =>
        rw [hpa1] at k4
        obtain ⟨cs1, fz1, m1, m2⟩ := k4
        exact ⟨cs1, fz1, m1, LP_plain (rowL_pl _ _ _ _) (by rw [show (Cells.row ks1 m g).list = rowL ks1 g 0 m from rfl, rowL_len]; exact m2), fun ho => by simp at ho⟩
  · rintro i q (⟨rfl, rfl⟩ | ⟨rfl, h2⟩) _
    · rw [look_cons, upd_same]; rfl
    · rw [look_cons, upd_ne _ _ hne]
      rcases h1 with ⟨_, h3⟩ | ⟨ks1, m, g, e2, p1, rfl, _⟩
      · rw [h3] at h2; simp at h2
      · rw [look_cons, upd_same]; rfl
  · rintro i q b (⟨rfl, rfl⟩ | ⟨rfl, h2⟩) hb
    · rw [hpa] at hb; cases hb; exact ⟨cs, e, fz, g1⟩
    · rcases h1 with ⟨_, h3⟩ | ⟨ks1, m, g, e2, p1, _, k2, _, k4⟩
      · rw [h3] at h2; simp at h2
      · rw [k2] at h2; cases h2
        rw [hb] at k4
        obtain ⟨cs1, fz1, m1, _⟩ := k4
        exact ⟨cs1, e2, fz1, m1⟩
  · rintro i q (⟨rfl, rfl⟩ | ⟨rfl, h2⟩) hge
    · omega
    · unfold argId at hge; omega
theorem plain_ans {R' : Nat → Pl → Prop} {v v' : Value} (hv : pl2 v = true) (h1 : (∀ vs, v ≠ .tuple vs) → V2 R' v v') (h2 : ∀ vs, v = .tuple vs → ∃ vs', v' = .tuple vs' ∧ LR (V2 R') vs.toList vs'.toList) : v' = v := by
  by_cases ht : ∃ vs, v = .tuple vs
  · obtain ⟨vs, rfl⟩ := ht
    obtain ⟨vs', rfl, hl⟩ := h2 vs rfl
    have hv : vs.toList.all pl1 = true := hv
    have : vs.toList.all pl2 = true := by
      rw [List.all_eq_true] at hv ⊢
      intro x hx
      have := hv x hx
      unfold pl2; split
      · simp [pl1, pl0] at this
      · exact this
    have := (LR_plain (r := V2 R') (pl := pl2) (fun _ _ h => V2_plain h) this).1 hl
    congr 1
    exact Array.toList_inj.1 this
  · exact (V2_plain hv).1 (h1 fun vs e => ht ⟨vs, e⟩)
end
section
variable {P : Program} [Laid P]
theorem msum_own {g : FuncId} {fn : Func} {c : Code} (hf : P.funcs[g]? = some fn) (hname : (fn.name == "runtime.NumGoroutine") = false) (hb : fn.body = some c) {fuel next : Nat}
    {w0 : Wb (lay P)} {R : Nat → Pl → Prop} {fm : Nat → Option Blk} {w : World} (hm : MRel w0 R fm w) {v0 v1 : Value} {args' : List Value} (hl : LR (V2 R) [v0, v1] args') {mm : Nat → Option Blk} (hsub : ∀ b blk, mm b = some blk → fm b = some blk)
    {ks : List CK} {e : TypeId} {n : Nat} {f : Nat → List Value} (h0 : srcO mm ks e v0 = (true, n, f)) {A : Arg} (hA : AOk mm [v1] [A]) (hap : apart mm v0 v1 = true) (hlen : 2 ≤ fn.ntmps) {v : Value} (hv : pl2 v = true)
    (hev : ∀ cap, n ≤ cap → (∃ c0, c0 ≤ cap ∧ ∀ es, ∃ C n' f', CfgOk P C c ∧ C.n = fn.ntmps ∧ n ≤ n' ∧ (∀ j, j < n → nrmK ks (f' j) = nrmK ks (f j)) ∧
        fnO C fuel fn c (.slice (some ⟨argId 0, 0, none⟩) n c0 :: cArgs [A] 1) ((argId 0, ⟨.row ks n f, e, true⟩) :: cMem es [A] 1) next (argId 0) = some (v, some ⟨.row ks n' f', e, true⟩)) ∨
      (∀ es, ∃ C, CfgOk P C c ∧ C.n = fn.ntmps ∧ fnA C fuel fn c (.slice (some ⟨1000000, 0, none⟩) n cap :: cArgs [A] 1) ((1000000, ⟨.row ks n f, e, false⟩) :: cMem es [A] 1) next = some v)) :
    Invokes P g args'.toArray w fun v' w' => ∃ R' : Nat → Pl → Prop, (∀ i p, R i p → R' i p) ∧ V2 R' v v' ∧ MRel w0 R' (memF fm []) w' := by
  have hne : fn.name ≠ "runtime.NumGoroutine" := by simpa using hname
  have hrun : (callFunc g args'.toArray).run P w = .ok (.enter g args'.toArray) w := by simp [callFunc, hf, hne, hb]
  unfold Invokes
  rw [hrun]
  obtain ⟨b, cc, rfl, hbm, hlo, hncc, hn0⟩ := srcO_some h0
  have hbf := hsub _ _ hbm
  match args', hl with
  | [], hl => exact hl.elim
  | [_], hl => exact hl.2.elim
  | _ :: _ :: _ :: _, hl => exact hl.2.2.elim
  | [v0', v1'], hl =>
  obtain ⟨p, hp, hsl⟩ := V2_slice hl.1
  obtain ⟨_, hcc, ⟨b', hpa, rfl⟩ | ⟨_, hn1, _, _⟩⟩ := SlOk_loose hlo hsl
  rotate_left
  · omega
  obtain ⟨cs, fz, g1, g2, g3, g4⟩ := row_cells hm hbf hp hpa
  obtain ⟨rfl, hge, hroom⟩ := g4 rfl
  have hroom := hroom hlo (by omega)
  have hgl : ∀ x ∈ lay P, x.1 ≠ b' := by
    intro x hx e1
    obtain ⟨fz1, k1⟩ := hm.below.glob.1 x hx
    have k2 := hm.below.glob.2 x hx
    rw [e1] at k1 k2
    rcases hge with h5 | h5
    · exact k2 h5
    · have := heap_lt k1; omega
  -- the other argument
  have harg : ∃ (es : Nat → TypeId) (pl1 : Option Pl), ((cMem es [A] 1 = [] ∧ pl1 = none) ∨ ∃ ks1 m g e1 p1, cMem es [A] 1 = [(argId 1, ⟨.row ks1 m g, e1, false⟩)] ∧ pl1 = some p1 ∧ (p1.a = some b' → rowL ks1 g 0 m = []) ∧ (match p1.a with
      | some b => ∃ cs fz, w.heap[b]? = some (.cells cs e1 fz) ∧ (cs.toList.drop p1.d).take (m * ks1.length) = rowL ks1 g 0 m
      | none => m = 0)) ∧ ∀ (i0 : Nat), LR (V2 (RoF i0 p pl1)) (cArgs [A] 1) [v1'] := by
    cases A with
    | pl u =>
      obtain ⟨rfl, hpl, _⟩ := hA
      have := (V2_plain hpl).1 hl.2.1
      exact ⟨fun _ => 0, none, .inl ⟨rfl, rfl⟩, fun i0 => ⟨(V2_plain hpl).2 this, trivial⟩⟩
    | sl ks1 m g1' =>
      have hsrc := srcB_mono hsub hA.1
      obtain ⟨p1, e1, hc1, hm1⟩ := src_heap hm hsrc hl.2.1
      refine ⟨fun _ => e1, some p1, .inr ⟨ks1, m, g1', e1, p1, rfl, rfl, ?_, ?_⟩, fun i0 => ⟨?_, trivial⟩⟩
      · intro hpb
        by_cases hm0 : m = 0
        · rw [hm0]; rfl
        rw [hpb] at hm1
        obtain ⟨hv1, _⟩ := hm1
        -- the number that it had
        have hap2 : apart2 mm b v1 = true := hap
        clear hap
        unfold apart2 at hap2
        split at hap2
        · have := (V2_plain (R := R) (v := .slice none _ _) rfl).1 hl.2.1
          rw [hv1] at this; simp at this
        · rename_i a2 n2 c2 _
          obtain ⟨b2, off2, sp2⟩ := a2
          have hsp : sp2 = none := by
            cases sp2 with
            | none => rfl
            | some x => have := hA.1; simp [srcB] at this
          subst hsp
          simp only [Bool.and_eq_true, Bool.not_eq_true'] at hap2
          obtain ⟨ha1, ha2⟩ := hap2
          have hne2 : b ≠ b2 := fun e2 => by rw [e2, Nat.beq_refl] at ha1; simp at ha1
          obtain ⟨q, hq, hsl2⟩ := V2_slice hl.2.1
          have hqa : q.a = some b' := by
            cases hlo2 : loose b2 with
            | false =>
              obtain ⟨b3, h5, h6⟩ := SlOk_tight hlo2 hsl2
              rw [hv1] at h6; simp only [Value.slice.injEq, Option.some.injEq, Addr.mk.injEq] at h6
              rw [h5, h6.1.1]
            | true =>
              obtain ⟨_, _, ⟨b3, h5, h6⟩ | ⟨_, _, _, h6⟩⟩ := SlOk_loose hlo2 hsl2
              · rw [hv1] at h6; simp only [Value.slice.injEq, Option.some.injEq, Addr.mk.injEq] at h6
                rw [h5, h6.1.1]
              · obtain ⟨a9, h6⟩ := h6
                rw [hv1] at h6
                simp only [Value.slice.injEq] at h6
                exact absurd h6.2.1 hm0
          split at ha2
          · rename_i blk2 hb2
            have hwk := hm.inj _ _ _ _ _ hp hq hpa hqa hne2 _ hbf rfl blk2 (hsub _ _ hb2)
            obtain ⟨cells2, e2, own2⟩ := blk2
            have hl0 : cells2.list = [] := hwk.2
            have hsrc2 := hA.1
            unfold srcB at hsrc2
            simp only [hb2] at hsrc2
            simp only at ha2
            split at ha2
            · rename_i l
              have hl0 : l = [] := hl0
              subst hl0
              simp only [Prod.mk.injEq, Bool.and_eq_true, List.length_nil] at hsrc2
              obtain ⟨⟨⟨h5, h6⟩, _⟩, h7, _⟩ := hsrc2
              have h5 := Nat.le_of_ble_eq_true h5
              apply List.length_eq_zero_iff.1
              rw [rowL_len, ← h7]; omega
            · rename_i ks2 m2 f2
              have hl0 : rowL ks2 f2 0 m2 = [] := hl0
              simp only [Prod.mk.injEq, Bool.and_eq_true] at hsrc2
              obtain ⟨⟨⟨⟨_, h5⟩, h6⟩, _⟩, h7, _⟩ := hsrc2
              have h5 := Nat.le_of_ble_eq_true h5
              have h6 := ksEq_eq h6
              subst h6
              have := congrArg List.length hl0
              rw [rowL_len, List.length_nil] at this
              apply List.length_eq_zero_iff.1
              rw [rowL_len]
              have : m * ks2.length ≤ m2 * ks2.length := Nat.mul_le_mul_right _ (by omega)
              omega
            · simp at ha2
          · simp at ha2
        · have := (V2_plain (R := R) (v := .int _ _) rfl).1 hl.2.1
          rw [hv1] at this; simp at this
        · simp at hap2
      · cases hpa1 : p1.a with
        | none => rw [hpa1] at hm1; exact hm1.1
        | some b1 =>
          rw [hpa1] at hm1
          obtain ⟨_, cs1, fz1, m1, m2⟩ := hm1
          refine ⟨cs1, fz1, m1, ?_⟩
          have := (LR_plain (r := V0 R) (pl := pl0) (fun _ _ hv => V0_plain hv) (rowL_pl ks1 g1' m 0)).1 m2
          rw [rowL_len] at this; exact this
      · refine slice_V2 (q := p1) (argId_loose 1) (.inr ⟨rfl, rfl⟩) hc1 ?_
        cases hpa1 : p1.a with
        | none => rw [hpa1] at hm1; exact ⟨hm1.1, hm1.2.1, hm1.2.2.2⟩
        | some b1 => rw [hpa1] at hm1; exact hm1.1
  obtain ⟨es, pl1, hmem1, hargs1⟩ := harg
  have hclen : (cArgs [A] 1).length = 1 := cArgs_len [A] 1
  rcases hev p.c (by omega) with ⟨c0, hc0, hev⟩ | hev
  · obtain ⟨C, n', f', hC, hn, hnn, hff, hev⟩ := hev es
    have hmC := own_rel (i0 := argId 0) (ow := true) hm.below.gok (.inl rfl) hpa g1 g2 (fun _ => ⟨rfl, hroom⟩) hgl hmem1
    unfold fnO at hev
    rw [evK_eq, oK_some] at hev
    obtain ⟨⟨ex, s'⟩, he1, he2⟩ := hev
    obtain ⟨he3, he4⟩ : endK C.T fn ex s' some none = some v ∧ look s'.mem (argId 0) = some ⟨.row ks n' f', e, true⟩ := by
      have key : endK C.T fn ex s' (fun v => some (v, look s'.mem (argId 0))) none = oK (endK C.T fn ex s' some none) (fun v => some (v, look s'.mem (argId 0))) none := by
        unfold endK
        have key : ∀ lr : List ResultVar, resK C.T s' lr (fun vs => oneK vs fun v => some (v, look s'.mem (argId 0))) none = oK (resK C.T s' lr (fun vs => oneK vs some) none) (fun v => some (v, look s'.mem (argId 0))) none := by
          intro lr
          rw [resK_nat (fun o : Option Value => oK o (fun v => some (v, look s'.mem (argId 0))) none)]
          congr 1; funext vs
          exact (oneK_nat (fun o : Option Value => oK o (fun v => some (v, look s'.mem (argId 0))) none) vs some).symm
        cases ex <;> first | exact key _ | rfl
      simp only at he2
      rw [key, oK_some] at he2
      obtain ⟨v2, h5, h6⟩ := he2
      simp only [Option.some.injEq, Prod.mk.injEq] at h6
      obtain ⟨rfl, h6⟩ := h6
      exact ⟨h5, h6⟩
    refine Calls.mono (fn_mem hC hf hb hn hmC (args := .slice (some ⟨argId 0, 0, none⟩) n c0 :: cArgs [A] 1) (args' := [.slice (some ⟨b', p.d, none⟩) n p.c, v1']) (And.intro (slice_V2 (q := p) (argId_loose 0) (.inl ⟨rfl, rfl⟩) hc0 (by rw [hpa])) (hargs1 _)) (by rw [List.length_cons, hclen]; exact hlen) he1 he3) ?_
    rintro ex2 w' ⟨R', v', rfl, hvv, hvt, hm'⟩
    show ∃ R2 : Nat → Pl → Prop, _ ∧ _ ∧ _
    have hvv := plain_ans hv hvv hvt
    subst hvv
    refine ⟨R, fun _ _ h => h, (V2_plain hv).2 rfl, ?_⟩
    obtain ⟨p', hp', _⟩ := memOk_row hm' he4
    have hanc := hm'.anc _ _ hp' (by unfold argId; omega) (by unfold argId; omega)
    have epp : p' = p := by
      rcases hanc with ⟨_, h⟩ | ⟨h, _⟩
      · exact h
      · unfold argId at h; omega
    subst epp
    obtain ⟨cs', fz', k1, k2, k3, k4⟩ := row_cells hm' he4 hp' hpa
    obtain ⟨rfl, _, hroom'⟩ := k4 rfl
    have hroom' := hroom' (argId_loose 0) (by omega)
    have hpre : (cs'.toList.drop p'.d).take (n * ks.length) = rowL ks f 0 n := by
      have := congrArg (List.take (n * ks.length)) k2
      rw [List.take_take, Nat.min_eq_left (Nat.mul_le_mul_right _ hnn), rowL_take ks f' n n' 0 hnn] at this
      rw [this]
      exact rowL_congr ks n 0 (fun j _ hj => hff j (by omega))
    have hw := hm.write hbf hp hpa rfl g1 hge (c := .row ks n f) (cs := cs') nofun nofun nofun (LP_plain (rowL_pl _ _ _ _) (by rw [show (Cells.row ks n f).list = rowL ks f 0 n from rfl, rowL_len]; exact hpre)) (fun _ _ => hroom')
    rw [upd_idem _ hbf] at hw
    have hbl := hm'.below
    refine hw.world ⟨hbl.os, hbl.tape, hbl.output, by simpa [setBlk] using hbl.size, fun k hk => ?_⟩
    have hk2 : k < w.heap.size := by simpa [setBlk] using hk
    by_cases hkb : k = b'
    · subst hkb
      rw [k1]
      exact (setBlk_same (w := w) (o := .cells cs' e (0, 0)) hk2).symm
    · rw [hbl.block k hk2 (fun h => hkb h.2)]
      simp only [setBlk]; rw [Array.getElem?_setIfInBounds_ne (fun h => hkb h.symm)]
  · obtain ⟨C, hC, hn, hev⟩ := hev es
    have htt : V2 (RoF 1000000 p pl1) (.slice (some ⟨1000000, 0, none⟩) n p.c) (.slice (some ⟨b', p.d, none⟩) n p.c) := by
      refine ⟨p, .inl ⟨rfl, rfl⟩, ?_⟩
      unfold SlOk
      rw [if_neg (by show ¬ loose 1000000 = true; decide)]
      exact ⟨b', hpa, rfl⟩
    have hmC := own_rel (i0 := 1000000) (ow := false) hm.below.gok (.inr rfl) hpa g1 g2 (fun h => by simp at h) hgl hmem1
    unfold fnA at hev
    rw [evK_eq, oK_some] at hev
    obtain ⟨⟨ex, s'⟩, he1, he2⟩ := hev
    refine Calls.mono (fn_mem hC hf hb hn hmC (args := .slice (some ⟨1000000, 0, none⟩) n p.c :: cArgs [A] 1) (args' := [.slice (some ⟨b', p.d, none⟩) n p.c, v1']) (And.intro htt (hargs1 _)) (by rw [List.length_cons, hclen]; exact hlen) he1 he2) ?_
    rintro ex2 w' ⟨R', v', rfl, hvv, hvt, hm'⟩
    show ∃ R2 : Nat → Pl → Prop, _ ∧ _ ∧ _
    have hvv := plain_ans hv hvv hvt
    subst hvv
    exact ⟨R, fun _ _ h => h, (V2_plain hv).2 rfl, hm.world (hm'.below.below fun _ h => by simp at h)⟩
end
end Go.W
/-
  Numbers laid in bytes, joined parts, the first that is a point: for package draw.
-/
namespace Go.W
def byI (x : Int) (k : Nat) : Value := .int .u8 (IntKind.u8.wrap (x.fdiv (2 ^ k)))
def la4 (x : Int) : Nat → List Value := updR (updR (updR (updR (fun _ => [z8]) 3 [byI x 0]) 2 [byI x 8]) 1 [byI x 16]) 0 [byI x 24]
def la8 (x : Int) : Nat → List Value := updR (updR (updR (updR (updR (updR (updR (updR (fun _ => [z8]) 7 [byI x 0]) 6 [byI x 8]) 5 [byI x 16]) 4 [byI x 24]) 3 [byI x 32]) 2 [byI x 40]) 1 [byI x 48]) 0 [byI x 56]
def beN (s x j : Nat) : Nat := x / 2 ^ (8 * (s - 1 - j)) % 256
theorem byI_nat (x k : Nat) : byI (x : Int) k = .int .u8 ((x / 2 ^ k % 256 : Nat) : Int) := by unfold byI; rw [wb8]
theorem bI_la4 (x : Nat) : ∀ j, j < 4 → bI (la4 (x : Int)) j = ((beN 4 x j : Nat) : Int)
  | 0, _ => by show toI (byI x 24) = _; rw [byI_nat]; rfl
  | 1, _ => by show toI (byI x 16) = _; rw [byI_nat]; rfl
  | 2, _ => by show toI (byI x 8) = _; rw [byI_nat]; rfl
  | 3, _ => by show toI (byI x 0) = _; rw [byI_nat]; rfl
  | j + 4, h => absurd h (by omega)
theorem bI_la8 (x : Nat) : ∀ j, j < 8 → bI (la8 (x : Int)) j = ((beN 8 x j : Nat) : Int)
  | 0, _ => by show toI (byI x 56) = _; rw [byI_nat]; rfl
  | 1, _ => by show toI (byI x 48) = _; rw [byI_nat]; rfl
  | 2, _ => by show toI (byI x 40) = _; rw [byI_nat]; rfl
  | 3, _ => by show toI (byI x 32) = _; rw [byI_nat]; rfl
  | 4, _ => by show toI (byI x 24) = _; rw [byI_nat]; rfl
  | 5, _ => by show toI (byI x 16) = _; rw [byI_nat]; rfl
  | 6, _ => by show toI (byI x 8) = _; rw [byI_nat]; rfl
  | 7, _ => by show toI (byI x 0) = _; rw [byI_nat]; rfl
  | j + 8, h => absurd h (by omega)
def LaF (e : Nat) : List Value → (Nat → Option Blk) → Nat → List (Bool × Value × List (Nat × Blk))
  | [.int .i64 x, .int .i64 s], _, id => [(decide (s = 4), .slice (some ⟨nid id 0, 0, none⟩) 4 4, [(nid id 0, ⟨.row kB 4 (la4 x), e, true⟩)]), (decide (s = 8), .slice (some ⟨nid id 0, 0, none⟩) 8 8, [(nid id 0, ⟨.row kB 8 (la8 x), e, true⟩)])]
  | _, _, _ => []
noncomputable def SoF (e : Nat) : List Value → (Nat → Option Blk) → Nat → List (Bool × Value × List (Nat × Blk))
  | [a, b], mm, _ => [((srcO mm kB e a).1 && apart mm a b && ((srcB mm kB b).1 && Nat.blt 0 (srcB mm kB b).2.1) && Nat.ble ((srcO mm kB e a).2.1 + (srcB mm kB b).2.1) 1000000,
      tdV (shN ((srcO mm kB e a).2.1 + (srcB mm kB b).2.1) (bN (appF (srcO mm kB e a).2.1 (srcO mm kB e a).2.2 (sgF (srcB mm kB b).2.1 (srcB mm kB b).2.2)))), [])]
  | _, _, _ => []
def jl (s : ByteArray) (g : Nat → Nat × (Nat → List Value)) : Nat → Nat
  | 0 => 4 + s.size
  | k + 1 => jl s g k + 4 + (g k).1
def jF (s : ByteArray) (g : Nat → Nat × (Nat → List Value)) : Nat → Nat → List Value
  | 0 => appF 4 (la4 ((s.size : Nat) : Int)) (strF s)
  | k + 1 => appF (jl s g k + 4) (appF (jl s g k) (jF s g k) (sgF 4 (la4 (((g k).1 : Nat) : Int)))) (sgF (g k).1 (g k).2)
theorem jl_mono (s : ByteArray) (g : Nat → Nat × (Nat → List Value)) : ∀ {k n : Nat}, k ≤ n → jl s g k ≤ jl s g n
  | k, 0, h => by have : k = 0 := by omega
                  subst this; exact Nat.le_refl _
  | k, n + 1, h => by
    by_cases e : k = n + 1
    · subst e; exact Nat.le_refl _
    · have := jl_mono s g (k := k) (n := n) (by omega)
      show _ ≤ jl s g n + 4 + (g n).1
      omega
theorem jl_lo (s : ByteArray) (g : Nat → Nat × (Nat → List Value)) (n : Nat) : 4 + s.size ≤ jl s g n := jl_mono s g (Nat.zero_le n)
theorem jl_n (s : ByteArray) (g : Nat → Nat × (Nat → List Value)) : ∀ n, 4 * n + 4 + s.size ≤ jl s g n
  | 0 => by show _ ≤ 4 + s.size; omega
  | n + 1 => by have := jl_n s g n; show _ ≤ jl s g n + 4 + (g n).1; omega
def FtF : List Value → (Nat → Option Blk) → Nat → List (Bool × Value × List (Nat × Blk))
  | [.string s, v], mm, _ => [((srcF mm kB v).1 && Nat.ble s.size 1000000 && Nat.ble (srcF mm kB v).2.1 1000000, .bool (Nat.ble (jl s (srcF mm kB v).2.2 (srcF mm kB v).2.1) 65536), [])]
  | _, _, _ => []
def JoF (e : Nat) : List Value → (Nat → Option Blk) → Nat → List (Bool × Value × List (Nat × Blk))
  | [.string s, v], mm, id => [((srcF mm kB v).1 && Nat.ble (jl s (srcF mm kB v).2.2 (srcF mm kB v).2.1) 1000000, .slice (some ⟨nid id 0, 0, none⟩) (jl s (srcF mm kB v).2.2 (srcF mm kB v).2.1) (jl s (srcF mm kB v).2.2 (srcF mm kB v).2.1),
      [(nid id 0, ⟨.row kB (jl s (srcF mm kB v).2.2 (srcF mm kB v).2.1) (jF s (srcF mm kB v).2.2 (srcF mm kB v).2.1), e, true⟩)])]
  | _, _, _ => []
theorem isB32_td (s : S8) : isB32 (tdV s) = true := by
  have h : ∀ i, isU8 (.int .u8 ((tdN s i : Nat) : Int)) = true := fun i => by
    show (decide ((0 : Int) ≤ ((tdN s i : Nat) : Int)) && Nat.ble (tdN s i) 255) = true
    rw [Bool.and_eq_true, Nat.ble_eq]
    have := tdN_lt s i
    exact ⟨decide_eq_true (by omega), by omega⟩
  refine isB32_of (l := tdL s) rfl ?_
  unfold tdL
  simp only [List.all_cons, List.all_nil, h, Bool.and_self]
theorem unbytes_lt (s : S8) : unbytes (tdV s) < 2 ^ 256 := by
  obtain ⟨X, h1, h2, h3⟩ := isB32_some (isB32_td s)
  rw [h3]; exact h1
noncomputable def sum1 (n : Nat) (f : Nat → List Value) (b : Int) : S8 := shN (n + 1) (bN (appF n f (sgF 1 (lstF [.int .u8 b] 0 1))))
noncomputable def scN (n : Nat) (f : Nat → List Value) : Nat := hide (modN (unbytes (tdV (sum1 n f 0))) (unbytes (tdV (sum1 n f 1))) (primeN 1))
noncomputable def scS (L : Nat) (f : Nat → List Value) : Nat × Int := hide (if L ≤ 65536 then (scN L f, 0) else (0, 4))
noncomputable def scV (L : Nat) (f : Nat → List Value) : Value := .tuple #[num (scS L f).1, i64 (scS L f).2]
noncomputable def ScF : List Value → (Nat → Option Blk) → Nat → List (Bool × Value × List (Nat × Blk))
  | [.string s, v], mm, _ => [((srcF mm kB v).1 && Nat.ble s.size 1000000 && Nat.ble (srcF mm kB v).2.1 1000000, scV (jl s (srcF mm kB v).2.2 (srcF mm kB v).2.1) (jF s (srcF mm kB v).2.2 (srcF mm kB v).2.1), [])]
  | _, _, _ => []
def fstC (p : Nat → Bool) : Nat → Option Nat
  | 0 => none
  | n + 1 => match fstC p n with
    | some c => some c
    | none => if p n = true then some n else none
theorem fstC_some {p : Nat → Bool} : ∀ {n c : Nat}, fstC p n = some c → c < n ∧ p c = true ∧ ∀ j, j < c → p j = false
  | n + 1, c, h => by
    unfold fstC at h
    split at h
    · rename_i c' hc
      cases h
      obtain ⟨h1, h2, h3⟩ := fstC_some hc
      exact ⟨by omega, h2, h3⟩
    · rename_i hc
      split at h
      · rename_i hp
        cases h
        exact ⟨by omega, hp, fun j hj => fstC_none hc j hj⟩
      · simp at h
where fstC_none {p : Nat → Bool} : ∀ {n : Nat}, fstC p n = none → ∀ j, j < n → p j = false
  | n + 1, h, j, hj => by
    unfold fstC at h
    split at h
    · simp at h
    · rename_i hc
      split at h
      · simp at h
      · rename_i hp
        by_cases e : j = n
        · subst e; simpa using hp
        · exact fstC_none hc j (by omega)
theorem fstC_none' {p : Nat → Bool} {n : Nat} (h : fstC p n = none) (j : Nat) (hj : j < n) : p j = false := fstC_some.fstC_none h j hj
theorem fstC_of {p : Nat → Bool} {n c : Nat} (hc : c < n) (hp : p c = true) (hlo : ∀ j, j < c → p j = false) : fstC p n = some c := by
  cases h : fstC p n with
  | none => rw [fstC_none' h c hc] at hp; simp at hp
  | some c' =>
    obtain ⟨h1, h2, h3⟩ := fstC_some h
    rcases Nat.lt_trichotomy c c' with h4 | h4 | h4
    · rw [h3 c h4] at hp; simp at hp
    · rw [h4]
    · rw [hlo c' h4] at h2; simp at h2
theorem fstC_no {p : Nat → Bool} {n : Nat} (h : ∀ j, j < n → p j = false) : fstC p n = none := by
  cases h2 : fstC p n with
  | none => rfl
  | some c =>
    obtain ⟨h3, h4, _⟩ := fstC_some h2
    rw [h c h3] at h4; simp at h4
noncomputable def trS (s : S8) : RP × Int := rdS 33 (pbF (.int .u8 2) (tdL s))
theorem trS_eq (s : S8) : trS s = rdX (unbytes (tdV s)) 2 := by
  unfold trS rdS
  rw [hide_eq, if_neg (fun h => absurd h.1 (by decide)), if_pos ⟨rfl, .inl rfl⟩]
  have : b32V (pbF (.int .u8 2) (tdL s)) = tdV s := rfl
  rw [this]; rfl
noncomputable def smC (n : Nat) (f : Nat → List Value) (c : Nat) : S8 := shN (n + 4) (bN (appF n f (sgF 4 (la4 ((c : Nat) : Int)))))
noncomputable def trN (n : Nat) (f : Nat → List Value) (c : Nat) : RP × Int := trS (smC n f c)
noncomputable def fpS (n : Nat) (f : Nat → List Value) : RP × Int × Int :=
  hide (match fstC (fun c => (trN n f c).2 == 0) 256 with
    | some c => ((trN n f c).1, ((c + 1 : Nat) : Int), 0)
    | none => (zR, 0, 5))
noncomputable def fpV (r : RP × Int × Int) : Value := .tuple #[ptV r.1, i64 r.2.1, i64 r.2.2]
noncomputable def FpF (e : Nat) : List Value → (Nat → Option Blk) → Nat → List (Bool × Value × List (Nat × Blk))
  | [a, .int .i64 m], mm, _ => [((srcO mm kB e a).1 && decide (m = 256) && Nat.ble (srcO mm kB e a).2.1 900000, fpV (fpS (srcO mm kB e a).2.1 (srcO mm kB e a).2.2), [])]
  | _, _, _ => []
def oneG (m : Nat) (h : Nat → List Value) : Nat → Nat × (Nat → List Value) := fun _ => (m, h)
noncomputable def ptS (s : ByteArray) (m : Nat) (h : Nat → List Value) : RP × Int × Int := hide (if jl s (oneG m h) 1 ≤ 65536 then fpS (jl s (oneG m h) 1) (jF s (oneG m h) 1) else (zR, 0, 4))
noncomputable def DpF : List Value → (Nat → Option Blk) → Nat → List (Bool × Value × List (Nat × Blk))
  | [.string s, v], mm, _ => [((srcB mm kB v).1 && Nat.ble s.size 1000000, fpV (ptS s (srcB mm kB v).2.1 (srcB mm kB v).2.2), [])]
  | _, _, _ => []
theorem smC_congr {n : Nat} {f g : Nat → List Value} (h : ∀ j, j < n → bI f j = bI g j) (c : Nat) : smC n f c = smC n g c := by
  unfold smC
  refine shN_congr fun j hj => bN_congr ?_
  rw [bI_app, bI_app]
  by_cases hj2 : j < n
  · rw [if_pos hj2, if_pos hj2, h j hj2]
  · rw [if_neg hj2, if_neg hj2]
theorem trN_congr {n : Nat} {f g : Nat → List Value} (h : ∀ j, j < n → bI f j = bI g j) (c : Nat) : trN n f c = trN n g c := by unfold trN; rw [smC_congr h]
theorem fpS_congr {n : Nat} {f g : Nat → List Value} (h : ∀ j, j < n → bI f j = bI g j) : fpS n f = fpS n g := by
  have e : trN n f = trN n g := funext fun c => trN_congr h c
  unfold fpS
  rw [e]
theorem sum1_congr {n : Nat} {f g : Nat → List Value} (h : ∀ j, j < n → bI f j = bI g j) (b : Int) : sum1 n f b = sum1 n g b := by
  unfold sum1
  refine shN_congr fun j hj => bN_congr ?_
  rw [bI_app, bI_app]
  by_cases hj2 : j < n
  · rw [if_pos hj2, if_pos hj2, h j hj2]
  · rw [if_neg hj2, if_neg hj2]
theorem scS_congr {n : Nat} {f g : Nat → List Value} (h : ∀ j, j < n → bI f j = bI g j) : scS n f = scS n g := by
  have e : ∀ b, sum1 n f b = sum1 n g b := fun b => sum1_congr h b
  unfold scS scN
  rw [e, e]
theorem jF_zero (s : ByteArray) (g : Nat → Nat × (Nat → List Value)) (j : Nat) : bI (jF s g 0) j = if j < 4 then bI (la4 ((s.size : Nat) : Int)) j else bI (strF s) (j - 4) := bI_app _ _ _ _
theorem jF_succ (s : ByteArray) (g : Nat → Nat × (Nat → List Value)) (k j : Nat) : bI (jF s g (k + 1)) j = if j < jl s g k then bI (jF s g k) j else if j < jl s g k + 4 then bI (la4 (((g k).1 : Nat) : Int)) (j - jl s g k) else bI (g k).2 (j - (jl s g k + 4)) := by
  show bI (appF (jl s g k + 4) (appF (jl s g k) (jF s g k) (sgF 4 (la4 (((g k).1 : Nat) : Int)))) (sgF (g k).1 (g k).2)) j = _
  rw [bI_app]
  by_cases h : j < jl s g k + 4
  · rw [if_pos h, bI_app]
    by_cases h2 : j < jl s g k
    · rw [if_pos h2, if_pos h2]
    · rw [if_neg h2, if_neg h2, if_pos h, bI_sg]
  · rw [if_neg h, if_neg (by omega), if_neg h, bI_sg]
theorem jl_congr (s : ByteArray) {g g' : Nat → Nat × (Nat → List Value)} : ∀ n, (∀ k, k < n → (g k).1 = (g' k).1) → jl s g n = jl s g' n
  | 0, _ => rfl
  | n + 1, h => by
    show jl s g n + 4 + (g n).1 = jl s g' n + 4 + (g' n).1
    rw [jl_congr s n (fun k hk => h k (by omega)), h n (by omega)]
theorem jF_congr (s : ByteArray) {g g' : Nat → Nat × (Nat → List Value)} : ∀ n, (∀ k, k < n → (g k).1 = (g' k).1 ∧ ∀ x, x < (g k).1 → bI (g k).2 x = bI (g' k).2 x) → ∀ j, j < jl s g n → bI (jF s g n) j = bI (jF s g' n) j
  | 0, _, _, _ => rfl
  | n + 1, h, j, hj => by
    have e := jl_congr s (g := g) (g' := g') n (fun k hk => (h k (by omega)).1)
    rw [jF_succ, jF_succ, ← e]
    by_cases h1 : j < jl s g n
    · rw [if_pos h1, if_pos h1]
      exact jF_congr s n (fun k hk => h k (by omega)) j h1
    · rw [if_neg h1, if_neg h1, (h n (by omega)).1]
      by_cases h2 : j < jl s g n + 4
      · rw [if_pos h2, if_pos h2]
      · rw [if_neg h2, if_neg h2]
        have hj : j < jl s g n + 4 + (g n).1 := hj
        exact (h n (by omega)).2 _ (by omega)
theorem rdX_ok {X : Nat} (h : (rdX X 2).2 = 0) : X < pP ∧ rootIs (sqN X) = true ∧ (rdX X 2).1 = (false, X, rootNum (sqN X)) := by
  unfold rdX at h ⊢
  by_cases h1 : X < pP
  · rw [if_pos h1] at h ⊢
    by_cases h2 : rootIs (sqN X) = true
    · rw [if_pos h2]; exact ⟨h1, h2, rfl⟩
    · rw [if_neg h2] at h; exact absurd h (by decide)
  · rw [if_neg h1] at h; exact absurd h (by decide)
theorem rdX_of {X : Nat} (h1 : X < pP) {b : Nat} (h2 : b * b % pP = sqN X % pP) : (rdX X 2).2 = 0 := by
  unfold rdX
  rw [if_pos h1, if_pos (root_of_sq h2)]
theorem rdX_cases (X : Nat) : (rdX X 2).2 = 0 ∨ ((rdX X 2).1 = zR ∧ (rdX X 2).2 ≠ 0) := by
  unfold rdX
  by_cases h1 : X < pP
  · rw [if_pos h1]
    by_cases h2 : rootIs (sqN X) = true
    · rw [if_pos h2]; exact .inl rfl
    · rw [if_neg h2]; exact .inr ⟨rfl, by decide⟩
  · rw [if_neg h1]; exact .inr ⟨rfl, by decide⟩
end Go.W
/-
  Sums, worked out by the kernel, one block at a time.
-/
namespace Go.W
def fz {α : Type} (n : Nat) (k : Nat → α) : α := Nat.rec (motive := fun _ => α) (k 0) (fun m _ => k (Nat.succ m)) n
theorem fz_eq {α : Type} (n : Nat) (k : Nat → α) : fz n k = k n := by cases n <;> rfl
structure W16 where
  w0 : Nat
  w1 : Nat
  w2 : Nat
  w3 : Nat
  w4 : Nat
  w5 : Nat
  w6 : Nat
  w7 : Nat
  w8 : Nat
  w9 : Nat
  w10 : Nat
  w11 : Nat
  w12 : Nat
  w13 : Nat
  w14 : Nat
  w15 : Nat
def shStep (k : Nat) (ih : S8 → W16 → S8) (s : S8) (w : W16) : S8 :=
  fz (t1N s k w.w0) fun t1 => fz (ad t1 (t2N s)) fun a => fz (ad s.d t1) fun e => fz (nxN w.w0 w.w1 w.w9 w.w14) fun x =>
    ih ⟨a, s.a, s.b, s.c, e, s.e, s.f, s.g⟩ ⟨w.w1, w.w2, w.w3, w.w4, w.w5, w.w6, w.w7, w.w8, w.w9, w.w10, w.w11, w.w12, w.w13, w.w14, w.w15, x⟩
noncomputable def goF (ks : List Nat) : S8 → W16 → S8 := List.rec (motive := fun _ => S8 → W16 → S8) (fun s _ => s) (fun k _ ih => shStep k ih) ks
theorem goF_cons (k : Nat) (ks : List Nat) (s : S8) (w : W16) : goF (k :: ks) s w = goF ks ⟨ad (t1N s k w.w0) (t2N s), s.a, s.b, s.c, ad s.d (t1N s k w.w0), s.e, s.f, s.g⟩ ⟨w.w1, w.w2, w.w3, w.w4, w.w5, w.w6, w.w7, w.w8, w.w9, w.w10, w.w11, w.w12, w.w13, w.w14, w.w15, nxN w.w0 w.w1 w.w9 w.w14⟩ := by
  show shStep k (goF ks) s w = _
  unfold shStep
  rw [fz_eq, fz_eq, fz_eq, fz_eq]
def win (B : Nat → Nat) (t : Nat) : W16 := ⟨wT B t, wT B (t + 1), wT B (t + 2), wT B (t + 3), wT B (t + 4), wT B (t + 5), wT B (t + 6), wT B (t + 7), wT B (t + 8), wT B (t + 9), wT B (t + 10), wT B (t + 11), wT B (t + 12), wT B (t + 13), wT B (t + 14), wT B (t + 15)⟩
theorem goF_eq (B : Nat → Nat) (s : S8) : ∀ m t, t + m = 64 → goF (kL.drop t) (rnds (wT B) s t) (win B t) = rnds (wT B) s 64
  | 0, t, h => by
    have : t = 64 := by omega
    subst this; rfl
  | m + 1, t, h => by
    have hl : t < kL.length := by show t < 64; omega
    have hk : kL[t] = kN t := by unfold kN; simp only [List.getD, List.getElem?_eq_getElem hl, Option.getD_some]
    rw [List.drop_eq_getElem_cons hl, hk, goF_cons, ← goF_eq B s m (t + 1) (by omega)]
    have hn : nxN (wT B t) (wT B (t + 1)) (wT B (t + 9)) (wT B (t + 14)) = wT B (t + 16) := by
      rw [wT_hi B (t := t + 16) (by omega)]
      rfl
    show goF _ (rnd (kN t) (wT B t) (rnds (wT B) s t)) ⟨wT B (t + 1), wT B (t + 2), wT B (t + 3), wT B (t + 4), wT B (t + 5), wT B (t + 6), wT B (t + 7), wT B (t + 8), wT B (t + 9), wT B (t + 10), wT B (t + 11), wT B (t + 12), wT B (t + 13), wT B (t + 14), wT B (t + 15), nxN (wT B t) (wT B (t + 1)) (wT B (t + 9)) (wT B (t + 14))⟩ = _
    rw [hn]
    have hw : win B (t + 1) = ⟨wT B (t + 1), wT B (t + 2), wT B (t + 3), wT B (t + 4), wT B (t + 5), wT B (t + 6), wT B (t + 7), wT B (t + 8), wT B (t + 9), wT B (t + 10), wT B (t + 11), wT B (t + 12), wT B (t + 13), wT B (t + 14), wT B (t + 15), wT B (t + 16)⟩ := by
      unfold win
      rw [show t + 1 + 1 = t + 2 from rfl, show t + 1 + 2 = t + 3 from rfl, show t + 1 + 3 = t + 4 from rfl, show t + 1 + 4 = t + 5 from rfl, show t + 1 + 5 = t + 6 from rfl, show t + 1 + 6 = t + 7 from rfl, show t + 1 + 7 = t + 8 from rfl, show t + 1 + 8 = t + 9 from rfl, show t + 1 + 9 = t + 10 from rfl, show t + 1 + 10 = t + 11 from rfl, show t + 1 + 11 = t + 12 from rfl, show t + 1 + 12 = t + 13 from rfl, show t + 1 + 13 = t + 14 from rfl, show t + 1 + 14 = t + 15 from rfl, show t + 1 + 15 = t + 16 from rfl]
    rw [hw]; rfl
noncomputable def mixF (s : S8) (w : W16) : S8 := adS s (goF kL s w)
theorem mix_win (s : S8) (B : Nat → Nat) : mixN s B = mixF s (win B 0) := by
  rw [mixN_def]
  unfold mixF
  rw [← goF_eq B s 64 0 rfl]
  rfl
theorem one_fin {n : Nat} (L : List Nat) (E : S8) (hn : n ≤ 55) (hp : allB (fun j => Nat.blt j n || Nat.beq (pdB n (fun _ => 0) n j) (L.getD j 0)) 64 = true) (hE : (mixF h0 (win (fun j => L.getD j 0) 0)).beq E = true) (F : Nat → Nat) (h : ∀ j, j < n → F j = L.getD j 0) : shN n F = E := by
  rw [← S8.beq_eq hE, ← mix_win]
  unfold shN finN
  have hb : (padL n + 8) / 64 = 0 + 1 := by
    unfold padL padZ
    omega
  rw [hb, hs, hs]
  refine mixN_congr (fun j hj => ?_) _
  rw [Nat.mul_zero, Nat.zero_add]
  by_cases hjn : j < n
  · unfold pdB
    rw [if_pos hjn]; exact h j hjn
  · have := allB_at (p := fun j => Nat.blt j n || Nat.beq (pdB n (fun _ => 0) n j) (L.getD j 0)) hp hj
    rw [show Nat.blt j n = false from by rw [Bool.eq_false_iff, ne_eq, Nat.blt_eq]; exact hjn, Bool.false_or] at this
    rw [← nbeq.1 this]
    unfold pdB
    rw [if_neg hjn, if_neg hjn]
def hiAB : List Nat := [0, 0, 0, 1, 97, 0, 128, 0, 0, 0, 0, 0, 0, 0, 0, 0, 0, 0, 0, 0, 0, 0, 0, 0, 0, 0, 0, 0, 0, 0, 0, 0, 0, 0, 0, 0, 0, 0, 0, 0, 0, 0, 0, 0, 0, 0, 0, 0, 0, 0, 0, 0, 0, 0, 0, 0, 0, 0, 0, 0, 0, 0, 0, 48]
def hiAE : S8 := ⟨306367421, 2857526526, 3643316423, 4238812828, 4138624270, 1096699198, 2688702974, 3258221831⟩
theorem hiA_fin (F : Nat → Nat) (h : ∀ j, j < 6 → F j = hiAB.getD j 0) : shN 6 F = hiAE := one_fin (n := 6) hiAB hiAE (by decide) (by kernel_rfl) (by kernel_rfl) F h
def loAB : List Nat := [0, 0, 0, 1, 97, 1, 128, 0, 0, 0, 0, 0, 0, 0, 0, 0, 0, 0, 0, 0, 0, 0, 0, 0, 0, 0, 0, 0, 0, 0, 0, 0, 0, 0, 0, 0, 0, 0, 0, 0, 0, 0, 0, 0, 0, 0, 0, 0, 0, 0, 0, 0, 0, 0, 0, 0, 0, 0, 0, 0, 0, 0, 0, 48]
def loAE : S8 := ⟨1769519235, 1978146305, 3531065404, 948635989, 3253632598, 848215424, 3896070502, 1594102871⟩
theorem loA_fin (F : Nat → Nat) (h : ∀ j, j < 6 → F j = loAB.getD j 0) : shN 6 F = loAE := one_fin (n := 6) loAB loAE (by decide) (by kernel_rfl) (by kernel_rfl) F h
def ptAB : List Nat := [0, 0, 0, 1, 97, 0, 0, 0, 0, 0, 0, 0, 2, 128, 0, 0, 0, 0, 0, 0, 0, 0, 0, 0, 0, 0, 0, 0, 0, 0, 0, 0, 0, 0, 0, 0, 0, 0, 0, 0, 0, 0, 0, 0, 0, 0, 0, 0, 0, 0, 0, 0, 0, 0, 0, 0, 0, 0, 0, 0, 0, 0, 0, 104]
def ptAE : S8 := ⟨1421739307, 3958025233, 3753849691, 1174843070, 3897640552, 33537731, 1379788019, 753540923⟩
theorem ptA_fin (F : Nat → Nat) (h : ∀ j, j < 13 → F j = ptAB.getD j 0) : shN 13 F = ptAE := one_fin (n := 13) ptAB ptAE (by decide) (by kernel_rfl) (by kernel_rfl) F h
def ptX : Nat := 38330015916156637350531333271045985180042241629868010241548759931542229884731
def ptY : Nat := 10484691339660004986586541581017369571416652653544655876550015263674263731647
def hiX : Nat := 8259649348649471652984889034704466360505534444257796029918527649727902942471
def loX : Nat := 47706144214514225368344641785504090068366019049315389453311778515288485794903
theorem ptX_lt : ptX < pP := by decide +kernel
theorem ptX_sq : ptY * ptY % pP = sqN ptX % pP := by kernel_rfl
theorem ptA_X : unbytes (tdV ptAE) = ptX := nbeq.1 (by kernel_rfl)
theorem hiA_X : unbytes (tdV hiAE) = hiX := nbeq.1 (by kernel_rfl)
theorem loA_X : unbytes (tdV loAE) = loX := nbeq.1 (by kernel_rfl)
theorem scA_X : modN hiX loX (primeN 1) ≠ 0 := by decide +kernel
theorem fpS_ok {n : Nat} {f : Nat → List Value} {c0 : Nat} (hc0 : c0 < 256) (h : (trN n f c0).2 = 0) : ∃ c X, c < 256 ∧ X < pP ∧ rootIs (sqN X) = true ∧ fpS n f = ((false, X, rootNum (sqN X)), ((c + 1 : Nat) : Int), 0) := by
  unfold fpS
  rw [hide_eq]
  cases hf : fstC (fun c => (trN n f c).2 == 0) 256 with
  | none =>
    have := fstC_none' hf c0 hc0
    simp only [h] at this
    simp at this
  | some c =>
    obtain ⟨h1, h2, _⟩ := fstC_some hf
    have h2 : (trN n f c).2 = 0 := by simpa using h2
    unfold trN at h2 ⊢
    rw [trS_eq] at h2
    obtain ⟨h3, h4, h5⟩ := rdX_ok h2
    exact ⟨c, _, h1, h3, h4, by simp only [trS_eq, h5]⟩
theorem pt_good {X : Nat} (h : X < pP) : okR (false, X, rootNum (sqN X)) := by
  have hp : pP < 2 ^ 256 := by decide
  exact ⟨Nat.lt_trans h hp, rootNum_lt _⟩
def txA : ByteArray := ⟨#[97]⟩
def noG : Nat → Nat × (Nat → List Value) := fun _ => (0, fun _ => [])
noncomputable def wk5T (P : RP × Int × Int) (S : Nat × Int) : Option Value :=
  bif P.2.2 == 0 then (bif S.2 == 0 then (bif decide (P.2.1 ≥ 1) then req (isPt (ptV P.1)) (bif errP (ckR (unPt (ptV P.1))) == 0 then (bif ((dig P.1.2.2 0 : Nat) : Int).tmod 2 == 0 then some (.bool (!(eqV (num S.1) (num 0)))) else some (.bool false)) else some (.bool false)) else some (.bool false)) else some (.bool false)) else some (.bool false)
theorem wk5_true : wk5T (ptS txA 0 (fun _ => [])) (scS (jl txA noG 0) (jF txA noG 0)) = some (.bool true) := by
  have e1 : smC 9 (jF txA (oneG 0 fun _ => []) 1) 2 = ptAE := ptA_fin _ fun j hj => nbeq.1 (allB_at (p := fun j => Nat.beq (bN (appF 9 (jF txA (oneG 0 fun _ => []) 1) (sgF 4 (la4 ((2 : Nat) : Int)))) j) (ptAB.getD j 0)) (n := 13) (by kernel_rfl) hj)
  have e2 : (trN 9 (jF txA (oneG 0 fun _ => []) 1) 2).2 = 0 := by
    unfold trN
    rw [e1, trS_eq, ptA_X]
    exact rdX_of ptX_lt ptX_sq
  obtain ⟨c, X, h1, h2, h3, h4⟩ := fpS_ok (by omega) e2
  have e3 : ptS txA 0 (fun _ => []) = ((false, X, rootNum (sqN X)), ((c + 1 : Nat) : Int), 0) := by
    unfold ptS
    rw [hide_eq, if_pos (by decide +kernel : jl txA (oneG 0 fun _ => []) 1 ≤ 65536)]
    exact h4
  have e4 : sum1 5 (jF txA noG 0) 0 = hiAE := hiA_fin _ fun j hj => nbeq.1 (allB_at (p := fun j => Nat.beq (bN (appF 5 (jF txA noG 0) (sgF 1 (lstF [.int .u8 0] 0 1))) j) (hiAB.getD j 0)) (n := 6) (by kernel_rfl) hj)
  have e5 : sum1 5 (jF txA noG 0) 1 = loAE := loA_fin _ fun j hj => nbeq.1 (allB_at (p := fun j => Nat.beq (bN (appF 5 (jF txA noG 0) (sgF 1 (lstF [.int .u8 1] 0 1))) j) (loAB.getD j 0)) (n := 6) (by kernel_rfl) hj)
  have e6 : scS (jl txA noG 0) (jF txA noG 0) = (modN hiX loX (primeN 1), 0) := by
    have : jl txA noG 0 = 5 := rfl
    unfold scS scN
    rw [this, hide_eq, if_pos (by decide), hide_eq, e4, e5, hiA_X, loA_X]
  obtain ⟨k1, k2, _⟩ := root_pt h2 h3
  have hmod : modN hiX loX (primeN 1) < 2 ^ 256 := by decide +kernel
  rw [e3, e6]
  unfold wk5T
  simp only
  rw [isPt_ptV, req_true rfl, unPt_ptV (pt_good h2), k1, dig_par, k2, eqV_num, Nat.mod_eq_of_lt hmod, Nat.zero_mod, decide_eq_false scA_X, decide_eq_true (show ((c + 1 : Nat) : Int) ≥ 1 by omega)]
  rfl
end Go.W
/-
  A tag and parts, as the statements of package draw join them; more than is played.
-/
namespace Go.W
def hvP (s : ByteArray) (n : Nat) (g : Nat → Nat × (Nat → List Value)) : Prop := s.size ≤ 2000 ∧ n ≤ 50 ∧ ∀ k, k < n → (g k).1 ≤ 2000
def hvR (g : Nat → Nat × (Nat → List Value)) : Nat → Bool
  | 0 => false
  | k + 1 => hvR g k || Nat.blt 2000 (g k).1
def hvB (s : ByteArray) (n : Nat) (g : Nat → Nat × (Nat → List Value)) : Bool := Nat.blt 2000 s.size || (Nat.blt 50 n || hvR g n)
theorem hvR_false (g : Nat → Nat × (Nat → List Value)) : ∀ n, hvR g n = false ↔ ∀ k, k < n → (g k).1 ≤ 2000
  | 0 => ⟨fun _ k h => by omega, fun _ => rfl⟩
  | n + 1 => by
    show (hvR g n || Nat.blt 2000 (g n).1) = false ↔ _
    rw [Bool.or_eq_false_iff, hvR_false g n, Bool.eq_false_iff, ne_eq, Nat.blt_eq]
    constructor
    · rintro ⟨h1, h2⟩ k hk
      by_cases e : k = n
      · subst e; omega
      · exact h1 k (by omega)
    · intro h
      exact ⟨fun k hk => h k (by omega), by have := h n (by omega); omega⟩
theorem hvB_iff {s : ByteArray} {n : Nat} {g : Nat → Nat × (Nat → List Value)} : hvB s n g = false ↔ hvP s n g := by
  unfold hvB hvP
  rw [Bool.or_eq_false_iff, Bool.or_eq_false_iff, hvR_false, Bool.eq_false_iff, ne_eq, Nat.blt_eq, Bool.eq_false_iff, ne_eq, Nat.blt_eq]
  constructor
  · rintro ⟨h1, h2, h3⟩; exact ⟨by omega, by omega, h3⟩
  · rintro ⟨h1, h2, h3⟩; exact ⟨by omega, by omega, h3⟩
theorem hvB_false {s : ByteArray} {n : Nat} {g : Nat → Nat × (Nat → List Value)} (h : hvP s n g) : hvB s n g = false := hvB_iff.2 h
theorem hvB_true {s : ByteArray} {n : Nat} {g : Nat → Nat × (Nat → List Value)} (h : ¬ hvP s n g) : hvB s n g = true := by
  cases hb : hvB s n g with
  | true => rfl
  | false => exact absurd (hvB_iff.1 hb) h
def HvF : List Value → (Nat → Option Blk) → Nat → List (Bool × Value × List (Nat × Blk))
  | [.string s, v], mm, _ => [((srcF mm kB v).1, .bool (hvB s (srcF mm kB v).2.1 (srcF mm kB v).2.2), [])]
  | _, _, _ => []
theorem hv_len {s : ByteArray} {g : Nat → Nat × (Nat → List Value)} : ∀ {n : Nat}, s.size ≤ 2000 → (∀ k, k < n → (g k).1 ≤ 2000) → jl s g n ≤ 2004 + 2004 * n
  | 0, h, _ => by show 4 + s.size ≤ _; omega
  | n + 1, h, h2 => by
    have := hv_len (n := n) h (fun k hk => h2 k (by omega))
    have := h2 n (by omega)
    show jl s g n + 4 + (g n).1 ≤ _
    omega
def b4L (x : Int) : List Value := [byI x 24, byI x 16, byI x 8, .int .u8 (IntKind.u8.wrap x)]
theorem bI_b4 (x : Nat) : ∀ j, j < 4 → bI (lstF (b4L (x : Int)) 0 1) j = bI (la4 (x : Int)) j
  | 0, _ => rfl
  | 1, _ => rfl
  | 2, _ => rfl
  | 3, _ => by
    show IntKind.u8.wrap (x : Int) = toI (byI x 0)
    rw [byI_nat, wrap_u8]
    show (x : Int) % 256 = ((x / 2 ^ 0 % 256 : Nat) : Int)
    rw [Nat.pow_zero, Nat.div_one]
    omega
  | j + 4, h => absurd h (by omega)
def lF (s : ByteArray) (g : Nat → Nat × (Nat → List Value)) : Nat → Nat → List Value
  | 0 => appF 4 (lstF (b4L ((s.size : Nat) : Int)) 0 1) (strF s)
  | k + 1 => appF (jl s g k + 4) (appF (jl s g k) (lF s g k) (lstF (b4L (((g k).1 : Nat) : Int)) 0 1)) (sgF (g k).1 (g k).2)
theorem lF_eq (s : ByteArray) (g : Nat → Nat × (Nat → List Value)) : ∀ n j, bI (lF s g n) j = bI (jF s g n) j
  | 0, j => by
    rw [jF_zero]
    show bI (appF 4 (lstF (b4L ((s.size : Nat) : Int)) 0 1) (strF s)) j = _
    rw [bI_app]
    by_cases h : j < 4
    · rw [if_pos h, if_pos h, bI_b4 _ j h]
    · rw [if_neg h, if_neg h]
  | n + 1, j => by
    rw [jF_succ]
    show bI (appF (jl s g n + 4) (appF (jl s g n) (lF s g n) (lstF (b4L (((g n).1 : Nat) : Int)) 0 1)) (sgF (g n).1 (g n).2)) j = _
    rw [bI_app]
    by_cases h : j < jl s g n + 4
    · rw [if_pos h, bI_app]
      by_cases h2 : j < jl s g n
      · rw [if_pos h2, if_pos h2]; exact lF_eq s g n j
      · rw [if_neg h2, if_neg h2, if_pos h, bI_b4 _ _ (by omega)]
    · rw [if_neg h, if_neg (by omega), if_neg h, bI_sg]
def LjF (e : Nat) : List Value → (Nat → Option Blk) → Nat → List (Bool × Value × List (Nat × Blk))
  | [.string s, v], mm, id => [((srcF mm kB v).1 && Nat.ble (jl s (srcF mm kB v).2.2 (srcF mm kB v).2.1) 1000000, .slice (some ⟨nid id 0, 0, none⟩) (jl s (srcF mm kB v).2.2 (srcF mm kB v).2.1) (jl s (srcF mm kB v).2.2 (srcF mm kB v).2.1),
      [(nid id 0, ⟨.row kB (jl s (srcF mm kB v).2.2 (srcF mm kB v).2.1) (lF s (srcF mm kB v).2.2 (srcF mm kB v).2.1), e, true⟩)])]
  | _, _, _ => []
def twoG (m : Nat) (f : Nat → List Value) (k : Nat) (h : Nat → List Value) : Nat → Nat × (Nat → List Value)
  | 0 => (m, f)
  | _ => (k, h)
def c4L (x : Int) : List Value := [z8, z8, byI x 8, .int .u8 (IntKind.u8.wrap x)]
theorem bI_c4 {x : Nat} (h : x < 65536) : ∀ j, j < 4 → bI (lstF (c4L (x : Int)) 0 1) j = bI (la4 (x : Int)) j
  | 0, _ => by rw [bI_la4 _ _ (by omega)]; unfold beN; show (0 : Int) = _; rw [Nat.div_eq_of_lt (Nat.lt_of_lt_of_le h (by decide))]; rfl
  | 1, _ => by rw [bI_la4 _ _ (by omega)]; unfold beN; show (0 : Int) = _; rw [Nat.div_eq_of_lt (Nat.lt_of_lt_of_le h (by decide))]; rfl
  | 2, _ => rfl
  | 3, _ => by
    show IntKind.u8.wrap (x : Int) = toI (byI x 0)
    rw [byI_nat, wrap_u8]
    show (x : Int) % 256 = ((x / 2 ^ 0 % 256 : Nat) : Int)
    rw [Nat.pow_zero, Nat.div_one]
    omega
  | j + 4, h => absurd h (by omega)
end Go.W
/-
  The document's joined parts.
-/
namespace Go.W
def be4 (x : Int) : Nat → List Value := appF 3 (appF 2 (appF 1 (lstF [byI x 24] 0 1) (lstF [byI x 16] 0 1)) (lstF [byI x 8] 0 1)) (lstF [byI x 0] 0 1)
def be8 (x : Int) : Nat → List Value := appF 7 (appF 6 (appF 5 (appF 4 (appF 3 (appF 2 (appF 1 (lstF [byI x 56] 0 1) (lstF [byI x 48] 0 1)) (lstF [byI x 40] 0 1)) (lstF [byI x 32] 0 1)) (lstF [byI x 24] 0 1)) (lstF [byI x 16] 0 1)) (lstF [byI x 8] 0 1)) (lstF [byI x 0] 0 1)
theorem bI_be4 (x : Int) : ∀ j, j < 4 → bI (be4 x) j = bI (la4 x) j
  | 0, _ => rfl
  | 1, _ => rfl
  | 2, _ => rfl
  | 3, _ => rfl
  | j + 4, h => absurd h (by omega)
theorem bI_be8 (x : Int) : ∀ j, j < 8 → bI (be8 x) j = bI (la8 x) j
  | 0, _ => rfl
  | 1, _ => rfl
  | 2, _ => rfl
  | 3, _ => rfl
  | 4, _ => rfl
  | 5, _ => rfl
  | 6, _ => rfl
  | 7, _ => rfl
  | j + 8, h => absurd h (by omega)
def BeF (e : Nat) : List Value → (Nat → Option Blk) → Nat → List (Bool × Value × List (Nat × Blk))
  | [.int .u64 x, .int .i64 s], _, id => [(decide (s = 4), .slice (some ⟨nid id 0, 0, none⟩) 4 4, [(nid id 0, ⟨.row kB 4 (be4 x), e, true⟩)]), (decide (s = 8), .slice (some ⟨nid id 0, 0, none⟩) 8 8, [(nid id 0, ⟨.row kB 8 (be8 x), e, true⟩)])]
  | _, _, _ => []
def dF (s : ByteArray) (g : Nat → Nat × (Nat → List Value)) : Nat → Nat → List Value
  | 0 => appF 4 (sgF 4 (sgF 4 (be4 ((s.size : Nat) : Int)))) (sgF s.size (sgF s.size (strF s)))
  | k + 1 => appF (jl s g k + 4) (appF (jl s g k) (dF s g k) (sgF 4 (be4 (((g k).1 : Nat) : Int)))) (sgF (g k).1 (g k).2)
theorem dF_eq (s : ByteArray) (g : Nat → Nat × (Nat → List Value)) : ∀ n j, bI (dF s g n) j = bI (jF s g n) j
  | 0, j => by
    rw [jF_zero]
    show bI (appF 4 (sgF 4 (sgF 4 (be4 ((s.size : Nat) : Int)))) (sgF s.size (sgF s.size (strF s)))) j = _
    rw [bI_app]
    by_cases h : j < 4
    · rw [if_pos h, if_pos h, bI_sg, bI_sg, bI_be4 _ j h]
    · rw [if_neg h, if_neg h, bI_sg, bI_sg]
  | n + 1, j => by
    rw [jF_succ]
    show bI (appF (jl s g n + 4) (appF (jl s g n) (dF s g n) (sgF 4 (be4 (((g n).1 : Nat) : Int)))) (sgF (g n).1 (g n).2)) j = _
    rw [bI_app]
    by_cases h : j < jl s g n + 4
    · rw [if_pos h, bI_app]
      by_cases h2 : j < jl s g n
      · rw [if_pos h2, if_pos h2]; exact dF_eq s g n j
      · rw [if_neg h2, if_neg h2, if_pos h, bI_sg, bI_be4 _ _ (by omega)]
    · rw [if_neg h, if_neg (by omega), if_neg h, bI_sg]
def JdF (e : Nat) : List Value → (Nat → Option Blk) → Nat → List (Bool × Value × List (Nat × Blk))
  | [.string s, v], mm, id => [((srcF mm kB v).1 && Nat.ble (srcF mm kB v).2.1 1000000 && Nat.ble (jl s (srcF mm kB v).2.2 (srcF mm kB v).2.1) 65536, .tuple #[.slice (some ⟨nid id 0, 0, none⟩) (jl s (srcF mm kB v).2.2 (srcF mm kB v).2.1) (jl s (srcF mm kB v).2.2 (srcF mm kB v).2.1), .bool true],
      [(nid id 0, ⟨.row kB (jl s (srcF mm kB v).2.2 (srcF mm kB v).2.1) (dF s (srcF mm kB v).2.2 (srcF mm kB v).2.1), e, true⟩)]),
      ((srcF mm kB v).1 && Nat.ble (srcF mm kB v).2.1 1000000, .tuple #[.slice none 0 0, .bool false], [])]
  | _, _, _ => []
end Go.W
/-
  Slices of rows, copied and held against one another; the document's scalars.
-/
namespace Go.W
def twP (p : Nat × (Nat → List Value)) : Nat × (Nat → List Value) := (p.1, twF (sgF p.1 p.2))
def trG (g : Nat → Nat × (Nat → List Value)) : Nat → Nat → Nat × (Nat → List Value)
  | 0 => fun _ => twP (g 0)
  | k + 1 => setN (k + 1) (twP (g (k + 1))) (trG g k)
def trE (e : Nat) : Nat → Nat → TypeId
  | 0 => fun _ => e
  | k + 1 => setN (k + 1) e (trE e k)
theorem setN_eq {α : Type} (m : Nat) (x : α) (f : Nat → α) : setN m x f m = x := by
  unfold setN; rw [Nat.beq_refl]; rfl
theorem setN_ne {α : Type} {m j : Nat} (x : α) (f : Nat → α) (h : j ≠ m) : setN m x f j = f j := by
  unfold setN; rw [nbeq_ne h]; rfl
theorem trG_at (g : Nat → Nat × (Nat → List Value)) : ∀ k j, j ≤ k → trG g k j = twP (g j)
  | 0, j, h => by obtain rfl : j = 0 := by omega
                  rfl
  | k + 1, j, h => by
    show setN (k + 1) (twP (g (k + 1))) (trG g k) j = _
    by_cases e : j = k + 1
    · subst e; exact setN_eq _ _ _
    · rw [setN_ne _ _ e]; exact trG_at g k j (by omega)
def TrF (e e8 : Nat) : List Value → (Nat → Option Blk) → Nat → List (Bool × Value × List (Nat × Blk))
  | [v], mm, id => [((srcF mm kB v).1 && Nat.beq (srcF mm kB v).2.1 0, .slice none 0 0, []),
      ((srcF mm kB v).1 && Nat.ble (srcF mm kB v).2.1 50 && !(hvR (srcF mm kB v).2.2 (srcF mm kB v).2.1), .slice (some ⟨nid id 0, 0, none⟩) (srcF mm kB v).2.1 (srcF mm kB v).2.1,
        [(nid id 0, ⟨.fam kB (srcF mm kB v).2.1 (trE e8 ((srcF mm kB v).2.1 - 1)) (trG (srcF mm kB v).2.2 ((srcF mm kB v).2.1 - 1)), e, true⟩)])]
  | _, _, _ => []
def eqQ (n : Nat) (g : Nat → Nat × (Nat → List Value)) (m : Nat) (h : Nat → Nat × (Nat → List Value)) : Prop := n = m ∧ ∀ j, j < n → eqR (g j).1 (g j).2 (h j).1 (h j).2 = true
noncomputable def eqG (n : Nat) (g : Nat → Nat × (Nat → List Value)) (m : Nat) (h : Nat → Nat × (Nat → List Value)) : Bool := @decide (eqQ n g m h) (Classical.propDecidable _)
theorem eqG_true {n m : Nat} {g h : Nat → Nat × (Nat → List Value)} (e : eqQ n g m h) : eqG n g m h = true := by unfold eqG; exact @decide_eq_true _ (Classical.propDecidable _) e
theorem eqG_false {n m : Nat} {g h : Nat → Nat × (Nat → List Value)} (e : ¬ eqQ n g m h) : eqG n g m h = false := by unfold eqG; exact @decide_eq_false _ (Classical.propDecidable _) e
theorem eqR_sg (n : Nat) (f : Nat → List Value) (m : Nat) (h : Nat → List Value) : eqR n (sgF n f) m (sgF m h) = eqR n f m h := by
  rw [Bool.eq_iff_iff, eqR_iff, eqR_iff]
  simp only [bI_sg]
theorem eqR_tw (n : Nat) (f : Nat → List Value) : eqR n (twF (sgF n f)) n f = true := eqR_iff.2 ⟨rfl, fun j _ => by rw [bI_tw, bI_sg]⟩
noncomputable def RrF : List Value → (Nat → Option Blk) → Nat → List (Bool × Value × List (Nat × Blk))
  | [a, b], mm, _ => [((srcF mm kB a).1 && (srcF mm kB b).1 && Nat.ble (srcF mm kB a).2.1 1000000 && !(hvR (srcF mm kB a).2.2 (srcF mm kB a).2.1), .bool (eqG (srcF mm kB a).2.1 (srcF mm kB a).2.2 (srcF mm kB b).2.1 (srcF mm kB b).2.2), [])]
  | _, _, _ => []
def WideF : List Value → Option (Bool × Value)
  | [.int .i64 w, hi, lo] => some (okW w && isNum lo && isNum hi, num (foldN w (unnum lo) (unnum hi)))
  | _ => none
noncomputable def skS (L : Nat) (f : Nat → List Value) : Nat × Bool := hide (if L ≤ 65536 then (scN L f, true) else (0, false))
noncomputable def skV (L : Nat) (f : Nat → List Value) : Value := .tuple #[num (skS L f).1, .bool (skS L f).2]
noncomputable def SkF : List Value → (Nat → Option Blk) → Nat → List (Bool × Value × List (Nat × Blk))
  | [.string s, v], mm, _ => [((srcF mm kB v).1 && Nat.ble (srcF mm kB v).2.1 1000000, skV (jl s (srcF mm kB v).2.2 (srcF mm kB v).2.1) (jF s (srcF mm kB v).2.2 (srcF mm kB v).2.1), [])]
  | _, _, _ => []
theorem foldN_mod (lo hi : Nat) : foldN 1 lo hi = modN hi lo (primeN 1) := by
  unfold foldN modN
  rw [if_neg (show ¬ primeN 1 = 0 by decide +kernel)]
theorem scN_lt (L : Nat) (f : Nat → List Value) : scN L f < primeN 1 := by
  unfold scN modN
  rw [hide_eq, if_neg (show ¬ primeN 1 = 0 by decide +kernel)]
  exact Nat.mod_lt _ (by decide +kernel)
def dcE (E : Int) (S W : Nat) (ok : Bool) : Option Value :=
  bif !ok then (bif E == 4 then (bif eqV (num S) (num 0) then some (.bool true) else some (.bool false)) else some (.bool false))
  else (bif E == 0 then (bif eqV (num S) (num W) then (req (isNum (num S) && isNum (num (primeN 1))) (bif decide (cmpI (unnum (num S)) (unnum (num (primeN 1))) < 0) then some (.bool true) else some (.bool false))) else some (.bool false)) else some (.bool false))
theorem dcE_true {L : Nat} {J J2 : Nat → List Value} (h : ∀ j, j < L → bI J j = bI J2 j) : dcE (scS L J).2 (scS L J).1 (skS L J2).1 (skS L J2).2 = some (.bool true) := by
  rw [scS_congr h]
  unfold scS skS
  rw [hide_eq, hide_eq]
  by_cases hL : L ≤ 65536
  · rw [if_pos hL, if_pos hL]
    have hlt := scN_lt L J2
    have hp : primeN 1 < 2 ^ 256 := by decide +kernel
    unfold dcE
    simp only
    rw [eqV_self, isNum_num, isNum_num, unnum_lt (by omega), unnum_lt hp]
    have : cmpI (scN L J2) (primeN 1) = -1 := by unfold cmpI; rw [if_pos hlt]
    rw [this]; rfl
  · rw [if_neg hL, if_neg hL]
    unfold dcE
    simp only
    rw [eqV_self]; rfl
end Go.W
