/-
  Several texts in one: W15 M28 M29 M30 M31 M35 M36 M37 M38 M39 W21 M63p W25 M51 M52 M32 M55 M58s M63 W22 W28 W31 W32.
-/
import Derived.Test.YtckbmhegopjnmaaZe
import Derived.Deep.Slices
namespace Go.W
open Go.RowKit (Below)
def srcB (mm : Nat -> Option Blk) (ks : List CK) (v : Value) : Bool × Nat × (Nat -> List Value) :=
 match v with
 | .slice none n c => (Nat.beq n 0 && Nat.beq c 0, 0, fun _ => [])
 | .slice (some ⟨b, off, none⟩) n c => (match mm b with
  | some blk => (match blk.cells with
   | .lst l => (Nat.ble (off + n * ks.length) l.length && fitsK (repK n ks) ((l.drop off).take (n * ks.length)) && Nat.ble n c, n, lstF l off ks.length)
   | .row ks' m f => (Nat.beq off 0 && Nat.ble n m && ksEq ks' ks && Nat.ble n c, n, segF ⟨b, 0, m, ks', m, f, blk.elem, blk.own, [b]⟩)
   | .tail i l cnt sz => (match mm i with
    | some base => (match base.cells with
     | .row ks' m f => ((Nat.beq ks'.length sz && Nat.ble (l + cnt) m) && (Nat.beq off 0 && Nat.ble n cnt && ksEq ks' ks && Nat.ble n c), n, segF ⟨i, l, cnt, ks', m, f, base.elem, base.own, [b, i]⟩)
     | _ => (false, 0, fun _ => []))
    | none => (false, 0, fun _ => []))
   | _ => (false, 0, fun _ => []))
  | none => (false, 0, fun _ => []))
 | _ => (false, 0, fun _ => [])
inductive Arg where
 | pl (v : Value)
 | sl (ks : List CK) (n : Nat) (g : Nat -> List Value)
def argId (k : Nat) : Nat := 1500000 + k
def cArgs : List Arg -> Nat -> List Value
 | [], _ => []
 | .pl v :: r, k => v :: cArgs r (k + 1)
 | .sl _ n _ :: r, k => .slice (some ⟨argId k, 0, none⟩) n n :: cArgs r (k + 1)
def cMem (es : Nat -> TypeId) : List Arg -> Nat -> List (Nat × Blk)
 | [], _ => []
 | .pl _ :: r, k => cMem es r (k + 1)
 | .sl ks n g :: r, k => (argId k, ⟨.row ks n g, es k, false⟩) :: cMem es r (k + 1)
def AOk (mm : Nat -> Option Blk) : List Value -> List Arg -> Prop
 | [], [] => True
 | v :: vs, .pl u :: A => v = u ∧ pl2 u = true ∧ AOk mm vs A
 | v :: vs, .sl ks n g :: A => srcB mm ks v = (true, n, g) ∧ AOk mm vs A
 | _, _ => False
def joinL (l m : List (Nat × Blk)) : Option (List (Nat × Blk)) :=
 match l with
 | [] => some m
 | p :: l => (match m with
  | [] => some (p :: l)
  | _ => none)
section
variable {R : Type}
def isTail : Cells -> Bool
 | .tail _ _ _ _ => true
 | _ => false
def tailOf (mem : Nat -> Option Blk) (c : Cells) : Option Seg :=
 match c with
 | .tail i l cnt sz => (match mem i with
  | some base => (match base.cells with
   | .row ks n g => bif Nat.beq ks.length sz && Nat.ble (l + cnt) n then some ⟨i, l, cnt, ks, n, g, base.elem, base.own, []⟩ else none
   | _ => none)
  | none => none)
 | _ => none
def expV (T : Tab) (mem : Nat -> Option Blk) (id : Nat) (v : Value) (k : Value -> List (Nat × Blk) -> R) (f : R) : R :=
 match v with
 | .slice (some ⟨j, off, none⟩) m c => oK (mem j) (fun blk => bif isTail blk.cells then oK (tailOf mem blk.cells) (fun q => bif q.own && loose j && Nat.beq off 0 && Nat.ble m q.cnt && Nat.ble m c && Nat.blt 0 m then
    k (.slice (some ⟨nid id 0, 0, none⟩) m m) [(nid id 0, ⟨.row q.ks m (fun x => q.f (q.start + x)), q.elem, loose q.base⟩)] else f) f else bif blk.own && Nat.blt j 1000000 then (match blk.cells with
   | .row ks n g => bif loose j && Nat.beq off 0 && Nat.ble m c then k (.slice (some ⟨nid id 0, 0, none⟩) m c) [(nid id 0, ⟨.row ks n g, blk.elem, true⟩)] else f
   | .lst l => oK (look T blk.elem) (fun i => bif !(loose j) && ksOk i && Nat.ble m c && Nat.ble (off + c * i.siz) l.length && fitsK (repK c i.eqk) ((l.drop off).take (c * i.siz)) then
     k (.slice (some ⟨nid id 0, 0, none⟩) m c) [(nid id 0, ⟨.row i.eqk c (lstF l off i.siz), blk.elem, true⟩)] else f) f
   | .fam ks n es g => bif loose j && Nat.beq off 0 && Nat.ble m c then k (.slice (some ⟨nid id 0, 0, none⟩) m c) [(nid id 0, ⟨.fam ks n es g, blk.elem, true⟩)] else f
   | _ => f) else f) f
 | v => bif pl1 v then k v [] else f
def expL (T : Tab) (mem : Nat -> Option Blk) (id : Nat) : List Value -> (List Value -> List (Nat × Blk) -> R) -> R -> R
 | [], k, _ => k [] []
 | v :: r, k, f => expV T mem id v (fun u l => expL T mem id r (fun us m => oK (joinL l m) (fun x => k (u :: us) x) f) f) f
def expK (T : Tab) (mem : Nat -> Option Blk) (id : Nat) (v : Value) (k : Value -> List (Nat × Blk) -> R) (f : R) : R :=
 match v with
 | .tuple vs => expL T mem id vs.toList (fun us l => k (.tuple us.toArray) l) f
 | v => expV T mem id v k f
def fnM (C : Cfg) (fuel : Nat) (fn : Func) (c : Code) (args : List Value) (mem : List (Nat × Blk)) (next id : Nat) (k : Value -> List (Nat × Blk) -> R) (f : R) : R :=
 evK C fuel [] c ⟨argSlots 0 args, mem, next⟩ (fun e s => endK C.T fn e s (fun v => expK C.T (look s.mem) id v k f) f) f
variable {R' : Type} (h : R -> R')
theorem expV_nat (T : Tab) (mem : Nat -> Option Blk) (id : Nat) (v : Value) (k : Value -> List (Nat × Blk) -> R) (f : R) : h (expV T mem id v k f) = expV T mem id v (fun a b => h (k a b)) (h f) := by
 unfold expV
 split
 · rw [oK_nat h]
  congr 1; funext blk
  rw [cond_nat h]
  congr 1
  · simp only [oK_nat h, cond_nat h]
  rw [cond_nat h]
  congr 1
  split
  · rw [cond_nat h]
  · simp only [oK_nat h, cond_nat h]
  · rw [cond_nat h]
  · rfl
 · rw [cond_nat h]
theorem expL_nat (T : Tab) (mem : Nat -> Option Blk) (id : Nat) : ∀ (vs : List Value) (k : List Value -> List (Nat × Blk) -> R) (f : R), h (expL T mem id vs k f) = expL T mem id vs (fun a b => h (k a b)) (h f)
 | [], _, _ => rfl
 | v :: r, k, f => by
  simp only [expL, expV_nat h, expL_nat T mem id r, oK_nat h]
end
theorem expV_some {β : Type} {T : Tab} {mem : Nat -> Option Blk} {id : Nat} {v : Value} {k : Value -> List (Nat × Blk) -> Option β} {r : β} : expV T mem id v k none = some r ↔ ∃ u l, expV T mem id v (fun a b => some (a, b)) none = some (u, l) ∧ k u l = some r := by
 have : expV T mem id v k none = oK (expV T mem id v (fun a b => some (a, b)) none) (fun q => k q.1 q.2) none := (expV_nat (fun o : Option (Value × List (Nat × Blk)) => oK o (fun q => k q.1 q.2) none) T mem id v (fun a b => some (a, b)) none).symm
 rw [this, oK_some]
 exact ⟨fun ⟨q, h1, h2⟩ => ⟨q.1, q.2, h1, h2⟩, fun ⟨u, l, h1, h2⟩ => ⟨(u, l), h1, h2⟩⟩
theorem expL_some {β : Type} {T : Tab} {mem : Nat -> Option Blk} {id : Nat} {vs : List Value} {k : List Value -> List (Nat × Blk) -> Option β} {r : β} : expL T mem id vs k none = some r ↔ ∃ u l, expL T mem id vs (fun a b => some (a, b)) none = some (u, l) ∧ k u l = some r := by
 have : expL T mem id vs k none = oK (expL T mem id vs (fun a b => some (a, b)) none) (fun q => k q.1 q.2) none := (expL_nat (fun o : Option (List Value × List (Nat × Blk)) => oK o (fun q => k q.1 q.2) none) T mem id vs (fun a b => some (a, b)) none).symm
 rw [this, oK_some]
 exact ⟨fun ⟨q, h1, h2⟩ => ⟨q.1, q.2, h1, h2⟩, fun ⟨u, l, h1, h2⟩ => ⟨(u, l), h1, h2⟩⟩
def fnMS (C : Cfg) (fuel : Nat) (fn : Func) (c : Code) (args : List Value) (mem : List (Nat × Blk)) (next id : Nat) : Option (Value × List (Nat × Blk)) := fnM C fuel fn c args mem next id (fun v l => some (v, l)) none
section
variable {P : Program} {GL : Glob} {w0 : Wb GL} {R : Nat -> Pl -> Prop} {fm : Nat -> Option Blk} {w : World}
theorem src_heap (h : MRel w0 R fm w) {ks : List CK} {v v' : Value} {n : Nat} {g : Nat -> List Value} (hq : srcB fm ks v = (true, n, g)) (hv : V2 R v v') :
  ∃ (p : Pl) (e : TypeId), n <= p.c ∧ (match p.a with
   | some b => v' = .slice (some ⟨b, p.d, none⟩) n p.c ∧ ∃ cs fz, w.heap[b]? = some (.cells cs e fz) ∧ LP R (rowL ks g 0 n) (cs.toList.drop p.d)
   | none => n = 0 ∧ p.c = 0 ∧ p.d = 0 ∧ Emp v') := by
 unfold srcB at hq
 split at hq
 · rename_i n0 c
  simp only [Prod.mk.injEq, Bool.and_eq_true] at hq
  obtain ⟨⟨h0, h1⟩, rfl, _⟩ := hq
  have h0 := nbeq.1 h0; subst h0
  have h1 := nbeq.1 h1; subst h1
  have := (V2_plain (R := R) (v := .slice none 0 0) rfl).1 hv
  exact ⟨⟨none, 0, 0⟩, 0, Nat.le_refl _, rfl, rfl, rfl, none, this⟩
 · rename_i b off n0 c
  obtain ⟨p0, hp0, hsl⟩ := V2_slice hv
  -- where it lies
  have key : (∀ s pos, fm b ≠ some ⟨.itr s pos, 0, true⟩) -> ∀ (hn : n0 = n) (hnc : n <= c) (e : TypeId), (∀ bl, p0.a = some bl -> n ≠ 0 -> ∃ cs fz, w.heap[bl]? = some (.cells cs e fz) ∧ LP R (rowL ks g 0 n) (cs.toList.drop (p0.d + off))) ->
    ∃ (p : Pl) (e : TypeId), n <= p.c ∧ (match p.a with
     | some b => v' = .slice (some ⟨b, p.d, none⟩) n p.c ∧ ∃ cs fz, w.heap[b]? = some (.cells cs e fz) ∧ LP R (rowL ks g 0 n) (cs.toList.drop p.d)
     | none => n = 0 ∧ p.c = 0 ∧ p.d = 0 ∧ Emp v') := by
   intro hni hn hnc e hcont
   subst hn
   have some_case : ∀ bl c', p0.a = some bl -> c <= c' -> v' = .slice (some ⟨bl, p0.d + off, none⟩) n0 c' -> ∃ (p : Pl) (e : TypeId), n0 <= p.c ∧ (match p.a with
     | some b => v' = .slice (some ⟨b, p.d, none⟩) n0 p.c ∧ ∃ cs fz, w.heap[b]? = some (.cells cs e fz) ∧ LP R (rowL ks g 0 n0) (cs.toList.drop p.d)
     | none => n0 = 0 ∧ p.c = 0 ∧ p.d = 0 ∧ Emp v') := by
    intro bl c' hpa hcc hv'
    by_cases h0 : n0 = 0
    · obtain ⟨cs, e1, fz, h1⟩ := (h.there _ _ _ hp0 hpa).cells hni
     exact ⟨⟨some bl, p0.d + off, c'⟩, e1, by simp only; omega, hv', cs, fz, h1, by rw [h0]; exact LP_nil⟩
    · obtain ⟨cs, fz, h1, h2⟩ := hcont bl hpa h0
     exact ⟨⟨some bl, p0.d + off, c'⟩, e, by simp only; omega, hv', cs, fz, h1, h2⟩
   cases hlo : loose b with
   | false =>
    obtain ⟨bl, h1, h2⟩ := SlOk_tight hlo hsl
    exact some_case bl c h1 (Nat.le_refl _) h2
   | true =>
    obtain ⟨rfl, h2, ⟨bl, h3, h4⟩ | ⟨h3, h4, h5, h6⟩⟩ := SlOk_loose hlo hsl
    · exact some_case bl p0.c h3 h2 (by rw [Nat.add_zero]; exact h4)
    · exact ⟨⟨none, 0, 0⟩, 0, by simp only; omega, h4, rfl, rfl, h6⟩
  split at hq
  · rename_i blk hb
   obtain ⟨cells, e, own⟩ := blk
   simp only at hq
   split at hq
   · rename_i l
    simp only [Prod.mk.injEq, Bool.and_eq_true] at hq
    obtain ⟨⟨⟨h1, h2⟩, h3⟩, h4, h5⟩ := hq
    have h1 := Nat.le_of_ble_eq_true h1
    refine key (fun s pos hs => by rw [hb] at hs; cases hs) h4 (by rw [<- h4]; exact Nat.le_of_ble_eq_true h3) e (fun bl hpa h0 => ?_)
    subst h4
    obtain ⟨p', hp', hcont⟩ := memOk_lst h hb
    have := h.func _ _ _ hp0 hp'; subst this
    rw [hpa] at hcont
    obtain ⟨cs, fz, k1, k2, _⟩ := hcont
    have k2 : LP R l (cs.toList.drop p0.d) := k2
    refine ⟨cs, fz, k1, ?_⟩
    rw [<- h5, rowL_lst h2 n0 (Nat.le_refl _)]
    have := LP_part k2 (off := off) (n := n0 * ks.length) h1
    unfold LP
    rw [<- List.drop_drop, List.length_take, List.length_drop, Nat.min_eq_left (by omega)]
    exact this
   · rename_i ks' m f
    simp only [Prod.mk.injEq, Bool.and_eq_true] at hq
    obtain ⟨⟨⟨⟨h1, h2⟩, h2'⟩, h3⟩, h4, h5⟩ := hq
    have h1 := nbeq.1 h1
    have h2 := Nat.le_of_ble_eq_true h2
    have h2' := ksEq_eq h2'
    subst h1 h2'
    refine key (fun s pos hs => by rw [hb] at hs; cases hs) h4 (by rw [<- h4]; exact Nat.le_of_ble_eq_true h3) e (fun bl hpa h0 => ?_)
    subst h4
    have hs : segS fm b = some ⟨b, 0, m, ks', m, f, e, own, [b]⟩ := by simp only [segS, segK, hb, oK]
    obtain ⟨p1, cs, fz, _, _, _, _, _, k3, k4, k5, _⟩ := seg_cells h hs hp0 hpa (by simp only; omega)
    simp only at k3 k4 k5
    refine ⟨cs, fz, k3, ?_⟩
    rw [<- h5, Nat.add_zero]
    have e1 := rowL_seg ⟨b, 0, m, ks', m, f, e, own, [b]⟩ n0 0
    simp only [Nat.add_zero] at e1
    rw [e1]
    refine LP_plain (rowL_pl _ _ _ _) ?_
    rw [rowL_len]
    have := congrArg (List.take (n0 * ks'.length)) k4
    rw [List.take_take, Nat.min_eq_left (Nat.mul_le_mul_right _ h2), rowL_take ks' f n0 m 0 h2] at this
    exact this
   · rename_i i l cnt sz
    split at hq
    · rename_i base hi
     obtain ⟨cells2, e2, own2⟩ := base
     simp only at hq
     split at hq
     · rename_i ks' m f
      simp only [Prod.mk.injEq, Bool.and_eq_true] at hq
      obtain ⟨⟨⟨g1, g2⟩, ⟨⟨h1, h2⟩, h2'⟩, h3⟩, h4, h5⟩ := hq
      have h1 := nbeq.1 h1
      have h2 := Nat.le_of_ble_eq_true h2
      have h2' := ksEq_eq h2'
      subst h1 h2'
      refine key (fun s pos hs => by rw [hb] at hs; cases hs) h4 (by rw [<- h4]; exact Nat.le_of_ble_eq_true h3) e2 (fun bl hpa h0 => ?_)
      subst h4
      have hs : segS fm b = some ⟨i, l, cnt, ks', m, f, e2, own2, [b, i]⟩ := by simp only [segS, segK, hb, hi, oK, g1, g2, Bool.and_self, cond_true]
      obtain ⟨p1, cs, fz, _, _, _, _, _, k3, k4, k5, _⟩ := seg_cells h hs hp0 hpa (by simp only; omega)
      simp only at k3 k4 k5
      refine ⟨cs, fz, k3, ?_⟩
      rw [<- h5, Nat.add_zero]
      have e1 := rowL_seg ⟨i, l, cnt, ks', m, f, e2, own2, [b, i]⟩ n0 0
      simp only [Nat.add_zero] at e1
      rw [e1]
      refine LP_plain (rowL_pl _ _ _ _) ?_
      rw [rowL_len]
      have := congrArg (List.take (n0 * ks'.length)) k4
      rw [List.take_take, Nat.min_eq_left (Nat.mul_le_mul_right _ h2), rowL_take ks' f n0 cnt l h2] at this
      exact this
     · simp at hq
    · simp at hq
   · simp at hq
  · simp at hq
 · simp at hq
theorem argId_loose (k : Nat) : loose (argId k) = true := by
 unfold loose argId
 rw [show Nat.ble 1500000 (1500000 + k) = true from by rw [Nat.ble_eq]; omega, Bool.or_true]
theorem cMem_congr {es es' : Nat -> TypeId} : ∀ (A : List Arg) (k : Nat), (∀ j, k <= j -> es j = es' j) -> cMem es A k = cMem es' A k
 | [], _, _ => rfl
 | .pl _ :: r, k, h => cMem_congr r (k + 1) (fun j hj => h j (by omega))
 | .sl ks n g :: r, k, h => by simp only [cMem, h k (Nat.le_refl _), cMem_congr r (k + 1) (fun j hj => h j (by omega))]
def plAt (k : Nat) (p : Pl) (pl : Nat -> Option Pl) (j : Nat) : Option Pl := if j = k then some p else pl j
theorem plAt_same (k : Nat) (p : Pl) (pl : Nat -> Option Pl) : plAt k p pl k = some p := if_pos rfl
theorem plAt_ne {k j : Nat} (p : Pl) (pl : Nat -> Option Pl) (h : j ≠ k) : plAt k p pl j = pl j := if_neg h
def PlOk (w : World) (i : Nat) (blk : Blk) (p : Pl) : Prop := blk.own = false ∧ (∃ ks n g, blk.cells = .row ks n g) ∧ (match p.a with
 | none => blk.cells.list = []
 | some b => ∃ cs fz, w.heap[b]? = some (.cells cs blk.elem fz) ∧ LP (fun _ _ => False) blk.cells.list (cs.toList.drop p.d)) ∧ i = i
theorem callee_mem (h : MRel w0 R fm w) : ∀ (A : List Arg) (vs args' : List Value) (k : Nat), AOk fm vs A -> LR (V2 R) vs args' ->
  ∃ (es : Nat -> TypeId) (pl : Nat -> Option Pl), (∀ i, i < k -> pl i = none) ∧
   (∀ i blk, look (cMem es A k) i = some blk -> ∃ j p, i = argId j ∧ pl j = some p ∧ PlOk w i blk p) ∧
   (∀ j p, pl j = some p -> (look (cMem es A k) (argId j)).isSome = true ∧ ∀ b, p.a = some b -> ∃ cs e fz, w.heap[b]? = some (.cells cs e fz)) ∧
   LR (V2 fun i p => ∃ j, i = argId j ∧ pl j = some p) (cArgs A k) args'
 | [], [], [], k, _, _ => ⟨fun _ => 0, fun _ => none, fun _ _ => rfl, fun i blk hi => by simp [cMem, look] at hi, fun j p hp => by simp at hp, trivial⟩
 | .pl u :: A, v :: vs, v' :: args', k, hA, hl => by
  obtain ⟨rfl, hp, hA⟩ := hA
  obtain ⟨es, pl, h1, h2, h3, h4⟩ := callee_mem h A vs args' (k + 1) hA hl.2
  have := (V2_plain hp).1 hl.1; subst this
  exact ⟨es, pl, fun i hi => h1 i (by omega), h2, h3, (V2_plain hp).2 rfl, h4⟩
 | .sl ks n g :: A, v :: vs, v' :: args', k, hA, hl => by
  obtain ⟨hs, hA⟩ := hA
  obtain ⟨es, pl, h1, h2, h3, h4⟩ := callee_mem h A vs args' (k + 1) hA hl.2
  obtain ⟨p, e, hc, hm⟩ := src_heap h hs hl.1
  have hcm : cMem (fun j => if j = k then e else es j) A (k + 1) = cMem es A (k + 1) := cMem_congr A (k + 1) (fun j hj => by rw [if_neg (by omega)])
  have hlk : ∀ i, look (cMem (fun j => if j = k then e else es j) (.sl ks n g :: A) k) i = upd (look (cMem es A (k + 1))) (argId k) ⟨.row ks n g, e, false⟩ i := by
   intro i
   rw [cMem, hcm, look_cons, if_pos rfl]
  refine ⟨fun j => if j = k then e else es j, plAt k p pl, ?_, ?_, ?_, ?_, ?_⟩
  · intro i hi
   rw [plAt_ne _ _ (by omega)]; exact h1 i (by omega)
  · intro i blk hi
   rw [hlk] at hi
   by_cases e1 : argId k = i
   · subst e1
    rw [upd_same] at hi
    cases hi
    refine ⟨k, p, rfl, plAt_same _ _ _, rfl, ⟨ks, n, g, rfl⟩, ?_, rfl⟩
    cases hpa : p.a with
    | none =>
     rw [hpa] at hm
     show rowL ks g 0 n = []
     rw [hm.1]; rfl
    | some b =>
     rw [hpa] at hm
     obtain ⟨_, cs, fz, k1, k2⟩ := hm
     refine ⟨cs, fz, k1, ?_⟩
     show LP _ (rowL ks g 0 n) _
     have := (LR_plain (r := V0 R) (pl := pl0) (fun _ _ hv => V0_plain hv) (rowL_pl ks g n 0)).1 k2
     exact LP_plain (rowL_pl _ _ _ _) this
   · rw [upd_ne _ _ e1] at hi
    obtain ⟨j, p', rfl, k2, k3⟩ := h2 i blk hi
    have hjk : j ≠ k := fun e2 => e1 (by rw [e2])
    exact ⟨j, p', rfl, by rw [plAt_ne _ _ hjk]; exact k2, k3⟩
  · intro j p' hp'
   rw [hlk]
   by_cases e1 : j = k
   · subst e1
    rw [upd_same]
    rw [plAt_same] at hp'
    cases hp'
    refine ⟨rfl, fun b hb => ?_⟩
    rw [hb] at hm
    obtain ⟨_, cs, fz, k1, _⟩ := hm
    exact ⟨cs, e, fz, k1⟩
   · rw [plAt_ne _ _ e1] at hp'
    rw [upd_ne _ _ (by unfold argId; omega)]
    exact h3 j p' hp'
  · refine slice_V2 (q := p) (argId_loose k) ⟨k, rfl, plAt_same _ _ _⟩ hc ?_
   cases hpa : p.a with
   | none => rw [hpa] at hm; exact ⟨hm.1, hm.2.1, hm.2.2.2⟩
   | some b => rw [hpa] at hm; exact hm.1
  · refine LR_mono (fun u u' hu => V2_mono ?_ hu) h4
   rintro i q ⟨j, rfl, hj⟩
   have hjk : j ≠ k := fun e2 => by
    have := h1 k (by omega)
    rw [e2, this] at hj; simp at hj
   exact ⟨j, rfl, by rw [plAt_ne _ _ hjk]; exact hj⟩
 | [], _ :: _, _, _, hA, _ => hA.elim
 | .pl _ :: _, [], _, _, hA, _ => hA.elim
 | .sl _ _ _ :: _, [], _, _, hA, _ => hA.elim
 | [], [], _ :: _, _, _, hl => hl.elim
 | .pl _ :: _, _ :: _, [], _, _, hl => hl.elim
 | .sl _ _ _ :: _, _ :: _, [], _, _, hl => hl.elim
theorem cMem_lt {es : Nat -> TypeId} : ∀ (A : List Arg) (k j : Nat), (look (cMem es A k) (argId j)).isSome = true -> j < k + A.length
 | [], k, j, h => by simp [cMem, look] at h
 | .pl _ :: r, k, j, h => by
  have := cMem_lt r (k + 1) j h
  simp only [List.length_cons]; omega
 | .sl ks n g :: r, k, j, h => by
  rw [cMem, look_cons] at h
  by_cases e : argId k = argId j
  · unfold argId at e; simp only [List.length_cons]; omega
  · rw [upd_ne _ _ e] at h
   have := cMem_lt r (k + 1) j h
   simp only [List.length_cons]; omega
theorem callee_rel (hg : GOk GL w) {es : Nat -> TypeId} {pl : Nat -> Option Pl} {A : List Arg} (h2 : ∀ i blk, look (cMem es A 0) i = some blk -> ∃ j p, i = argId j ∧ pl j = some p ∧ PlOk w i blk p)
  (h3 : ∀ j p, pl j = some p -> (look (cMem es A 0) (argId j)).isSome = true ∧ ∀ b, p.a = some b -> ∃ cs e fz, w.heap[b]? = some (.cells cs e fz)) (hA : A.length <= 900000000) :
  MRel (⟨w, fun _ => False, fun i p => ∃ j, i = argId j ∧ pl j = some p⟩ : Wb GL) (fun i p => ∃ j, i = argId j ∧ pl j = some p) (look (cMem es A 0)) w := by
 refine ⟨BelowX.refl _ _ _ hg (fun _ _ h => h), ?_, ?_, ?_, ?_, fun _ _ h _ _ => h, ?_, ?_⟩
 · rintro i p p' ⟨j, rfl, hj⟩ ⟨j', e, hj'⟩
  have : j = j' := by unfold argId at e; omega
  subst this
  rw [hj] at hj'; exact Option.some.inj hj'
 · rintro i j p q b _ _ _ _ _ blk hblk hown _ _
  obtain ⟨_, _, _, _, k⟩ := h2 _ _ hblk
  rw [k.1] at hown; simp at hown
 · intro i blk hi
  obtain ⟨j, p, rfl, k2, k3, ⟨ks, n, g, k4⟩, k5, _⟩ := h2 _ _ hi
  have hc : ContOk (⟨w, fun _ => False, fun i p => ∃ j, i = argId j ∧ pl j = some p⟩ : Wb GL) (fun i p => ∃ j, i = argId j ∧ pl j = some p) w (argId j) blk := by
   refine ⟨p, ⟨j, rfl, k2⟩, ?_⟩
   cases hpa : p.a with
   | none => rw [hpa] at k5; exact k5
   | some b =>
    rw [hpa] at k5
    obtain ⟨cs, fz, m1, m2⟩ := k5
    exact ⟨cs, fz, m1, LP_mono (fun _ _ h => h.elim) m2, fun ho => by rw [k3] at ho; simp at ho⟩
  unfold MemOk
  rw [k4]; exact hc
 · rintro i p ⟨j, rfl, hj⟩ _; exact (h3 j p hj).1
 · rintro i p b ⟨j, rfl, hj⟩ hb; exact .inl ((h3 j p hj).2 b hb)
 · rintro i p ⟨j, rfl, hj⟩ hge
  have := cMem_lt A 0 j (h3 j p hj).1
  unfold argId at hge; omega
theorem MRel.adopt (h : MRel w0 R fm w) {w' : World} (hbel : Below w.heap.size w w') {id : Nat} (hid : fm id = none) (hsm : id < 1000000) {q : Pl} {c : Cells} {e : TypeId} (hv : ∀ i k sz, c ≠ .elt i k sz) (hv2 : ∀ i l k sz, c ≠ .tail i l k sz) (hv3 : ∀ ks n es g, c ≠ .fam ks n es g)
  (hq : match q.a with
   | none => c.list = []
   | some b => w.heap.size <= b ∧ ∃ cs fz, w'.heap[b]? = some (.cells cs e fz) ∧ FzOk fz cs.size ∧ LP (fun _ _ => False) c.list (cs.toList.drop q.d) ∧ roomOk id c q cs.size) (hv4 : ∀ s pos, c ≠ .itr s pos := by intro _ _ h; cases h) :
  MRel w0 (fun i p => R i p ∨ (i = id ∧ p = q)) (upd fm id ⟨c, e, true⟩) w' := by
 have hm := h.world hbel
 cases hqa : q.a with
 | none =>
  rw [hqa] at hq
  refine hm.view hid hsm (.inr (.inl hqa)) (fun b hb => by rw [hqa] at hb; simp at hb) (fun R' _ hR => ?_)
  have hc : ContOk w0 R' w' id ⟨c, e, true⟩ := ⟨q, hR, by rw [hqa]; exact hq⟩
  unfold MemOk
  split
  · rename_i hc2; exact absurd hc2 (hv _ _ _)
  · rename_i hc2; exact absurd hc2 (hv2 _ _ _ _)
  · rename_i hc2; exact absurd hc2 (hv3 _ _ _ _)
  · rename_i hc2; exact absurd hc2 (hv4 _ _)
  · exact hc
 | some b =>
  rw [hqa] at hq
  obtain ⟨hge, cs, fz, h1, hfz, h2, h3⟩ := hq
  refine hm.rename hid hsm (b := b) (fun j p blk' hp hpa _ => ?_) (fun hf => by have := h.frz_lt hf; omega) hqa h1 hfz (.inr (Nat.le_trans h.below.size hge)) hv hv2 hv3 (LP_mono (fun _ _ h => h.elim) h2) h3 hv4
  have := h.lt hp hpa
  omega
end
section
variable {GL : Glob} {w0 : Wb GL} {R : Nat -> Pl -> Prop} {fm : Nat -> Option Blk} {w : World}
theorem MRel.adoptF (h : MRel w0 R fm w) {w' : World} (hbel : Below w.heap.size w w') {id : Nat} (hid : fm id = none) (hsm : id < 1000000) {q : Pl} {c : Cells} {e : TypeId} (hv : ∀ i k sz, c ≠ .elt i k sz) (hv2 : ∀ i l k sz, c ≠ .tail i l k sz) (hv3 : ∀ ks n es g, c ≠ .fam ks n es g)
  (hq : match q.a with
   | none => c.list = []
   | some b => w.heap.size <= b ∧ ∃ cs fz, w'.heap[b]? = some (.cells cs e fz) ∧ LP (fun _ _ => False) c.list (cs.toList.drop q.d)) (hv4 : ∀ s pos, c ≠ .itr s pos := by intro _ _ h; cases h) :
  MRel w0 (fun i p => R i p ∨ (i = id ∧ p = q)) (upd fm id ⟨c, e, false⟩) w' := by
 have hm := h.world hbel
 have hmem : ∀ R' : Nat -> Pl -> Prop, (∀ i p, R i p -> R' i p) -> R' id q -> MemOk w0 R' w' id ⟨c, e, false⟩ := by
  intro R' _ hR
  have hc : ContOk w0 R' w' id ⟨c, e, false⟩ := by
   refine ⟨q, hR, ?_⟩
   cases hqa : q.a with
   | none => rw [hqa] at hq; exact hq
   | some b =>
    rw [hqa] at hq
    obtain ⟨_, cs, fz, h1, h2⟩ := hq
    exact ⟨cs, fz, h1, LP_mono (fun _ _ h => h.elim) h2, fun ho => by simp at ho⟩
  unfold MemOk
  split
  · rename_i hc2; exact absurd hc2 (hv _ _ _)
  · rename_i hc2; exact absurd hc2 (hv2 _ _ _ _)
  · rename_i hc2; exact absurd hc2 (hv3 _ _ _ _)
  · rename_i hc2; exact absurd hc2 (hv4 _ _)
  · exact hc
 have hR : ∀ p, ¬ R id p := fun p hp => by have := h.dom id p hp (by omega); rw [hid] at this; simp at this
 have hno : ∀ i p b, R i p -> p.a = some b -> q.a = some b -> False := by
  intro i p b h1 h2 h3
  rw [h3] at hq
  have := h.lt h1 h2
  have := hq.1
  omega
 refine ⟨hm.below, ?_, ?_, ?_, ?_, ?_, ?_, ?_⟩
 · rintro i p p' (h1 | ⟨rfl, rfl⟩) (h2 | ⟨h3, rfl⟩)
  · exact hm.func _ _ _ h1 h2
  · subst h3; exact absurd h1 (hR _)
  · exact absurd h2 (hR _)
  · rfl
 · rintro i j p p2 b (h1 | ⟨rfl, rfl⟩) (h2 | ⟨rfl, rfl⟩) ha hb hne blk1 hblk hown blk' hblk'
  · by_cases e1 : id = i
   · subst e1; exact absurd h1 (hR _)
   · by_cases e2 : id = j
    · subst e2; exact absurd h2 (hR _)
    · rw [upd_ne _ _ e1] at hblk
     rw [upd_ne _ _ e2] at hblk'
     exact hm.inj _ _ _ _ _ h1 h2 ha hb hne blk1 hblk hown blk' hblk'
  · exact (hno _ _ _ h1 ha hb).elim
  · exact (hno _ _ _ h2 hb ha).elim
  · exact absurd rfl hne
 · intro i blk1 hi
  by_cases e1 : id = i
  · subst e1
   rw [upd_same] at hi
   cases hi
   exact hmem _ (fun _ _ => .inl) (.inr ⟨rfl, rfl⟩)
  · rw [upd_ne _ _ e1] at hi
   have hm1 := hm.mem i blk1 hi
   unfold MemOk at hm1 ⊢
   split at hm1
   · obtain ⟨p, q, b, k1, k2, k3⟩ := hm1; exact ⟨p, q, b, .inl k1, .inl k2, k3⟩
   · obtain ⟨p, q, k1, k2, k3⟩ := hm1; exact ⟨p, q, .inl k1, .inl k2, k3⟩
   · exact hm1.mono (fun _ _ => .inl) (fun _ _ => rfl) (fun _ _ _ _ _ => rfl)
   · exact hm1.mono (fun _ _ => .inl) (fun _ _ => rfl)
   · obtain ⟨p, k1, k2⟩ := hm1
    refine ⟨p, .inl k1, ?_⟩
    cases hpa : p.a with
    | none => rw [hpa] at k2; exact k2
    | some b =>
     rw [hpa] at k2
     obtain ⟨cs', fz, k3, k4, k5⟩ := k2
     exact ⟨cs', fz, k3, LP_mono (fun _ _ => .inl) k4, k5⟩
 · rintro i p (h1 | ⟨rfl, rfl⟩) hvb
  · by_cases e1 : id = i
   · subst e1; simp [upd_same]
   · rw [upd_ne _ _ e1]; exact hm.dom _ _ h1 hvb
  · simp [upd_same]
 · rintro i p (h1 | ⟨rfl, rfl⟩) hge hvb
  · exact hm.anc _ _ h1 hge hvb
  · omega
 · rintro i p b (h1 | ⟨rfl, rfl⟩) hb
  · refine (hm.there _ _ _ h1 hb).mono (fun s pos hs => ?_) rfl
   by_cases e1 : id = i
   · subst e1; exact absurd h1 (hR _)
   · rw [upd_ne _ _ e1]
  · rw [hb] at hq
   obtain ⟨_, cs, fz, k1, _⟩ := hq
   exact .inl ⟨cs, e, fz, k1⟩
 · rintro i p (h1 | ⟨rfl, rfl⟩) hge
  · obtain ⟨h2, h3⟩ := hm.fro i p h1 hge
   refine ⟨h2, ?_⟩
   rintro j q2 (h4 | ⟨rfl, rfl⟩) hq2 blk2 hblk
   · by_cases e1 : id = j
    · subst e1; exact absurd h4 (hR _)
    · rw [upd_ne _ _ e1] at hblk; exact h3 j q2 h4 hq2 blk2 hblk
   · rw [upd_same] at hblk
    cases hblk; rfl
  · omega
theorem MRel.adoptFam (h : MRel w0 R fm w) {w' : World} (hbel : Below w.heap.size w w') {id : Nat} (hid : fm id = none) (hsm : id < 1000000) {q : Pl} {e : TypeId} {ks : List CK} {n : Nat} {es : Nat -> TypeId} {g : Nat -> Nat × (Nat -> List Value)}
  (hq : match q.a with
   | none => n = 0
   | some b => w.heap.size <= b ∧ ∃ cs, w'.heap[b]? = some (.cells cs e (0, 0)) ∧ (∀ j, j < n -> ∃ v, cs.toList[q.d + j]? = some v ∧ ((((g j).1 = 0 ∧ Emp v)) ∨ ∃ bl d c cs2 fz, v = .slice (some ⟨bl, d, none⟩) (g j).1 c ∧ (g j).1 <= c ∧ w.heap.size <= bl ∧ bl ≠ b ∧ w'.heap[bl]? = some (.cells cs2 (es j) fz) ∧ (cs2.toList.drop d).take ((g j).1 * ks.length) = rowL ks (g j).2 0 (g j).1)) ∧ (q.c ≠ 0 -> q.d + q.c <= cs.size)) :
  ∃ R2 : Nat -> Pl -> Prop, (∀ i p, R i p -> R2 i p) ∧ R2 id q ∧ MRel w0 R2 (upd fm id ⟨.fam ks n es g, e, true⟩) w' := by
 have hm := h.world hbel
 have hR : ∀ p, ¬ R id p := fun p hp => by have := h.dom id p hp (by omega); rw [hid] at this; simp at this
 have hq1 : ∀ b, q.a = some b -> w.heap.size <= b := fun b hb => by rw [hb] at hq; exact hq.1
 have hold : ∀ i p b, R i p -> p.a = some b -> b < w.heap.size := fun i p b h1 h2 => h.lt h1 h2
 refine ⟨fun i p => R i p ∨ (i = id ∧ p = q) ∨ ∃ bl, (w.heap.size <= bl ∧ q.a ≠ some bl ∧ ∃ cs e fz, w'.heap[bl]? = some (.cells cs e fz)) ∧ i = 1000000000 + bl ∧ p = ⟨some bl, 0, 0⟩, fun _ _ => .inl, .inr (.inl ⟨rfl, rfl⟩), hm.below, ?_, ?_, ?_, ?_, ?_, ?_, ?_⟩
 · rintro i p p' (h1 | ⟨rfl, rfl⟩ | ⟨bl, g1, rfl, rfl⟩) (h2 | ⟨h3, rfl⟩ | ⟨bl', g2, h3, rfl⟩)
  · exact hm.func _ _ _ h1 h2
  · subst h3; exact absurd h1 (hR _)
  · subst h3
   have h5 := (hm.fro _ _ h1 (Nat.le_add_right _ _)).1
   rw [h5, Nat.add_sub_cancel_left]
  · exact absurd h2 (hR _)
  · rfl
  · omega
  · have h5 := (hm.fro _ _ h2 (Nat.le_add_right _ _)).1
   rw [h5, Nat.add_sub_cancel_left]
  · omega
  · have : bl = bl' := by omega
   rw [this]
 · intro i j p p2 b hp hp2 ha hb hne blk1 hblk hown blk' hblk'
  have notmark : ∀ i blk, upd fm id ⟨.fam ks n es g, e, true⟩ i = some blk -> blk.own = true -> ∀ bl, i = 1000000000 + bl -> False := by
   intro i blk hi ho bl e1
   rw [upd_ne _ _ (by omega)] at hi
   have h5 := hm.mem _ _ hi
   have h6 : ∃ p, R i p := by
    unfold MemOk at h5
    split at h5
    · obtain ⟨_, q, _, _, h6, _⟩ := h5; exact ⟨q, h6⟩
    · obtain ⟨_, q, _, h6, _⟩ := h5; exact ⟨q, h6⟩
    · obtain ⟨p, h6, _⟩ := h5; exact ⟨p, h6⟩
    · obtain ⟨p, h6, _⟩ := h5; exact ⟨_, h6⟩
    · obtain ⟨p, h6, _⟩ := h5; exact ⟨p, h6⟩
   obtain ⟨p6, h6⟩ := h6
   have := (hm.fro _ _ h6 (by omega)).2 _ _ h6 rfl blk hi
   rw [this] at ho; simp at ho
  rcases hp with h1 | ⟨rfl, rfl⟩ | ⟨bl, g1, rfl, rfl⟩
  · have hbl := hold _ _ _ h1 ha
   rcases hp2 with h2 | ⟨rfl, rfl⟩ | ⟨bl, g2, rfl, rfl⟩
   · by_cases e1 : id = i
    · subst e1; exact absurd h1 (hR _)
    · by_cases e2 : id = j
     · subst e2; exact absurd h2 (hR _)
     · rw [upd_ne _ _ e1] at hblk
      rw [upd_ne _ _ e2] at hblk'
      exact hm.inj _ _ _ _ _ h1 h2 ha hb hne blk1 hblk hown blk' hblk'
   · have := hq1 _ hb; omega
   · simp only [Option.some.injEq] at hb; omega
  · rcases hp2 with h2 | ⟨rfl, rfl⟩ | ⟨bl, g2, rfl, rfl⟩
   · have := hold _ _ _ h2 hb
    have := hq1 _ ha; omega
   · exact absurd rfl hne
   · simp only [Option.some.injEq] at hb
    subst hb
    exact absurd ha g2.2.1
  · exact (notmark _ _ hblk hown bl rfl).elim
 · intro i blk1 hi
  by_cases e1 : id = i
  · subst e1
   rw [upd_same] at hi
   cases hi
   refine ⟨q, .inr (.inl ⟨rfl, rfl⟩), ?_⟩
   cases hqa : q.a with
   | none => rw [hqa] at hq; exact hq
   | some b =>
    rw [hqa] at hq
    obtain ⟨hge, cs, y1, y2, y3⟩ := hq
    refine ⟨cs, (0, 0), y1, fun jj hjj => ?_, fun hx => by simp at hx, fun _ => ⟨rfl, .inr (Nat.le_trans h.below.size hge), y3, fun jj hjj v5 hcell => ?_⟩⟩
    · obtain ⟨v, z1, z2⟩ := y2 jj hjj
     refine ⟨v, z1, ?_⟩
     rcases z2 with z2 | ⟨bl, d, c, cs2, fz, o1, o2, o3, o4, o5, o6⟩
     · exact .inl z2
     · exact .inr ⟨bl, d, c, cs2, fz, o1, o2, .inr (.inr ⟨bl, ⟨o3, fun e9 => o4 (Option.some.inj e9).symm, cs2, es jj, fz, o5⟩, rfl, rfl⟩), o5, o6⟩
    · obtain ⟨v, z1, z2⟩ := y2 jj hjj
     rw [z1] at hcell
     have hcell := Option.some.inj hcell
     rw [<- hcell]
     rcases z2 with z2 | ⟨bl, d, c, cs2, fz, o1, o2, o3, _⟩
     · exact .inl z2
     · exact .inr ⟨bl, d, _, c, o1, .inr (Nat.le_trans h.below.size o3)⟩
  · rw [upd_ne _ _ e1] at hi
   have hm1 := hm.mem i blk1 hi
   unfold MemOk at hm1 ⊢
   split at hm1
   · obtain ⟨p, q, b, k1, k2, k3⟩ := hm1; exact ⟨p, q, b, .inl k1, .inl k2, k3⟩
   · obtain ⟨p, q, k1, k2, k3⟩ := hm1; exact ⟨p, q, .inl k1, .inl k2, k3⟩
   · exact hm1.mono (fun _ _ => .inl) (fun _ _ => rfl) (fun _ _ _ _ _ => rfl)
   · exact hm1.mono (fun _ _ => .inl) (fun _ _ => rfl)
   · obtain ⟨p, k1, k2⟩ := hm1
    refine ⟨p, .inl k1, ?_⟩
    cases hpa : p.a with
    | none => rw [hpa] at k2; exact k2
    | some b =>
     rw [hpa] at k2
     obtain ⟨cs', fz, k3, k4, k5⟩ := k2
     exact ⟨cs', fz, k3, LP_mono (fun _ _ => .inl) k4, k5⟩
 · rintro i p (h1 | ⟨rfl, rfl⟩ | ⟨bl, g1, rfl, rfl⟩) hvb
  · by_cases e1 : id = i
   · subst e1; simp [upd_same]
   · rw [upd_ne _ _ e1]; exact hm.dom _ _ h1 hvb
  · simp [upd_same]
  · omega
 · rintro i p (h1 | ⟨rfl, rfl⟩ | ⟨bl, g1, rfl, rfl⟩) hge hvb
  · exact hm.anc _ _ h1 hge hvb
  · omega
  · omega
 · rintro i p b (h1 | ⟨rfl, rfl⟩ | ⟨bl, g1, rfl, rfl⟩) hb
  · refine (hm.there _ _ _ h1 hb).mono (fun s pos hs => ?_) rfl
   by_cases e1 : id = i
   · subst e1; exact absurd h1 (hR _)
   · rw [upd_ne _ _ e1]
  · rw [hb] at hq
   obtain ⟨_, cs, k1, _⟩ := hq
   exact .inl ⟨cs, e, _, k1⟩
  · simp only [Option.some.injEq] at hb
   subst hb
   exact .inl g1.2.2
 · rintro i p (h1 | ⟨rfl, rfl⟩ | ⟨bl, g1, rfl, rfl⟩) hge
  · obtain ⟨h2, h3⟩ := hm.fro i p h1 hge
   have hbl := hold _ _ (i - 1000000000) h1 (by rw [h2])
   refine ⟨h2, ?_⟩
   rintro j q2 (h4 | ⟨rfl, rfl⟩ | ⟨bl', g2, rfl, rfl⟩) hq2 blk2 hblk
   · by_cases e1 : id = j
    · subst e1; exact absurd h4 (hR _)
    · rw [upd_ne _ _ e1] at hblk; exact h3 j q2 h4 hq2 blk2 hblk
   · rw [h2] at hq2
    have := hq1 _ hq2; omega
   · rw [h2] at hq2
    simp only [Option.some.injEq] at hq2; omega
  · omega
  · refine ⟨by rw [Nat.add_sub_cancel_left], ?_⟩
   rintro j q2 (h4 | ⟨rfl, rfl⟩ | ⟨bl', g2, rfl, rfl⟩) hq2 blk2 hblk
   · have := hold _ _ _ h4 hq2
    have := g1.1; omega
   · exact absurd hq2 g1.2.1
   · rw [upd_ne _ _ (by omega)] at hblk
    cases ho : blk2.own with
    | false => rfl
    | true =>
     have h5 := hm.mem _ _ hblk
     have h6 : ∃ p, R (1000000000 + bl') p := by
      unfold MemOk at h5
      split at h5
      · obtain ⟨_, q, _, _, h6, _⟩ := h5; exact ⟨q, h6⟩
      · obtain ⟨_, q, _, h6, _⟩ := h5; exact ⟨q, h6⟩
      · obtain ⟨p, h6, _⟩ := h5; exact ⟨p, h6⟩
      · obtain ⟨p, h6, _⟩ := h5; exact ⟨_, h6⟩
      · obtain ⟨p, h6, _⟩ := h5; exact ⟨p, h6⟩
     obtain ⟨p6, h6⟩ := h6
     have := (hm.fro _ _ h6 (Nat.le_add_right _ _)).2 _ _ h6 rfl blk2 hblk
     rw [this] at ho; simp at ho
theorem tailOf_some {mem : Nat -> Option Blk} {c : Cells} {q : Seg} (h : tailOf mem c = some q) : ∃ sz, c = .tail q.base q.start q.cnt sz ∧ mem q.base = some ⟨.row q.ks q.n q.f, q.elem, q.own⟩ ∧ q.ks.length = sz ∧ q.start + q.cnt <= q.n := by
 unfold tailOf at h
 split at h
 · rename_i i l cnt sz
  split at h
  · rename_i base hb
   obtain ⟨cells, e, own⟩ := base
   simp only at h
   split at h
   · obtain ⟨h1, h2⟩ := cond_some.1 h
    simp only [Bool.and_eq_true] at h1
    cases h2
    exact ⟨sz, rfl, hb, nbeq.1 h1.1, Nat.le_of_ble_eq_true h1.2⟩
   · simp at h
  · simp at h
 · simp at h
end
section
variable {P : Program} [Laid P] {C : Cfg} {c : Code}
def noTT : Value -> Bool
 | .tuple vs => vs.toList.all notTup
 | _ => true
theorem V1_of_V2 {R : Nat -> Pl -> Prop} {v v' : Value} (h : V2 R v v') (ht : notTup v = true) : V1 R v v' := by
 cases v <;> first | exact h | simp [notTup] at ht
theorem fn_mem (hC : CfgOk P C c) {g : FuncId} {fn : Func} (hf : P.funcs[g]? = some fn) (hb : fn.body = some c) (hn : C.n = fn.ntmps) {w0 : Wb (lay P)} {R : Nat -> Pl -> Prop} {w : World} {args args' : List Value} {mem0 : List (Nat × Blk)} {next : Nat}
  (hm : MRel w0 R (look mem0) w) (hargs : LR (V2 R) args args') (hlen : args.length <= fn.ntmps) {fuel : Nat} {e : Exit} {s' : St} (h1 : evS C fuel [] c ⟨argSlots 0 args, mem0, next⟩ = some (e, s')) {v : Value} (h2 : endK C.T fn e s' some none = some v) :
  Calls P g args'.toArray w fun ex w' => ∃ R' v', ex = .returned v' ∧ ((∀ vs, v ≠ .tuple vs) -> V2 R' v v') ∧ (∀ vs, v = .tuple vs -> ∃ vs', v' = .tuple vs' ∧ LR (V2 R') vs.toList vs'.toList) ∧ MRel w0 R' (look s'.mem) w' := by
 refine calls_of_wp hf hb ?_
 have hla := LR_len hargs
 have hrel : Rel w0 C.n R (St.f ⟨argSlots 0 args, mem0, next⟩) { tmps := args'.toArray ++ Array.replicate (fn.ntmps - args'.toArray.size) undef, defers := [] } w := by
  refine MRel.toR hm rfl (by simp; omega) ?_
  intro t u hu
  obtain ⟨j, rfl, hj⟩ := argSlots_look args 0 t u hu
  obtain ⟨u', h3, h4⟩ := LR_get hargs hj
  refine ⟨u', ?_, h4⟩
  have hlt : j < args'.length := by
   rcases Nat.lt_or_ge j args'.length with h | h
   · exact h
   · rw [List.getElem?_eq_none h] at h3; simp at h3
  rw [Nat.zero_add, Array.getElem?_append_left (by simpa using hlt)]
  simpa using h3
 refine wp_mono (ev_sound hC (p := []) rfl h1 hrel) ?_
 rintro e' a' w' ⟨rfl, R', hr'⟩
 have fin : endK C.T fn e' s' some none = some v -> (e' = .normal ∨ e' = .ret) -> a'.defers = [] ∧ ∃ v', (results fn a'.tmps).run P w' = .ok v' w' ∧ ((∀ vs, v ≠ .tuple vs) -> V2 R' v v') ∧ (∀ vs, v = .tuple vs -> ∃ vs', v' = .tuple vs' ∧ LR (V2 R') vs.toList vs'.toList) := by
  intro h3 h4
  refine ⟨hr'.defers, ?_⟩
  have h3 : resK C.T s' fn.results.toList (fun vs => oneK vs some) none = some v := by
   rcases h4 with rfl | rfl <;> exact h3
  obtain ⟨vs, vs', h5, h6, h7⟩ := res_run hC hr' _ h3
  have hrun : (results fn a'.tmps).run P w' = .ok (if h : vs'.toArray.size = 1 then vs'.toArray[0] else .tuple vs'.toArray) w' := by
   rw [results_eq, Array.mapM_eq_mapM_toList]
   simp only [Sem.run_bind, Sem.run_map, h7, Result.andThen_ok, Sem.run_pure]
  refine ⟨_, hrun, ?_⟩
  rcases oneK_some h5 with rfl | ⟨hl, rfl⟩
  · match vs', h6 with
   | [u], h6 =>
    refine ⟨fun _ => by simpa using h6.1, fun ws hw => ?_⟩
    subst hw
    have h6 := h6.1
    obtain ⟨ws', e1, e2⟩ := V2_tuple h6
    exact ⟨ws', by simpa using e1, LR_mono (fun _ _ => V2_of_V1) e2⟩
  · have hl' : vs'.length ≠ 1 := by rw [<- LR_len h6]; exact hl
   rw [dif_neg (by simpa using hl')]
   exact ⟨fun hne => absurd rfl (hne _), fun ws hw => by cases hw; exact ⟨vs'.toArray, rfl, h6⟩⟩
 cases e' with
 | normal => obtain ⟨k1, v', k2, k3, k4⟩ := fin h2 (.inl rfl); exact ⟨k1, v', k2, R', v', rfl, k3, k4, hr'.m⟩
 | ret => obtain ⟨k1, v', k2, k3, k4⟩ := fin h2 (.inr rfl); exact ⟨k1, v', k2, R', v', rfl, k3, k4, hr'.m⟩
 | _ => simp [endK] at h2
theorem srcB_mono {mm fm : Nat -> Option Blk} (hsub : ∀ b blk, mm b = some blk -> fm b = some blk) {ks : List CK} {v : Value} {n : Nat} {g : Nat -> List Value} (h : srcB mm ks v = (true, n, g)) : srcB fm ks v = (true, n, g) := by
 unfold srcB at h ⊢
 split at h
 · exact h
 · rename_i b off n0 c0
  split at h
  · rename_i blk hb
   rw [hsub b blk hb]
   obtain ⟨cells, e, own⟩ := blk
   simp only at h ⊢
   split at h
   · exact h
   · exact h
   · rename_i i l cnt sz
    split at h
    · rename_i base hi
     simp only [hsub i base hi]
     exact h
    · simp at h
   · simp at h
  · simp at h
 · simp at h
theorem AOk_mono {mm fm : Nat -> Option Blk} (hsub : ∀ b blk, mm b = some blk -> fm b = some blk) : ∀ {vs : List Value} {A : List Arg}, AOk mm vs A -> AOk fm vs A
 | [], [], _ => trivial
 | _ :: _, .pl _ :: _, h => ⟨h.1, h.2.1, AOk_mono hsub h.2.2⟩
 | _ :: _, .sl _ _ _ :: _, h => ⟨srcB_mono hsub h.1, AOk_mono hsub h.2⟩
 | [], .pl _ :: _, h => h.elim
 | [], .sl _ _ _ :: _, h => h.elim
 | _ :: _, [], h => h.elim
theorem cArgs_len : ∀ (A : List Arg) (k : Nat), (cArgs A k).length = A.length
 | [], _ => rfl
 | .pl _ :: r, k => by simp [cArgs, cArgs_len r]
 | .sl _ _ _ :: r, k => by simp [cArgs, cArgs_len r]
section
variable {T : Tab} {GL : Glob} {w0 : Wb GL} {R R' : Nat -> Pl -> Prop} {fm : Nat -> Option Blk} {w w' : World} {wc : Wb GL} {mC : Nat -> Option Blk}
theorem expV_ok (h : MRel w0 R fm w) (hc : MRel wc R' mC w') (hwc : wc.w = w) (hX : ∀ k, ¬ wc.X k) {id : Nat} (hid : fm (nid id 0) = none) (hlt : id < 60000) {v v' : Value} (hv : V2 R' v v') {u : Value} {l : List (Nat × Blk)}
  (he : expV T mC id v (fun a b => some (a, b)) none = some (u, l)) :
  (l = [] ∧ u = v ∧ pl1 v = true ∧ v' = v) ∨ ∃ R2 : Nat -> Pl -> Prop, (∀ i p, R i p -> R2 i p) ∧ V2 R2 u v' ∧ notTup u = true ∧ MRel w0 R2 (memF fm l) w' := by
 have hbel : Below w.heap.size w w' := by have := hc.below.below hX; rw [hwc] at this; exact this
 unfold expV at he
 split at he
 · rename_i j off m cc
  obtain ⟨blk, hb, he⟩ := oK_some.1 he
  obtain ⟨cells, e, own⟩ := blk
  dsimp only at he
  cases hit : isTail cells with
  | true =>
   rw [hit, cond_true] at he
   obtain ⟨s, hs, he⟩ := oK_some.1 he
   obtain ⟨hcond, he⟩ := cond_some.1 he
   simp only [Bool.and_eq_true, Nat.blt_eq] at hcond
   obtain ⟨⟨⟨⟨⟨hown, hlo⟩, hoff⟩, hmc⟩, hmc2⟩, hm0⟩ := hcond
   simp only [Option.some.injEq, Prod.mk.injEq] at he
   obtain ⟨rfl, rfl⟩ := he
   have hmc := Nat.le_of_ble_eq_true hmc
   have hmc2 := Nat.le_of_ble_eq_true hmc2
   right
   obtain ⟨sz, rfl, hbase, hks, hle⟩ := tailOf_some hs
   obtain ⟨p, hp, hsl⟩ := V2_slice hv
   obtain ⟨pb, q', hpb, hq', hcase, _⟩ : ∃ p q, R' s.base p ∧ R' j q ∧ (s.cnt = 0 ∨ (q.a = p.a ∧ q.d = p.d + s.start * sz ∧ q.c + s.start <= p.c)) ∧ own = false := hc.mem j _ hb
   have := hc.func _ _ _ hp hq'; subst this
   obtain ⟨_, hcc, hsl2⟩ := SlOk_loose hlo hsl
   rw [hown] at hbase
   have hvs : (∃ b, p.a = some b ∧ v' = .slice (some ⟨b, p.d, none⟩) m p.c) := by
    rcases hsl2 with ⟨b, hpa, hv'⟩ | ⟨_, hm1, _, _⟩
    · exact ⟨b, hpa, hv'⟩
    · omega
   obtain ⟨b, hpa, hv'⟩ := hvs
   obtain ⟨h1, h2, h3⟩ := hcase.resolve_left (by omega)
   obtain ⟨cs, fz, g1, g2, g3, g4⟩ := row_cells hc hbase hpb (by rw [<- h1]; exact hpa)
   obtain ⟨hfz, hge, hroom⟩ := g4 rfl
   have hge : w.heap.size <= b := by
    rcases hge with hx | hx
    · exact absurd hx (hX b)
    · rw [hwc] at hx; exact hx
   have hLP : LP (fun _ _ => False) (rowL s.ks (fun x => s.f (s.start + x)) 0 m) (cs.toList.drop p.d) := by
    refine LP_plain (rowL_pl _ _ _ _) ?_
    rw [rowL_len, rowL_shift, Nat.add_zero, h2, <- hks, <- List.drop_drop]
    have e1 := congrArg (fun l => (List.drop (s.start * s.ks.length) l).take (m * s.ks.length)) g2
    rw [List.drop_take, List.take_take, Nat.min_eq_left (by
     rw [<- Nat.sub_mul]
     exact Nat.mul_le_mul_right _ (by omega)), rowL_drop s.ks s.f s.start s.n 0 (by omega), Nat.zero_add, rowL_take s.ks s.f m (s.n - s.start) s.start (by omega)] at e1
    exact e1
   cases hlb : loose s.base with
   | false =>
    refine ⟨_, fun _ _ => .inl, slice_V2 (nid_loose hlt (by omega)) (.inr ⟨rfl, rfl⟩) (show m <= p.c by omega) (by rw [hpa]; exact hv'), rfl, h.adoptF hbel hid (nid_lt hlt (by omega)) (q := p) nofun nofun nofun ?_⟩
    rw [hpa]
    exact ⟨hge, cs, fz, g1, LP_mono (fun _ _ hf => hf.elim) hLP⟩
   | true =>
    refine ⟨_, fun _ _ => .inl, slice_V2 (nid_loose hlt (by omega)) (.inr ⟨rfl, rfl⟩) (show m <= p.c by omega) (by rw [hpa]; exact hv'), rfl, h.adopt hbel hid (nid_lt hlt (by omega)) (q := p) nofun nofun nofun ?_⟩
    rw [hpa]
    refine ⟨hge, cs, fz, g1, hfz, hLP, fun _ hc0 => ?_⟩
    have hr := hroom hlb (by omega)
    have e2 : (p.c + s.start) * s.ks.length <= pb.c * s.ks.length := Nat.mul_le_mul_right _ h3
    rw [Nat.add_mul] at e2
    rw [h2, <- hks]
    omega
  | false =>
  rw [hit, cond_false] at he
  have hcond := (cond_some.1 he).1
  have he2 := (cond_some.1 he).2
  clear he
  simp only [Bool.and_eq_true] at hcond
  obtain ⟨hown, _⟩ := hcond
  subst hown
  obtain ⟨p, hp, hsl⟩ := V2_slice hv
  split at he2
  · rename_i ks n g
   obtain ⟨hcond, he⟩ := cond_some.1 he2
   simp only [Bool.and_eq_true] at hcond
   obtain ⟨⟨hlo, _⟩, _⟩ := hcond
   simp only [Option.some.injEq, Prod.mk.injEq] at he
   obtain ⟨rfl, rfl⟩ := he
   right
   obtain ⟨p', hp', hcont⟩ := memOk_row hc hb
   have := hc.func _ _ _ hp hp'; subst this
   obtain ⟨_, hcc, hcase⟩ := SlOk_loose hlo hsl
   refine ⟨_, fun _ _ => .inl, slice_V2 (nid_loose hlt (by omega)) (.inr ⟨rfl, rfl⟩) hcc ?_, rfl, h.adopt hbel hid (nid_lt hlt (by omega)) (q := p) nofun nofun nofun ?_⟩
   · rcases hcase with ⟨b, hpa, hv'⟩ | ⟨hpa, hm0, hc0, hv'⟩
    · rw [hpa]; exact hv'
    · rw [hpa]; exact ⟨hm0, hc0, hv'⟩
   · cases hpa : p.a with
    | none => rw [hpa] at hcont; exact hcont
    | some b =>
     rw [hpa] at hcont
     obtain ⟨cs, fz, g1, g2, g3⟩ := hcont
     obtain ⟨hfz, hge, hroom⟩ := g3 rfl
     have hge : w.heap.size <= b := by
      rcases hge with hx | hx
      · exact absurd hx (hX b)
      · rw [hwc] at hx; exact hx
     refine ⟨hge, cs, fz, g1, hfz, ?_, fun _ hc0 => hroom hlo hc0⟩
     have g2 : LP R' (rowL ks g 0 n) (cs.toList.drop p.d) := g2
     have := (LR_plain (r := V0 R') (pl := pl0) (fun _ _ hv => V0_plain hv) (rowL_pl ks g n 0)).1 g2
     exact LP_plain (rowL_pl _ _ _ _) this
  · rename_i ls
   obtain ⟨i, hi, he3⟩ := oK_some.1 he2
   obtain ⟨hcond, he⟩ := cond_some.1 he3
   simp only [Bool.and_eq_true, Bool.not_eq_true'] at hcond
   obtain ⟨⟨⟨⟨hlo, hks⟩, hmc⟩, hle⟩, hfit⟩ := hcond
   simp only [Option.some.injEq, Prod.mk.injEq] at he
   obtain ⟨rfl, rfl⟩ := he
   right
   obtain ⟨hke, hkl, _, _⟩ := ksOk_parts hks
   have hle := Nat.le_of_ble_eq_true hle
   obtain ⟨p', hp', hcont⟩ := memOk_lst hc hb
   have := hc.func _ _ _ hp hp'; subst this
   obtain ⟨b, hpa, hv'⟩ := SlOk_tight hlo hsl
   rw [hpa] at hcont
   obtain ⟨cs, fz, g1, g2, g3⟩ := hcont
   obtain ⟨hfz, hge, _⟩ := g3 rfl
   have hge : w.heap.size <= b := by
    rcases hge with hx | hx
    · exact absurd hx (hX b)
    · rw [hwc] at hx; exact hx
   have g2 : LP R' ls (cs.toList.drop p.d) := g2
   have hl2 := LP_le g2
   rw [List.length_drop] at hl2
   have ecs : cs.toList.length = cs.size := Array.length_toList
   refine ⟨_, fun _ _ => .inl, slice_V2 (nid_loose hlt (by omega)) (.inr ⟨rfl, rfl⟩) (Nat.le_refl _) hv', rfl, h.adopt hbel hid (nid_lt hlt (by omega)) (q := ⟨some b, p.d + off, cc⟩) nofun nofun nofun ⟨hge, cs, fz, g1, hfz, ?_, ?_⟩⟩
   · show LP _ (rowL i.eqk (lstF ls off i.siz) 0 cc) _
    have e5 := rowL_lst (ks := i.eqk) (l := ls) (off := off) (n := cc) (by rw [hkl]; exact hfit) cc (Nat.le_refl _)
    rw [hkl] at e5
    have e6 := LP_part g2 (off := off) (n := cc * i.siz) hle
    have e7 := (LR_plain (r := V0 R') (pl := pl0) (fun _ _ hv => V0_plain hv) (fitsK_pl hfit)).1 e6
    refine LP_plain (rowL_pl _ _ _ _) ?_
    rw [rowL_len, hkl, e5, <- List.drop_drop]; exact e7
   · show loose (nid id 0) = true -> _
    intro _ hc0
    have : 0 < i.eqk.length := List.length_pos_iff.2 hke
    have : 0 < cc * i.siz := Nat.mul_pos (by simp only at hc0; omega) (by omega)
    show p.d + off + cc * i.eqk.length <= cs.size
    rw [hkl]; omega
  · rename_i ks n es g
   obtain ⟨hcond, he⟩ := cond_some.1 he2
   simp only [Bool.and_eq_true] at hcond
   obtain ⟨⟨hlo, _⟩, _⟩ := hcond
   simp only [Option.some.injEq, Prod.mk.injEq] at he
   obtain ⟨rfl, rfl⟩ := he
   right
   obtain ⟨p', hp', hcont⟩ : FamOk wc R' w' j e true ks n es g := hc.mem j _ hb
   have := hc.func _ _ _ hp hp'; subst this
   obtain ⟨_, hcc, hcase⟩ := SlOk_loose hlo hsl
   obtain ⟨R2, y1, y2, y3⟩ := h.adoptFam hbel hid (nid_lt hlt (by omega)) (q := p) (e := e) (ks := ks) (n := n) (es := es) (g := g) (by
    cases hpa : p.a with
    | none => rw [hpa] at hcont; exact hcont
    | some b =>
     rw [hpa] at hcont
     obtain ⟨cs, fz, g1, g2, _, g4⟩ := hcont
     obtain ⟨rfl, hge, hroom, hnr⟩ := g4 rfl
     have new : ∀ b, (wc.X b ∨ wc.w.heap.size <= b) -> w.heap.size <= b := fun b hge => by
      rcases hge with hx | hx
      · exact absurd hx (hX b)
      · rw [hwc] at hx; exact hx
     refine ⟨new b hge, cs, g1, fun jj hjj => ?_, hroom⟩
     obtain ⟨v5, q1, q2⟩ := g2 jj hjj
     refine ⟨v5, q1, ?_⟩
     rcases q2 with q2 | ⟨b5, d5, c5, cs5, fz5, o1, o2, o3, o4, o5⟩
     · exact .inl q2
     · rcases hnr jj hjj v5 q1 with hz | ⟨b6, d6, m6, c6, hv6, hge6⟩
      · exact .inl hz
      · rw [o1] at hv6
       simp only [Value.slice.injEq, Option.some.injEq, Addr.mk.injEq] at hv6
       rw [<- hv6.1.1] at hge6
       refine .inr ⟨b5, d5, c5, cs5, fz5, o1, o2, new b5 hge6, ?_, o4, o5⟩
       rintro rfl
       have := hc.frz_own o3 hp hpa hb
       simp at this)
   refine ⟨R2, y1, slice_V2 (nid_loose hlt (by omega)) y2 hcc ?_, rfl, y3⟩
   rcases hcase with ⟨b, hpa, hv'⟩ | ⟨hpa, hm0, hc0, hv'⟩
   · rw [hpa]; exact hv'
   · rw [hpa]; exact ⟨hm0, hc0, hv'⟩
  · simp at he2
 · obtain ⟨hpl, he⟩ := cond_some.1 he
  cases he
  have hp2 : pl2 v = true := by
   unfold pl2; split
   · simp [pl1, pl0] at hpl
   · exact hpl
  exact .inl ⟨rfl, rfl, hpl, (V2_plain hp2).1 hv⟩
theorem expL_nil {id : Nat} (hc : MRel wc R' mC w') : ∀ {vs us vs' : List Value}, LR (V2 R') vs vs' -> expL T mC id vs (fun a b => some (a, b)) none = some (us, []) -> us.all pl1 = true ∧ vs' = us
 | [], us, [], _, he => by simp only [expL, Option.some.injEq, Prod.mk.injEq] at he; rw [<- he.1]; exact ⟨rfl, rfl⟩
 | v :: vs, us, v' :: vs', hl, he => by
  simp only [expL] at he
  obtain ⟨u, l, hu, he⟩ := expV_some.1 he
  obtain ⟨us2, m, hus, he⟩ := expL_some.1 he
  obtain ⟨x, hx, he⟩ := oK_some.1 he
  simp only [Option.some.injEq, Prod.mk.injEq] at he
  obtain ⟨rfl, rfl⟩ := he
  cases l with
  | cons q l => cases m <;> simp [joinL] at hx
  | nil =>
   have hx : some m = some [] := hx
   cases hx
   obtain ⟨k1, k2⟩ := expL_nil hc hl.2 hus
   unfold expV at hu
   split at hu
   · obtain ⟨blk, hb, hu⟩ := oK_some.1 hu
    cases hit : isTail blk.cells with
    | true =>
     rw [hit, cond_true] at hu
     obtain ⟨_, _, hu⟩ := oK_some.1 hu
     obtain ⟨_, hu⟩ := cond_some.1 hu; simp at hu
    | false =>
    rw [hit, cond_false] at hu
    obtain ⟨_, hu⟩ := cond_some.1 hu
    split at hu
    · obtain ⟨_, hu⟩ := cond_some.1 hu; simp at hu
    · obtain ⟨_, _, hu⟩ := oK_some.1 hu
     obtain ⟨_, hu⟩ := cond_some.1 hu; simp at hu
    · obtain ⟨_, hu⟩ := cond_some.1 hu; simp at hu
    · simp at hu
   · obtain ⟨hpl, hu⟩ := cond_some.1 hu
    simp only [Option.some.injEq, Prod.mk.injEq, and_true] at hu
    subst hu
    have hp2 : pl2 v = true := by
     unfold pl2; split
     · simp [pl1, pl0] at hpl
     · exact hpl
    rw [List.all_cons, hpl, k1, k2, (V2_plain hp2).1 hl.1]
    exact ⟨rfl, rfl⟩
 | [], _, _ :: _, h, _ => h.elim
 | _ :: _, _, [], h, _ => h.elim
theorem expL_ok (h : MRel w0 R fm w) (hc : MRel wc R' mC w') (hwc : wc.w = w) (hX : ∀ k, ¬ wc.X k) {id : Nat} (hid : fm (nid id 0) = none) (hlt : id < 60000) : ∀ {vs us vs' : List Value} {l : List (Nat × Blk)}, LR (V2 R') vs vs' -> expL T mC id vs (fun a b => some (a, b)) none = some (us, l) ->
  ∃ R2 : Nat -> Pl -> Prop, (∀ i p, R i p -> R2 i p) ∧ LR (V1 R2) us vs' ∧ MRel w0 R2 (memF fm l) w'
 | [], us, [], l, _, he => by
  simp only [expL, Option.some.injEq, Prod.mk.injEq] at he
  obtain ⟨rfl, rfl⟩ := he
  have hbel : Below w.heap.size w w' := by have := hc.below.below hX; rw [hwc] at this; exact this
  exact ⟨R, fun _ _ h => h, trivial, h.world hbel⟩
 | v :: vs, us, v' :: vs', l, hl, he => by
  simp only [expL] at he
  obtain ⟨u, l1, hu, he⟩ := expV_some.1 he
  obtain ⟨us2, m, hus, he⟩ := expL_some.1 he
  obtain ⟨x, hx, he⟩ := oK_some.1 he
  simp only [Option.some.injEq, Prod.mk.injEq] at he
  obtain ⟨rfl, rfl⟩ := he
  rcases expV_ok h hc hwc hX hid hlt hl.1 hu with ⟨rfl, rfl, hpl, rfl⟩ | ⟨R2, k1, k2, k3, k4⟩
  · have hx : some m = some x := hx
   cases hx
   obtain ⟨R2, k1, k2, k3⟩ := expL_ok h hc hwc hX hid hlt hl.2 hus
   exact ⟨R2, k1, ⟨(V1_plain hpl).2 rfl, k2⟩, k3⟩
  · cases l1 with
   | nil =>
    have hx : some m = some x := hx
    cases hx
    -- a plain one after all
    unfold expV at hu
    split at hu
    · obtain ⟨blk, hb, hu⟩ := oK_some.1 hu
     cases hit : isTail blk.cells with
     | true =>
      rw [hit, cond_true] at hu
      obtain ⟨_, _, hu⟩ := oK_some.1 hu
      obtain ⟨_, hu⟩ := cond_some.1 hu; simp at hu
     | false =>
     rw [hit, cond_false] at hu
     obtain ⟨_, hu⟩ := cond_some.1 hu
     split at hu
     · obtain ⟨_, hu⟩ := cond_some.1 hu; simp at hu
     · obtain ⟨_, _, hu⟩ := oK_some.1 hu
      obtain ⟨_, hu⟩ := cond_some.1 hu; simp at hu
     · obtain ⟨_, hu⟩ := cond_some.1 hu; simp at hu
     · simp at hu
    · obtain ⟨hpl, hu⟩ := cond_some.1 hu
     simp only [Option.some.injEq, Prod.mk.injEq, and_true] at hu
     subst hu
     have hp2 : pl2 v = true := by
      unfold pl2; split
      · simp [pl1, pl0] at hpl
      · exact hpl
     have := (V2_plain hp2).1 hl.1; subst this
     obtain ⟨R3, j1, j2, j3⟩ := expL_ok h hc hwc hX hid hlt hl.2 hus
     exact ⟨R3, j1, ⟨(V1_plain hpl).2 rfl, j2⟩, j3⟩
   | cons q l1 =>
    cases m with
    | cons _ _ => simp [joinL] at hx
    | nil =>
     have hx : some (q :: l1) = some x := hx
     cases hx
     obtain ⟨j1, j2⟩ := expL_nil hc hl.2 hus
     subst j2
     refine ⟨R2, k1, ⟨V1_of_V2 k2 k3, ?_⟩, k4⟩
     exact (LR_plain (r := V1 R2) (pl := pl1) (fun _ _ hv => V1_plain hv) j1).2 rfl
 | [], _, _ :: _, _, h, _ => h.elim
 | _ :: _, _, [], _, h, _ => h.elim
end
theorem msum_at {g : FuncId} {fn : Func} {c : Code} (hf : P.funcs[g]? = some fn) (hname : (fn.name == "runtime.NumGoroutine") = false) (hb : fn.body = some c) {fuel next : Nat}
  {w0 : Wb (lay P)} {R : Nat -> Pl -> Prop} {fm : Nat -> Option Blk} {w : World} (hm : MRel w0 R fm w) {vs args' : List Value} (hl : LR (V2 R) vs args') {mm : Nat -> Option Blk} (hsub : ∀ b blk, mm b = some blk -> fm b = some blk) {id : Nat} (hlt : id < 60000)
  {A : List Arg} (hA : AOk mm vs A) (hlen : A.length <= fn.ntmps) {v : Value} {l : List (Nat × Blk)} (hl1 : l = [] ∨ ∃ blk, l = [(nid id 0, blk)]) (hnew : ∀ p ∈ l, (nid id 0 <= p.1 ∧ p.1 < nid id 8 -> fm p.1 = none) ∧ (¬ (nid id 0 <= p.1 ∧ p.1 < nid id 8) -> (mm p.1).isSome = true))
  (hev0 : ∀ es, ∃ C, CfgOk P C c ∧ C.n = fn.ntmps ∧ fnMS C fuel fn c (cArgs A 0) (cMem es A 0) next id = some (v, l)) (hnt : fn.ntmps <= 900000000 := by decide +kernel) :
  Invokes P g args'.toArray w fun v' w' => ∃ R' : Nat -> Pl -> Prop, (∀ i p, R i p -> R' i p) ∧ V2 R' v v' ∧ MRel w0 R' (memF fm l) w' := by
 have hne : fn.name ≠ "runtime.NumGoroutine" := by simpa using hname
 have hrun : (callFunc g args'.toArray).run P w = .ok (.enter g args'.toArray) w := by simp [callFunc, hf, hne, hb]
 unfold Invokes
 rw [hrun]
 obtain ⟨es, pl, h1, h2, h3, h4⟩ := callee_mem hm A vs args' 0 (AOk_mono hsub hA) hl
 have hmC := callee_rel hm.below.gok h2 h3 (Nat.le_trans hlen hnt)
 obtain ⟨C, hC, hn, hev⟩ := hev0 es
 unfold fnMS fnM at hev
 rw [evK_eq, oK_some] at hev
 obtain ⟨⟨e, s'⟩, he1, he2⟩ := hev
 obtain ⟨vC, he3, he4⟩ : ∃ vC, endK C.T fn e s' some none = some vC ∧ expK C.T (look s'.mem) id vC (fun v l => some (v, l)) none = some (v, l) := by
  unfold endK at he2 ⊢
  have key : ∀ lr : List ResultVar, resK C.T s' lr (fun vs => oneK vs fun v => expK C.T (look s'.mem) id v (fun v l => some (v, l)) none) none = some (v, l) -> ∃ vC, resK C.T s' lr (fun vs => oneK vs some) none = some vC ∧ expK C.T (look s'.mem) id vC (fun v l => some (v, l)) none = some (v, l) := by
   intro lr hh
   have e1 : resK C.T s' lr (fun vs => oneK vs fun v => expK C.T (look s'.mem) id v (fun v l => some (v, l)) none) none = oK (resK C.T s' lr (fun vs => oneK vs some) none) (fun v => expK C.T (look s'.mem) id v (fun v l => some (v, l)) none) none := by
    rw [resK_nat (fun o : Option Value => oK o (fun v => expK C.T (look s'.mem) id v (fun v l => some (v, l)) none) none)]
    congr 1; funext vs
    exact (oneK_nat (fun o : Option Value => oK o (fun v => expK C.T (look s'.mem) id v (fun v l => some (v, l)) none) none) vs some).symm
   rw [e1] at hh
   exact oK_some.1 hh
  cases e <;> simp only at he2 ⊢ <;> first | exact key _ he2 | (simp at he2; done)
 refine Calls.mono (fn_mem hC hf hb hn hmC h4 (by rw [cArgs_len]; exact hlen) he1 he3) ?_
 rintro ex w' ⟨R', v', rfl, hvv, hvt, hm'⟩
 show ∃ R2 : Nat -> Pl -> Prop, _ ∧ _ ∧ _
 have hX : ∀ k, ¬ (⟨w, fun _ => False, fun i p => ∃ j, i = argId j ∧ pl j = some p⟩ : Wb (lay P)).X k := fun _ h => h
 have h8 : nid id 0 < nid id 8 := by unfold nid; omega
 have hbel : Below w.heap.size w w' := hm'.below.below hX
 -- no new row
 have none_case : l = [] -> expK C.T (look s'.mem) id vC (fun v l => some (v, l)) none = some (v, []) -> ∃ R2 : Nat -> Pl -> Prop, (∀ i p, R i p -> R2 i p) ∧ V2 R2 v v' ∧ MRel w0 R2 (memF fm []) w' := by
  intro _ he
  refine ⟨R, fun _ _ h => h, ?_, hm.world hbel⟩
  unfold expK at he
  split at he
  · rename_i ws
   obtain ⟨us, l2, hu, he⟩ := expL_some.1 he
   simp only [Option.some.injEq, Prod.mk.injEq] at he
   obtain ⟨rfl, rfl⟩ := he
   obtain ⟨vs', rfl, hl2⟩ := hvt ws rfl
   obtain ⟨j1, j2⟩ := expL_nil hm' hl2 hu
   refine ⟨vs', rfl, ?_⟩
   rw [j2, List.toList_toArray]
   exact (LR_plain (r := V1 R) (pl := pl1) (fun _ _ hv => V1_plain hv) j1).2 rfl
  · rename_i hnt
   have hv2 := hvv hnt
   have := expL_nil (T := C.T) (id := id) hm' (vs := [vC]) (us := [v]) (vs' := [v']) ⟨hv2, trivial⟩ (by
    simp only [expL]
    exact expV_some.2 ⟨v, [], he, rfl⟩)
   obtain ⟨j1, j2⟩ := this
   simp only [List.all_cons, List.all_nil, Bool.and_true] at j1
   simp only [List.cons.injEq, and_true] at j2
   subst j2
   exact V2_of_V1 ((V1_plain j1).2 rfl)
 rcases hl1 with rfl | ⟨blk, rfl⟩
 · exact none_case rfl he4
 · have hid : fm (nid id 0) = none := (hnew _ (List.mem_singleton.2 rfl)).1 ⟨Nat.le_refl _, h8⟩
  unfold expK at he4
  split at he4
  · rename_i ws
   obtain ⟨us, l2, hu, he⟩ := expL_some.1 he4
   simp only [Option.some.injEq, Prod.mk.injEq] at he
   obtain ⟨rfl, rfl⟩ := he
   obtain ⟨vs', rfl, hl2⟩ := hvt ws rfl
   obtain ⟨R2, j1, j2, j3⟩ := expL_ok hm hm' rfl hX hid hlt hl2 hu
   exact ⟨R2, j1, ⟨vs', rfl, by rw [List.toList_toArray]; exact j2⟩, j3⟩
  · rename_i hnt
   have hv2 := hvv hnt
   rcases expV_ok hm hm' rfl hX hid hlt hv2 he4 with ⟨h0, _⟩ | ⟨R2, j1, j2, _, j4⟩
   · simp at h0
   · exact ⟨R2, j1, j2, j4⟩
theorem msum_of {C : Cfg} {c : Code} (hC : CfgOk P C c) {g : FuncId} {fn : Func} (hf : P.funcs[g]? = some fn) (hname : (fn.name == "runtime.NumGoroutine") = false) (hb : fn.body = some c) (hn : C.n = fn.ntmps) {fuel next : Nat}
  {F : List Value -> (Nat -> Option Blk) -> Nat -> List (Bool × Value × List (Nat × Blk))}
  (h : ∀ vs mm id v l, pickM (F vs mm id) = some (v, l) -> id < 60000 -> ∃ A : List Arg, AOk mm vs A ∧ A.length <= fn.ntmps ∧ (l = [] ∨ ∃ blk, l = [(nid id 0, blk)]) ∧ ∀ es, fnMS C fuel fn c (cArgs A 0) (cMem es A 0) next id = some (v, l)) (hnt : fn.ntmps <= 900000000 := by decide +kernel) : MSum P g F := by
 intro w0 R fm w hm vs args' hl mm hsub id hlt v l hpick hnew
 obtain ⟨A, hA, hlen, hl1, hev⟩ := h vs mm id v l hpick hlt
 exact msum_at hf hname hb hm hl hsub hlt hA hlen hl1 hnew (fun es => ⟨C, hC, hn, hev es⟩) hnt
end
end Go.W

namespace Go.W
theorem negS_ok {p : RP} (h : ckR p = true) : negS p = ngR p := by unfold negS; rw [hide_eq, ngR_ok h]
theorem lt6_0 : lt6 0 := by unfold lt6; decide
end Go.W

namespace Go.W
def TrnF : List Value -> Option (Bool × Value)
 | [a] => some (isNum a, sv (num 0) a)
 | _ => none
def LowPF : List Value -> Option (Bool × Value)
 | [a] => some (isNum a, .bool (decide (unnum a < pP)))
 | _ => none
def sqN (X : Nat) : Nat := ap (mp (mp X X) X) 7
def SqAF : List Value -> Option (Bool × Value)
 | [a] => some (isNum a, num (sqN (unnum a)))
 | _ => none
def sqT (x : Value) : Option Value := m2 x x fun b => m2 b x fun c => a2 c (num 7) fun d => some d
theorem lt6_7 : lt6 7 := by unfold lt6; decide
theorem sqT_eq {X : Nat} (hX : lt6 X) : sqT (num X) = some (num (sqN X)) := by
 unfold sqT; simp only [m2_num, a2_num, mp_l, hX, lt6_7]; rfl
def lowPT (x : Value) : Option Value := r2 x (num (primeN 0)) <| some (.bool (decide (cI x (num (primeN 0)) < 0)))
theorem lowPT_eq {X : Nat} (hX : lt6 X) : lowPT (num X) = some (.bool (decide (X < pP))) := by
 have hp : pP < 2 ^ 256 := by decide
 unfold lowPT; rw [prime0, r2_num, cI_lt hX hp]
theorem eqV_pt {r s : RP} (h : okR r) (h2 : okR s) : eqV (ptV r) (ptV s) = decide (r = s) := by
 obtain ⟨i, X, Y⟩ := r
 obtain ⟨j, A, B⟩ := s
 have e : eqV (ptV (i, X, Y)) (ptV (j, A, B)) = ((i == j) && (eqV (num X) (num A) && eqV (num Y) (num B))) := by
  show ((i == j) && eqL [u64 (dig X 0), u64 (dig X 1), u64 (dig X 2), u64 (dig X 3), u64 (dig Y 0), u64 (dig Y 1), u64 (dig Y 2), u64 (dig Y 3)] [u64 (dig A 0), u64 (dig A 1), u64 (dig A 2), u64 (dig A 3), u64 (dig B 0), u64 (dig B 1), u64 (dig B 2), u64 (dig B 3)]) =
   ((i == j) && (eqL [u64 (dig X 0), u64 (dig X 1), u64 (dig X 2), u64 (dig X 3)] [u64 (dig A 0), u64 (dig A 1), u64 (dig A 2), u64 (dig A 3)] && eqL [u64 (dig Y 0), u64 (dig Y 1), u64 (dig Y 2), u64 (dig Y 3)] [u64 (dig B 0), u64 (dig B 1), u64 (dig B 2), u64 (dig B 3)]))
  simp only [eqL_u64, eqL, Bool.and_true, Bool.and_assoc]
 rw [e, eqV_num, eqV_num, Nat.mod_eq_of_lt h.1, Nat.mod_eq_of_lt h.2, Nat.mod_eq_of_lt h2.1, Nat.mod_eq_of_lt h2.2, Bool.eq_iff_iff]
 simp only [Bool.and_eq_true, beq_iff_eq, decide_eq_true_eq, Prod.mk.injEq]
def isPT (i : Bool) (x y : Value) : Option Value :=
 bif i then some (.bool (eqV (pt3 i x y) (ptV (true, 0, 0)))) else
  req (isNum x) <| bif decide (unnum x < pP) then (req (isNum y) <| bif decide (unnum y < pP) then (m2 y y fun a => req (isNum x) <| some (.bool (eqV a (num (sqN (unnum x)))))) else fls) else fls
theorem isPT_eq {i : Bool} {X Y : Nat} (hX : lt6 X) (hY : lt6 Y) : isPT i (num X) (num Y) = some (.bool (ckR (i, X, Y))) := by
 unfold isPT ckR
 cases i with
 | true =>
  rw [if_pos rfl, cond_true, pt3_num, eqV_pt (r := (true, X, Y)) (s := (true, 0, 0)) ⟨hX, hY⟩ ⟨lt6_0, lt6_0⟩]
  congr 2
  rw [Bool.eq_iff_iff, decide_eq_true_eq, decide_eq_true_eq]
  constructor
  · intro e; exact ⟨(Prod.mk.inj (Prod.mk.inj e).2).1, (Prod.mk.inj (Prod.mk.inj e).2).2⟩
  · rintro ⟨h1, h2⟩; rw [show X = 0 from h1, show Y = 0 from h2]
 | false =>
  rw [if_neg Bool.false_ne_true, cond_false, isNum_num, isNum_num, req_true rfl, req_true rfl, unnum_lt hX, unnum_lt hY, m2_num hY hY, req_true rfl]
  by_cases h1 : X < pP
  · rw [decide_eq_true h1, cond_true]
   by_cases h2 : Y < pP
   · rw [decide_eq_true h2, cond_true, eqV_num, Nat.mod_eq_of_lt (mp_l _ _), Nat.mod_eq_of_lt (show sqN X < 2 ^ 256 from ap_l _ _)]
    congr 2
    rw [Bool.eq_iff_iff, decide_eq_true_eq, decide_eq_true_eq]
    exact ⟨fun h => ⟨h1, h2, h⟩, fun h => h.2.2⟩
   · rw [decide_eq_false h2, show decide (X < pP ∧ Y < pP ∧ mp Y Y = ap (mp (mp X X) X) 7) = false from decide_eq_false (fun h => h2 h.2.1)]; rfl
  · rw [decide_eq_false h1, show decide (X < pP ∧ Y < pP ∧ mp Y Y = ap (mp (mp X X) X) 7) = false from decide_eq_false (fun h => h1 h.1)]; rfl
def lfJ (r : RP) : N3 := if r.1 = true then (0, 0, 0) else (r.2.1, r.2.2, 1)
theorem J3_inf0 : J3 .inf (0, 0, 0) := ⟨.inl ⟨rfl, rfl⟩, prime_pos.1, prime_pos.1, prime_pos.1⟩
theorem J3_lf {r : RP} (h : ckR r = true) : J3 (toPt r) (lfJ r) := by
 obtain ⟨i, X, Y⟩ := r
 cases i with
 | true => exact J3_inf0
 | false => exact J3_up h
def LiftF : List Value -> Option (Bool × Value)
 | [p] => some (isPt p, jacV (lfJ (unPt p)))
 | _ => none
def lfT (i : Bool) (x y : Value) : Option Value := bif i then some (jac3 (num 0) (num 0) (num 0)) else some (jac3 x y (num 1))
theorem lfT_eq (i : Bool) (X Y : Nat) : lfT i (num X) (num Y) = some (jacV (lfJ (i, X, Y))) := by
 unfold lfT lfJ; cases i <;> rfl
def IsIF : List Value -> Option (Bool × Value)
 | [j] => some (isJac j, .bool (decide ((unJ j).2.2 = 0)))
 | _ => none
def isIT (z : Value) : Option Value := some (.bool (eqV z (num 0)))
theorem isIT_eq {Z : Nat} (hZ : lt6 Z) : isIT (num Z) = some (.bool (decide (Z = 0))) := by unfold isIT; rw [eq0_num hZ]
def ptR (t : N3) : RP := if t.2.2 = 0 then (true, 0, 0) else
 (false, mp t.1 (mp (powN 0 t.2.2 (pP - 2)) (powN 0 t.2.2 (pP - 2))), mp t.2.1 (mp (powN 0 t.2.2 (pP - 2)) (mp (powN 0 t.2.2 (pP - 2)) (powN 0 t.2.2 (pP - 2)))))
theorem mp_comm (a b : Nat) : mp a b = mp b a := by rw [mp_eq, mp_eq, Nat.mul_comm]
theorem J3_pt {p : Pt Kp} {t : N3} (h : J3 p t) : ptR t = ofPt p := by
 rw [<- J3_dn h]; unfold ptR dnR3
 rw [mp_comm (powN 0 t.2.2 (pP - 2)) (mp _ _)]
def PtF : List Value -> Option (Bool × Value)
 | [j] => some (isJac j, ptV (ptR (unJ j)))
 | _ => none
def ptT (x y z : Value) : Option Value :=
 req (isJac (jac3 x y z)) <| bif decide ((unJ (jac3 x y z)).2.2 = 0) then some (ptV (true, 0, 0)) else req (isNum z) <| (fun i => m2 i i fun ii => m2 x ii fun a => m2 i ii fun iii => m2 y iii fun b => some (pt3 false a b)) (num (powN 0 (unnum z) (pP - 2)))
theorem ptT_eq {X Y Z : Nat} (hX : lt6 X) (hY : lt6 Y) (hZ : lt6 Z) : ptT (num X) (num Y) (num Z) = some (ptV (ptR (X, Y, Z))) := by
 unfold ptT ptR
 rw [jac3_num, isJac_jacV, req_true rfl, unJ_jacV (t := (X, Y, Z)) ⟨hX, hY, hZ⟩, isNum_num, req_true rfl, unnum_lt hZ]
 simp only [m2_num, mp_l, pow_l, hX, hY, pt3_num]
 by_cases h : Z = 0
 · rw [decide_eq_true h, if_pos h]; rfl
 · rw [decide_eq_false h, if_neg h]; rfl
def dbS (x y : Nat) : Nat := mp x (mp (ap y y) (ap y y))
def dbM (x : Nat) : Nat := ap (mp x x) (ap (mp x x) (mp x x))
def dbX (x y : Nat) : Nat := sp (mp (dbM x) (dbM x)) (ap (dbS x y) (dbS x y))
def dbY (x y : Nat) : Nat := sp (mp (dbM x) (sp (dbS x y) (dbX x y))) (mp (mp (mp (ap y y) (ap y y)) (ap y y)) y)
def dbZ (y z : Nat) : Nat := mp (ap y y) z
def db3 (t : N3) : N3 := (dbX t.1 t.2.1, dbY t.1 t.2.1, dbZ t.2.1 t.2.2)
section
variable {P0 : Nat} [NeZero P0]
theorem d1 (x y : Fin P0) : (x * x + (x * x + x * x)) * (x * x + (x * x + x * x)) - (x * ((y + y) * (y + y)) + x * ((y + y) * (y + y))) = twX x y := by unfold twX; grind
theorem d2 (x y : Fin P0) : (x * x + (x * x + x * x)) * (x * ((y + y) * (y + y)) - twX x y) - (y + y) * (y + y) * (y + y) * y = twY x y := by unfold twY; generalize twX x y = w; grind
theorem d3 (y z : Fin P0) : (y + y) * z = twZ y z := by unfold twZ; grind
end
theorem dbX_z (x y : Nat) : zP (dbX x y) = twX (zP x) (zP y) := by unfold dbX dbM dbS; simp only [z_mp, z_ap, z_sp]; exact d1 _ _
theorem dbY_z (x y : Nat) : zP (dbY x y) = twY (zP x) (zP y) := by unfold dbY; simp only [z_mp, z_ap, z_sp, dbX_z]; unfold dbM dbS; simp only [z_mp, z_ap]; exact d2 _ _
theorem dbZ_z (y z : Nat) : zP (dbZ y z) = twZ (zP y) (zP z) := by unfold dbZ; simp only [z_mp, z_ap]; exact d3 _ _
theorem J3_db {p : Pt Kp} (hp : On p) {t : N3} (h : J3 p t) : J3 (addP invP p p) (db3 t) := by
 by_cases hz : t.2.2 = 0
 · have : p = .inf := (jr_inf h.jr).1 (by rw [hz]; rfl)
  subst this
  refine ⟨.inl ⟨?_, rfl⟩, sp_lt _ _, sp_lt _ _, mp_lt _ _⟩
  show zP (dbZ t.2.1 t.2.2) = 0
  rw [hz]; unfold dbZ; rw [mp_eq, Nat.mul_zero]; rfl
 · obtain ⟨h1, _⟩ := jr_twice fldP hp h.jr ((zP_ne h.z).1 hz)
  exact ⟨by unfold db3; simp only [dbX_z, dbY_z, dbZ_z]; exact h1, sp_lt _ _, sp_lt _ _, mp_lt _ _⟩
def DblF : List Value -> Option (Bool × Value)
 | [j] => some (isJac j, jacV (db3 (unJ j)))
 | _ => none
def dbT (x y z : Value) : Option Value :=
 a2 y y fun tw => m2 tw tw fun sq => m2 x sq fun s => m2 x x fun xx => a2 xx xx fun u => a2 xx u fun m => m2 m m fun mm => a2 s s fun ss => s2 mm ss fun X => s2 s X fun v => m2 m v fun w => m2 sq tw fun a => m2 a y fun b => s2 w b fun Y =>
 m2 tw z fun Z => some (jac3 X Y Z)
theorem dbT_eq {X Y Z : Nat} (hX : lt6 X) (hY : lt6 Y) (hZ : lt6 Z) : dbT (num X) (num Y) (num Z) = some (jacV (db3 (X, Y, Z))) := by
 unfold dbT
 simp only [m2_num, a2_num, s2_num, mp_l, ap_l, sp_l, hX, hY, hZ, jac3_num]; rfl
def sx3 (t : N3) (rise : Nat) : N3 := if rise = 0 then db3 t else (0, 0, 0)
def SamF : List Value -> Option (Bool × Value)
 | [j, a] => some (isJac j && isNum a, jacV (sx3 (unJ j) (unnum a)))
 | _ => none
def samT (j a : Value) : Option Value := bif eqV a (num 0) then req (isJac j) (some (jacV (db3 (unJ j)))) else some (jac3 (num 0) (num 0) (num 0))
theorem samT_eq {t : N3} (ht : okJ t) {A : Nat} (hA : lt6 A) : samT (jacV t) (num A) = some (jacV (sx3 t A)) := by
 unfold samT sx3
 rw [eq0_num hA, isJac_jacV, req_true rfl, unJ_jacV ht]
 by_cases h : A = 0
 · rw [decide_eq_true h, if_pos h]; rfl
 · rw [decide_eq_false h, if_neg h]; rfl
def psRun (t : N3) (r : RP) : Nat := sp (mp r.2.1 (mp t.2.2 t.2.2)) t.1
def psRise (t : N3) (r : RP) : Nat := sp (mp r.2.2 (mp t.2.2 (mp t.2.2 t.2.2))) t.2.1
def psX (x run rise : Nat) : Nat := sp (sp (mp rise rise) (mp run (mp run run))) (ap (mp x (mp run run)) (mp x (mp run run)))
def psY (x y run rise : Nat) : Nat := sp (mp rise (sp (mp x (mp run run)) (psX x run rise))) (mp y (mp run (mp run run)))
def ps3 (t : N3) (r : RP) : N3 := if r.1 = true then t else if t.2.2 = 0 then lfJ r else if psRun t r = 0 then sx3 t (psRise t r) else
 (psX t.1 (psRun t r) (psRise t r), psY t.1 t.2.1 (psRun t r) (psRise t r), mp t.2.2 (psRun t r))
section
variable {P0 : Nat} [NeZero P0]
theorem p1 (x2 z x : Fin P0) : x2 * (z * z) - x = plU x2 z - plU x 1 := by unfold plU; grind
theorem p2 (y2 z y : Fin P0) : y2 * (z * (z * z)) - y = plS y2 z - plS y 1 := by unfold plS; grind
theorem p3 (x h r : Fin P0) : r * r - h * (h * h) - (x * (h * h) + x * (h * h)) = plX (plU x 1) h r := by unfold plX plU; grind
theorem p4 (x y h r w : Fin P0) : r * (x * (h * h) - w) - y * (h * (h * h)) = r * (plU x 1 * (h * h) - w) - plS y 1 * (h * h * h) := by unfold plU plS; grind
theorem p5 (z h : Fin P0) : z * h = plZ h z 1 := by unfold plZ; grind
end
theorem J3_ps {p : Pt Kp} (hp : On p) {t : N3} (h : J3 p t) {r : RP} (hr : ckR r = true) : J3 (addP invP p (toPt r)) (ps3 t r) := by
 have hq := (ck_of hr).1
 have h' := J3_up hr
 unfold ps3
 obtain ⟨i, X, Y⟩ := r
 cases i with
 | true =>
  rw [if_pos rfl]
  show J3 (addP invP p .inf) t
  rw [add_inf]; exact h
 | false =>
  rw [if_neg Bool.false_ne_true]
  by_cases hz : t.2.2 = 0
  · rw [if_pos hz]
   have : p = .inf := (jr_inf h.jr).1 (by rw [hz]; rfl)
   subst this; exact J3_lf hr
  · rw [if_neg hz]
   obtain ⟨a1, a2, a3⟩ := jr_plus fldP hp hq h.jr h'.jr ((zP_ne h.z).1 hz) ((zP_ne prime_pos.2).1 (by decide))
   have eU : zP (psRun t (false, X, Y)) = plU (zP (upJ (false, X, Y)).1) (zP t.2.2) - plU (zP t.1) (zP (upJ (false, X, Y)).2.2) := by
    unfold psRun; rw [z_sp, z_mp, z_mp]; exact p1 _ _ _
   have eR : zP (psRise t (false, X, Y)) = plS (zP (upJ (false, X, Y)).2.1) (zP t.2.2) - plS (zP t.2.1) (zP (upJ (false, X, Y)).2.2) := by
    unfold psRise; rw [z_sp, z_mp, z_mp, z_mp]; exact p2 _ _ _
   rw [<- eU, <- eR] at a1 a2 a3
   have lU : psRun t (false, X, Y) < pP := sp_lt _ _
   have lR : psRise t (false, X, Y) < pP := sp_lt _ _
   by_cases hh : psRun t (false, X, Y) = 0
   · rw [if_pos hh]; unfold sx3
    by_cases hr0 : psRise t (false, X, Y) = 0
    · rw [if_pos hr0]
     have := a3 (by rw [hh]; rfl) (by rw [hr0]; rfl)
     rw [<- this]
     exact J3_db hp h
    · rw [if_neg hr0, a2 (by rw [hh]; rfl) ((zP_ne lR).1 hr0)]
     exact J3_inf0
   · rw [if_neg hh]
    have := a1 ((zP_ne lU).1 hh)
    refine ⟨?_, sp_lt _ _, sp_lt _ _, mp_lt _ _⟩
    have e1 : zP (psX t.1 (psRun t (false, X, Y)) (psRise t (false, X, Y))) = plX (plU (zP t.1) (zP (upJ (false, X, Y)).2.2)) (zP (psRun t (false, X, Y))) (zP (psRise t (false, X, Y))) := by
     unfold psX; simp only [z_sp, z_mp, z_ap]; exact p3 _ _ _
    have e2 : zP (psY t.1 t.2.1 (psRun t (false, X, Y)) (psRise t (false, X, Y))) = plY (plU (zP t.1) (zP (upJ (false, X, Y)).2.2)) (plS (zP t.2.1) (zP (upJ (false, X, Y)).2.2)) (zP (psRun t (false, X, Y))) (zP (psRise t (false, X, Y))) := by
     unfold psY plY; rw [<- e1]; simp only [z_sp, z_mp]; exact p4 _ _ _ _ _
    have e3 : zP (mp t.2.2 (psRun t (false, X, Y))) = plZ (zP (psRun t (false, X, Y))) (zP t.2.2) (zP (upJ (false, X, Y)).2.2) := by rw [z_mp]; exact p5 _ _
    show Jr _ (zP (psX _ _ _)) (zP (psY _ _ _ _)) (zP (mp _ _))
    rw [e1, e2, e3]; exact this
def PlsF : List Value -> Option (Bool × Value)
 | [j, p] => some (isJac j && isPt p, jacV (ps3 (unJ j) (unPt p)))
 | _ => none
def psT (j x y z : Value) (i : Bool) (px py : Value) : Option Value :=
 bif i then some j else req (isJac j) <| bif decide ((unJ j).2.2 = 0) then req (isPt (pt3 i px py)) (some (jacV (lfJ (unPt (pt3 i px py))))) else
 m2 z z fun zz => m2 px zz fun a => s2 a x fun run => m2 z zz fun b => m2 py b fun c => s2 c y fun rise => bif eqV run (num 0) then req (isJac j && isNum rise) (some (jacV (sx3 (unJ j) (unnum rise)))) else
 m2 run run fun run2 => m2 run run2 fun run3 => m2 x run2 fun s => m2 rise rise fun d => s2 d run3 fun e => a2 s s fun f => s2 e f fun X => s2 s X fun g => m2 rise g fun h => m2 y run3 fun k => s2 h k fun Y => m2 z run fun Z => some (jac3 X Y Z)
theorem psT_eq {X Y Z : Nat} (hX : lt6 X) (hY : lt6 Y) (hZ : lt6 Z) {i : Bool} {A B : Nat} (hA : lt6 A) (hB : lt6 B) : psT (jacV (X, Y, Z)) (num X) (num Y) (num Z) i (num A) (num B) = some (jacV (ps3 (X, Y, Z) (i, A, B))) := by
 unfold psT ps3
 rw [pt3_num, isJac_jacV, req_true rfl, unJ_jacV (t := (X, Y, Z)) ⟨hX, hY, hZ⟩, isPt_ptV, req_true rfl, unPt_ptV (r := (i, A, B)) ⟨hA, hB⟩]
 cases i with
 | true => rfl
 | false =>
  rw [if_neg Bool.false_ne_true, cond_false]
  by_cases h : Z = 0
  · rw [if_pos h, decide_eq_true (show (X, Y, Z).2.2 = 0 from h)]; rfl
  · rw [if_neg h, decide_eq_false (show ¬ (X, Y, Z).2.2 = 0 from h), cond_false]
   simp only [m2_num, a2_num, s2_num, mp_l, ap_l, sp_l, hX, hY, hZ, hA, hB, jac3_num, isNum_num, unnum_lt (sp_l _ _), eq0_num (sp_l _ _)]
   rw [req_true (b := true && true) rfl]
   show (bif decide (psRun (X, Y, Z) (false, A, B) = 0) then some (jacV (sx3 (X, Y, Z) (psRise (X, Y, Z) (false, A, B)))) else some (jacV (psX X (psRun (X, Y, Z) (false, A, B)) (psRise (X, Y, Z) (false, A, B)), psY X Y (psRun (X, Y, Z) (false, A, B)) (psRise (X, Y, Z) (false, A, B)), mp Z (psRun (X, Y, Z) (false, A, B))))) = _
   by_cases h2 : psRun (X, Y, Z) (false, A, B) = 0
   · rw [decide_eq_true h2, if_pos h2]; rfl
   · rw [decide_eq_false h2, if_neg h2]; rfl
theorem okJ_0 : okJ (0, 0, 0) := ⟨by decide, by decide, by decide⟩
theorem okJ_db (t : N3) : okJ (db3 t) := ⟨sp_l _ _, sp_l _ _, mp_l _ _⟩
theorem okJ_lf {r : RP} (h : okR r) : okJ (lfJ r) := by
 unfold lfJ; split
 · exact okJ_0
 · exact ⟨h.1, h.2, show 1 < 2 ^ 256 by decide⟩
theorem okJ_sx (t : N3) (a : Nat) : okJ (sx3 t a) := by
 unfold sx3; split
 · exact okJ_db t
 · exact okJ_0
theorem okJ_ps {t : N3} (ht : okJ t) {r : RP} (hr : okR r) : okJ (ps3 t r) := by
 unfold ps3; split
 · exact ht
 · split
  · exact okJ_lf hr
  · split
   · exact okJ_sx _ _
   · exact ⟨sp_l _ _, sp_l _ _, mp_l _ _⟩
def stB (n : Nat) (p : RP) (i : Nat) (t : N3) : N3 := if bitN n i = 1 then ps3 t p else t
def smK (n : Nat) (p : RP) (m : Nat) (q : RP) (L : Nat) : Nat -> N3
 | 0 => (0, 0, 0)
 | k + 1 => stB m q (L - 1 - k) (stB n p (L - 1 - k) (db3 (smK n p m q L k)))
theorem okJ_stB (n : Nat) {p : RP} (hp : okR p) (i : Nat) {t : N3} (ht : okJ t) : okJ (stB n p i t) := by
 unfold stB; split
 · exact okJ_ps ht hp
 · exact ht
theorem okJ_sm (n : Nat) {p : RP} (hp : okR p) (m : Nat) {q : RP} (hq : okR q) (L : Nat) : ∀ k, okJ (smK n p m q L k)
 | 0 => okJ_0
 | _ + 1 => okJ_stB m hq _ (okJ_stB n hp _ (okJ_db _))
theorem div_bits (n i : Nat) : n / 2 ^ i = 2 * (n / 2 ^ (i + 1)) + bitN n i := by
 have h1 : n / 2 ^ (i + 1) = n / 2 ^ i / 2 := by rw [Nat.pow_succ, Nat.div_div_eq_div_mul]
 have h2 : bitN n i = n / 2 ^ i % 2 := rfl
 rw [h1, h2]; omega
theorem J3_stB {a : Pt Kp} (ha : On a) {t : N3} (h : J3 a t) {p : RP} (hp : ckR p = true) (n i : Nat) : J3 (addP invP a (mulP invP (bitN n i) (toPt p))) (stB n p i t) := by
 unfold stB
 rcases Nat.mod_two_eq_zero_or_one (n / 2 ^ i) with h0 | h0
 · have hb : bitN n i = 0 := h0
  rw [hb, if_neg (by decide)]
  show J3 (addP invP a .inf) t
  rw [add_inf]; exact h
 · have hb : bitN n i = 1 := h0
  rw [hb, if_pos rfl, mulP_one]; exact J3_ps ha h hp
theorem J3_sm {p q : RP} (hp : ckR p = true) (hq : ckR q = true) {n m L : Nat} (hn : n < 2 ^ L) (hm : m < 2 ^ L) : ∀ k, k <= L -> J3 (addP invP (mulP invP (n / 2 ^ (L - k)) (toPt p)) (mulP invP (m / 2 ^ (L - k)) (toPt q))) (smK n p m q L k)
 | 0, _ => by
  rw [Nat.sub_zero, Nat.div_eq_of_lt hn, Nat.div_eq_of_lt hm]; exact J3_inf0
 | k + 1, hk => by
  have ih := J3_sm hp hq hn hm k (by omega)
  have op := (ck_of hp).1
  have oq := (ck_of hq).1
  have oA := mul_on fldP op (n / 2 ^ (L - k))
  have oB := mul_on fldP oq (m / 2 ^ (L - k))
  have hd := J3_db (add_on fldP oA oB) ih
  rw [add_four fldP oA oB oA oB, <- mulP_two fldP op, <- mulP_two fldP oq] at hd
  have e1 := div_bits n (L - 1 - k)
  have e2 := div_bits m (L - 1 - k)
  rw [show L - 1 - k + 1 = L - k from by omega] at e1 e2
  rw [show L - (k + 1) = L - 1 - k from by omega, e1, e2, mulP_add fldP op, mulP_add fldP oq]
  have o1 := mul_on fldP op (2 * (n / 2 ^ (L - k)))
  have o2 := mul_on fldP oq (2 * (m / 2 ^ (L - k)))
  have b1 := mul_on fldP op (bitN n (L - 1 - k))
  have b2 := mul_on fldP oq (bitN m (L - 1 - k))
  have := J3_stB (add_on fldP (add_on fldP o1 o2) b1) (J3_stB (add_on fldP o1 o2) hd hp n (L - 1 - k)) hq m (L - 1 - k)
  rw [add_assoc fldP (add_on fldP o1 o2) b1 b2, add_four fldP o1 o2 b1 b2] at this
  exact this
theorem J3_smL {p q : RP} (hp : ckR p = true) (hq : ckR q = true) {n m L : Nat} (hn : n < 2 ^ L) (hm : m < 2 ^ L) : ptR (smK n p m q L L) = twoS n p m q := by
 have := J3_pt (J3_sm hp hq hn hm L (Nat.le_refl _))
 rw [Nat.sub_self, Nat.pow_zero, Nat.div_one, Nat.div_one] at this
 rw [this]; unfold twoS; rw [hide_eq]
noncomputable def SuOF : List Value -> Option (Bool × Value)
 | [n, p, m, q] => some (isNum n && isPt p && isNum m && isPt q && ckR (unPt p) && ckR (unPt q), ptV (twoS (unnum n) (unPt p) (unnum m) (unPt q)))
 | _ => none
def chkT (p : Value) : Option Value := req (isPt p) <| bif ckR (unPt p) then some (i64 0) else some (i64 3)
theorem chkT_eq {p : RP} (hp : okR p) : chkT (ptV p) = some (i64 (errP (ckR p))) := by
 unfold chkT; rw [isPt_ptV, req_true rfl, unPt_ptV hp]; cases ckR p <;> rfl
end Go.W

namespace Go.W
def suB {α : Type} (n : Nat) (p : RP) (i : Int) (t : N3) (K : N3 -> Option α) : Option α :=
 req (isNum (num n)) <| bif bitI (unnum (num n)) i == 1 then (req (isJac (jacV t) && isPt (ptV p)) (K (ps3 (unJ (jacV t)) (unPt (ptV p))))) else K t
def suR {α : Type} (n : Nat) (p : RP) (m : Nat) (q : RP) (t : N3) (i : Int) (K : N3 -> Option α) : Option α :=
 req (isJac (jacV t)) <| suB n p i (db3 (unJ (jacV t))) fun d => suB m q i d K
theorem suB_eq {α : Type} {n : Nat} (hn : lt6 n) {p : RP} (hp : okR p) {i : Nat} (hi : i <= 255) {t : N3} (ht : okJ t) (K : N3 -> Option α) : suB n p (i : Int) t K = K (stB n p i t) := by
 unfold suB stB
 rw [isNum_num, req_true rfl, unnum_lt hn, bitI_nat hi, isJac_jacV, isPt_ptV, req_true (b := true && true) rfl, unJ_jacV ht, unPt_ptV hp]
 rcases Nat.mod_two_eq_zero_or_one (n / 2 ^ i) with h0 | h0
 · have hb : bitN n i = 0 := h0
  rw [hb, if_neg (by decide)]; rfl
 · have hb : bitN n i = 1 := h0
  rw [hb, if_pos rfl]; rfl
theorem suR_eq {α : Type} {n m : Nat} (hn : lt6 n) (hm : lt6 m) {p q : RP} (hp : okR p) (hq : okR q) {L k : Nat} (hL : L <= 256) (hk : k < L) (K : N3 -> Option α) :
  suR n p m q (smK n p m q L k) ((L : Int) - 1 - (k : Int)) K = K (smK n p m q L (k + 1)) := by
 have h1 := okJ_sm n hp m hq L k
 unfold suR
 rw [isJac_jacV, req_true rfl, unJ_jacV h1, show ((L : Int) - 1 - (k : Int)) = ((L - 1 - k : Nat) : Int) from by omega, suB_eq hn hp (by omega) (okJ_db _), suB_eq hm hq (by omega) (okJ_stB n hp _ (okJ_db _))]
 rfl
theorem lt_bitLen {n : Nat} {L : Nat} (h : bitLen n <= L) : n < 2 ^ L := Nat.lt_of_lt_of_le (bitLen_spec n).1 (Nat.pow_le_pow_right (by omega) h)
noncomputable def rSu (n p m q : Value) (k : RP -> Option Value) : Option Value :=
 req (isNum n && isPt p && isNum m && isPt q && ckR (unPt p) && ckR (unPt q)) (k (twoS (unnum n) (unPt p) (unnum m) (unPt q)))
theorem rSu_eq {n m : Nat} (hn : lt6 n) (hm : lt6 m) {p q : RP} (hp : ckR p = true) (hq : ckR q = true) (k : RP -> Option Value) : rSu (num n) (ptV p) (num m) (ptV q) k = k (twoS n p m q) := by
 unfold rSu
 rw [isNum_num, isNum_num, isPt_ptV, isPt_ptV, unPt_ptV (ck_okR hp), unPt_ptV (ck_okR hq), unnum_lt hn, unnum_lt hm, hp, hq]; rfl
def infR : RP := (true, 0, 0)
theorem ck_inf : ckR infR = true := rfl
theorem twoS_inf (n : Nat) (p : RP) : twoS n p 0 infR = timS n p := by
 unfold twoS timS; rw [hide_eq, hide_eq]
 show ofPt (addP invP (mulP invP n (toPt p)) .inf) = _
 rw [add_inf]
noncomputable def cBasT (n : Value) : Option Value := rSu n (ptV gR) (num 0) (ptV infR) fun r => some (ptV r)
theorem cBasT_eq {n : Nat} (hn : lt6 n) : cBasT (num n) = some (ptV (basS n)) := by
 unfold cBasT
 rw [rSu_eq hn lt6_0 gR_ck ck_inf, twoS_inf]
 unfold timS basS; rw [hide_eq, hide_eq, gR_pt]
end Go.W

namespace Go.W
def kB : List CK := [.i .u8]
def bI (f : Nat -> List Value) (j : Nat) : Int := toI ((f j).headD (.bool false))
theorem nrm_kB (f : Nat -> List Value) (j : Nat) : nrmK kB (f j) = [.int .u8 (bI f j)] := rfl
theorem pick_one {b : Bool} {v u : Value} {l m : List (Nat × Blk)} (h : pickM [(b, v, l)] = some (u, m)) : b = true ∧ u = v ∧ m = l := by
 simp only [pickM] at h
 obtain ⟨h1, h2⟩ := cond_some.1 h
 cases h2; exact ⟨h1, rfl, rfl⟩
def twF (f : Nat -> List Value) : Nat -> List Value := fun j => nrmK kB (f (0 + j))
end Go.W

namespace Go.W
def w32 (X : Nat) : Value := .int .u32 (X : Int)
def rotN (X n : Nat) : Nat := (X * 2 ^ (32 - n) % 4294967296) ||| (X / 2 ^ n)
theorem szOk_small {n : Nat} (h : n <= 2000000) : szOk n 1 = true := by unfold szOk; rw [Nat.ble_eq]; omega
end Go.W

namespace Go.W
def ad (a b : Nat) : Nat := (a + b) % 4294967296
def ntN (a : Nat) : Nat := 4294967295 ^^^ a
def kL : List Nat := [1116352408, 1899447441, 3049323471, 3921009573, 961987163, 1508970993, 2453635748, 2870763221, 3624381080, 310598401, 607225278, 1426881987, 1925078388, 2162078206, 2614888103, 3248222580, 3835390401, 4022224774, 264347078, 604807628, 770255983, 1249150122, 1555081692, 1996064986, 2554220882, 2821834349, 2952996808, 3210313671, 3336571891, 3584528711, 113926993, 338241895, 666307205, 773529912, 1294757372, 1396182291, 1695183700, 1986661051, 2177026350, 2456956037, 2730485921, 2820302411, 3259730800, 3345764771, 3516065817, 3600352804, 4094571909, 275423344, 430227734, 506948616, 659060556, 883997877, 958139571, 1322822218, 1537002063, 1747873779, 1955562222, 2024104815, 2227730452, 2361852424, 2428436474, 2756734187, 3204031479, 3329325298]
def kN (t : Nat) : Nat := kL.getD t 0
def s0N (x : Nat) : Nat := rotN x 7 ^^^ rotN x 18 ^^^ (x / 2 ^ 3)
def s1N (x : Nat) : Nat := rotN x 17 ^^^ rotN x 19 ^^^ (x / 2 ^ 10)
def S0N (x : Nat) : Nat := rotN x 2 ^^^ rotN x 13 ^^^ rotN x 22
def S1N (x : Nat) : Nat := rotN x 6 ^^^ rotN x 11 ^^^ rotN x 25
def chN (e f g : Nat) : Nat := (e &&& f) ^^^ (ntN e &&& g)
def maN (a b c : Nat) : Nat := (a &&& b) ^^^ (a &&& c) ^^^ (b &&& c)
def wdN (a b c d : Nat) : Nat := ((a * 2 ^ 24 % 4294967296) ||| (b * 2 ^ 16 % 4294967296) ||| (c * 2 ^ 8 % 4294967296)) ||| d
def nxN (w16 w15 w7 w2 : Nat) : Nat := ad (ad (ad (s1N w2) w7) (s0N w15)) w16
def wNew (B : Nat -> Nat) (t : Nat) (l : List Nat) : Nat := bif Nat.blt t 16 then wdN (B (4 * t)) (B (4 * t + 1)) (B (4 * t + 2)) (B (4 * t + 3)) else nxN (l.getD 15 0) (l.getD 14 0) (l.getD 6 0) (l.getD 1 0)
def wL (B : Nat -> Nat) : Nat -> List Nat
 | 0 => []
 | t + 1 => wNew B t (wL B t) :: wL B t
def wT (B : Nat -> Nat) (t : Nat) : Nat := wNew B t (wL B t)
structure S8 where
 a : Nat
 b : Nat
 c : Nat
 d : Nat
 e : Nat
 f : Nat
 g : Nat
 h : Nat
def S8.ok (s : S8) : Prop := s.a < 4294967296 ∧ s.b < 4294967296 ∧ s.c < 4294967296 ∧ s.d < 4294967296 ∧ s.e < 4294967296 ∧ s.f < 4294967296 ∧ s.g < 4294967296 ∧ s.h < 4294967296
def t1N (s : S8) (k w : Nat) : Nat := ad (ad (ad (ad s.h (S1N s.e)) (chN s.e s.f s.g)) k) w
def t2N (s : S8) : Nat := ad (S0N s.a) (maN s.a s.b s.c)
def rnd (k w : Nat) (s : S8) : S8 := ⟨ad (t1N s k w) (t2N s), s.a, s.b, s.c, ad s.d (t1N s k w), s.e, s.f, s.g⟩
def rnds (W : Nat -> Nat) (s : S8) : Nat -> S8
 | 0 => s
 | t + 1 => rnd (kN t) (W t) (rnds W s t)
def adS (s v : S8) : S8 := ⟨ad s.a v.a, ad s.b v.b, ad s.c v.c, ad s.d v.d, ad s.e v.e, ad s.f v.f, ad s.g v.g, ad s.h v.h⟩
theorem mix_ex (s : S8) (B : Nat -> Nat) : ∃ x, x = adS s (rnds (wT B) s 64) := ⟨_, rfl⟩
noncomputable def mixN (s : S8) (B : Nat -> Nat) : S8 := Classical.choose (mix_ex s B)
noncomputable def hs (s : S8) (B : Nat -> Nat) : Nat -> S8
 | 0 => s
 | k + 1 => mixN (hs s B k) (fun j => B (64 * k + j))
def S8.at (s : S8) : Nat -> Nat
 | 0 => s.a
 | 1 => s.b
 | 2 => s.c
 | 3 => s.d
 | 4 => s.e
 | 5 => s.f
 | 6 => s.g
 | _ => s.h
def h0 : S8 := ⟨1779033703, 3144134277, 1013904242, 2773480762, 1359893119, 2600822924, 528734635, 1541459225⟩
end Go.W

namespace Go.W
def z8 : Value := .int .u8 0
def w8 (s : S8) : List Value := [w32 s.a, w32 s.b, w32 s.c, w32 s.d, w32 s.e, w32 s.f, w32 s.g, w32 s.h]
end Go.W

namespace Go.W
def S8.beq (s t : S8) : Bool := Nat.beq s.a t.a && Nat.beq s.b t.b && Nat.beq s.c t.c && Nat.beq s.d t.d && Nat.beq s.e t.e && Nat.beq s.f t.f && Nat.beq s.g t.g && Nat.beq s.h t.h
theorem bI_lst {l : List Value} {j : Nat} {x : Int} (h : l[j]? = some (.int .u8 x)) : bI (lstF l 0 1) j = x := by
 show toI (((l.drop (0 + j * 1)).take 1).headD (.bool false)) = x
 rw [Nat.zero_add, Nat.mul_one]
 have hlt : j < l.length := by
  rcases Nat.lt_or_ge j l.length with h1 | h1
  · exact h1
  · rw [List.getElem?_eq_none h1] at h; simp at h
 rw [List.drop_eq_getElem_cons hlt]
 rw [List.getElem?_eq_getElem hlt] at h
 rw [Option.some.inj h]; rfl
def sgF (n : Nat) (f : Nat -> List Value) : Nat -> List Value := segF ⟨0, 0, n, kB, n, f, 0, false, []⟩
theorem bI_sg (n : Nat) (f : Nat -> List Value) (j : Nat) : bI (sgF n f) j = bI f j := by show bI f (0 + j) = bI f j; rw [Nat.zero_add]
end Go.W

namespace Go.W
theorem bI_cpy (f : Nat -> List Value) (m : Nat) (g : Nat -> List Value) (j : Nat) : bI (cpyF f 0 m g) j = if j < m then bI g j else bI f j := by
 by_cases hj : j < m
 · rw [if_pos hj]
  show toI ((bif Nat.ble 0 j && Nat.blt j (0 + m) then g (j - 0) else f j).headD _) = _
  rw [show (Nat.ble 0 j && Nat.blt j (0 + m)) = true from by rw [Bool.and_eq_true, Nat.ble_eq, Nat.blt_eq]; omega, cond_true, Nat.sub_zero]; rfl
 · rw [if_neg hj]
  show toI ((bif Nat.ble 0 j && Nat.blt j (0 + m) then g (j - 0) else f j).headD _) = _
  rw [show (Nat.ble 0 j && Nat.blt j (0 + m)) = false from by rw [Bool.eq_false_iff, ne_eq, Bool.and_eq_true, Nat.ble_eq, Nat.blt_eq]; omega, cond_false]; rfl
theorem blt_of {a b : Nat} (h : a < b) : Nat.blt a b = true := by rw [Nat.blt_eq]; exact h
theorem bI_app (m : Nat) (f g : Nat -> List Value) (j : Nat) : bI (appF m f g) j = if j < m then bI f j else bI g (j - m) := by
 by_cases hj : j < m
 · rw [if_pos hj]
  show toI ((bif Nat.blt j m then f j else g (j - m)).headD _) = _
  rw [blt_of hj, cond_true]; rfl
 · rw [if_neg hj]
  show toI ((bif Nat.blt j m then f j else g (j - m)).headD _) = _
  rw [show Nat.blt j m = false from by rw [Bool.eq_false_iff, ne_eq, Nat.blt_eq]; exact hj, cond_false]; rfl
end Go.W

namespace Go.W
open Go.RowKit (Below)
section
variable {P : Program} [Laid P]
theorem msum_core2 {g : FuncId} {fn : Func} {c : Code} (hf : P.funcs[g]? = some fn) (hname : (fn.name == "runtime.NumGoroutine") = false) (hb : fn.body = some c) {fuel next : Nat}
  {w0 : Wb (lay P)} {R : Nat -> Pl -> Prop} {fm : Nat -> Option Blk} {w : World} (hm : MRel w0 R fm w) {args' : List Value} {id : Nat} (hlt : id < 60000) {v : Value} {l : List (Nat × Blk)} (hl1 : l = [] ∨ ∃ blk, l = [(nid id 0, blk)]) (hnew : ∀ p ∈ l, nid id 0 <= p.1 ∧ p.1 < nid id 8 -> fm p.1 = none)
  {A Rc : Nat -> Pl -> Prop} {memC : List (Nat × Blk)} {argsC : List Value} (hmC : MRel (⟨w, fun _ => False, A⟩ : Wb (lay P)) Rc (look memC) w) (hargs : LR (V2 Rc) argsC args') (hlen : argsC.length <= fn.ntmps)
  {C : Cfg} (hC : CfgOk P C c) (hn : C.n = fn.ntmps) (hev : fnMS C fuel fn c argsC memC next id = some (v, l)) :
  Invokes P g args'.toArray w fun v' w' => ∃ R' : Nat -> Pl -> Prop, (∀ i p, R i p -> R' i p) ∧ V2 R' v v' ∧ MRel w0 R' (memF fm l) w' := by
 have hne : fn.name ≠ "runtime.NumGoroutine" := by simpa using hname
 have hrun : (callFunc g args'.toArray).run P w = .ok (.enter g args'.toArray) w := by simp [callFunc, hf, hne, hb]
 unfold Invokes
 rw [hrun]
 unfold fnMS fnM at hev
 rw [evK_eq, oK_some] at hev
 obtain ⟨⟨e, s'⟩, he1, he2⟩ := hev
 obtain ⟨vC, he3, he4⟩ : ∃ vC, endK C.T fn e s' some none = some vC ∧ expK C.T (look s'.mem) id vC (fun v l => some (v, l)) none = some (v, l) := by
  unfold endK at he2 ⊢
  have key : ∀ lr : List ResultVar, resK C.T s' lr (fun vs => oneK vs fun v => expK C.T (look s'.mem) id v (fun v l => some (v, l)) none) none = some (v, l) -> ∃ vC, resK C.T s' lr (fun vs => oneK vs some) none = some vC ∧ expK C.T (look s'.mem) id vC (fun v l => some (v, l)) none = some (v, l) := by
   intro lr hh
   have e1 : resK C.T s' lr (fun vs => oneK vs fun v => expK C.T (look s'.mem) id v (fun v l => some (v, l)) none) none = oK (resK C.T s' lr (fun vs => oneK vs some) none) (fun v => expK C.T (look s'.mem) id v (fun v l => some (v, l)) none) none := by
    rw [resK_nat (fun o : Option Value => oK o (fun v => expK C.T (look s'.mem) id v (fun v l => some (v, l)) none) none)]
    congr 1; funext vs
    exact (oneK_nat (fun o : Option Value => oK o (fun v => expK C.T (look s'.mem) id v (fun v l => some (v, l)) none) none) vs some).symm
   rw [e1] at hh
   exact oK_some.1 hh
  cases e <;> simp only at he2 ⊢ <;> first | exact key _ he2 | (simp at he2; done)
 refine Calls.mono (fn_mem hC hf hb hn hmC hargs hlen he1 he3) ?_
 rintro ex w' ⟨R', v', rfl, hvv, hvt, hm'⟩
 show ∃ R2 : Nat -> Pl -> Prop, _ ∧ _ ∧ _
 have hX : ∀ k, ¬ (⟨w, fun _ => False, A⟩ : Wb (lay P)).X k := fun _ h => h
 have h8 : nid id 0 < nid id 8 := by unfold nid; omega
 have hbel : Below w.heap.size w w' := hm'.below.below hX
 have none_case : l = [] -> expK C.T (look s'.mem) id vC (fun v l => some (v, l)) none = some (v, []) -> ∃ R2 : Nat -> Pl -> Prop, (∀ i p, R i p -> R2 i p) ∧ V2 R2 v v' ∧ MRel w0 R2 (memF fm []) w' := by
  intro _ he
  refine ⟨R, fun _ _ h => h, ?_, hm.world hbel⟩
  unfold expK at he
  split at he
  · rename_i ws
   obtain ⟨us, l2, hu, he⟩ := expL_some.1 he
   simp only [Option.some.injEq, Prod.mk.injEq] at he
   obtain ⟨rfl, rfl⟩ := he
   obtain ⟨vs', rfl, hl2⟩ := hvt ws rfl
   obtain ⟨j1, j2⟩ := expL_nil hm' hl2 hu
   refine ⟨vs', rfl, ?_⟩
   rw [j2, List.toList_toArray]
   exact (LR_plain (r := V1 R) (pl := pl1) (fun _ _ hv => V1_plain hv) j1).2 rfl
  · rename_i hnt
   have hv2 := hvv hnt
   have := expL_nil (T := C.T) (id := id) hm' (vs := [vC]) (us := [v]) (vs' := [v']) ⟨hv2, trivial⟩ (by
    simp only [expL]
    exact expV_some.2 ⟨v, [], he, rfl⟩)
   obtain ⟨j1, j2⟩ := this
   simp only [List.all_cons, List.all_nil, Bool.and_true] at j1
   simp only [List.cons.injEq, and_true] at j2
   subst j2
   exact V2_of_V1 ((V1_plain j1).2 rfl)
 rcases hl1 with rfl | ⟨blk, rfl⟩
 · exact none_case rfl he4
 · have hid : fm (nid id 0) = none := hnew _ (List.mem_singleton.2 rfl) ⟨Nat.le_refl _, h8⟩
  unfold expK at he4
  split at he4
  · rename_i ws
   obtain ⟨us, l2, hu, he⟩ := expL_some.1 he4
   simp only [Option.some.injEq, Prod.mk.injEq] at he
   obtain ⟨rfl, rfl⟩ := he
   obtain ⟨vs', rfl, hl2⟩ := hvt ws rfl
   obtain ⟨R2, j1, j2, j3⟩ := expL_ok hm hm' rfl hX hid hlt hl2 hu
   exact ⟨R2, j1, ⟨vs', rfl, by rw [List.toList_toArray]; exact j2⟩, j3⟩
  · rename_i hnt
   have hv2 := hvv hnt
   rcases expV_ok hm hm' rfl hX hid hlt hv2 he4 with ⟨h0, _⟩ | ⟨R2, j1, j2, _, j4⟩
   · simp at h0
   · exact ⟨R2, j1, j2, j4⟩
end
def RowW (w : World) (e : TypeId) (ks : List CK) (m : Nat) (f : Nat -> List Value) (v : Value) : Prop :=
 (m = 0 ∧ Emp v) ∨ ∃ b d c cs fz, v = .slice (some ⟨b, d, none⟩) m c ∧ m <= c ∧ w.heap[b]? = some (.cells cs e fz) ∧ (cs.toList.drop d).take (m * ks.length) = rowL ks f 0 m
def srcF (mm : Nat -> Option Blk) (ks : List CK) (v : Value) : Bool × Nat × (Nat -> Nat × (Nat -> List Value)) :=
 match v with
 | .slice none n c => (Nat.beq n 0 && Nat.beq c 0, 0, fun _ => (0, fun _ => []))
 | .slice (some ⟨b, off, none⟩) n c => (match mm b with
  | some blk => (match blk.cells with
   | .lst l => (Nat.ble (off + n) l.length && ((l.drop off).take n).all (fun x => (srcB mm ks x).1) && Nat.ble n c, n, fun j => (srcB mm ks (((l.drop off).take n).getD j (.slice none 0 0))).2)
   | .fam ks' m _ g => (Nat.beq off 0 && Nat.ble n m && ksEq ks' ks && Nat.ble n c, n, g)
   | _ => (false, 0, fun _ => (0, fun _ => [])))
  | none => (false, 0, fun _ => (0, fun _ => [])))
 | _ => (false, 0, fun _ => (0, fun _ => []))
def FamW (w : World) (e : TypeId) (ks : List CK) (n : Nat) (es : Nat -> TypeId) (g : Nat -> Nat × (Nat -> List Value)) (p : Pl) (v' : Value) : Prop :=
 n <= p.c ∧ (match p.a with
  | some b => v' = .slice (some ⟨b, p.d, none⟩) n p.c ∧ ∃ cs fz, w.heap[b]? = some (.cells cs e fz) ∧ ∀ j, j < n -> ∃ u, cs.toList[p.d + j]? = some u ∧ RowW w (es j) ks (g j).1 (g j).2 u
  | none => n = 0 ∧ p.c = 0 ∧ p.d = 0 ∧ Emp v')
section
variable {GL : Glob} {w0 : Wb GL} {R : Nat -> Pl -> Prop} {fm : Nat -> Option Blk} {w : World}
theorem srcB_rowW (h : MRel w0 R fm w) {ks : List CK} {v v' : Value} {n : Nat} {g : Nat -> List Value} (hq : srcB fm ks v = (true, n, g)) (hv : V2 R v v') : ∃ e, RowW w e ks n g v' := by
 obtain ⟨p, e, h1, h2⟩ := src_heap h hq hv
 refine ⟨e, ?_⟩
 cases hpa : p.a with
 | none => rw [hpa] at h2; exact .inl ⟨h2.1, h2.2.2.2⟩
 | some b =>
  rw [hpa] at h2
  obtain ⟨h3, cs, fz, h4, h5⟩ := h2
  refine .inr ⟨b, p.d, p.c, cs, fz, h3, h1, h4, ?_⟩
  have := (LR_plain (r := V0 R) (pl := pl0) (fun _ _ hv => V0_plain hv) (rowL_pl ks g n 0)).1 h5
  rw [rowL_len] at this; exact this
theorem fam_heap (h : MRel w0 R fm w) {ks : List CK} {v v' : Value} {n : Nat} {g : Nat -> Nat × (Nat -> List Value)} (hq : srcF fm ks v = (true, n, g)) (hv : V2 R v v') : ∃ (p : Pl) (e : TypeId) (es : Nat -> TypeId), FamW w e ks n es g p v' := by
 unfold srcF at hq
 split at hq
 · rename_i n0 c
  simp only [Prod.mk.injEq, Bool.and_eq_true] at hq
  obtain ⟨⟨h0, h1⟩, rfl, _⟩ := hq
  have h0 := nbeq.1 h0; subst h0
  have h1 := nbeq.1 h1; subst h1
  have := (V2_plain (R := R) (v := .slice none 0 0) rfl).1 hv
  exact ⟨⟨none, 0, 0⟩, 0, fun _ => 0, Nat.le_refl _, rfl, rfl, rfl, none, this⟩
 · rename_i b off n0 c
  obtain ⟨p0, hp0, hsl⟩ := V2_slice hv
  split at hq
  · rename_i blk hb
   obtain ⟨cells, e, own⟩ := blk
   simp only at hq
   have place : (∀ s pos, cells ≠ .itr s pos) -> n <= c -> n0 = n -> ∀ es : Nat -> TypeId, (∀ bl, p0.a = some bl -> n ≠ 0 -> ∃ cs fz, w.heap[bl]? = some (.cells cs e fz) ∧ ∀ j, j < n -> ∃ u, cs.toList[p0.d + off + j]? = some u ∧ RowW w (es j) ks (g j).1 (g j).2 u) -> ∃ (p : Pl) (e : TypeId) (es : Nat -> TypeId), FamW w e ks n es g p v' := by
    intro hni hnc hn es hcont
    subst hn
    have some_case : ∀ bl c', p0.a = some bl -> c <= c' -> v' = .slice (some ⟨bl, p0.d + off, none⟩) n0 c' -> ∃ (p : Pl) (e : TypeId) (es : Nat -> TypeId), FamW w e ks n0 es g p v' := by
     intro bl c' hpa hcc hv'
     by_cases h0 : n0 = 0
     · obtain ⟨cs, e1, fz, h1⟩ := (h.there _ _ _ hp0 hpa).cells (fun s pos hs => by rw [hb] at hs; exact hni s pos (congrArg Blk.cells (Option.some.inj hs)))
      exact ⟨⟨some bl, p0.d + off, c'⟩, e1, es, by simp only; omega, hv', cs, fz, h1, fun j hj => by omega⟩
     · obtain ⟨cs, fz, h1, h2⟩ := hcont bl hpa h0
      exact ⟨⟨some bl, p0.d + off, c'⟩, e, es, by simp only; omega, hv', cs, fz, h1, h2⟩
    cases hlo : loose b with
    | false =>
     obtain ⟨bl, h1, h2⟩ := SlOk_tight hlo hsl
     exact some_case bl c h1 (Nat.le_refl _) h2
    | true =>
     obtain ⟨rfl, h2, ⟨bl, h3, h4⟩ | ⟨h3, h4, h5, h6⟩⟩ := SlOk_loose hlo hsl
     · exact some_case bl p0.c h3 h2 (by rw [Nat.add_zero]; exact h4)
     · exact ⟨⟨none, 0, 0⟩, 0, es, by simp only; omega, h4, rfl, rfl, h6⟩
   split at hq
   · rename_i l
    simp only [Prod.mk.injEq, Bool.and_eq_true] at hq
    obtain ⟨⟨⟨h1, h2⟩, h3⟩, h4, h5⟩ := hq
    have h1 := Nat.le_of_ble_eq_true h1
    have h3 := Nat.le_of_ble_eq_true h3
    obtain ⟨p', hp', hcont⟩ := memOk_lst h hb
    have := h.func _ _ _ hp0 hp'; subst this
    cases hpa : p0.a with
    | none =>
     rw [hpa] at hcont
     have hcont : l = [] := hcont
     rw [hcont] at h1
     have h0 : n0 = 0 := by simp at h1; omega
     exact place nofun (by omega) h4 (fun _ => 0) (fun bl hb2 => by rw [hpa] at hb2; simp at hb2)
    | some bl =>
     rw [hpa] at hcont
     obtain ⟨cs, fz, k1, k2, _⟩ := hcont
     have k2 : LP R l (cs.toList.drop p0.d) := k2
     have row : ∀ j, j < n0 -> ∃ u e1, cs.toList[p0.d + off + j]? = some u ∧ RowW w e1 ks (g j).1 (g j).2 u := by
      intro j hj
      have hx : l[off + j]? = some (l[off + j]'(by omega)) := List.getElem?_eq_getElem (by omega)
      obtain ⟨u, k3, k4⟩ := LP_get k2 hx
      rw [List.getElem?_drop, <- Nat.add_assoc] at k3
      have hmem : (l[off + j]'(by omega)) ∈ (l.drop off).take n0 := by
       rw [List.mem_iff_getElem?]
       refine ⟨j, ?_⟩
       rw [List.getElem?_take_of_lt hj, List.getElem?_drop]; exact hx
      have h6 := List.all_eq_true.1 h2 _ hmem
      have h7 : ((l.drop off).take n0).getD j (.slice none 0 0) = l[off + j]'(by omega) := by
       simp only [List.getD, List.getElem?_take_of_lt hj, List.getElem?_drop, hx, Option.getD_some]
      obtain ⟨e1, k5⟩ := srcB_rowW h (n := (g j).1) (g := (g j).2) (by
       rw [<- h5]
       simp only [h7]
       exact Prod.ext h6 rfl) (V2_of_V0 k4)
      exact ⟨u, e1, k3, k5⟩
     refine place nofun (by omega) h4 (fun j => if hj : j < n0 then Classical.choose (Classical.choose_spec (row j hj)) else 0) (fun bl2 hb2 _ => ?_)
     rw [hpa] at hb2; cases hb2
     refine ⟨cs, fz, k1, fun j hj => ?_⟩
     have hj0 : j < n0 := by omega
     have hs := Classical.choose_spec (Classical.choose_spec (row j hj0))
     refine ⟨_, hs.1, ?_⟩
     rw [dif_pos hj0]; exact hs.2
   · rename_i ks' m es g'
    simp only [Prod.mk.injEq, Bool.and_eq_true] at hq
    obtain ⟨⟨⟨⟨h1, h2⟩, h2'⟩, h3⟩, h4, h5⟩ := hq
    have h1 := nbeq.1 h1
    have h2 := Nat.le_of_ble_eq_true h2
    have h2' := ksEq_eq h2'
    have h3 := Nat.le_of_ble_eq_true h3
    subst h1 h2' h5
    obtain ⟨p', hp', hcont⟩ : FamOk w0 R w b e own ks' m es g' := h.mem b _ hb
    have := h.func _ _ _ hp0 hp'; subst this
    refine place nofun (by omega) h4 es (fun bl hpa _ => ?_)
    rw [hpa] at hcont
    obtain ⟨cs, fz, k1, k2, _⟩ := hcont
    refine ⟨cs, fz, k1, fun j hj => ?_⟩
    obtain ⟨u, k3, k4⟩ := k2 j (by omega)
    refine ⟨u, by rw [Nat.add_zero]; exact k3, ?_⟩
    rcases k4 with k4 | ⟨b2, d, c2, cs2, fz2, o1, o2, _, o4, o5⟩
    · exact .inl k4
    · exact .inr ⟨b2, d, c2, cs2, fz2, o1, o2, o4, o5⟩
   · simp at hq
  · simp at hq
 · simp at hq
end
inductive ArgF where
 | pl (v : Value)
 | sl (ks : List CK) (n : Nat) (g : Nat -> List Value)
 | fm (ks : List CK) (n : Nat) (g : Nat -> Nat × (Nat -> List Value))
def RcF (w : World) (pl : Nat -> Option Pl) (N : Nat) (i : Nat) (p : Pl) : Prop :=
 (∃ j, j < N ∧ i = argId j ∧ pl j = some p) ∨ (∃ b, (∃ cs e fz, w.heap[b]? = some (.cells cs e fz)) ∧ i = 1000000000 + b ∧ p = ⟨some b, 0, 0⟩)
theorem RowW.at {w : World} {e : TypeId} {ks : List CK} {m : Nat} {f : Nat -> List Value} {v : Value} (h : RowW w e ks m f v) (pl : Nat -> Option Pl) (N : Nat) : RowAt (RcF w pl N) w e ks m f v := by
 rcases h with h | ⟨b, d, c, cs, fz, h1, h2, h3, h4⟩
 · exact .inl h
 · exact .inr ⟨b, d, c, cs, fz, h1, h2, .inr ⟨b, ⟨cs, e, fz, h3⟩, rfl, rfl⟩, h3, h4⟩
def setAt {α : Type} (k : Nat) (x : α) (f : Nat -> α) (j : Nat) : α := if j = k then x else f j
section
variable {GL : Glob} {w0 : Wb GL} {R : Nat -> Pl -> Prop} {fm : Nat -> Option Blk} {w : World}
end
theorem srcF_mono {mm fm : Nat -> Option Blk} (hsub : ∀ b blk, mm b = some blk -> fm b = some blk) {ks : List CK} {v : Value} {n : Nat} {g : Nat -> Nat × (Nat -> List Value)} (h : srcF mm ks v = (true, n, g)) : srcF fm ks v = (true, n, g) := by
 unfold srcF at h ⊢
 split at h
 · exact h
 · rename_i b off n0 c0
  split at h
  · rename_i blk hb
   rw [hsub b blk hb]
   obtain ⟨cells, e, own⟩ := blk
   simp only at h ⊢
   split at h
   · rename_i l
    simp only [Prod.mk.injEq, Bool.and_eq_true] at h ⊢
    obtain ⟨⟨⟨h1, h2⟩, h3⟩, h4, h5⟩ := h
    have key : ∀ x ∈ (l.drop off).take n0, srcB fm ks x = srcB mm ks x := fun x hx => by
     have := List.all_eq_true.1 h2 x hx
     have e : srcB mm ks x = (true, (srcB mm ks x).2) := Prod.ext this rfl
     have := srcB_mono hsub (n := (srcB mm ks x).2.1) (g := (srcB mm ks x).2.2) e
     rw [this, <- e]
    refine ⟨⟨⟨h1, List.all_eq_true.2 fun x hx => by rw [key x hx]; exact List.all_eq_true.1 h2 x hx⟩, h3⟩, h4, ?_⟩
    rw [<- h5]
    funext j
    by_cases hj : j < ((l.drop off).take n0).length
    · have : ((l.drop off).take n0).getD j (.slice none 0 0) ∈ (l.drop off).take n0 := by
      simp only [List.getD, List.getElem?_eq_getElem hj, Option.getD_some]; exact List.getElem_mem hj
     rw [key _ this]
    · have : ((l.drop off).take n0).getD j (.slice none 0 0) = .slice none 0 0 := by simp only [List.getD, List.getElem?_eq_none (show ((l.drop off).take n0).length <= j by omega), Option.getD_none]
     rw [this]; rfl
   · exact h
   · simp at h
  · simp at h
 · simp at h
section
variable {P : Program} [Laid P]
end
end Go.W

namespace Go.W
def kP9 : List CK := [.b, .i .u64, .i .u64, .i .u64, .i .u64, .i .u64, .i .u64, .i .u64, .i .u64]
def ptF (V : Nat -> RP) : Nat -> List Value := fun j => ptC (V j)
def el9 (f : Nat -> List Value) (j : Nat) : Value := .agg (nrmK kP9 (f j)).toArray
def pA (f : Nat -> List Value) (j : Nat) : RP := unPt (el9 f j)
noncomputable def okP (n : Nat) (f : Nat -> List Value) : Bool := @decide (n <= 1000 ∧ ∀ j, j < n -> isPt (el9 f j) = true) (Classical.propDecidable _)
theorem okP_iff {n : Nat} {f : Nat -> List Value} : okP n f = true ↔ n <= 1000 ∧ ∀ j, j < n -> isPt (el9 f j) = true := by
 unfold okP
 exact ⟨fun h => @of_decide_eq_true _ (Classical.propDecidable _) h, fun h => @decide_eq_true _ (Classical.propDecidable _) h⟩
theorem el_pt {n : Nat} {f : Nat -> List Value} (h : okP n f = true) {j : Nat} (hj : j < n) : el9 f j = ptV (pA f j) ∧ okR (pA f j) := by
 obtain ⟨X, hX, e⟩ := isPt_some ((okP_iff.1 h).2 j hj)
 have : pA f j = X := by unfold pA; rw [e, unPt_ptV hX]
 rw [this]; exact ⟨e, hX⟩
theorem row_pt {n : Nat} {f : Nat -> List Value} (h : okP n f = true) : ∀ j, j < n -> nrmK kP9 (f j) = nrmK kP9 (ptF (pA f) j) := by
 intro j hj
 have e := (el_pt h hj).1
 have := congrArg (fun v : Value => v.cells.toList) e
 exact this
theorem pA_pt {V : Nat -> RP} {j : Nat} (h : okR (V j)) : pA (ptF V) j = V j := unPt_ptV h
theorem okP_pt {n : Nat} {V : Nat -> RP} (hn : n <= 1000) : okP n (ptF V) = true := okP_iff.2 ⟨hn, fun j _ => isPt_ptV (V j)⟩
def sg9 (n : Nat) (f : Nat -> List Value) : Nat -> List Value := segF ⟨0, 0, n, kP9, n, f, 0, false, []⟩
theorem el9_sg (n : Nat) (f : Nat -> List Value) (j : Nat) : el9 (sg9 n f) j = el9 f j := by show el9 f (0 + j) = el9 f j; rw [Nat.zero_add]
theorem pA_sg (n : Nat) (f : Nat -> List Value) : pA (sg9 n f) = pA f := by funext j; unfold pA; rw [el9_sg]
theorem okP_sg (m n : Nat) (f : Nat -> List Value) : okP m (sg9 n f) = okP m f := by
 rw [Bool.eq_iff_iff, okP_iff, okP_iff]; simp only [el9_sg]
noncomputable def alP (V : Nat -> RP) (n : Nat) : Bool := @decide (∀ j, j < n -> ckR (V j) = true) (Classical.propDecidable _)
theorem alP_iff {V : Nat -> RP} {n : Nat} : alP V n = true ↔ ∀ j, j < n -> ckR (V j) = true := by
 unfold alP
 exact ⟨fun h => @of_decide_eq_true _ (Classical.propDecidable _) h, fun h => @decide_eq_true _ (Classical.propDecidable _) h⟩
theorem alP_congr {V W : Nat -> RP} {n : Nat} (h : ∀ j, j < n -> V j = W j) : alP V n = alP W n := by
 rw [Bool.eq_iff_iff, alP_iff, alP_iff]
 exact ⟨fun a j hj => (h j hj) ▸ a j hj, fun a j hj => (h j hj).symm ▸ a j hj⟩
end Go.W

namespace Go.W
theorem loopE {P : Program} [Laid P] {code : Code} {n : Nat} (C : Nat -> Cfg) (N : Nat) (hC : ∀ k, k <= N -> CfgOk P (C k) code) (hn : ∀ k, (C k).n = n) {p : List Nat} (hp : codeAt p code = some (.loop (loopAt p code))) {m : Nat} {ts : List Nat} {is : Ren} {tx : Nat} {nt et : List Nat} {ni ei : Ren} {nx ex : Nat} (st : Nat -> St) {e : Exit} {s0 sf : St} (h0 : s0 = st 0) (he : e ≠ .normal)
  (step : ∀ k, k < N -> ∃ s, roundS (C k) m (p ++ [0]) (loopAt p code) nt ni nx et ei ex (st k) = some (.normal, s) ∧ stEq s (st (k + 1)) = true)
  (last : ∃ s, roundS (C N) m (p ++ [0]) (loopAt p code) nt ni nx et ei ex (st N) = some (e, s) ∧ stEq s sf = true) :
  LoopOk P n (loopAt p code) (atSt ts is tx s0 e sf) := by
 refine atSt_ok fun w0 R a w hrel => ?_
 rw [h0] at hrel
 have hx : codeAt (p ++ [0]) code = some (loopAt p code) := by rw [codeAt_app, hp]; rfl
 have key : ∀ j, j <= N -> ∀ (R : Nat -> Pl -> Prop) (a : Act) (w : World), Rel w0 n R (st (N - j)).f a w -> Code.rounds P (loopAt p code) (fun e' a' w' => e' = e ∧ ∃ R', Rel w0 n R' sf.f a' w') (j + 1) a w := by
  intro j
  induction j with
  | zero =>
   intro _ R a w hr
   rw [rounds_succ]
   obtain ⟨s, h1, h2⟩ := last
   have hs := round_sound (hC N (Nat.le_refl _)) hx h1 (w0 := w0) (R := R) (a := a) (w := w) (by rw [hn]; exact hr)
   rw [hn] at hs
   refine wp_mono hs ?_
   rintro e' a' w' ⟨rfl, R', hr'⟩
   cases e' with
   | normal => exact absurd rfl he
   | _ => exact ⟨rfl, R', hr'.eqv h2⟩
  | succ j ih =>
   intro hj R a w hr
   rw [rounds_succ]
   obtain ⟨s, h1, h2⟩ := step (N - (j + 1)) (by omega)
   have hs := round_sound (hC (N - (j + 1)) (by omega)) hx h1 (w0 := w0) (R := R) (a := a) (w := w) (by rw [hn]; exact hr)
   rw [hn] at hs
   refine wp_mono hs ?_
   rintro e' a' w' ⟨rfl, R', hr'⟩
   refine ih (by omega) R' a' w' ?_
   rw [show N - j = N - (j + 1) + 1 from by omega]
   exact hr'.eqv h2
 exact wp_loop_rounds (N + 1) (key N (Nat.le_refl N) R a w (by rw [Nat.sub_self]; exact hrel))
theorem mNil : memEq [] [] = true := rfl
theorem mRow {a : Nat} {ks : List CK} {n : Nat} {f g : Nat -> List Value} {e : TypeId} {o : Bool} {l m : List (Nat × Blk)} (h : ∀ j, j < n -> nrmK ks (f j) = nrmK ks (g j)) (h2 : memEq l m = true) : memEq ((a, ⟨.row ks n f, e, o⟩) :: l) ((a, ⟨.row ks n g, e, o⟩) :: m) = true := memEq_cons (cellsEq_rr h) h2
theorem mSame {a : Nat} {c : Cells} {e : TypeId} {o : Bool} {l m : List (Nat × Blk)} (h : vokC c = true) (h2 : memEq l m = true) : memEq ((a, ⟨c, e, o⟩) :: l) ((a, ⟨c, e, o⟩) :: m) = true := memEq_cons (cellsEq_refl h) h2
end Go.W

namespace Go.W
theorem iR {i n : Nat} (h : i < n) : inR (i : Int) n = true := by unfold inR; simp only [Bool.and_eq_true, decide_eq_true_eq]; omega
theorem bL {a b : Nat} (h : a < b) : Nat.blt a b = true := by rw [Nat.blt_eq]; exact h
theorem bE {a b : Nat} (h : a <= b) : Nat.ble a b = true := by rw [Nat.ble_eq]; exact h
end Go.W

namespace Go.W
def rdR {α : Type} (k n : Nat) (x : Option α) : Option α := req (inR (k : Int) n) (req (Nat.blt k n && true) x)
theorem rdR_eq {α : Type} {k n : Nat} (h : k < n) (x : Option α) : rdR k n x = x := by unfold rdR; rw [iR h, req_true rfl, bL h, req_true (b := true && true) rfl]
def kb4 (n : Nat) : Bool := true && Nat.ble n n && true && Nat.ble n n
theorem kb4_true (n : Nat) : kb4 n = true := by unfold kb4; rw [bE (Nat.le_refl _)]; rfl
theorem first_bad {P : Nat -> Prop} {n : Nat} (h : ∃ i, i < n ∧ P i) : ∃ i, i < n ∧ P i ∧ ∀ j, j < i -> ¬ P j := by
 induction n with
 | zero => obtain ⟨i, hi, _⟩ := h; omega
 | succ n ih =>
  by_cases h1 : ∃ i, i < n ∧ P i
  · obtain ⟨i, a, b, c⟩ := ih h1; exact ⟨i, by omega, b, c⟩
  · obtain ⟨i, a, b⟩ := h
   have : i = n := by
    rcases Nat.lt_or_ge i n with h2 | h2
    · exact absurd ⟨i, h2, b⟩ h1
    · omega
   subst this
   exact ⟨i, by omega, b, fun j hj hp => h1 ⟨j, hj, hp⟩⟩
end Go.W

namespace Go.W
def nSl (id n : Nat) : Value := .slice (some ⟨nid id 0, 0, none⟩) n n
def pbF (h : Value) (bs : List Value) : Nat -> List Value := appF 1 (lstF [h] 0 1) (lstF bs 0 1)
def rw1 (e id n : Nat) (f : Nat -> List Value) : List (Nat × Blk) := [(nid id 0, ⟨.row kB n f, e, true⟩)]
def cBytT (e id : Nat) (i : Bool) (x y : Value) : Option (Value × List (Nat × Blk)) :=
 req (isPt (pt3 i x y)) <| bif !(ckR (unPt (pt3 i x y))) then some (.tuple #[.slice none 0 0, i64 3], []) else
 bif i then some (.tuple #[nSl id 1, i64 0], rw1 e id 1 (lstF [.int .u8 0] 0 1)) else
 req (isNum x) <| req (isNum y) <| some (.tuple #[nSl id 33, i64 0], rw1 e id 33 (pbF (.int .u8 (IntKind.u8.wrap (IntKind.i64.wrap (2 + bitI (unnum y) 0)))) (bytesL 32 (unnum x))))
def hdY (Y : Nat) : Value := .int .u8 ((2 + Y % 2 : Nat) : Int)
def CBytF (e : Nat) : List Value -> (Nat -> Option Blk) -> Nat -> List (Bool × Value × List (Nat × Blk))
 | [p], _, id => [(isPt p && !(ckR (unPt p)), .tuple #[.slice none 0 0, i64 3], []), (isPt p && (unPt p).1, .tuple #[nSl id 1, i64 0], rw1 e id 1 (lstF [.int .u8 0] 0 1)), (isPt p, .tuple #[nSl id 33, i64 0], rw1 e id 33 (pbF (hdY (unPt p).2.2) (bytesL 32 (unPt p).2.1)))]
 | _, _, _ => []
theorem CBytF_eq (e : Nat) (p : Value) (mm : Nat -> Option Blk) (id : Nat) : CBytF e [p] mm id = [(isPt p && !(ckR (unPt p)), .tuple #[.slice none 0 0, i64 3], []), (isPt p && (unPt p).1, .tuple #[nSl id 1, i64 0], rw1 e id 1 (lstF [.int .u8 0] 0 1)), (isPt p, .tuple #[nSl id 33, i64 0], rw1 e id 33 (pbF (hdY (unPt p).2.2) (bytesL 32 (unPt p).2.1)))] := rfl
theorem CBytF_one {e : Nat} {p v : Value} {mm : Nat -> Option Blk} {id : Nat} {l : List (Nat × Blk)} (h : pickM (CBytF e [p] mm id) = some (v, l)) : l = [] ∨ ∃ blk, l = [(nid id 0, blk)] := by
 rw [CBytF_eq] at h
 simp only [pickM] at h
 cases h1 : (isPt p && !(ckR (unPt p))) with
 | true => rw [h1, cond_true] at h; exact .inl (congrArg Prod.snd (Option.some.inj h)).symm
 | false =>
  rw [h1, cond_false] at h
  cases h2 : (isPt p && (unPt p).1) with
  | true => rw [h2, cond_true] at h; exact .inr ⟨_, (congrArg Prod.snd (Option.some.inj h)).symm⟩
  | false =>
   rw [h2, cond_false] at h
   cases h3 : isPt p with
   | true => rw [h3, cond_true] at h; exact .inr ⟨_, (congrArg Prod.snd (Option.some.inj h)).symm⟩
   | false => rw [h3, cond_false] at h; cases h
theorem hd_c {Y : Nat} (h : lt6 Y) : Value.int .u8 (IntKind.u8.wrap (IntKind.i64.wrap (2 + bitI (unnum (num Y)) 0))) = hdY Y := by
 have := bitI_nat (A := Y) (n := 0) (by omega)
 rw [show ((0 : Nat) : Int) = 0 from rfl] at this
 rw [unnum_lt h, this]
 unfold bitN hdY
 rw [Nat.pow_zero, Nat.div_one]
 rcases Nat.mod_two_eq_zero_or_one Y with h0 | h0 <;> rw [h0] <;> rfl
theorem cBytT_eq {e id : Nat} {i : Bool} {X Y : Nat} (hX : lt6 X) (hY : lt6 Y) : cBytT e id i (num X) (num Y) = pickM (CBytF e [ptV (i, X, Y)] (fun _ => none) id) := by
 unfold cBytT
 rw [CBytF_eq, pt3_num, isPt_ptV, req_true rfl, unPt_ptV (r := (i, X, Y)) ⟨hX, hY⟩, isNum_num, isNum_num, req_true rfl, req_true rfl, hd_c hY, unnum_lt hX]
 cases hc : ckR (i, X, Y) with
 | false => rfl
 | true =>
  cases i with
  | true => rfl
  | false => rfl
def b32V (f : Nat -> List Value) : Value := .agg (rowL kB f 1 32).toArray
def rdX (X : Nat) (b : Int) : RP × Int :=
 if X < pP then (if rootIs (sqN X) = true then ((false, X, if b = 3 then sp 0 (rootNum (sqN X)) else rootNum (sqN X)), 0) else (zR, 3)) else (zR, 2)
noncomputable def rdS (n : Nat) (f : Nat -> List Value) : RP × Int :=
 hide (if n = 1 ∧ bI f 0 = 0 then (infR, 0) else if n = 33 ∧ (bI f 0 = 2 ∨ bI f 0 = 3) then rdX (unbytes (b32V f)) (bI f 0) else (zR, 7))
def rdOk (n : Nat) (f : Nat -> List Value) : Bool := !(Nat.beq n 33) || isB32 (b32V f)
noncomputable def rdV (n : Nat) (f : Nat -> List Value) : Value := .tuple #[ptV (rdS n f).1, i64 (rdS n f).2]
noncomputable def RdF : List Value -> (Nat -> Option Blk) -> Nat -> List (Bool × Value × List (Nat × Blk))
 | [v], mm, _ => [((srcB mm kB v).1 && rdOk (srcB mm kB v).2.1 (srcB mm kB v).2.2, rdV (srcB mm kB v).2.1 (srcB mm kB v).2.2, [])]
 | _, _, _ => []
abbrev VL := Value × List (Nat × Blk)
def eT (e : Int) : Option VL := some (.tuple #[ptV zR, i64 e], [])
def rdK (v : Value) (b0 : Int) : Option VL :=
 req (isB32 v) <| (fun X => bif readE 0 X != 0 then eT (readE 0 X) else req (isNum (num (readN 0 X))) <| (fun A => req (isNum (num A)) <| (fun B => bif !(rootIs B) then eT 3 else
  bif b0 == 3 then req (isNum (num (rootNum B))) (some (.tuple #[pt3 false (num (readN 0 X)) (sv (num 0) (num (rootNum B))), i64 0], [])) else some (.tuple #[pt3 false (num (readN 0 X)) (num (rootNum B)), i64 0], [])) (unnum (num A))) (sqN (unnum (num (readN 0 X))))) (unbytes v)
def rd33 (b0 : Int) (k : Option VL) : Option VL := bif b0 != 2 then (bif b0 != 3 then eT 7 else k) else k
def rd1 (b0 : Int) : Option VL := bif b0 == 0 then some (.tuple #[ptV infR, i64 0], []) else eT 7
theorem rootNum_lt (A : Nat) : lt6 (rootNum A) := by
 unfold rootNum
 split
 · split
  · exact sp_l 0 _
  · exact powN_lt qP_lt
 · exact lt6_0
theorem rdK_eq {v : Value} (hv : isB32 v = true) {b0 : Int} : rdK v b0 = some (.tuple #[ptV (rdX (unbytes v) b0).1, i64 (rdX (unbytes v) b0).2], []) := by
 obtain ⟨X, hX, rfl, h2⟩ := isB32_some hv
 unfold rdK rdX
 rw [hv, req_true rfl, h2]
 have ok : okW 0 = true := rfl
 have hp : primeN 0 = pP := prime0
 by_cases hlt : X < pP
 · have e1 : readE 0 X = 0 := by unfold readE; rw [if_pos ok, hp, if_pos hlt]
  have e2 : readN 0 X = X := by unfold readN; rw [if_pos ok, hp, if_pos hlt]
  simp only [e1, e2, isNum_num, unnum_lt hX, unnum_lt (show lt6 (sqN X) from ap_l _ _), if_pos hlt]
  rw [req_true rfl, req_true rfl, req_true rfl]
  show (bif !(rootIs (sqN X)) then eT 3 else _) = _
  cases hr : rootIs (sqN X) with
  | false => rfl
  | true =>
   rw [if_pos rfl, Bool.not_true, cond_false]
   unfold sv
   rw [unnum_lt lt6_0, unnum_lt (rootNum_lt _), pt3_num, pt3_num]
   by_cases h3 : b0 = 3
   · rw [if_pos h3, beq_iff_eq.2 h3]; rfl
   · rw [if_neg h3, beq_eq_false_iff_ne.2 h3]; rfl
 · have e1 : readE 0 X = 2 := by unfold readE; rw [if_pos ok, hp, if_neg hlt]
  simp only [e1, if_neg hlt]
  rfl
theorem rd_all {f : Nat -> List Value} (E : Nat -> Option VL) {n : Nat} {K : Option VL} (hs : rdOk n f = true) (h1 : E 1 = rd1 (bI f 0)) (h33 : E 33 = rd33 (bI f 0) K)
  (hK : isB32 (b32V f) = true -> K = some (.tuple #[ptV (rdX (unbytes (b32V f)) (bI f 0)).1, i64 (rdX (unbytes (b32V f)) (bI f 0)).2], [])) (hless : ∀ n, n < 33 -> n ≠ 1 -> E n = eT 7) (hmore : ∀ k, E (k + 34) = eT 7) : E n = some (rdV n f, []) := by
 unfold rdV rdS
 rw [hide_eq]
 by_cases e1 : n = 1
 · subst e1
  rw [h1]
  unfold rd1
  by_cases h0 : bI f 0 = 0
  · rw [if_pos ⟨rfl, h0⟩, beq_iff_eq.2 h0]; rfl
  · rw [if_neg (fun h => h0 h.2), if_neg (fun h => absurd h.1 (by decide)), beq_eq_false_iff_ne.2 h0]; rfl
 · rw [if_neg (fun h => e1 h.1)]
  by_cases e2 : n = 33
  · subst e2
   have hb : isB32 (b32V f) = true := by
    unfold rdOk at hs
    rw [Nat.beq_refl, Bool.not_true, Bool.false_or] at hs; exact hs
   rw [h33, hK hb]
   unfold rd33
   by_cases h2 : bI f 0 = 2
   · rw [if_pos ⟨rfl, .inl h2⟩, h2]; rfl
   · by_cases h3 : bI f 0 = 3
    · rw [if_pos ⟨rfl, .inr h3⟩, h3]; rfl
    · rw [if_neg (fun h => h.2.elim h2 h3), bne_iff_ne.2 h2, bne_iff_ne.2 h3]; rfl
  · rw [if_neg (fun h => e2 h.1)]
   rcases Nat.lt_or_ge n 33 with h | h
   · exact hless n h e1
   · obtain ⟨k, rfl⟩ : ∃ k, n = k + 34 := ⟨n - 34, by omega⟩
    exact hmore k
end Go.W

namespace Go.W
theorem nrm_take : ∀ (ks : List CK) (l : List Value), nrmK ks (l.take ks.length) = nrmK ks l
 | [], _ => rfl
 | _ :: _, [] => by rw [List.take_nil]
 | k :: ks, a :: l => by
  show nrm1 k a :: nrmK ks (l.take ks.length) = nrm1 k a :: nrmK ks l
  rw [nrm_take ks l]
theorem lst0_row {ks : List CK} {L : List Value} (off : Nat) : nrmK ks (lstF L off ks.length 0) = nrmK ks (L.drop off) := by
 show nrmK ks ((L.drop (off + 0 * ks.length)).take ks.length) = _
 rw [Nat.zero_mul, Nat.add_zero, nrm_take]
theorem app_row {ks : List CK} {g h : Nat -> List Value} {m : Nat} {L : List Value} (hg : ∀ j, j < m -> nrmK ks (g j) = nrmK ks (h j)) (hL : nrmK ks L = nrmK ks (h m)) : ∀ j, j < m + 1 -> nrmK ks (appF m g (lstF L 0 ks.length) j) = nrmK ks (h j) := by
 intro j hj
 unfold appF
 by_cases h1 : j < m
 · rw [bL h1, cond_true]; exact hg j h1
 · have : j = m := by omega
  subst this
  rw [show Nat.blt j j = false from by rw [Bool.eq_false_iff, ne_eq, Nat.blt_eq]; omega, cond_false, Nat.sub_self, lst0_row, List.drop_zero, hL]
end Go.W

namespace Go.W
theorem MSum_sub {P : Program} [Laid P] {g : FuncId} {F F' : List Value -> (Nat -> Option Blk) -> Nat -> List (Bool × Value × List (Nat × Blk))} (h : MSum P g F) (hs : ∀ vs mm id v l, pickM (F' vs mm id) = some (v, l) -> pickM (F vs mm id) = some (v, l)) : MSum P g F' := by
 intro w0 R fm w hm vs args' hl mm hsub id hlt v l hpick hnew
 exact h w0 R fm w hm vs args' hl mm hsub id hlt v l (hs _ _ _ _ _ hpick) hnew
end Go.W

namespace Go.W
theorem ptF_congr {n : Nat} {V W : Nat -> RP} (h : ∀ j, j < n -> V j = W j) : ∀ j, j < n -> nrmK kP9 (ptF V j) = nrmK kP9 (ptF W j) := by
 intro j hj; unfold ptF; rw [h j hj]
theorem first_no {V : Nat -> RP} {n : Nat} (h : alP V n = false) : ∃ k, k < n ∧ ckR (V k) = false ∧ ∀ j, j < k -> ckR (V j) = true := by
 have hne : ∃ i, i < n ∧ ckR (V i) = false := by
  refine Classical.byContradiction fun hn => ?_
  have : alP V n = true := alP_iff.2 fun j hj => by
   cases e : ckR (V j) with
   | true => rfl
   | false => exact absurd ⟨j, hj, e⟩ hn
  rw [this] at h; cases h
 obtain ⟨i, a, b, c⟩ := first_bad hne
 refine ⟨i, a, b, fun j hj => ?_⟩
 cases e : ckR (V j) with
 | true => rfl
 | false => exact absurd e (c j hj)
end Go.W

namespace Go.W
open Go.RowKit (Below)
def apart2 (mm : Nat -> Option Blk) (b : Nat) (u : Value) : Bool :=
 match u with
 | .slice none _ _ => true
 | .slice (some a) _ _ => !(Nat.beq b a.block) && (match mm a.block with
  | some blk => (match blk.cells with
   | .lst _ => true
   | .row _ _ _ => true
   | _ => false)
  | none => false)
 | .int _ _ => true
 | _ => false
section
variable {GL : Glob} {w0 : Wb GL} {R : Nat -> Pl -> Prop} {fm : Nat -> Option Blk} {w : World}
end
section
variable {P : Program} [Laid P]
end
end Go.W

namespace Go.W
open Go.RowKit (Below)
def srcW (mm : Nat -> Option Blk) (ks : List CK) (e : TypeId) (v : Value) : Bool × Nat × Nat × (Nat -> List Value) :=
 match v with
 | .slice (some ⟨b, off, none⟩) n c => (match mm b with
  | some blk => (match blk.cells with
   | .row ks' m f => (loose b && blk.own && Nat.beq blk.elem e && Nat.beq off 0 && Nat.beq n m && ksEq ks' ks && Nat.ble n c, b, n, f)
   | _ => (false, 0, 0, fun _ => []))
  | none => (false, 0, 0, fun _ => []))
 | _ => (false, 0, 0, fun _ => [])
theorem srcW_some {mm : Nat -> Option Blk} {ks : List CK} {e : TypeId} {v : Value} {b n : Nat} {f : Nat -> List Value} (h : srcW mm ks e v = (true, b, n, f)) : ∃ c, v = .slice (some ⟨b, 0, none⟩) n c ∧ mm b = some ⟨.row ks n f, e, true⟩ ∧ loose b = true ∧ n <= c := by
 unfold srcW at h
 split at h
 · rename_i b0 off n0 c
  split at h
  · rename_i blk hb
   obtain ⟨cells, e0, own⟩ := blk
   simp only at h
   split at h
   · rename_i ks' m f'
    simp only [Prod.mk.injEq, Bool.and_eq_true] at h
    obtain ⟨⟨⟨⟨⟨⟨⟨h1, h2⟩, h3⟩, h4⟩, h5⟩, h6⟩, h7⟩, rfl, rfl, rfl⟩ := h
    have h3 := nbeq.1 h3
    have h4 := nbeq.1 h4
    have h5 := nbeq.1 h5
    have h6 := ksEq_eq h6
    subst h2 h3 h4 h5 h6
    exact ⟨c, rfl, hb, h1, Nat.le_of_ble_eq_true h7⟩
   · simp at h
  · simp at h
 · simp at h
section
variable {GL : Glob} {w0 : Wb GL} {R : Nat -> Pl -> Prop} {fm : Nat -> Option Blk} {w : World}
end
section
variable {GL : Glob} {w0 : Wb GL} {R : Nat -> Pl -> Prop} {fm : Nat -> Option Blk} {w : World}
theorem MRel.recell (h : MRel w0 R fm w) {i : Nat} {ks : List CK} {n : Nat} {f f' : Nat -> List Value} {e : TypeId} {o : Bool} (hi : fm i = some ⟨.row ks n f, e, o⟩) (hl : rowL ks f 0 n = rowL ks f' 0 n) : MRel w0 R (upd fm i ⟨.row ks n f', e, o⟩) w := by
 have hx : ∀ j blk, upd fm i ⟨.row ks n f', e, o⟩ j = some blk -> ∃ blk', fm j = some blk' ∧ blk'.own = blk.own ∧ blk'.cells.list = blk.cells.list := by
  intro j blk hj
  by_cases e1 : i = j
  · subst e1; rw [upd_same] at hj; cases hj; exact ⟨_, hi, rfl, hl⟩
  · rw [upd_ne _ _ e1] at hj; exact ⟨blk, hj, rfl, rfl⟩
 refine ⟨h.below, h.func, ?_, ?_, ?_, h.anc, fun i1 p1 b1 h1 h2 => (h.there i1 p1 b1 h1 h2).mono (fun s pos hs => by
  have e1 : i ≠ i1 := by
   rintro rfl
   rw [hi] at hs; cases hs
  rw [upd_ne _ _ e1]) rfl, ?_⟩
 · intro i0 j0 p q b h5 h6 ha hb hne blk hblk hown blk' hblk'
  obtain ⟨b1, k1, k2, _⟩ := hx _ _ hblk
  obtain ⟨b2, k3, k4, k5⟩ := hx _ _ hblk'
  have := h.inj _ _ _ _ _ h5 h6 ha hb hne b1 k1 (k2.trans hown) b2 k3
  exact ⟨k4.symm.trans this.1, k5.symm.trans this.2⟩
 · intro j blk hj
  by_cases e1 : i = j
  · subst e1; rw [upd_same] at hj; cases hj
   obtain ⟨p, hp, hc⟩ : ContOk w0 R w i ⟨.row ks n f, e, o⟩ := h.mem i _ hi
   have hl2 : (Cells.row ks n f).list = (Cells.row ks n f').list := hl
   have h1 : ContOk w0 R w i ⟨.row ks n f', e, o⟩ := by
    refine ⟨p, hp, ?_⟩
    cases hpa : p.a with
    | none => rw [hpa] at hc; exact hl2.symm.trans hc
    | some b =>
     rw [hpa] at hc
     obtain ⟨cs, fz, k1, k2, k3⟩ := hc
     exact ⟨cs, fz, k1, hl2 ▸ k2, k3⟩
   exact h1
  · rw [upd_ne _ _ e1] at hj; exact h.mem j blk hj
 · intro j p hp hlt
  by_cases e1 : i = j
  · subst e1; rw [upd_same]; rfl
  · rw [upd_ne _ _ e1]; exact h.dom j p hp hlt
 · intro j p hp hge
  obtain ⟨h2, h3⟩ := h.fro j p hp hge
  refine ⟨h2, fun k q hk hq blk hblk => ?_⟩
  obtain ⟨b1, k1, k2, _⟩ := hx _ _ hblk
  exact k2 ▸ h3 k q hk hq b1 k1
end
section
variable {P : Program} [Laid P]
end
end Go.W

namespace Go.W
open Go.RowKit (Below)
def isNilL : Cells -> Bool
 | .lst [] => true
 | _ => false
def ancOk (mem : Nat -> Option Blk) (e : TypeId) : Bool :=
 match mem 1400000 with
 | some blk => Nat.beq blk.elem e && isNilL blk.cells
 | none => false
def takK (mem : Nat -> Option Blk) (e : TypeId) (v : Value) : Option (Nat × Blk) :=
 match v with
 | .slice (some ⟨j, off, none⟩) m c => oK (mem j) (fun blk => match blk.cells with
  | .row ks n g => bif blk.own && loose j && Nat.blt j 1000000 && Nat.beq off 0 && Nat.ble m c && Nat.beq m n && ancOk mem e then some (m, ⟨.row ks n g, blk.elem, true⟩) else none
  | _ => none) none
 | _ => none
def fnT (C : Cfg) (fuel : Nat) (fn : Func) (c : Code) (args : List Value) (mem : List (Nat × Blk)) (next : Nat) (e : TypeId) : Option (Nat × Blk) :=
 evK C fuel [] c ⟨argSlots 0 args, mem, next⟩ (fun ex s => endK C.T fn ex s (fun v => takK (look s.mem) e v) none) none
theorem takK_some {mem : Nat -> Option Blk} {e : TypeId} {v : Value} {m : Nat} {blk : Blk} (h : takK mem e v = some (m, blk)) :
  ∃ j c ks g e2, v = .slice (some ⟨j, 0, none⟩) m c ∧ mem j = some ⟨.row ks m g, e2, true⟩ ∧ blk = ⟨.row ks m g, e2, true⟩ ∧ loose j = true ∧ j < 1000000 ∧ m <= c ∧ ∃ o, mem 1400000 = some ⟨.lst [], e, o⟩ := by
 unfold takK at h
 split at h
 · rename_i j off m0 c
  obtain ⟨blk0, hb, h⟩ := oK_some.1 h
  obtain ⟨cells, e2, own⟩ := blk0
  simp only at h
  split at h
  · rename_i ks n g
   obtain ⟨hc, h⟩ := cond_some.1 h
   simp only [Bool.and_eq_true, Nat.blt_eq] at hc
   obtain ⟨⟨⟨⟨⟨⟨h1, h2⟩, h3⟩, h4⟩, h5⟩, h6⟩, h7⟩ := hc
   have h4 := nbeq.1 h4
   have h6 := nbeq.1 h6
   simp only [Option.some.injEq, Prod.mk.injEq] at h
   obtain ⟨rfl, rfl⟩ := h
   subst h1 h4 h6
   refine ⟨j, c, ks, g, e2, rfl, hb, rfl, h2, h3, Nat.le_of_ble_eq_true h5, ?_⟩
   unfold ancOk at h7
   split at h7
   · rename_i blk1 hb1
    obtain ⟨cells1, e1, o1⟩ := blk1
    simp only [Bool.and_eq_true] at h7
    obtain ⟨k1, k2⟩ := h7
    have k1 := nbeq.1 k1
    subst k1
    unfold isNilL at k2
    split at k2
    · exact ⟨o1, hb1⟩
    · simp at k2
   · simp at h7
  · simp at h
 · simp at h
section
variable {GL : Glob} {w0 : Wb GL} {R : Nat -> Pl -> Prop} {fm : Nat -> Option Blk} {w : World}
theorem MRel.swap (h : MRel w0 R fm w) {b : Nat} {e : TypeId} (hfree : ∀ j q blk', R j q -> q.a = some b -> fm j = some blk' -> weak blk') (hnf : ¬ Frz R b) (hge : w0.X b ∨ w0.w.heap.size <= b) (hold : ∃ cs fz, w.heap[b]? = some (.cells cs e fz))
  {w' : World} {A : Nat -> Pl -> Prop} (hb : BelowX (⟨w, fun k => some b = some k, A⟩ : Wb GL) w') (hnew : ∃ cs fz, w'.heap[b]? = some (.cells cs e fz)) : MRel w0 R fm w' := by
 have hsame : ∀ k, k < w.heap.size -> k ≠ b -> w'.heap[k]? = w.heap[k]? := fun k hk hne => hb.block k hk (fun h => hne (Option.some.inj h).symm)
 obtain ⟨cs1, fz1, ho⟩ := hold
 obtain ⟨cs2, fz2, hn⟩ := hnew
 refine ⟨⟨hb.os.trans h.below.os, hb.tape.trans h.below.tape, hb.output.trans h.below.output, Nat.le_trans h.below.size hb.size, fun k hk hx => ?_, h.below.glob⟩, h.func, h.inj, ?_, h.dom, h.anc, fun i p b2 h1 h2 => ?_, h.fro⟩
 · have hne : k ≠ b := by
   rintro rfl
   rcases hge with h5 | h5
   · exact hx h5
   · omega
  exact (hsame k (Nat.lt_of_lt_of_le hk h.below.size) hne).trans (h.below.block k hk hx)
 · intro i blk hi
  have hm := h.mem i blk hi
  unfold MemOk at hm ⊢
  split at hm
  · exact hm
  · exact hm
  · refine hm.mono (fun _ _ h => h) (fun b2 hb2 => hsame b2 (h.frz_lt hb2) ?_) (fun hown p b2 hp hpa => hsame b2 (h.lt hp hpa) ?_)
   · rintro rfl; exact hnf hb2
   · rintro rfl
    have := (hfree _ _ _ hp hpa hi).1
    rw [hown] at this; simp at this
  · obtain ⟨b2, k1, k2, k3⟩ := hm
   have hne : b2 ≠ b := by rintro rfl; rw [ho] at k2; simp at k2
   exact ⟨b2, k1, by rw [hsame b2 (h.lt k1 rfl) hne]; exact k2, k3⟩
  · obtain ⟨p, k1, k2⟩ := hm
   refine ⟨p, k1, ?_⟩
   cases hpa : p.a with
   | none => rw [hpa] at k2; exact k2
   | some b2 =>
    rw [hpa] at k2
    obtain ⟨cs', fz, k3, k4, k5⟩ := k2
    by_cases hne : b2 = b
    · subst hne
     have hwk := hfree _ _ _ k1 hpa hi
     rw [ho] at k3
     simp only [Option.some.injEq, Obj.cells.injEq] at k3
     exact ⟨cs2, fz2, by rw [<- k3.2.1]; exact hn, by rw [hwk.2]; exact LP_nil, fun hown => by rw [hwk.1] at hown; simp at hown⟩
    · exact ⟨cs', fz, by rw [hsame b2 (h.lt k1 hpa) hne]; exact k3, k4, k5⟩
 · by_cases hne : b2 = b
  · subst hne; exact .inl ⟨cs2, e, fz2, hn⟩
  · exact (h.there i p b2 h1 h2).mono (fun _ _ _ => rfl) (hsame b2 (h.lt h1 h2) hne)
theorem apart_nil (hm : MRel w0 R fm w) {mm : Nat -> Option Blk} (hsub : ∀ b blk, mm b = some blk -> fm b = some blk) {i : Nat} {p : Pl} {blk : Blk} {b' : Nat} (hp : R i p) (hpa : p.a = some b') (hi : fm i = some blk) (hown : blk.own = true)
  {v : Value} {d m c : Nat} (hv : V2 R v (.slice (some ⟨b', d, none⟩) m c)) (hap : apart2 mm i v = true) {ks : List CK} {g : Nat -> List Value} (hs : srcB mm ks v = (true, m, g)) : rowL ks g 0 m = [] := by
 by_cases hm0 : m = 0
 · subst hm0; rfl
 unfold apart2 at hap
 split at hap
 · have := (V2_plain (R := R) (v := .slice none _ _) rfl).1 hv
  simp at this
 · rename_i a2 n2 c2
  obtain ⟨b2, off2, sp2⟩ := a2
  have hsp : sp2 = none := by
   cases sp2 with
   | none => rfl
   | some x => simp [srcB] at hs
  subst hsp
  simp only [Bool.and_eq_true, Bool.not_eq_true'] at hap
  obtain ⟨ha1, ha2⟩ := hap
  have hne2 : i ≠ b2 := fun e2 => by rw [e2, Nat.beq_refl] at ha1; simp at ha1
  obtain ⟨q, hq, hsl2⟩ := V2_slice hv
  have hqa : q.a = some b' := by
   cases hlo2 : loose b2 with
   | false =>
    obtain ⟨b3, h5, h6⟩ := SlOk_tight hlo2 hsl2
    simp only [Value.slice.injEq, Option.some.injEq, Addr.mk.injEq] at h6
    rw [h5, h6.1.1]
   | true =>
    obtain ⟨_, _, ⟨b3, h5, h6⟩ | ⟨_, _, _, h6⟩⟩ := SlOk_loose hlo2 hsl2
    · simp only [Value.slice.injEq, Option.some.injEq, Addr.mk.injEq] at h6
     rw [h5, h6.1.1]
    · obtain ⟨a9, h6⟩ := h6
     simp only [Value.slice.injEq] at h6
     exact absurd h6.2.1 hm0
  split at ha2
  · rename_i blk2 hb2
   have hwk := hm.inj _ _ _ _ _ hp hq hpa hqa hne2 _ hi hown blk2 (hsub _ _ hb2)
   obtain ⟨cells2, e2, own2⟩ := blk2
   have hl0 : cells2.list = [] := hwk.2
   have hsrc2 := hs
   unfold srcB at hsrc2
   simp only [hb2] at hsrc2
   simp only at ha2
   split at ha2
   · rename_i l
    have hl0 : l = [] := hl0
    subst hl0
    simp only [Prod.mk.injEq, Bool.and_eq_true, List.length_nil] at hsrc2
    obtain ⟨⟨⟨h5, h6⟩, _⟩, h7, _⟩ := hsrc2
    have h5 := Nat.le_of_ble_eq_true h5
    apply List.length_eq_zero_iff.1
    rw [rowL_len, <- h7]; omega
   · rename_i ks2 m2 f2
    have hl0 : rowL ks2 f2 0 m2 = [] := hl0
    simp only [Prod.mk.injEq, Bool.and_eq_true] at hsrc2
    obtain ⟨⟨⟨⟨_, h5⟩, h6⟩, _⟩, h7, _⟩ := hsrc2
    have h5 := Nat.le_of_ble_eq_true h5
    have h6 := ksEq_eq h6
    subst h6
    have := congrArg List.length hl0
    rw [rowL_len, List.length_nil] at this
    apply List.length_eq_zero_iff.1
    rw [rowL_len]
    have : m * ks2.length <= m2 * ks2.length := Nat.mul_le_mul_right _ (by omega)
    omega
   · simp at ha2
  · simp at ha2
 · simp [srcB] at hs
 · simp at hap
theorem args_apart (hm : MRel w0 R fm w) {mm : Nat -> Option Blk} (hsub : ∀ b blk, mm b = some blk -> fm b = some blk) {i : Nat} {p : Pl} {blk : Blk} {b' : Nat} (hp : R i p) (hpa : p.a = some b') (hi : fm i = some blk) (hown : blk.own = true)
  {es : Nat -> TypeId} {Rc : Nat -> Pl -> Prop} (hfun : ∀ i p p', Rc i p -> Rc i p' -> p = p') : ∀ (A : List Arg) (vs args' : List Value) (k : Nat), AOk mm vs A -> LR (V2 R) vs args' -> LR (V2 Rc) (cArgs A k) args' -> vs.all (apart2 mm i) = true ->
   ∀ j blk' q, look (cMem es A k) j = some blk' -> Rc j q -> q.a = some b' -> blk'.cells.list = []
 | [], _, _, _, _, _, _, _ => fun j blk' q h _ _ => by simp [cMem, look] at h
 | .pl u :: A, [], _, _, hA, _, _, _ => hA.elim
 | .sl _ _ _ :: A, [], _, _, hA, _, _, _ => hA.elim
 | .pl _ :: _, _ :: _, [], _, _, hl, _, _ => hl.elim
 | .sl _ _ _ :: _, _ :: _, [], _, _, hl, _, _ => hl.elim
 | .pl u :: A, v :: vs, v' :: args', k, hA, hl, hc, hap => by
  simp only [List.all_cons, Bool.and_eq_true] at hap
  exact args_apart hm hsub hp hpa hi hown hfun A vs args' (k + 1) hA.2.2 hl.2 hc.2 hap.2
 | .sl ks n g :: A, v :: vs, v' :: args', k, hA, hl, hc, hap => by
  simp only [List.all_cons, Bool.and_eq_true] at hap
  intro j blk' q hj hq hqa
  rw [cMem, look_cons] at hj
  by_cases e1 : argId k = j
  · subst e1
   rw [upd_same] at hj; cases hj
   show rowL ks g 0 n = []
   obtain ⟨q2, hq2, hsl⟩ := V2_slice hc.1
   have := hfun _ _ _ hq hq2; subst this
   obtain ⟨_, hcc, ⟨b3, h5, h6⟩ | ⟨h5, h6, _, _⟩⟩ := SlOk_loose (argId_loose k) hsl
   · rw [hqa] at h5; cases h5
    subst h6
    exact apart_nil hm hsub hp hpa hi hown hl.1 hap.1 hA.1
   · rw [hqa] at h5; simp at h5
  · rw [upd_ne _ _ e1] at hj
   exact args_apart hm hsub hp hpa hi hown hfun A vs args' (k + 1) hA.2 hl.2 hc.2 hap.2 j blk' q hj hq hqa
def RtF (p : Pl) (pl : Nat -> Option Pl) (i : Nat) (q : Pl) : Prop := (i = 999999 ∧ q = p) ∨ (i = 1400000 ∧ q = p) ∨ ∃ j, i = argId j ∧ pl j = some q
theorem take_rel (hg : GOk GL w) {es : Nat -> TypeId} {pl : Nat -> Option Pl} {A : List Arg} (h2 : ∀ i blk, look (cMem es A 1) i = some blk -> ∃ j p, i = argId j ∧ pl j = some p ∧ PlOk w i blk p)
  (h3 : ∀ j p, pl j = some p -> (look (cMem es A 1) (argId j)).isSome = true ∧ ∀ b, p.a = some b -> ∃ cs e fz, w.heap[b]? = some (.cells cs e fz)) (hA : A.length <= 900000000)
  {p : Pl} {ks : List CK} {n : Nat} {f : Nat -> List Value} {e : TypeId} (hp : match p.a with
   | none => n = 0
   | some b => ∃ cs fz, w.heap[b]? = some (.cells cs e fz) ∧ FzOk fz cs.size ∧ (cs.toList.drop p.d).take (n * ks.length) = rowL ks f 0 n ∧ (p.c ≠ 0 -> p.d + p.c * ks.length <= cs.size))
  (hap : ∀ j blk' q b, look (cMem es A 1) j = some blk' -> RtF p pl j q -> q.a = some b -> p.a = some b -> blk'.cells.list = []) (hgl : ∀ x ∈ GL, p.a ≠ some x.1) :
  MRel (⟨w, fun k => p.a = some k, RtF p pl⟩ : Wb GL) (RtF p pl) (look ((999999, ⟨.row ks n f, e, true⟩) :: (1400000, ⟨.lst [], e, false⟩) :: cMem es A 1)) w := by
 have hid : ∀ j, argId j ≠ 999999 ∧ argId j ≠ 1400000 := fun j => by unfold argId; omega
 have hmem : ∀ i blk, look ((999999, ⟨.row ks n f, e, true⟩) :: (1400000, ⟨.lst [], e, false⟩) :: cMem es A 1) i = some blk -> (i = 999999 ∧ blk = ⟨.row ks n f, e, true⟩) ∨ (i = 1400000 ∧ blk = ⟨.lst [], e, false⟩) ∨ (∃ j q, i = argId j ∧ pl j = some q ∧ look (cMem es A 1) i = some blk ∧ PlOk w i blk q) := by
  intro i blk hi
  rw [look_cons] at hi
  by_cases e1 : 999999 = i
  · subst e1; rw [upd_same] at hi; cases hi; exact .inl ⟨rfl, rfl⟩
  rw [upd_ne _ _ e1, look_cons] at hi
  by_cases e2 : 1400000 = i
  · subst e2; rw [upd_same] at hi; cases hi; exact .inr (.inl ⟨rfl, rfl⟩)
  rw [upd_ne _ _ e2] at hi
  obtain ⟨j, q, h5, h6, h7⟩ := h2 i blk hi
  exact .inr (.inr ⟨j, q, h5, h6, hi, h7⟩)
 have hfun : ∀ i q q', RtF p pl i q -> RtF p pl i q' -> q = q' := by
  rintro i q q' (⟨rfl, rfl⟩ | ⟨rfl, rfl⟩ | ⟨j, rfl, hj⟩) (⟨h5, rfl⟩ | ⟨h5, rfl⟩ | ⟨j', h5, hj'⟩)
  · rfl
  · omega
  · exact absurd h5.symm (hid _).1
  · omega
  · rfl
  · exact absurd h5.symm (hid _).2
  · exact absurd h5 (hid _).1
  · exact absurd h5 (hid _).2
  · have : j = j' := by unfold argId at h5; omega
   subst this
   rw [hj] at hj'; exact Option.some.inj hj'
 refine ⟨BelowX.refl _ _ _ hg (fun x hx h => hgl x hx h), hfun, ?_, ?_, ?_, fun _ _ h _ _ => h, ?_, ?_⟩
 · intro i j q q' b hq hq' ha hb hne blk hblk hown blk' hblk'
  rcases hmem i blk hblk with ⟨rfl, rfl⟩ | ⟨rfl, rfl⟩ | ⟨j1, q1, rfl, _, _, k⟩
  · have := hfun _ _ _ hq (.inl ⟨rfl, rfl⟩); subst this
   rcases hmem j blk' hblk' with ⟨rfl, rfl⟩ | ⟨rfl, rfl⟩ | ⟨j1, q1, rfl, h5, h6, k⟩
   · exact absurd rfl hne
   · exact ⟨rfl, rfl⟩
   · exact ⟨k.1, hap _ _ _ _ h6 hq' hb ha⟩
  · simp at hown
  · rw [k.1] at hown; simp at hown
 · intro i blk hi
  rcases hmem i blk hi with ⟨rfl, rfl⟩ | ⟨rfl, rfl⟩ | ⟨j, q, rfl, k2, _, k3, ⟨ks1, n1, g1, k4⟩, k5, _⟩
  · refine ⟨p, .inl ⟨rfl, rfl⟩, ?_⟩
   cases hpa : p.a with
   | none => rw [hpa] at hp; show rowL ks f 0 n = []; rw [hp]; rfl
   | some b =>
    rw [hpa] at hp
    obtain ⟨cs, fz, m1, hfz, m2, m3⟩ := hp
    exact ⟨cs, fz, m1, LP_plain (rowL_pl _ _ _ _) (by rw [show (Cells.row ks n f).list = rowL ks f 0 n from rfl, rowL_len]; exact m2), fun _ => ⟨hfz, .inl rfl, fun _ => m3⟩⟩
  · refine ⟨p, .inr (.inl ⟨rfl, rfl⟩), ?_⟩
   cases hpa : p.a with
   | none => rfl
   | some b =>
    rw [hpa] at hp
    obtain ⟨cs, fz, m1, _, m2, m3⟩ := hp
    exact ⟨cs, fz, m1, LP_nil, fun ho => by simp at ho⟩
  · have hc : ContOk (⟨w, fun k => p.a = some k, RtF p pl⟩ : Wb GL) (RtF p pl) w (argId j) blk := by
    refine ⟨q, .inr (.inr ⟨j, rfl, k2⟩), ?_⟩
    cases hqa : q.a with
    | none => rw [hqa] at k5; exact k5
    | some b =>
     rw [hqa] at k5
     obtain ⟨cs, fz, m1, m2⟩ := k5
     exact ⟨cs, fz, m1, LP_mono (fun _ _ h => h.elim) m2, fun ho => by rw [k3] at ho; simp at ho⟩
   unfold MemOk
   rw [k4]; exact hc
 · rintro i q (⟨rfl, rfl⟩ | ⟨rfl, rfl⟩ | ⟨j, rfl, hj⟩) _
  · rw [look_cons, upd_same]; rfl
  · rw [look_cons, upd_ne _ _ (by omega), look_cons, upd_same]; rfl
  · rw [look_cons, upd_ne _ _ (Ne.symm (hid j).1), look_cons, upd_ne _ _ (Ne.symm (hid j).2)]
   exact (h3 j q hj).1
 · have hthere : ∀ b, p.a = some b -> ∃ cs e fz, w.heap[b]? = some (.cells cs e fz) := fun b hb => by
   rw [hb] at hp
   obtain ⟨cs, fz, m1, _⟩ := hp
   exact ⟨cs, e, fz, m1⟩
  rintro i q b (⟨rfl, rfl⟩ | ⟨rfl, rfl⟩ | ⟨j, rfl, hj⟩) hb
  · exact .inl (hthere b hb)
  · exact .inl (hthere b hb)
  · exact .inl ((h3 j q hj).2 b hb)
 · rintro i q (⟨rfl, rfl⟩ | ⟨rfl, rfl⟩ | ⟨j, rfl, hj⟩) hge
  · omega
  · omega
  · have := cMem_lt A 1 j (h3 j q hj).1
   unfold argId at hge; omega
end
section
variable {P : Program} [Laid P]
theorem msum_take {g : FuncId} {fn : Func} {c : Code} (hf : P.funcs[g]? = some fn) (hname : (fn.name == "runtime.NumGoroutine") = false) (hb : fn.body = some c) {fuel next : Nat}
  {w0 : Wb (lay P)} {R : Nat -> Pl -> Prop} {fm : Nat -> Option Blk} {w : World} (hm : MRel w0 R fm w) {v0 : Value} {vs args' : List Value} (hl : LR (V2 R) (v0 :: vs) args') {mm : Nat -> Option Blk} (hsub : ∀ b blk, mm b = some blk -> fm b = some blk) {id : Nat} (hlt : id < 60000)
  {ks : List CK} {e : TypeId} {i n : Nat} {f : Nat -> List Value} (h0 : srcW mm ks e v0 = (true, i, n, f)) {A : List Arg} (hA : AOk mm vs A) (hap : vs.all (apart2 mm i) = true) (hlen : A.length + 1 <= fn.ntmps) {m : Nat} {blk : Blk} (hnew : fm (nid id 0) = none)
  (hev0 : ∀ es, ∃ C, CfgOk P C c ∧ C.n = fn.ntmps ∧ fnT C fuel fn c (.slice (some ⟨999999, 0, none⟩) n n :: cArgs A 1) ((999999, ⟨.row ks n f, e, true⟩) :: (1400000, ⟨.lst [], e, false⟩) :: cMem es A 1) next e = some (m, blk)) (hnt : fn.ntmps <= 900000000 := by decide +kernel) :
  Invokes P g args'.toArray w fun v' w' => ∃ R' : Nat -> Pl -> Prop, (∀ i p, R i p -> R' i p) ∧ V2 R' (.slice (some ⟨nid id 0, 0, none⟩) m m) v' ∧ MRel w0 R' (memF fm [(nid id 0, blk), (i, ⟨.lst [], e, false⟩)]) w' := by
 have hne : fn.name ≠ "runtime.NumGoroutine" := by simpa using hname
 have hrun : (callFunc g args'.toArray).run P w = .ok (.enter g args'.toArray) w := by simp [callFunc, hf, hne, hb]
 unfold Invokes
 rw [hrun]
 obtain ⟨cc, rfl, hbm, hlo, hncc⟩ := srcW_some h0
 have hbf := hsub _ _ hbm
 match args', hl with
 | [], hl => exact hl.elim
 | v0' :: args1', hl =>
 obtain ⟨es, pl, h1, h2, h3, h4⟩ := callee_mem hm A vs args1' 1 (AOk_mono hsub hA) hl.2
 obtain ⟨p, hp, hsl⟩ := V2_slice hl.1
 obtain ⟨_, hcc, hcase⟩ := SlOk_loose hlo hsl
 have hcont : match p.a with
   | none => n = 0
   | some b => ∃ cs fz, w.heap[b]? = some (.cells cs e fz) ∧ FzOk fz cs.size ∧ (cs.toList.drop p.d).take (n * ks.length) = rowL ks f 0 n ∧ (p.c ≠ 0 -> p.d + p.c * ks.length <= cs.size) := by
  rcases hcase with ⟨b', hpa, _⟩ | ⟨hpa, hn0, _, _⟩
  · rw [hpa]
   obtain ⟨cs, fz, g1, g2, g3, g4⟩ := row_cells hm hbf hp hpa
   obtain ⟨hfz, _, hroom⟩ := g4 rfl
   exact ⟨cs, fz, g1, hfz, g2, fun hc => hroom hlo hc⟩
  · rw [hpa]; exact hn0
 have hfun : ∀ i q q', RtF p pl i q -> RtF p pl i q' -> q = q' := by
  rintro i q q' (⟨rfl, rfl⟩ | ⟨rfl, rfl⟩ | ⟨j, rfl, hj⟩) (⟨h5, rfl⟩ | ⟨h5, rfl⟩ | ⟨j', h5, hj'⟩) <;> first | rfl | (unfold argId at h5; omega) | omega | skip
  have : j = j' := by unfold argId at h5; omega
  subst this
  rw [hj] at hj'; exact Option.some.inj hj'
 have hargs1 : LR (V2 (RtF p pl)) (cArgs A 1) args1' := LR_mono (fun _ _ hu => V2_mono (fun i q hq => .inr (.inr hq)) hu) h4
 have hown : ∀ b, p.a = some b -> w0.X b ∨ w0.w.heap.size <= b := fun b hpa => hm.ownX hp hpa hbf rfl
 have hgl : ∀ x ∈ lay P, p.a ≠ some x.1 := by
  intro x hx e1
  obtain ⟨fz1, k1⟩ := hm.below.glob.1 x hx
  have k2 := hm.below.glob.2 x hx
  rcases hown _ e1 with h5 | h5
  · exact k2 h5
  · have := heap_lt k1; omega
 have hapa : ∀ j blk' q b, look (cMem es A 1) j = some blk' -> RtF p pl j q -> q.a = some b -> p.a = some b -> blk'.cells.list = [] := fun j blk' q b hj hq hqa hpa => args_apart hm hsub hp hpa hbf rfl hfun A vs args1' 1 hA hl.2 hargs1 hap j blk' q hj hq hqa
 have hmC := take_rel hm.below.gok h2 h3 (by omega) hcont hapa hgl
 obtain ⟨C, hC, hn, hev⟩ := hev0 es
 unfold fnT at hev
 rw [evK_eq, oK_some] at hev
 obtain ⟨⟨ex, s'⟩, he1, he2⟩ := hev
 obtain ⟨vC, he3, he4⟩ : ∃ vC, endK C.T fn ex s' some none = some vC ∧ takK (look s'.mem) e vC = some (m, blk) := by
  have key : endK C.T fn ex s' (fun v => takK (look s'.mem) e v) none = oK (endK C.T fn ex s' some none) (fun v => takK (look s'.mem) e v) none := by
   unfold endK
   have key : ∀ lr : List ResultVar, resK C.T s' lr (fun vs => oneK vs fun v => takK (look s'.mem) e v) none = oK (resK C.T s' lr (fun vs => oneK vs some) none) (fun v => takK (look s'.mem) e v) none := by
    intro lr
    rw [resK_nat (fun o : Option Value => oK o (fun v => takK (look s'.mem) e v) none)]
    congr 1; funext vs
    exact (oneK_nat (fun o : Option Value => oK o (fun v => takK (look s'.mem) e v) none) vs some).symm
   cases ex <;> first | exact key _ | rfl
  simp only at he2
  rw [key] at he2
  exact oK_some.1 he2
 have hv0 : V2 (RtF p pl) (.slice (some ⟨999999, 0, none⟩) n n) v0' := by
  refine slice_V2 (q := p) rfl (.inl ⟨rfl, rfl⟩) (by omega) ?_
  rcases hcase with ⟨b', hpa, hv⟩ | ⟨hpa, hn0, hc0, hv⟩
  · rw [hpa]; exact hv
  · rw [hpa]; exact ⟨hn0, hc0, hv⟩
 refine Calls.mono (fn_mem hC hf hb hn hmC (args := .slice (some ⟨999999, 0, none⟩) n n :: cArgs A 1) (args' := v0' :: args1') (And.intro hv0 hargs1) (by rw [List.length_cons, cArgs_len]; exact hlen) he1 he3) ?_
 rintro ex2 w' ⟨R', v', rfl, hvv, hvt, hm'⟩
 show ∃ R2 : Nat -> Pl -> Prop, _ ∧ _ ∧ _
 obtain ⟨j, c0, ks2, g2, e2, rfl, hj, rfl, hloj, hjm, hmc, o, hanc⟩ := takK_some he4
 have hvv := hvv nofun
 -- the caller's memory, without the row
 have hm2 : MRel w0 R (upd fm i ⟨.lst [], e, false⟩) w' := by
  have hmf := hm.forget hbf nofun nofun
  cases hpa : p.a with
  | none =>
   refine hmf.world ?_
   have := hm'.below.below (fun k hk => by rw [hpa] at hk; simp at hk)
   exact this
  | some b =>
   rw [hpa] at hcont
   obtain ⟨cs, fz0, g1, _⟩ := hcont
   have hb2 := hm'.below
   simp only [hpa] at hb2
   refine hmf.swap (forget_free hm hbf rfl hp hpa e) (fun hfz => ?_) (hown b hpa) ⟨cs, fz0, g1⟩ hb2 ?_
   · have := hm.frz_own hfz hp hpa hbf; simp at this
   · obtain ⟨p', hp', hc⟩ := memOk_lst hm' hanc
    have hanc2 := hm'.anc _ _ hp' (by omega) (by omega)
    have epp : p' = p := by
     rcases hanc2 with ⟨h, _⟩ | ⟨_, h⟩ | ⟨j, h, _⟩
     · omega
     · exact h
     · unfold argId at h; omega
    subst epp
    rw [hpa] at hc
    obtain ⟨cs2, fz2, k1, _⟩ := hc
    exact ⟨cs2, fz2, k1⟩
 have hin : i ≠ nid id 0 := by rintro rfl; rw [hnew] at hbf; simp at hbf
 have hnone : upd fm i ⟨.lst [], e, false⟩ (nid id 0) = none := by rw [upd_ne _ _ hin]; exact hnew
 obtain ⟨q, hq, hslq⟩ := V2_slice hvv
 obtain ⟨q', hq', hcq⟩ := memOk_row hm' hj
 have := hm'.func _ _ _ hq hq'; subst this
 obtain ⟨_, hcc2, hcaseq⟩ := SlOk_loose hloj hslq
 refine ⟨fun i2 q2 => R i2 q2 ∨ (i2 = nid id 0 ∧ q2 = q), fun _ _ h => .inl h, slice_V2 (nid_loose hlt (by omega)) (.inr ⟨rfl, rfl⟩) (show m <= q.c by omega) ?_, ?_⟩
 · rcases hcaseq with ⟨b, hqa, hv'⟩ | ⟨hqa, hm0, hc0, hv'⟩
  · rw [hqa]; exact hv'
  · rw [hqa]; exact ⟨hm0, hc0, hv'⟩
 show MRel w0 _ (upd (upd fm i ⟨.lst [], e, false⟩) (nid id 0) _) w'
 cases hqa : q.a with
 | none =>
  rw [hqa] at hcq
  have hcq : rowL ks2 g2 0 m = [] := hcq
  refine hm2.view (q := q) hnone (nid_lt hlt (by omega)) (.inr (.inl hqa)) (fun b hb => by rw [hqa] at hb; simp at hb) ?_
  intro R3 _ hR
  refine ⟨q, hR, ?_⟩
  rw [hqa]; exact hcq
 | some b =>
  rw [hqa] at hcq
  obtain ⟨cs, fz, k1, k2, k3⟩ := hcq
  obtain ⟨hfz9, hX, hroom⟩ := k3 rfl
  have hfree : ∀ j q blk', R j q -> q.a = some b -> upd fm i ⟨.lst [], e, false⟩ j = some blk' -> weak blk' := by
   rcases hX with hX | hX
   · exact forget_free hm hbf rfl hp hX e
   · intro j q blk' h5 h6
    have := hm.lt h5 h6
    have hX : w.heap.size <= b := hX
    omega
  have hnf : ¬ Frz R b := by
   intro hfz
   rcases hX with hX | hX
   · have := hm.frz_own hfz hp hX hbf; simp at this
   · have := hm.frz_lt hfz
    have hX : w.heap.size <= b := hX
    omega
  have hge : w0.X b ∨ w0.w.heap.size <= b := by
   rcases hX with hX | hX
   · exact hown b hX
   · exact .inr (Nat.le_trans hm.below.size hX)
  refine hm2.rename hnone (nid_lt hlt (by omega)) hfree hnf hqa k1 hfz9 hge nofun nofun nofun ?_ ?_
  · have k2 : LP R' (rowL ks2 g2 0 m) (cs.toList.drop q.d) := k2
   have := (LR_plain (r := V0 R') (pl := pl0) (fun _ _ hv => V0_plain hv) (rowL_pl ks2 g2 m 0)).1 k2
   exact LP_plain (rowL_pl _ _ _ _) this
  · exact fun _ hc => hroom hloj hc
end
end Go.W

namespace Go.W
section
variable {P : Program} [Laid P]
theorem sum_per {g : FuncId} {fn : Func} {c : Code} (hf : P.funcs[g]? = some fn) (hname : (fn.name == "runtime.NumGoroutine") = false) (hb : fn.body = some c) {fuel : Nat} {F : List Value -> Option (Bool × Value)}
  (h : ∀ args v, F args = some (true, v) -> args.all pl2 = true -> ∃ C, CfgOk P C c ∧ C.n = fn.ntmps ∧ args.length <= fn.ntmps ∧ fnS C fuel fn c args = some v ∧ pl2 v = true) : Sum P g F := by
 intro args v hF hpl w hg
 obtain ⟨C, hC, hn, hl, hev, hv⟩ := h args v hF hpl
 exact sum_at hC hf hname hb hn hl hev hv hpl w hg
end
end Go.W
