/-
  The engine, part 2: the evaluator of one operation, in the style in which what follows is handed on, so that a test whose outcome is open leaves two ways.
-/
import Derived.Test.YtdhbnidobpkkfaaW1
namespace Go.W

/-- What is known of a type: its shape (where it is no struct), its number of cells, its zero; of a struct: the places and types of its fields; whether '==' on it asks nothing more. -/
structure TInf where
  und : TypeDesc
  siz : Nat
  zer : Value
  st : Bool
  flds : List (Nat × Nat)
  eqf : Bool

abbrev Tab := List (Nat × TInf)
/-- What functions come to: of their arguments, whether they may be called so, and the answer. -/
abbrev Sums := List (Nat × (List Value → Option (Bool × Value)))

section
variable {R : Type}

def oK {α : Type} (o : Option α) (k : α → R) (f : R) : R :=
  match o with
  | some a => k a
  | none => f

def boolK (v : Value) (k : Bool → R) (f : R) : R :=
  match v with
  | .bool b => k b
  | _ => f

def intK (v : Value) (k : IntKind → Int → R) (f : R) : R :=
  match v with
  | .int kd n => k kd n
  | _ => f

def ptrK (v : Value) (k : Nat → Nat → R) (f : R) : R :=
  match v with
  | .pointer (some ⟨b, off, none⟩) => k b off
  | _ => f

def sliceK (v : Value) (k : Nat → Nat → Nat → Nat → R) (f : R) : R :=
  match v with
  | .slice (some ⟨b, off, none⟩) n c => k b off n c
  | _ => f

def aggK (v : Value) (k : List Value → R) (f : R) : R :=
  match v with
  | .agg cs => k cs.toList
  | _ => f

def tupK (v : Value) (k : List Value → R) (f : R) : R :=
  match v with
  | .tuple cs => k cs.toList
  | _ => f

def strK (v : Value) (k : ByteArray → R) (f : R) : R :=
  match v with
  | .string s => k s
  | _ => f

def descK (i : TInf) (arr : Nat → Nat → R) (slc : Nat → R) (int : IntKind → R) (bool str : R) (f : R) : R :=
  bif i.st then f else
  match i.und with
  | .array n e => arr n e
  | .slice e => slc e
  | .int kd => int kd
  | .bool => bool
  | .string => str
  | _ => f

def inR (i : Int) (len : Nat) : Bool := decide (0 ≤ i) && decide (i < (len : Int))

def isAggT (i : TInf) : Bool :=
  i.st || (match i.und with
    | .struct _ => true
    | .array _ _ => true
    | _ => false)

/-- A part of a row of cells, as a value of a type. -/
def partK (i : TInf) (cells : List Value) (off : Nat) (k : Value → R) (f : R) : R :=
  bif isAggT i then (bif Nat.ble (off + i.siz) cells.length then k (.agg ((cells.drop off).take i.siz).toArray) else f)
  else oK cells[off]? k f

def binI (op : BinOp) (kx : IntKind) (a : Int) (ky : IntKind) (b : Int) (k : Value → R) (f : R) : R :=
  match op with
  | .shl => bif decide (b < 0) then f else k (.int kx (kx.wrap (a * 2 ^ (min b.toNat kx.bits))))
  | .shr => bif decide (b < 0) then f else k (.int kx (a.fdiv (2 ^ (min b.toNat kx.bits))))
  | .add => bif decide (kx = ky) then k (.int kx (kx.wrap (a + b))) else f
  | .sub => bif decide (kx = ky) then k (.int kx (kx.wrap (a - b))) else f
  | .mul => bif decide (kx = ky) then k (.int kx (kx.wrap (a * b))) else f
  | .quo => bif decide (kx = ky) then (bif decide (b = 0) then f else k (.int kx (kx.wrap (a.tdiv b)))) else f
  | .rem => bif decide (kx = ky) then (bif decide (b = 0) then f else k (.int kx (a.tmod b))) else f
  | .and => bif decide (kx = ky) then k (.int kx (kx.wrap (BitVec.ofInt kx.bits a &&& BitVec.ofInt kx.bits b).toNat)) else f
  | .or => bif decide (kx = ky) then k (.int kx (kx.wrap (BitVec.ofInt kx.bits a ||| BitVec.ofInt kx.bits b).toNat)) else f
  | .xor => bif decide (kx = ky) then k (.int kx (kx.wrap (BitVec.ofInt kx.bits a ^^^ BitVec.ofInt kx.bits b).toNat)) else f
  | .andNot => bif decide (kx = ky) then k (.int kx (kx.wrap (BitVec.ofInt kx.bits a &&& ~~~ (BitVec.ofInt kx.bits b)).toNat)) else f
  | .eql => bif decide (kx = ky) then k (.bool (a == b)) else f
  | .neq => bif decide (kx = ky) then k (.bool (a != b)) else f
  | .lss => bif decide (kx = ky) then k (.bool (decide (a < b))) else f
  | .leq => bif decide (kx = ky) then k (.bool (decide (a ≤ b))) else f
  | .gtr => bif decide (kx = ky) then k (.bool (decide (a > b))) else f
  | .geq => bif decide (kx = ky) then k (.bool (decide (a ≥ b))) else f

def isIntK (kd : IntKind) : Value → Bool
  | .int k _ => decide (k = kd)
  | _ => false

def eqL : List Value → List Value → Bool
  | .int _ a :: xs, .int _ b :: ys => (a == b) && eqL xs ys
  | _, _ => true

/-- '==' on arrays of integers. -/
def eqA (T : Tab) (t : Nat) (xs ys : List Value) (k : Bool → R) (f : R) : R :=
  oK (look T t) (fun i => bif i.eqf then descK i (fun n e => oK (look T e) (fun j => bif Nat.beq j.siz 1 then descK j (fun _ _ => f) (fun _ => f) (fun kd =>
      bif Nat.beq xs.length n && Nat.beq ys.length n && xs.all (isIntK kd) && ys.all (isIntK kd) then k (eqL xs ys) else f) f f f else f) f) (fun _ => f) (fun _ => f) f f f else f) f

def eqOpK (op : BinOp) (b : Bool) (k : Value → R) (f : R) : R :=
  match op with
  | .eql => k (.bool b)
  | .neq => k (.bool (!b))
  | _ => f

def binK (T : Tab) (op : BinOp) (t : Nat) (x y : Value) (k : Value → R) (f : R) : R :=
  intK x (fun kx a => intK y (fun ky b => binI op kx a ky b k f) f)
    (boolK x (fun a => boolK y (fun b => oK (look T t) (fun i => descK i (fun _ _ => f) (fun _ => f) (fun _ => f) (eqOpK op (a == b) k f) f f) f) f)
      (aggK x (fun xs => aggK y (fun ys => eqA T t xs ys (fun b => eqOpK op b k f) f) f) f))

def unI (op : UnOp) (kd : IntKind) (n : Int) (k : Value → R) (f : R) : R :=
  match op with
  | .neg => k (.int kd (kd.wrap (0 - n)))
  | _ => f

def unB (op : UnOp) (b : Bool) (k : Value → R) (f : R) : R :=
  match op with
  | .not => k (.bool (!b))
  | _ => f

def unK (op : UnOp) (x : Value) (k : Value → R) (f : R) : R :=
  intK x (fun kd n => unI op kd n k f) (boolK x (fun b => unB op b k f) f)

/-- The parts of a literal, laid one by one. -/
def fillK (place : Nat → Option (Nat × Nat)) : List (Nat × Value) → List Value → (List Value → R) → R → R
  | [], cells, k, _ => k cells
  | p :: rest, cells, k, f =>
    oK (place p.1) (fun q => bif notTup p.2 && Nat.beq p.2.cells.toList.length q.2 && Nat.ble (q.1 + q.2) cells.length
      then fillK place rest (cells.take q.1 ++ p.2.cells.toList ++ cells.drop (q.1 + q.2)) k f else f) f

def evsK (ev : Operand → Option Value) : List Operand → (List Value → R) → R → R
  | [], k, _ => k []
  | x :: r, k, f => oK (ev x) (fun v => evsK ev r (fun vs => k (v :: vs)) f) f

def partsK (ev : Operand → Option Value) : List (Nat × Operand) → (List (Nat × Value) → R) → R → R
  | [], k, _ => k []
  | x :: r, k, f => oK (ev x.2) (fun v => partsK ev r (fun vs => k ((x.1, v) :: vs)) f) f

def val (v : Value) : Res := ⟨v, none, none, []⟩

def optK (ev : Operand → Option Value) (o : Option Operand) (k : Option Value → R) (f : R) : R :=
  match o with
  | none => k none
  | some x => oK (ev x) (fun v => k (some v)) f

def noneK (o : Option Operand) (x f : R) : R :=
  match o with
  | none => x
  | some _ => f

/-- The lower bound of a slice expression, and the upper one. -/
def lowK (h : Nat) (lo : Option Value) (k : Nat → R) (f : R) : R :=
  match lo with
  | none => k 0
  | some l => intK l (fun _ i => bif decide (0 ≤ i) && decide (i ≤ (h : Int)) then k i.toNat else f) f

def highK (len cap : Nat) (hi : Option Value) (k : Nat → R) (f : R) : R :=
  match hi with
  | none => k len
  | some h => intK h (fun _ j => bif decide (0 ≤ j) && decide (j ≤ (cap : Int)) then k j.toNat else f) f

def placeOf (T : Tab) (i : TInf) (m : Nat) : Option (Nat × Nat) := (i.flds[m]?).bind fun fl => (look T fl.2).map fun j => (fl.1, j.siz)

def copyK (T : Tab) (t : Nat) (d s : Value) (mm : Nat → Option Blk) (k : Res → R) (f : R) : R :=
  sliceK d (fun b off n _ => sliceK s (fun b' off' n' _ => oK (mm b) (fun blk => oK (mm b') (fun blk' => oK (look T t) (fun i => descK i (fun _ _ => f)
    (fun e => oK (look T e) (fun j => bif blk.own && Nat.beq j.siz 1 && Nat.ble (off + min n' n) blk.cells.length && Nat.ble (off' + min n' n) blk'.cells.length then
              k ⟨.int .i64 ((min n' n : Nat) : Int), none, some (b, ⟨blk.cells.take off ++ (blk'.cells.drop off').take (min n' n) ++ blk.cells.drop (off + min n' n), blk.elem, true⟩), [b, b']⟩ else f) f)
    (fun _ => f) f f f) f) f) f) f) f

def twoK (vs : List Value) (ts : List Nat) (k : Value → Value → Nat → R) (f : R) : R :=
  match vs, ts with
  | [d, s], t :: _ => k d s t
  | _, _ => f

def oneLK (vs : List Value) (ts : List Nat) (k : Value → Nat → R) (f : R) : R :=
  match vs, ts with
  | [v], t :: _ => k v t
  | _, _ => f

def slLenK (v : Value) (k : Nat → R) (f : R) : R :=
  match v with
  | .slice _ n _ => k n
  | _ => f

def lenK (T : Tab) (v : Value) (t : Nat) (k : Res → R) (f : R) : R :=
  oK (look T t) (fun i => descK i (fun n _ => k (val (.int .i64 ((n : Nat) : Int)))) (fun _ => slLenK v (fun n => k (val (.int .i64 ((n : Nat) : Int)))) f) (fun _ => f) f (strK v (fun s => k (val (.int .i64 ((s.size : Nat) : Int)))) f) f) f

/-- So many times the same cells. -/
def repL : Nat → List Value → List Value
  | 0, _ => []
  | n + 1, z => z ++ repL n z

def callK (T : Tab) (G : Sums) (c : Call) (ev : Operand → Option Value) (mm : Nat → Option Blk) (k : Res → R) (f : R) : R :=
  match c.callee with
  | .value (.func g) => evsK ev c.args.toList (fun vs => bif vs.all pl2 then oK (look G g) (fun F => oK (F vs) (fun q => bif q.1 then (bif pl2 q.2 then k (val q.2) else f) else f) f) f else f) f
  | .builtin .copy => evsK ev c.args.toList (fun vs => twoK vs c.argTypes.toList (fun d s t => copyK T t d s mm k f) f) f
  | .builtin .len => evsK ev c.args.toList (fun vs => oneLK vs c.argTypes.toList (fun v t => lenK T v t k f) f) f
  | _ => f

def storeK (b off : Nat) (blk : Blk) (i : TInf) (v : Value) (k : Res → R) (f : R) : R :=
  bif blk.own && notTup v && Nat.beq v.cells.toList.length i.siz && Nat.ble (off + i.siz) blk.cells.length then
    (bif Nat.beq i.siz 1 then oK v.cells.toList.head? (fun c => k ⟨undef, none, some (b, ⟨blk.cells.set off c, blk.elem, true⟩), [b]⟩) f
     else k ⟨undef, none, some (b, ⟨blk.cells.take off ++ v.cells.toList ++ blk.cells.drop (off + i.siz), blk.elem, true⟩), [b]⟩) else f

def opK (T : Tab) (G : Sums) (id : Nat) (op : Op) (ev : Operand → Option Value) (mm : Nat → Option Blk) (k : Res → R) (f : R) : R :=
  match op with
  | .move x => oK (ev x) (fun v => k (val v)) f
  | .assign x => oK (ev x) (fun v => k (val v)) f
  | .pick c x y => oK (ev c) (fun vc => boolK vc (fun b => bif b then oK (ev x) (fun v => k (val v)) f else oK (ev y) (fun v => k (val v)) f) f) f
  | .alloc t => oK (look T t) (fun i => bif notTup i.zer && pl1 i.zer && (mm id).isNone then k ⟨.pointer (some ⟨id, 0, none⟩), some ⟨i.zer.cells.toList, t, true⟩, none, [id]⟩ else f) f
  | .box t x => oK (ev x) (fun v => bif notTup v && (mm id).isNone then k ⟨.pointer (some ⟨id, 0, none⟩), some ⟨v.cells.toList, t, true⟩, none, [id]⟩ else f) f
  | .load t x => oK (ev x) (fun a => ptrK a (fun b off => oK (mm b) (fun blk => oK (look T t) (fun i =>
      partK i blk.cells off (fun v => k ⟨v, none, none, [b]⟩) f) f) f) f) f
  | .store t x y => oK (ev x) (fun a => oK (ev y) (fun v => ptrK a (fun b off => oK (mm b) (fun blk => oK (look T t) (fun i => storeK b off blk i v k f) f) f) f) f) f
  | .indexAddr t x ix => oK (ev x) (fun vx => oK (ev ix) (fun vi => intK vi (fun _ n => oK (look T t) (fun i => descK i
      (fun len e => ptrK vx (fun b off => oK (look T e) (fun j => bif inR n len then k (val (.pointer (some ⟨b, off + n.toNat * j.siz, none⟩))) else f) f) f)
      (fun e => sliceK vx (fun b off len _ => oK (look T e) (fun j => bif inR n len then k (val (.pointer (some ⟨b, off + n.toNat * j.siz, none⟩))) else f) f) f)
      (fun _ => f) f f f) f) f) f) f
  | .fieldAddr t x n => oK (ev x) (fun vx => ptrK vx (fun b off => oK (look T t) (fun i => bif i.st then oK i.flds[n]? (fun fl => oK (look T fl.2) (fun j =>
      bif Nat.beq j.siz 0 then f else k (val (.pointer (some ⟨b, off + fl.1, none⟩)))) f) f else f) f) f) f
  | .field t x n => oK (ev x) (fun vx => aggK vx (fun cs => oK (look T t) (fun i => bif i.st then oK i.flds[n]? (fun fl => oK (look T fl.2) (fun j => partK j cs fl.1 (fun v => k (val v)) f) f) f else f) f) f) f
  | .index t x ix => oK (ev x) (fun vx => oK (ev ix) (fun vi => intK vi (fun _ n => oK (look T t) (fun i => descK i
      (fun len e => aggK vx (fun cs => oK (look T e) (fun j => bif inR n len then partK j cs (n.toNat * j.siz) (fun v => k (val v)) f else f) f) f)
      (fun _ => f) (fun _ => f) f (strK vx (fun s => bif inR n s.size then k (val (.int .u8 ((s.data.toList.getD n.toNat 0).toNat : Int))) else f) f) f) f) f) f) f
  | .extract x n => oK (ev x) (fun vx => tupK vx (fun vs => oK vs[n]? (fun v => bif notTup v then k (val v) else f) f) f) f
  | .binOp op t x y _ => oK (ev x) (fun vx => oK (ev y) (fun vy => binK T op t vx vy (fun v => k (val v)) f) f) f
  | .unOp op _ x => oK (ev x) (fun vx => unK op vx (fun v => k (val v)) f) f
  | .convert s d x => oK (ev x) (fun vx => oK (look T s) (fun _ => oK (look T d) (fun j => intK vx (fun _ n => descK j (fun _ _ => f) (fun _ => f) (fun kd => k (val (.int kd (kd.wrap n)))) f f f) f) f) f) f
  | .build t parts => oK (look T t) (fun i => partsK ev parts.toList (fun ps => bif notTup i.zer && pl1 i.zer then
      (bif i.st then bif i.flds.all (fun fl => (look T fl.2).isSome) then fillK (placeOf T i) ps i.zer.cells.toList (fun cs => k (val (.agg cs.toArray))) f else f
       else descK i (fun _ e => oK (look T e) (fun j => fillK (fun m => some (m * j.siz, j.siz)) ps i.zer.cells.toList (fun cs => k (val (.agg cs.toArray))) f) f) (fun _ => f) (fun _ => f) f f f) else f) f) f
  | .buildSlice t len parts => oK (look T t) (fun i => partsK ev parts.toList (fun ps => descK i (fun _ _ => f)
      (fun e => oK (look T e) (fun j => bif notTup j.zer && pl1 j.zer && Nat.beq j.zer.cells.toList.length j.siz && !(Nat.beq j.siz 0) && !(Nat.beq len 0) && Nat.ble (len * j.siz) 65536 && (mm id).isNone then
        fillK (fun m => some (m * j.siz, j.siz)) ps (repL len j.zer.cells.toList) (fun cs => k ⟨.slice (some ⟨id, 0, none⟩) len len, some ⟨cs, e, true⟩, none, [id]⟩) f else f) f)
      (fun _ => f) f f f) f) f
  | .slice t x lo hi mx => noneK mx (oK (ev x) (fun vx => optK ev lo (fun l => optK ev hi (fun h => oK (look T t) (fun i => descK i
      (fun n e => ptrK vx (fun b off => oK (look T e) (fun j => highK n n h (fun h => lowK h l (fun l =>
          k (val (.slice (some ⟨b, bif Nat.beq n l then off else off + l * j.siz, none⟩) (h - l) (n - l)))) f) f) f) f)
      (fun _ => f) (fun _ => f) f f f) f) f) f) f) f
  | .call c => callK T G c ev mm k f
  | _ => f

/-! ## What is handed on may be turned at any time -/

variable {R' : Type} (h : R → R')

theorem oK_nat {α : Type} (o : Option α) (k : α → R) (f : R) : h (oK o k f) = oK o (fun a => h (k a)) (h f) := by cases o <;> rfl
theorem boolK_nat (v : Value) (k : Bool → R) (f : R) : h (boolK v k f) = boolK v (fun a => h (k a)) (h f) := by cases v <;> rfl
theorem intK_nat (v : Value) (k : IntKind → Int → R) (f : R) : h (intK v k f) = intK v (fun a b => h (k a b)) (h f) := by cases v <;> rfl
theorem ptrK_nat (v : Value) (k : Nat → Nat → R) (f : R) : h (ptrK v k f) = ptrK v (fun a b => h (k a b)) (h f) := by unfold ptrK; split <;> simp_all
theorem sliceK_nat (v : Value) (k : Nat → Nat → Nat → Nat → R) (f : R) : h (sliceK v k f) = sliceK v (fun a b c d => h (k a b c d)) (h f) := by unfold sliceK; split <;> simp_all
theorem aggK_nat (v : Value) (k : List Value → R) (f : R) : h (aggK v k f) = aggK v (fun a => h (k a)) (h f) := by cases v <;> rfl
theorem tupK_nat (v : Value) (k : List Value → R) (f : R) : h (tupK v k f) = tupK v (fun a => h (k a)) (h f) := by cases v <;> rfl
theorem strK_nat (v : Value) (k : ByteArray → R) (f : R) : h (strK v k f) = strK v (fun a => h (k a)) (h f) := by cases v <;> rfl
theorem cond_nat (b : Bool) (x y : R) : h (bif b then x else y) = bif b then h x else h y := by cases b <;> rfl
theorem descK_nat (i : TInf) (arr : Nat → Nat → R) (slc : Nat → R) (int : IntKind → R) (bool str : R) (f : R) :
    h (descK i arr slc int bool str f) = descK i (fun a b => h (arr a b)) (fun a => h (slc a)) (fun a => h (int a)) (h bool) (h str) (h f) := by
  unfold descK; cases i.st
  · simp only [cond_false]; split <;> rfl
  · rfl
theorem partK_nat (i : TInf) (cells : List Value) (off : Nat) (k : Value → R) (f : R) : h (partK i cells off k f) = partK i cells off (fun v => h (k v)) (h f) := by
  simp only [partK, cond_nat h, oK_nat h]
theorem binI_nat (op : BinOp) (kx : IntKind) (a : Int) (ky : IntKind) (b : Int) (k : Value → R) (f : R) : h (binI op kx a ky b k f) = binI op kx a ky b (fun v => h (k v)) (h f) := by
  cases op <;> simp only [binI, cond_nat h]
theorem eqA_nat (T : Tab) (t : Nat) (xs ys : List Value) (k : Bool → R) (f : R) : h (eqA T t xs ys k f) = eqA T t xs ys (fun b => h (k b)) (h f) := by
  simp only [eqA, oK_nat h, cond_nat h, descK_nat h]
theorem eqOpK_nat (op : BinOp) (b : Bool) (k : Value → R) (f : R) : h (eqOpK op b k f) = eqOpK op b (fun v => h (k v)) (h f) := by cases op <;> rfl
theorem binK_nat (T : Tab) (op : BinOp) (t : Nat) (x y : Value) (k : Value → R) (f : R) : h (binK T op t x y k f) = binK T op t x y (fun v => h (k v)) (h f) := by
  simp only [binK, intK_nat h, boolK_nat h, aggK_nat h, oK_nat h, descK_nat h, binI_nat h, eqA_nat h, eqOpK_nat h]
theorem unI_nat (op : UnOp) (kd : IntKind) (n : Int) (k : Value → R) (f : R) : h (unI op kd n k f) = unI op kd n (fun v => h (k v)) (h f) := by cases op <;> rfl
theorem unB_nat (op : UnOp) (b : Bool) (k : Value → R) (f : R) : h (unB op b k f) = unB op b (fun v => h (k v)) (h f) := by cases op <;> rfl
theorem unK_nat (op : UnOp) (x : Value) (k : Value → R) (f : R) : h (unK op x k f) = unK op x (fun v => h (k v)) (h f) := by
  simp only [unK, intK_nat h, boolK_nat h, unI_nat h, unB_nat h]
theorem fillK_nat (place : Nat → Option (Nat × Nat)) : ∀ (ps : List (Nat × Value)) (cells : List Value) (k : List Value → R) (f : R),
    h (fillK place ps cells k f) = fillK place ps cells (fun v => h (k v)) (h f)
  | [], _, _, _ => rfl
  | p :: rest, cells, k, f => by simp only [fillK, oK_nat h, cond_nat h, fillK_nat place rest]
theorem evsK_nat (ev : Operand → Option Value) : ∀ (xs : List Operand) (k : List Value → R) (f : R), h (evsK ev xs k f) = evsK ev xs (fun v => h (k v)) (h f)
  | [], _, _ => rfl
  | x :: r, k, f => by simp only [evsK, oK_nat h, evsK_nat ev r]
theorem partsK_nat (ev : Operand → Option Value) : ∀ (xs : List (Nat × Operand)) (k : List (Nat × Value) → R) (f : R), h (partsK ev xs k f) = partsK ev xs (fun v => h (k v)) (h f)
  | [], _, _ => rfl
  | x :: r, k, f => by simp only [partsK, oK_nat h, partsK_nat ev r]
theorem optK_nat (ev : Operand → Option Value) (o : Option Operand) (k : Option Value → R) (f : R) : h (optK ev o k f) = optK ev o (fun v => h (k v)) (h f) := by
  cases o <;> simp only [optK, oK_nat h]
theorem noneK_nat (o : Option Operand) (x f : R) : h (noneK o x f) = noneK o (h x) (h f) := by cases o <;> rfl
theorem lowK_nat (n : Nat) (lo : Option Value) (k : Nat → R) (f : R) : h (lowK n lo k f) = lowK n lo (fun v => h (k v)) (h f) := by
  cases lo <;> simp only [lowK, intK_nat h, cond_nat h]
theorem highK_nat (n m : Nat) (lo : Option Value) (k : Nat → R) (f : R) : h (highK n m lo k f) = highK n m lo (fun v => h (k v)) (h f) := by
  cases lo <;> simp only [highK, intK_nat h, cond_nat h]
theorem copyK_nat (T : Tab) (t : Nat) (d s : Value) (mm : Nat → Option Blk) (k : Res → R) (f : R) : h (copyK T t d s mm k f) = copyK T t d s mm (fun v => h (k v)) (h f) := by
  simp only [copyK, sliceK_nat h, oK_nat h, descK_nat h, cond_nat h]
theorem twoK_nat (vs : List Value) (ts : List Nat) (k : Value → Value → Nat → R) (f : R) : h (twoK vs ts k f) = twoK vs ts (fun a b c => h (k a b c)) (h f) := by
  unfold twoK; split <;> rfl
theorem oneLK_nat (vs : List Value) (ts : List Nat) (k : Value → Nat → R) (f : R) : h (oneLK vs ts k f) = oneLK vs ts (fun a b => h (k a b)) (h f) := by
  unfold oneLK; split <;> rfl
theorem slLenK_nat (v : Value) (k : Nat → R) (f : R) : h (slLenK v k f) = slLenK v (fun a => h (k a)) (h f) := by cases v <;> rfl
theorem lenK_nat (T : Tab) (v : Value) (t : Nat) (k : Res → R) (f : R) : h (lenK T v t k f) = lenK T v t (fun a => h (k a)) (h f) := by
  simp only [lenK, oK_nat h, descK_nat h, slLenK_nat h, strK_nat h]
theorem callK_nat (T : Tab) (G : Sums) (c : Call) (ev : Operand → Option Value) (mm : Nat → Option Blk) (k : Res → R) (f : R) : h (callK T G c ev mm k f) = callK T G c ev mm (fun v => h (k v)) (h f) := by
  unfold callK; split <;> simp only [evsK_nat h, cond_nat h, oK_nat h, twoK_nat h, copyK_nat h, oneLK_nat h, lenK_nat h]
theorem storeK_nat (b off : Nat) (blk : Blk) (i : TInf) (v : Value) (k : Res → R) (f : R) : h (storeK b off blk i v k f) = storeK b off blk i v (fun v => h (k v)) (h f) := by
  simp only [storeK, cond_nat h, oK_nat h]

theorem opK_nat (T : Tab) (G : Sums) (id : Nat) (op : Op) (ev : Operand → Option Value) (mm : Nat → Option Blk) (k : Res → R) (f : R) :
    h (opK T G id op ev mm k f) = opK T G id op ev mm (fun r => h (k r)) (h f) := by
  unfold opK
  split <;> simp only [oK_nat h, boolK_nat h, intK_nat h, ptrK_nat h, sliceK_nat h, aggK_nat h, tupK_nat h, strK_nat h, cond_nat h, descK_nat h, partK_nat h, binK_nat h, unK_nat h, fillK_nat h,
    partsK_nat h, optK_nat h, noneK_nat h, lowK_nat h, highK_nat h, callK_nat h, storeK_nat h]

end

/-- What the operation comes to, bare. -/
def opS (T : Tab) (G : Sums) (id : Nat) (op : Op) (ev : Operand → Option Value) (mm : Nat → Option Blk) : Option Res := opK T G id op ev mm some none

theorem opK_eq {R : Type} (T : Tab) (G : Sums) (id : Nat) (op : Op) (ev : Operand → Option Value) (mm : Nat → Option Blk) (k : Res → R) (f : R) :
    opK T G id op ev mm k f = oK (opS T G id op ev mm) k f :=
  (opK_nat (fun o : Option Res => oK o k f) T G id op ev mm some none).symm

end Go.W
