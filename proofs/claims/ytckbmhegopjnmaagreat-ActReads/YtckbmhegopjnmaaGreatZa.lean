/-
  Several texts in one: W1 W2 W3 W4.
-/
import Derived.Calls
import Derived.Orders
import Derived.Below
import Derived.ChangeKeysEq
namespace Go.W
universe u
def look {α:Type u}:List (Nat×α)->Nat->Option α
 | [],_=>none
 | p::r,t=>bif Nat.beq p.1 t then some p.2 else look r t
def upd {α:Type u}(f:Nat->Option α) (t:Nat) (v:α):Nat->Option α:=fun u=>bif Nat.beq t u then some v else f u
theorem look_cons {α:Type u}(t:Nat) (v:α) (l:List (Nat×α)):look ((t,v)::l)=upd (look l) t v:=rfl
theorem nbeq {a b:Nat}:Nat.beq a b=true↔a=b:=⟨Nat.eq_of_beq_eq_true,fun h=>h▸Nat.beq_refl a⟩
theorem nbeq_ne {a b:Nat}(h:a≠b):Nat.beq a b=false:=by
 cases hb:Nat.beq a b with
 | false=>rfl
 | true=>exact absurd (nbeq.1 hb) h
theorem upd_same {α:Type u}(f:Nat->Option α) (t:Nat) (v:α):upd f t v t=some v:=by simp[upd]
theorem upd_ne {α:Type u}(f:Nat->Option α){t u:Nat}(v:α) (h:t≠u):upd f t v u=f u:=by simp[upd,nbeq_ne h]
theorem upd_comm {α:Type u}(f:Nat->Option α){t u:Nat}(v x:α) (h:t≠u):upd (upd f t v) u x=upd (upd f u x) t v:=by
 funext s
 by_cases h1:u=s
 ·subst h1;rw[upd_same,upd_ne _ _ h,upd_same]
 ·rw[upd_ne _ _ h1]
  by_cases h2:t=s
  ·subst h2;rw[upd_same,upd_same]
  ·rw[upd_ne _ _ h2,upd_ne _ _ h2,upd_ne _ _ h1]
theorem upd_idem {α:Type u}(f:Nat->Option α){t:Nat}{v:α}(h:f t=some v):upd f t v=f:=by
 funext s
 by_cases h1:t=s
 ·subst h1;rw[upd_same,h]
 ·rw[upd_ne _ _ h1]
inductive CK where
 | i (k:IntKind)
 | b
 | s
def toI:Value->Int
 | .int _ x=>x
 | _=>0
def toB:Value->Bool
 | .bool x=>x
 | _=>false
def toS:Value->ByteArray
 | .string x=>x
 | _=>⟨#[]⟩
def nrm1:CK->Value->Value
 | .i k,v=>.int k (toI v)
 | .b,v=>.bool (toB v)
 | .s,v=>.string (toS v)
def nrmK:List CK->List Value->List Value
 | [],_=>[]
 | k::ks,l=>nrm1 k (l.headD (.bool false))::nrmK ks l.tail
def rowL (ks:List CK) (f:Nat->List Value):Nat->Nat->List Value
 | _,0=>[]
 | lo,n+1=>nrmK ks (f lo)++rowL ks f (lo+1) n
inductive Cells where
 | lst (l:List Value)
 | row (ks:List CK) (n:Nat) (f:Nat->List Value)
 | elt (i k sz:Nat)
 | tail (i l cnt sz:Nat)
 | fam (ks:List CK) (n:Nat) (es:Nat->TypeId) (g:Nat->Nat×(Nat->List Value))
 | itr (s:ByteArray) (pos:Nat)
instance:Coe (List Value) Cells:=⟨Cells.lst⟩
def Cells.list:Cells->List Value
 | .lst l=>l
 | .row ks n f=>rowL ks f 0 n
 | _=>[]
structure Blk where
 cells:Cells
 elem:TypeId
 own:Bool
structure FS where
 fs:Nat->Option Value
 fm:Nat->Option Blk
structure Res where
 val:Value
 mem:List (Nat×Blk)
 rd:List Nat
def putF {α:Type}(f:Nat->Option α) (d:Option Nat) (v:α):Nat->Option α:=
 match d with
 | some t=>upd f t v
 | none=>f
def memF (fm:Nat->Option Blk):List (Nat×Blk)->Nat->Option Blk
 | []=>fm
 | p::l=>upd (memF fm l) p.1 p.2
def FS.apply (S:FS) (dst:Option Nat) (r:Res):FS:=⟨putF S.fs dst r.val,memF S.fm r.mem⟩
structure Pl where
 a:Option Nat
 d:Nat
 c:Nat
def loose (i:Nat):Bool:=(Nat.ble 500000 i&&Nat.blt i 1000000)||Nat.ble 1500000 i
def Emp (v:Value):Prop:=∃a,v=.slice a 0 0
def SlOk (a:Addr) (n c:Nat) (p:Pl) (v':Value):Prop:=
 if loose a.block=true then a.off=0∧a.spot=none∧c<=p.c∧(match p.a with
  | some b=>v'=.slice (some ⟨b,p.d,none⟩) n p.c
  | none=>n=0∧p.c=0∧Emp v')
 else ∃b,p.a=some b∧v'=.slice (some ⟨b,p.d+a.off,a.spot⟩) n c
def LR (r:Value->Value->Prop):List Value->List Value->Prop
 | [],[]=>True
 | a::as,b::bs=>r a b∧LR r as bs
 | _,_=>False
def V00 (R:Nat->Pl->Prop) (v v':Value):Prop:=
 match v with
 | .pointer (some a)=>∃p b,R a.block p∧p.a=some b∧v'=.pointer (some ⟨b,p.d+a.off,a.spot⟩)
 | .slice (some a) n c=>∃p,R a.block p∧SlOk a n c p v'
 | .agg _=>False
 | .tuple _=>False
 | .iface _ _=>False
 | v=>v'=v
def VI (R:Nat->Pl->Prop) (v v':Value):Prop:=
 match v with
 | .agg cs=>∃cs',v'=.agg cs'∧LR (V00 R) cs.toList cs'.toList
 | v=>V00 R v v'
def V0 (R:Nat->Pl->Prop) (v v':Value):Prop:=
 match v with
 | .pointer (some a)=>∃p b,R a.block p∧p.a=some b∧v'=.pointer (some ⟨b,p.d+a.off,a.spot⟩)
 | .slice (some a) n c=>∃p,R a.block p∧SlOk a n c p v'
 | .agg _=>False
 | .tuple _=>False
 | .iface t x=>∃x',v'=.iface t x'∧VI R x x'
 | v=>v'=v
theorem SlOk_sl {a:Addr}{n c:Nat}{p:Pl}{v':Value}(h:SlOk a n c p v'):∃a' c',v'=.slice a' n c':=by
 unfold SlOk at h
 split at h
 ·obtain ⟨_,_,_,h⟩:=h
  split at h
  ·exact⟨_,_,h⟩
  ·obtain ⟨rfl,_,_,h⟩:=h;exact⟨_,_,h⟩
 ·obtain ⟨b,_,h⟩:=h;exact⟨_,_,h⟩
def V1 (R:Nat->Pl->Prop) (v v':Value):Prop:=
 match v with
 | .agg cs=>∃cs',v'=.agg cs'∧LR (V0 R) cs.toList cs'.toList
 | v=>V0 R v v'
def V2 (R:Nat->Pl->Prop) (v v':Value):Prop:=
 match v with
 | .tuple vs=>∃vs',v'=.tuple vs'∧LR (V1 R) vs.toList vs'.toList
 | v=>V1 R v v'
def pl0:Value->Bool
 | .pointer (some _)=>false
 | .slice (some _) _ _=>false
 | .agg _=>false
 | .tuple _=>false
 | .iface _ _=>false
 | _=>true
def pl1:Value->Bool
 | .agg cs=>cs.toList.all pl0
 | v=>pl0 v
def pl2:Value->Bool
 | .tuple vs=>vs.toList.all pl1
 | v=>pl1 v
theorem V0_plain {R:Nat->Pl->Prop}{v v':Value}(h:pl0 v=true):V0 R v v'↔v'=v:=by
 unfold pl0 at h
 split at h<;>first|(simp at h;done)|skip
 unfold V0
 split<;>simp_all
theorem LR_len {r:Value->Value->Prop}:∀{l l':List Value},LR r l l'->l.length=l'.length
 | [],[],_=>rfl
 | _::_,_::_,h=>by simp[LR_len h.2]
 | [],_::_,h=>h.elim
 | _::_,[],h=>h.elim
theorem LR_plain {r:Value->Value->Prop}{pl:Value->Bool}(hr:∀v v',pl v=true->(r v v'↔v'=v)):
  ∀{l l':List Value},l.all pl=true->(LR r l l'↔l'=l)
 | [],[],_=>by simp[LR]
 | a::as,b::bs,h=>by
  simp only[List.all_cons,Bool.and_eq_true]at h
  simp[LR,hr a b h.1,LR_plain hr h.2]
 | [],_::_,_=>by simp[LR]
 | _::_,[],_=>by simp[LR]
theorem V1_plain {R:Nat->Pl->Prop}{v v':Value}(h:pl1 v=true):V1 R v v'↔v'=v:=by
 unfold pl1 at h
 split at h
 ·rename_i cs
  simp only[V1]
  constructor
  ·rintro ⟨cs',rfl,hl⟩
   rw[LR_plain (fun v v' hv=>V0_plain hv) h]at hl
   congr 1
   exact Array.toList_inj.1 hl
  ·rintro rfl
   exact⟨cs,rfl,(LR_plain (fun v v' hv=>V0_plain hv) h).2 rfl⟩
 ·rename_i hv
  have:V1 R v v'=V0 R v v':=by
   unfold V1;split
   ·exact absurd rfl (hv _)
   ·rfl
  rw[this];exact V0_plain h
theorem V2_plain {R:Nat->Pl->Prop}{v v':Value}(h:pl2 v=true):V2 R v v'↔v'=v:=by
 unfold pl2 at h
 split at h
 ·rename_i cs
  simp only[V2]
  constructor
  ·rintro ⟨cs',rfl,hl⟩
   rw[LR_plain (fun v v' hv=>V1_plain hv) h]at hl
   congr 1
   exact Array.toList_inj.1 hl
  ·rintro rfl
   exact⟨cs,rfl,(LR_plain (fun v v' hv=>V1_plain hv) h).2 rfl⟩
 ·rename_i hv
  have:V2 R v v'=V1 R v v':=by
   unfold V2;split
   ·exact absurd rfl (hv _)
   ·rfl
  rw[this];exact V1_plain h
theorem LR_mono {r r':Value->Value->Prop}(h:∀v v',r v v'->r' v v'):∀{l l':List Value},LR r l l'->LR r' l l'
 | [],[],_=>trivial
 | _::_,_::_,hl=>⟨h _ _ hl.1,LR_mono h hl.2⟩
 | [],_::_,hl=>hl.elim
 | _::_,[],hl=>hl.elim
theorem V00_mono {R R':Nat->Pl->Prop}(h:∀i b,R i b->R' i b){v v':Value}(hv:V00 R v v'):V00 R' v v':=by
 unfold V00 at *
 split at hv
 ·obtain ⟨p,b,hb,hp,rfl⟩:=hv;exact⟨p,b,h _ _ hb,hp,rfl⟩
 ·obtain ⟨p,hb,hc⟩:=hv;exact⟨p,h _ _ hb,hc⟩
 ·exact hv
 ·exact hv
 ·exact hv
 ·exact hv
theorem VI_mono {R R':Nat->Pl->Prop}(h:∀i b,R i b->R' i b){v v':Value}(hv:VI R v v'):VI R' v v':=by
 unfold VI at *
 split at hv
 ·obtain ⟨cs',rfl,hl⟩:=hv;exact⟨cs',rfl,LR_mono (fun _ _=>V00_mono h) hl⟩
 ·exact V00_mono h hv
theorem V0_mono {R R':Nat->Pl->Prop}(h:∀i b,R i b->R' i b){v v':Value}(hv:V0 R v v'):V0 R' v v':=by
 unfold V0 at *
 split at hv
 ·obtain ⟨p,b,hb,hp,rfl⟩:=hv;exact⟨p,b,h _ _ hb,hp,rfl⟩
 ·obtain ⟨p,hb,hc⟩:=hv;exact⟨p,h _ _ hb,hc⟩
 ·exact hv
 ·exact hv
 ·obtain ⟨x',rfl,hx⟩:=hv;exact⟨x',rfl,VI_mono h hx⟩
 ·exact hv
theorem V00_V0 {R:Nat->Pl->Prop}{v v':Value}(h:V00 R v v'):V0 R v v':=by
 unfold V00 at h
 unfold V0
 split at h
 ·exact h
 ·exact h
 ·exact h
 ·exact h
 ·exact h.elim
 ·exact h
theorem V1_mono {R R':Nat->Pl->Prop}(h:∀i b,R i b->R' i b){v v':Value}(hv:V1 R v v'):V1 R' v v':=by
 unfold V1 at *
 split at hv
 ·obtain ⟨cs',rfl,hl⟩:=hv;exact⟨cs',rfl,LR_mono (fun _ _=>V0_mono h) hl⟩
 ·exact V0_mono h hv
theorem V2_mono {R R':Nat->Pl->Prop}(h:∀i b,R i b->R' i b){v v':Value}(hv:V2 R v v'):V2 R' v v':=by
 unfold V2 at *
 split at hv
 ·obtain ⟨cs',rfl,hl⟩:=hv;exact⟨cs',rfl,LR_mono (fun _ _=>V1_mono h) hl⟩
 ·exact V1_mono h hv
theorem LR_get {r:Value->Value->Prop}:∀{l l':List Value}{i:Nat}{v:Value},LR r l l'->l[i]?=some v->∃v',l'[i]?=some v'∧r v v'
 | [],[],_,_,_,h=>by simp at h
 | a::as,b::bs,0,v,hl,h=>by simp at h;subst h;exact⟨b,by simp,hl.1⟩
 | a::as,b::bs,i+1,v,hl,h=>by simp at h;simpa using LR_get hl.2 h
 | [],_::_,_,_,hl,_=>hl.elim
 | _::_,[],_,_,hl,_=>hl.elim
theorem LR_drop {r:Value->Value->Prop}:∀{l l':List Value}(i:Nat),LR r l l'->LR r (l.drop i) (l'.drop i)
 | _,_,0,h=>by simpa using h
 | [],[],_+1,_=>by simp[LR]
 | _::_,_::_,i+1,h=>by simpa using LR_drop i h.2
 | [],_::_,_+1,h=>h.elim
 | _::_,[],_+1,h=>h.elim
theorem LR_take {r:Value->Value->Prop}:∀{l l':List Value}(i:Nat),LR r l l'->LR r (l.take i) (l'.take i)
 | _,_,0,_=>by simp[LR]
 | [],[],_+1,_=>by simp[LR]
 | _::_,_::_,i+1,h=>by simpa [LR] using ⟨h.1,LR_take i h.2⟩
 | [],_::_,_+1,h=>h.elim
 | _::_,[],_+1,h=>h.elim
theorem LR_append {r:Value->Value->Prop}:∀{l l' m m':List Value},LR r l l'->LR r m m'->LR r (l++m) (l'++m')
 | [],[],_,_,_,h=>by simpa using h
 | _::_,_::_,_,_,h,h'=>by simpa [LR] using ⟨h.1,LR_append h.2 h'⟩
 | [],_::_,_,_,h,_=>h.elim
 | _::_,[],_,_,h,_=>h.elim
theorem V2_cells {R:Nat->Pl->Prop}{v v':Value}(h:V2 R v v') (ht:∀vs,v≠.tuple vs):LR (V0 R) v.cells.toList v'.cells.toList:=by
 unfold V2 at h
 split at h
 ·exact absurd rfl (ht _)
 ·unfold V1 at h
  split at h
  ·obtain ⟨cs',rfl,hl⟩:=h;exact hl
  ·rename_i hne
   have e1:v.cells=#[v]:=by unfold Value.cells;split<;>first|exact absurd rfl (hne _)|rfl
   have e2:v'.cells=#[v']:=by
    unfold Value.cells
    split
    ·rename_i cs
     unfold V0 at h
     split at h
     ·simp at h
     ·obtain ⟨_,_,h⟩:=h;obtain ⟨_,_,h⟩:=SlOk_sl h;simp at h
     ·exact h.elim
     ·exact h.elim
     ·obtain ⟨_,h,_⟩:=h;simp at h
     ·exact absurd h.symm (hne _)
    ·rfl
   rw[e1,e2];exact⟨h,trivial⟩
def notTup:Value->Bool
 | .tuple _=>false
 | _=>true
theorem notTup_ne {v:Value}(h:notTup v=true):∀vs,v≠.tuple vs:=by
 rintro vs rfl;simp[notTup]at h
theorem V0_one {R:Nat->Pl->Prop}{v v':Value}(h:V0 R v v'):(∀cs,v'≠.agg cs)∧(∀cs,v'≠.tuple cs):=by
 unfold V0 at h
 split at h
 ·obtain ⟨p,b,_,_,rfl⟩:=h;constructor<;>intro cs hc<;>simp at hc
 ·obtain ⟨p,_,h⟩:=h;obtain ⟨_,_,rfl⟩:=SlOk_sl h;constructor<;>intro cs hc<;>simp at hc
 ·exact h.elim
 ·exact h.elim
 ·obtain ⟨_,rfl,_⟩:=h;constructor<;>intro cs hc<;>simp at hc
 ·subst h;constructor<;>intro cs hc<;>simp_all
def LP (R:Nat->Pl->Prop) (cells l:List Value):Prop:=LR (V0 R) cells (l.take cells.length)
section
variable {R:Nat->Pl->Prop}{cells l:List Value}
theorem LP_le (h:LP R cells l):cells.length<=l.length:=by
 have:=LR_len h
 rw[List.length_take]at this
 omega
theorem LP_of (h:LR (V0 R) cells l):LP R cells l:=by
 unfold LP
 rw[LR_len h,List.take_length];exact h
theorem LP_get (h:LP R cells l){i:Nat}{v:Value}(hv:cells[i]?=some v):∃v',l[i]?=some v'∧V0 R v v':=by
 obtain ⟨v',h1,h2⟩:=LR_get h hv
 rw[List.getElem?_take]at h1
 split at h1
 ·exact⟨v',h1,h2⟩
 ·simp at h1
theorem LP_part (h:LP R cells l){off n:Nat}(hle:off+n<=cells.length):LR (V0 R) ((cells.drop off).take n) ((l.drop off).take n):=by
 have:=LR_take n (LR_drop off h)
 rw[List.drop_take,List.take_take,Nat.min_eq_left (by omega)]at this
 exact this
theorem LP_set (h:LP R cells l){off:Nat}{vs vs':List Value}(hv:LR (V0 R) vs vs') (hle:off+vs.length<=cells.length):
  LP R (cells.take off++vs++cells.drop (off+vs.length)) (l.take off++vs'++l.drop (off+vs.length)):=by
 have hl:=LR_len hv
 have hc:=LP_le h
 have a1:=LR_take off h
 rw[List.take_take,Nat.min_eq_left (by omega)]at a1
 have a2:=LR_drop (off+vs.length) h
 rw[List.drop_take]at a2
 unfold LP
 have e:(cells.take off++vs++cells.drop (off+vs.length)).length=cells.length:=by
  simp only[List.length_append,List.length_take,List.length_drop];omega
 have e2:(l.take off++vs'++l.drop (off+vs.length)).take cells.length=l.take off++vs'++(l.drop (off+vs.length)).take (cells.length-(off+vs.length)):=by
  rw[List.take_append,List.take_of_length_le (by simp only[List.length_append,List.length_take];omega)]
  congr 2
  simp only[List.length_append,List.length_take];omega
 rw[e,e2]
 exact LR_append (LR_append a1 hv) a2
theorem LP_nil:LP R [] l:=trivial
theorem LP_mono {R':Nat->Pl->Prop}(h:∀i p,R i p->R' i p) (hl:LP R cells l):LP R' cells l:=LR_mono (fun _ _=>V0_mono h) hl
end
abbrev Glob:=List (Nat×List Value×TypeId)
class Laid (P:Program) where
 rows:Glob
def lay (P:Program) [Laid P]:Glob:=Laid.rows P
def GOk (GL:Glob) (w:World):Prop:=∀x∈GL,∃fz,w.heap[x.1]?=some (.cells x.2.1.toArray x.2.2 fz)
theorem GOk_nil (w:World):GOk [] w:=fun _ h=>by cases h
structure Wb (GL:Glob) where
 w:World
 X:Nat->Prop
 A:Nat->Pl->Prop
structure BelowX {GL:Glob}(w0:Wb GL) (w:World):Prop where
 os:w.os=w0.w.os
 tape:w.tape=w0.w.tape
 output:w.output=w0.w.output
 size:w0.w.heap.size<=w.heap.size
 block:∀k,k<w0.w.heap.size->¬w0.X k->w.heap[k]?=w0.w.heap[k]?
 glob:GOk GL w0.w∧∀x∈GL,¬w0.X x.1
theorem BelowX.refl {GL:Glob}(w:World) (X:Nat->Prop) (A:Nat->Pl->Prop) (h:GOk GL w) (hX:∀x∈GL,¬X x.1):BelowX (⟨w,X,A⟩:Wb GL) w:=⟨rfl,rfl,rfl,Nat.le_refl _,fun _ _ _=>rfl,h,hX⟩
theorem BelowX.trans {GL:Glob}{w0:Wb GL}{w w':World}(h:BelowX w0 w) (k:RowKit.Below w.heap.size w w'):BelowX w0 w':=
 ⟨k.os.trans h.os,k.tape.trans h.tape,k.output.trans h.output,Nat.le_trans h.size k.size,fun i hi hx=>(k.block i (Nat.lt_of_lt_of_le hi h.size)).trans (h.block i hi hx),h.glob⟩
theorem BelowX.below {GL:Glob}{w0:Wb GL}{w:World}(h:BelowX w0 w) (hX:∀k,¬w0.X k):RowKit.Below w0.w.heap.size w0.w w:=
 ⟨h.os,h.tape,h.output,h.size,fun k hk=>h.block k hk (hX k)⟩
def roomOk (i:Nat) (c:Cells) (p:Pl) (size:Nat):Prop:=
 match c with
 | .row ks _ _=>loose i=true->p.c≠0->p.d+p.c*ks.length<=size
 | .lst _=>loose i=true->p.c≠0->p.d+p.c<=size
 | _=>True
def FzOk (fz:Nat×Nat) (n:Nat):Prop:=fz=(0,0)∨n<=fz.1
theorem FzOk.zero {n:Nat}:FzOk (0,0) n:=.inl rfl
theorem FzOk.of {fz:Nat×Nat}{n m:Nat}(h:FzOk fz n) (e:m=n):FzOk fz m:=e▸h
theorem FzOk.free {fz:Nat×Nat}{n i:Nat}(h:FzOk fz n) (hi:i<n):(decide (fz.1<=i)&&decide (i<fz.2))=false:=by
 rcases h with rfl|h
 ·simp
 ·rw[decide_eq_false (by omega),Bool.false_and]
def ContOk {GL:Glob}(w0:Wb GL) (R:Nat->Pl->Prop) (w:World) (i:Nat) (blk:Blk):Prop:=
 ∃p,R i p∧(match p.a with
  | none=>blk.cells.list=[]
  | some b=>∃cs fz,w.heap[b]?=some (.cells cs blk.elem fz)∧LP R blk.cells.list (cs.toList.drop p.d)∧(blk.own=true->FzOk fz cs.size∧(w0.X b∨w0.w.heap.size<=b)∧roomOk i blk.cells p cs.size))
def Frz (R:Nat->Pl->Prop) (b:Nat):Prop:=R (1000000000+b) ⟨some b,0,0⟩
def RowAt (R:Nat->Pl->Prop) (w:World) (e:TypeId) (ks:List CK) (m:Nat) (f:Nat->List Value) (v:Value):Prop:=
 (m=0∧Emp v)∨∃b d c cs fz,v=.slice (some ⟨b,d,none⟩) m c∧m<=c∧Frz R b∧w.heap[b]?=some (.cells cs e fz)∧(cs.toList.drop d).take (m*ks.length)=rowL ks f 0 m
def FamAt (R:Nat->Pl->Prop) (w:World) (ks:List CK) (n:Nat) (es:Nat->TypeId) (g:Nat->Nat×(Nat->List Value)) (cs:List Value) (d:Nat):Prop:=
 ∀j,j<n->∃v,cs[d+j]?=some v∧RowAt R w (es j) ks (g j).1 (g j).2 v
def FamOk {GL:Glob}(w0:Wb GL) (R:Nat->Pl->Prop) (w:World) (i:Nat) (e:TypeId) (own:Bool) (ks:List CK) (n:Nat) (es:Nat->TypeId) (g:Nat->Nat×(Nat->List Value)):Prop:=
 ∃p,R i p∧(match p.a with
  | none=>n=0
  | some b=>∃cs fz,w.heap[b]?=some (.cells cs e fz)∧FamAt R w ks n es g cs.toList p.d∧(own=false->Frz R b)∧(own=true->fz=(0,0)∧(w0.X b∨w0.w.heap.size<=b)∧(p.c≠0->p.d+p.c<=cs.size)∧∀j,j<n->∀v,cs.toList[p.d+j]?=some v->((g j).1=0∧Emp v)∨∃bl d m c,v=.slice (some ⟨bl,d,none⟩) m c∧(w0.X bl∨w0.w.heap.size<=bl)))
theorem RowAt.mono {R R':Nat->Pl->Prop}{w w':World}{e:TypeId}{ks:List CK}{m:Nat}{f:Nat->List Value}{v:Value}(h:RowAt R w e ks m f v) (hR:∀i p,R i p->R' i p) (hw:∀b,Frz R b->w'.heap[b]?=w.heap[b]?):RowAt R' w' e ks m f v:=by
 rcases h with h|⟨b,d,c,cs,fz,h1,h2,h3,h4,h5⟩
 ·exact .inl h
 ·exact .inr ⟨b,d,c,cs,fz,h1,h2,hR _ _ h3,by rw[hw b h3];exact h4,h5⟩
theorem FamAt.mono {R R':Nat->Pl->Prop}{w w':World}{ks:List CK}{n:Nat}{es:Nat->TypeId}{g:Nat->Nat×(Nat->List Value)}{cs:List Value}{d:Nat}(h:FamAt R w ks n es g cs d) (hR:∀i p,R i p->R' i p) (hw:∀b,Frz R b->w'.heap[b]?=w.heap[b]?):FamAt R' w' ks n es g cs d:=by
 intro j hj
 obtain ⟨v,h1,h2⟩:=h j hj
 exact⟨v,h1,h2.mono hR hw⟩
theorem FamOk.mono {GL:Glob}{w0:Wb GL}{R R':Nat->Pl->Prop}{w w':World}{i:Nat}{e:TypeId}{own:Bool}{ks:List CK}{n:Nat}{es:Nat->TypeId}{g:Nat->Nat×(Nat->List Value)}(h:FamOk w0 R w i e own ks n es g) (hR:∀i p,R i p->R' i p) (hw:∀b,Frz R b->w'.heap[b]?=w.heap[b]?) (ho:own=true->∀p b,R i p->p.a=some b->w'.heap[b]?=w.heap[b]?):FamOk w0 R' w' i e own ks n es g:=by
 obtain ⟨p,h1,h2⟩:=h
 refine⟨p,hR _ _ h1,?_⟩
 cases hpa:p.a with
 | none=>rw[hpa]at h2;exact h2
 | some b=>
  rw[hpa]at h2
  obtain ⟨cs,fz,h3,h4,h5,h6⟩:=h2
  refine⟨cs,fz,?_,h4.mono hR hw,fun hf=>hR _ _ (h5 hf),h6⟩
  cases own with
  | false=>rw[hw b (h5 rfl)];exact h3
  | true=>rw[ho rfl p b h1 hpa];exact h3
def ItrOk {GL:Glob}(w0:Wb GL) (R:Nat->Pl->Prop) (w:World) (i:Nat) (s:ByteArray) (pos:Nat) (own:Bool):Prop:=
 ∃b,R i ⟨some b,0,0⟩∧w.heap[b]?=some (.stringIter s pos)∧w0.w.heap.size<=b∧own=true
def MemOk {GL:Glob}(w0:Wb GL) (R:Nat->Pl->Prop) (w:World) (i:Nat) (blk:Blk):Prop:=
 match blk.cells with
 | .elt j k sz=>∃p q b,R j p∧R i q∧p.a=some b∧q.a=some b∧q.d=p.d+k*sz∧blk.own=false
 | .tail j l cnt sz=>∃p q,R j p∧R i q∧(cnt=0∨(q.a=p.a∧q.d=p.d+l*sz∧q.c+l<=p.c))∧blk.own=false
 | .fam ks n es g=>FamOk w0 R w i blk.elem blk.own ks n es g
 | .itr s pos=>ItrOk w0 R w i s pos blk.own
 | _=>ContOk w0 R w i blk
theorem ItrOk.mono {GL:Glob}{w0:Wb GL}{R R':Nat->Pl->Prop}{w w':World}{i:Nat}{s:ByteArray}{pos:Nat}{own:Bool}(h:ItrOk w0 R w i s pos own) (hR:∀i p,R i p->R' i p) (hw:∀b,R i ⟨some b,0,0⟩->w'.heap[b]?=w.heap[b]?):ItrOk w0 R' w' i s pos own:=by
 obtain ⟨b,h1,h2,h3,h4⟩:=h
 exact⟨b,hR _ _ h1,by rw[hw b h1];exact h2,h3,h4⟩
def ThereOk (fm:Nat->Option Blk) (w:World) (i b:Nat):Prop:=(∃cs e fz,w.heap[b]?=some (.cells cs e fz))∨∃s pos,loose i=false∧fm i=some ⟨.itr s pos,0,true⟩∧w.heap[b]?=some (.stringIter s pos)
theorem ThereOk.mono {fm fm':Nat->Option Blk}{w w':World}{i b:Nat}(h:ThereOk fm w i b) (hf:∀s pos,fm i=some ⟨.itr s pos,0,true⟩->fm' i=fm i) (hw:w'.heap[b]?=w.heap[b]?):ThereOk fm' w' i b:=by
 rcases h with⟨cs,e,fz,h⟩|⟨s,pos,h0,h1,h2⟩
 ·exact .inl ⟨cs,e,fz,by rw[hw];exact h⟩
 ·exact .inr ⟨s,pos,h0,by rw[hf s pos h1];exact h1,by rw[hw];exact h2⟩
theorem ThereOk.cells {fm:Nat->Option Blk}{w:World}{i b:Nat}(h:ThereOk fm w i b) (hn:∀s pos,fm i≠some ⟨.itr s pos,0,true⟩):∃cs e fz,w.heap[b]?=some (.cells cs e fz):=by
 rcases h with h|⟨s,pos,_,h1,_⟩
 ·exact h
 ·exact absurd h1 (hn s pos)
theorem ThereOk.loose {fm:Nat->Option Blk}{w:World}{i b:Nat}(h:ThereOk fm w i b) (hl:loose i=true):∃cs e fz,w.heap[b]?=some (.cells cs e fz):=by
 rcases h with h|⟨s,pos,h0,_,_⟩
 ·exact h
 ·rw[hl]at h0;simp at h0
def weak (b:Blk):Prop:=b.own=false∧b.cells.list=[]
structure MRel {GL:Glob}(w0:Wb GL) (R:Nat->Pl->Prop) (fm:Nat->Option Blk) (w:World):Prop where
 below:BelowX w0 w
 func:∀i p p',R i p->R i p'->p=p'
 inj:∀i j p q b,R i p->R j q->p.a=some b->q.a=some b->i≠j->∀blk,fm i=some blk->blk.own=true->∀blk',fm j=some blk'->weak blk'
 mem:∀i blk,fm i=some blk->MemOk w0 R w i blk
 dom:∀i p,R i p->i<1000000000->(fm i).isSome=true
 anc:∀i p,R i p->1000000<=i->i<1000000000->w0.A i p
 there:∀i p b,R i p->p.a=some b->ThereOk fm w i b
 fro:∀i p,R i p->1000000000<=i->p=⟨some (i-1000000000),0,0⟩∧∀j q,R j q->q.a=p.a->∀blk,fm j=some blk->blk.own=false
theorem heap_lt {w:World}{b:Nat}{o:Obj}(h:w.heap[b]?=some o):b<w.heap.size:=by
 rcases Nat.lt_or_ge b w.heap.size with hlt|hge
 ·exact hlt
 ·rw[Array.getElem?_eq_none hge]at h;simp at h
theorem MRel.lt {GL:Glob}{w0:Wb GL}{R:Nat->Pl->Prop}{fm:Nat->Option Blk}{w:World}(h:MRel w0 R fm w){i:Nat}{p:Pl}{b:Nat}(h1:R i p) (h2:p.a=some b):b<w.heap.size:=by
 rcases h.there i p b h1 h2 with⟨_,_,_,h3⟩|⟨_,_,_,_,h3⟩<;>exact heap_lt h3
theorem MRel.frz_lt {GL:Glob}{w0:Wb GL}{R:Nat->Pl->Prop}{fm:Nat->Option Blk}{w:World}(h:MRel w0 R fm w){b:Nat}(hb:Frz R b):b<w.heap.size:=h.lt hb rfl
theorem MRel.frz_own {GL:Glob}{w0:Wb GL}{R:Nat->Pl->Prop}{fm:Nat->Option Blk}{w:World}(h:MRel w0 R fm w){b:Nat}(hb:Frz R b){j:Nat}{q:Pl}(hj:R j q) (hq:q.a=some b){blk:Blk}(hblk:fm j=some blk):blk.own=false:=
 (h.fro _ _ hb (Nat.le_add_right _ _)).2 j q hj hq blk hblk
theorem BelowX.gok {GL:Glob}{w0:Wb GL}{w:World}(h:BelowX w0 w):GOk GL w:=by
 intro x hx
 obtain ⟨fz,h1⟩:=h.glob.1 x hx
 exact⟨fz,by rw[h.block _ (heap_lt h1) (h.glob.2 x hx)];exact h1⟩
structure Rel {GL:Glob}(w0:Wb GL) (n:Nat) (R:Nat->Pl->Prop) (S:FS) (a:Act) (w:World):Prop where
 defers:a.defers=[]
 size:a.tmps.size=n
 slot:∀t v,S.fs t=some v->∃v',a.tmps[t]?=some v'∧V2 R v v'
 m:MRel w0 R S.fm w
theorem MRel.toR {GL:Glob}{w0:Wb GL}{n:Nat}{R:Nat->Pl->Prop}{S:FS}{a:Act}{w:World}(h:MRel w0 R S.fm w) (h1:a.defers=[]) (h2:a.tmps.size=n) (h3:∀t v,S.fs t=some v->∃v',a.tmps[t]?=some v'∧V2 R v v'):Rel w0 n R S a w:=⟨h1,h2,h3,h⟩
theorem nrmK_len (ks:List CK):∀l,(nrmK ks l).length=ks.length:=by
 induction ks with
 | nil=>intro l;rfl
 | cons k ks ih=>intro l;simp[nrmK,ih]
theorem rowL_len (ks:List CK) (f:Nat->List Value):∀n lo,(rowL ks f lo n).length=n*ks.length
 | 0,_=>by simp[rowL]
 | n+1,lo=>by simp[rowL,rowL_len ks f n,nrmK_len,Nat.add_mul,Nat.add_comm]
theorem nrm1_pl (k:CK) (v:Value):pl0 (nrm1 k v)=true:=by cases k<;>rfl
theorem nrmK_pl (ks:List CK):∀l,(nrmK ks l).all pl0=true:=by
 induction ks with
 | nil=>intro l;rfl
 | cons k ks ih=>intro l;simp only[nrmK,List.all_cons,nrm1_pl,ih,Bool.and_self]
theorem rowL_pl (ks:List CK) (f:Nat->List Value):∀n lo,(rowL ks f lo n).all pl0=true
 | 0,_=>rfl
 | n+1,lo=>by simp only[rowL,List.all_append,nrmK_pl,rowL_pl ks f n,Bool.and_self]
theorem rowL_drop (ks:List CK) (f:Nat->List Value):∀(j n lo:Nat),j<=n->(rowL ks f lo n).drop (j*ks.length)=rowL ks f (lo+j) (n-j)
 | 0,n,lo,_=>by simp
 | j+1,n+1,lo,h=>by
  rw[show(j+1)*ks.length=ks.length+j*ks.length from by rw[Nat.add_mul,Nat.one_mul,Nat.add_comm],rowL,<-List.drop_drop,List.drop_left' (nrmK_len ks _),rowL_drop ks f j n (lo+1) (by omega)]
  congr 1<;>omega
 | j+1,0,lo,h=>by omega
theorem rowL_take (ks:List CK) (f:Nat->List Value):∀(j n lo:Nat),j<=n->(rowL ks f lo n).take (j*ks.length)=rowL ks f lo j
 | 0,n,lo,_=>by simp[rowL]
 | j+1,n+1,lo,h=>by
  rw[show(j+1)*ks.length=ks.length+j*ks.length from by rw[Nat.add_mul,Nat.one_mul,Nat.add_comm],rowL,rowL,List.take_append,nrmK_len,List.take_of_length_le (by rw[nrmK_len];omega),show ks.length+j*ks.length-ks.length=j*ks.length from by omega,rowL_take ks f j n (lo+1) (by omega)]
 | j+1,0,lo,h=>by omega
theorem rowL_congr (ks:List CK){f g:Nat->List Value}:∀(n lo:Nat),(∀j,lo<=j->j<lo+n->nrmK ks (f j)=nrmK ks (g j))->rowL ks f lo n=rowL ks g lo n
 | 0,_,_=>rfl
 | n+1,lo,h=>by
  rw[rowL,rowL,h lo (by omega) (by omega),rowL_congr ks n (lo+1) (fun j h1 h2=>h j (by omega) (by omega))]
theorem rowL_shift (ks:List CK) (f:Nat->List Value) (s:Nat):∀(n lo:Nat),rowL ks (fun j=>f (s+j)) lo n=rowL ks f (s+lo) n
 | 0,_=>rfl
 | n+1,lo=>by rw[rowL,rowL,rowL_shift ks f s n (lo+1)];rfl
theorem rowL_append (ks:List CK) (f:Nat->List Value):∀(n m lo:Nat),rowL ks f lo (n+m)=rowL ks f lo n++rowL ks f (lo+n) m
 | 0,m,lo=>by simp[rowL]
 | n+1,m,lo=>by
  rw[show n+1+m=n+m+1 from by omega,rowL,rowL,rowL_append ks f n m (lo+1),List.append_assoc,show lo+1+n=lo+(n+1) from by omega]
end Go.W

namespace Go.W
universe u
structure TInf where
 und:TypeDesc
 siz:Nat
 zer:Value
 st:Bool
 flds:List (Nat×Nat)
 eqk:List CK
 byt:Nat
abbrev Tab:=List (Nat×TInf)
inductive Ent:Type 1 where
 | pl (F:List Value->Option (Bool×Value))
 | me (F:List Value->(Nat->Option Blk)->Nat->List (Bool×Value×List (Nat×Blk)))
 | gl (ks:List CK) (n:Nat) (f:Nat->List Value) (e:TypeId)
 | il (F:(R:Type)->List Value->(Nat->Option Blk)->List Nat->Nat->(Value->List (Nat×Blk)->R)->R->R)
  (nat:∀(R R':Type) (h:R->R') vs mm rd id k f,h (F R vs mm rd id k f)=F R' vs mm rd id (fun v l=>h (k v l)) (h f))
instance:Coe (List Value->Option (Bool×Value)) Ent:=⟨Ent.pl⟩
instance:Coe (List Value->(Nat->Option Blk)->Nat->List (Bool×Value×List (Nat×Blk))) Ent:=⟨Ent.me⟩
abbrev Sums:=List (Nat×Ent)
def nmem (d:Nat):List Nat->Bool
 | []=>false
 | x::l=>Nat.beq x d||nmem d l
theorem nmem_iff {d:Nat}{l:List Nat}:nmem d l=true↔d∈l:=by
 induction l with
 | nil=>simp[nmem]
 | cons x l ih=>
  simp only[nmem,Bool.or_eq_true,ih,nbeq,List.mem_cons]
  exact⟨fun h=>h.elim (fun e=>.inl e.symm) .inr,fun h=>h.elim (fun e=>.inl e.symm) .inr⟩
def idsV00:Value->List Nat
 | .pointer (some a)=>[a.block]
 | .slice (some a) _ _=>[a.block]
 | _=>[]
def idsV0:Value->List Nat
 | .pointer (some a)=>[a.block]
 | .slice (some a) _ _=>[a.block]
 | .iface _ x=>x.cells.toList.flatMap idsV00
 | _=>[]
def idsV:Value->List Nat
 | .agg cs=>cs.toList.flatMap idsV0
 | v=>idsV0 v
def idsC:Cells->List Nat
 | .lst l=>l.flatMap idsV0
 | .row _ _ _=>[]
 | .elt i _ _=>[i]
 | .tail i _ _ _=>[i]
 | .fam _ _ _ _=>[]
 | .itr _ _=>[]
def nextI (mm:Nat->Option Blk) (l:List Nat):List Nat:=
 l.flatMap fun b=>match mm b with
  | some blk=>idsC blk.cells
  | none=>[]
def reach (mm:Nat->Option Blk) (l:List Nat):List Nat:=l++(nextI mm l++(nextI mm (nextI mm l)++nextI mm (nextI mm (nextI mm l))))
def restr (mm:Nat->Option Blk) (l:List Nat) (b:Nat):Option Blk:=bif nmem b l then mm b else none
theorem nextI_congr {mm mm':Nat->Option Blk}{l:List Nat}(h:∀b∈l,mm' b=mm b):nextI mm' l=nextI mm l:=by
 unfold nextI
 induction l with
 | nil=>rfl
 | cons b l ih=>
  simp only[List.flatMap_cons,h b (by simp)]
  rw[ih fun c hc=>h c (by simp[hc])]
theorem reach_congr {mm mm':Nat->Option Blk}{l:List Nat}(h:∀b∈reach mm l,mm' b=mm b):reach mm' l=reach mm l:=by
 unfold reach at h ⊢
 have h1:nextI mm' l=nextI mm l:=nextI_congr fun b hb=>h b (by simp[hb])
 have h2:nextI mm' (nextI mm l)=nextI mm (nextI mm l):=nextI_congr fun b hb=>h b (by simp[hb])
 rw[h1,h2,nextI_congr (l:=nextI mm (nextI mm l)) fun b hb=>h b (by simp[hb])]
theorem restr_congr {mm mm':Nat->Option Blk}{l:List Nat}(h:∀b∈l,mm' b=mm b):restr mm' l=restr mm l:=by
 funext b
 unfold restr
 cases hb:nmem b l with
 | false=>rfl
 | true=>exact h b (nmem_iff.1 hb)
section
variable {R:Type}
def oK {α:Type u}(o:Option α) (k:α->R) (f:R):R:=
 match o with
 | some a=>k a
 | none=>f
def boolK (v:Value) (k:Bool->R) (f:R):R:=
 match v with
 | .bool b=>k b
 | _=>f
def intK (v:Value) (k:IntKind->Int->R) (f:R):R:=
 match v with
 | .int kd n=>k kd n
 | _=>f
def ptrK (v:Value) (k:Nat->Nat->R) (f:R):R:=
 match v with
 | .pointer (some ⟨b,off,none⟩)=>k b off
 | _=>f
def sliceK (v:Value) (k:Nat->Nat->Nat->Nat->R) (f:R):R:=
 match v with
 | .slice (some ⟨b,off,none⟩) n c=>k b off n c
 | _=>f
def aggK (v:Value) (k:List Value->R) (f:R):R:=
 match v with
 | .agg cs=>k cs.toList
 | _=>f
def tupK (v:Value) (k:List Value->R) (f:R):R:=
 match v with
 | .tuple cs=>k cs.toList
 | _=>f
def strK (v:Value) (k:ByteArray->R) (f:R):R:=
 match v with
 | .string s=>k s
 | _=>f
def descK (i:TInf) (arr:Nat->Nat->R) (slc:Nat->R) (int:IntKind->R) (bool str:R) (f:R):R:=
 bif i.st then f else
 match i.und with
 | .array n e=>arr n e
 | .slice e=>slc e
 | .int kd=>int kd
 | .bool=>bool
 | .string=>str
 | _=>f
def inR (i:Int) (len:Nat):Bool:=decide (0<=i)&&decide (i<(len:Int))
def isAggT (i:TInf):Bool:=
 i.st||(match i.und with
  | .struct _=>true
  | .array _ _=>true
  | _=>false)
def isStrT (i:TInf):Bool:=
 match i.und with
 | .string=>!i.st
 | _=>false
def strsK:List Value->Bool
 | []=>true
 | .string _::l=>strsK l
 | _::_=>false
def partK (i:TInf) (cells:List Value) (off:Nat) (k:Value->R) (f:R):R:=
 bif isAggT i then (bif Nat.ble (off+i.siz) cells.length then k (.agg ((cells.drop off).take i.siz).toArray) else f)
 else bif isStrT i&&strsK cells then (bif Nat.blt off cells.length then k (.string (toS (cells.getD off (.bool false)))) else f)
 else oK cells[off]? k f
def binI (op:BinOp) (kx:IntKind) (a:Int) (ky:IntKind) (b:Int) (k:Value->R) (f:R):R:=
 match op with
 | .shl=>bif decide (b<0) then f else k (.int kx (kx.wrap (a*2^(min b.toNat kx.bits))))
 | .shr=>bif decide (b<0) then f else k (.int kx (a.fdiv (2^(min b.toNat kx.bits))))
 | .add=>bif decide (kx=ky) then k (.int kx (kx.wrap (a+b))) else f
 | .sub=>bif decide (kx=ky) then k (.int kx (kx.wrap (a-b))) else f
 | .mul=>bif decide (kx=ky) then k (.int kx (kx.wrap (a*b))) else f
 | .quo=>bif decide (kx=ky) then (bif decide (b=0) then f else k (.int kx (kx.wrap (a.tdiv b)))) else f
 | .rem=>bif decide (kx=ky) then (bif decide (b=0) then f else k (.int kx (a.tmod b))) else f
 | .and=>bif decide (kx=ky) then k (.int kx (kx.wrap (BitVec.ofInt kx.bits a &&& BitVec.ofInt kx.bits b).toNat)) else f
 | .or=>bif decide (kx=ky) then k (.int kx (kx.wrap (BitVec.ofInt kx.bits a ||| BitVec.ofInt kx.bits b).toNat)) else f
 | .xor=>bif decide (kx=ky) then k (.int kx (kx.wrap (BitVec.ofInt kx.bits a ^^^ BitVec.ofInt kx.bits b).toNat)) else f
 | .andNot=>bif decide (kx=ky) then k (.int kx (kx.wrap (BitVec.ofInt kx.bits a &&& ~~~ (BitVec.ofInt kx.bits b)).toNat)) else f
 | .eql=>bif decide (kx=ky) then k (.bool (a==b)) else f
 | .neq=>bif decide (kx=ky) then k (.bool (a != b)) else f
 | .lss=>bif decide (kx=ky) then k (.bool (decide (a<b))) else f
 | .leq=>bif decide (kx=ky) then k (.bool (decide (a<=b))) else f
 | .gtr=>bif decide (kx=ky) then k (.bool (decide (a > b))) else f
 | .geq=>bif decide (kx=ky) then k (.bool (decide (a>=b))) else f
def eqL:List Value->List Value->Bool
 | .int _ a::xs,.int _ b::ys=>(a==b)&&eqL xs ys
 | .bool a::xs,.bool b::ys=>(a==b)&&eqL xs ys
 | .string a::xs,.string b::ys=>(a==b)&&eqL xs ys
 | _,_=>true
def isCK:CK->Value->Bool
 | .i kd,.int k _=>decide (k=kd)
 | .b,.bool _=>true
 | .s,.string _=>true
 | _,_=>false
def fitsK:List CK->List Value->Bool
 | [],[]=>true
 | k::ks,v::vs=>isCK k v&&fitsK ks vs
 | _,_=>false
def eqA (T:Tab) (t:Nat) (xs ys:List Value) (k:Bool->R) (f:R):R:=
 oK (look T t) (fun i=>bif i.eqk.isEmpty then f else bif isAggT i&&fitsK i.eqk xs&&fitsK i.eqk ys then k (eqL xs ys) else f) f
def eqOpK (op:BinOp) (b:Bool) (k:Value->R) (f:R):R:=
 match op with
 | .eql=>k (.bool b)
 | .neq=>k (.bool (!b))
 | _=>f
def addTx (op:BinOp) (a b:ByteArray) (k:Value->R) (f:R):R:=
 match op with
 | .add=>bif Nat.ble (a.size+b.size) 9223372036854775807 then k (.string (a++b)) else f
 | .eql=>k (.bool (a==b))
 | .neq=>k (.bool (!(a==b)))
 | _=>f
def anyT (i:TInf):Bool:=!i.st&&(match i.und with
 | .interface ms=>ms.isEmpty
 | _=>false)
def conT (i:TInf):Bool:=i.st||(match i.und with
 | .interface _=>false
 | _=>true)
def ifcB (x y:Value) (k:Bool->R) (f:R):R:=
 match x,y with
 | .nilIface,.nilIface=>k true
 | .nilIface,.iface _ _=>k false
 | .iface _ _,.nilIface=>k false
 | _,_=>f
def ifcK (T:Tab) (op:BinOp) (t:Nat) (x y:Value) (k:Value->R) (f:R):R:=
 ifcB x y (fun b=>oK (look T t) (fun i=>bif anyT i then eqOpK op b k f else f) f) f
def binK (T:Tab) (op:BinOp) (t:Nat) (x y:Value) (k:Value->R) (f:R):R:=
 intK x (fun kx a=>intK y (fun ky b=>binI op kx a ky b k f) f)
  (boolK x (fun a=>boolK y (fun b=>oK (look T t) (fun i=>descK i (fun _ _=>f) (fun _=>f) (fun _=>f) (eqOpK op (a==b) k f) f f) f) f)
   (aggK x (fun xs=>aggK y (fun ys=>eqA T t xs ys (fun b=>eqOpK op b k f) f) f) (strK x (fun a=>strK y (fun b=>addTx op a b k f) f) (ifcK T op t x y k f))))
def unI (op:UnOp) (kd:IntKind) (n:Int) (k:Value->R) (f:R):R:=
 match op with
 | .neg=>k (.int kd (kd.wrap (0-n)))
 | .xor=>k (.int kd (kd.wrap (BitVec.ofInt kd.bits (if kd.signed then -1 else kd.max) ^^^ BitVec.ofInt kd.bits n).toNat))
 | _=>f
def unB (op:UnOp) (b:Bool) (k:Value->R) (f:R):R:=
 match op with
 | .not=>k (.bool (!b))
 | _=>f
def unK (op:UnOp) (x:Value) (k:Value->R) (f:R):R:=
 intK x (fun kd n=>unI op kd n k f) (boolK x (fun b=>unB op b k f) f)
def fillK (place:Nat->Option (Nat×Nat)):List (Nat×Value)->List Value->(List Value->R)->R->R
 | [],cells,k,_=>k cells
 | p::rest,cells,k,f=>
  oK (place p.1) (fun q=>bif notTup p.2&&Nat.beq p.2.cells.toList.length q.2&&Nat.ble (q.1+q.2) cells.length
   then fillK place rest (cells.take q.1++p.2.cells.toList++cells.drop (q.1+q.2)) k f else f) f
def evsK (ev:Operand->Option Value):List Operand->(List Value->R)->R->R
 | [],k,_=>k []
 | x::r,k,f=>oK (ev x) (fun v=>evsK ev r (fun vs=>k (v::vs)) f) f
def partsK (ev:Operand->Option Value):List (Nat×Operand)->(List (Nat×Value)->R)->R->R
 | [],k,_=>k []
 | x::r,k,f=>oK (ev x.2) (fun v=>partsK ev r (fun vs=>k ((x.1,v)::vs)) f) f
def val (v:Value):Res:=⟨v,[],[]⟩
def optK (ev:Operand->Option Value) (o:Option Operand) (k:Option Value->R) (f:R):R:=
 match o with
 | none=>k none
 | some x=>oK (ev x) (fun v=>k (some v)) f
def noneK (o:Option Operand) (x f:R):R:=
 match o with
 | none=>x
 | some _=>f
def lowK (h:Nat) (lo:Option Value) (k:Nat->R) (f:R):R:=
 match lo with
 | none=>k 0
 | some l=>intK l (fun _ i=>bif decide (0<=i)&&decide (i<=(h:Int)) then k i.toNat else f) f
def highK (len cap:Nat) (hi:Option Value) (k:Nat->R) (f:R):R:=
 match hi with
 | none=>k len
 | some h=>intK h (fun _ j=>bif decide (0<=j)&&decide (j<=(cap:Int)) then k j.toNat else f) f
def zOpt (o:Option Value):Bool:=
 match o with
 | none=>true
 | some v=>(match v with
  | .int _ x=>decide (x=0)
  | _=>false)
def placeOf (T:Tab) (i:TInf) (m:Nat):Option (Nat×Nat):=(i.flds[m]?).bind fun fl=>(look T fl.2).map fun j=>(fl.1,j.siz)
def nid (id k:Nat):Nat:=500000+(8*id+k)
structure Acc where
 cells:List Value
 own:Bool
 put:List Value->Nat×Blk
 ok:List Value->Bool
 rd:List Nat
def updR (f:Nat->List Value) (j:Nat) (l:List Value):Nat->List Value:=fun x=>bif Nat.beq x j then l else f x
structure Seg where
 base:Nat
 start:Nat
 cnt:Nat
 ks:List CK
 n:Nat
 f:Nat->List Value
 elem:TypeId
 own:Bool
 rd:List Nat
def segK (mm:Nat->Option Blk) (b:Nat) (k:Seg->R) (f:R):R:=
 oK (mm b) (fun blk=>match blk.cells with
  | .row ks n g=>k ⟨b,0,n,ks,n,g,blk.elem,blk.own,[b]⟩
  | .tail i l cnt sz=>oK (mm i) (fun base=>match base.cells with
   | .row ks n g=>bif Nat.beq ks.length sz&&Nat.ble (l+cnt) n then k ⟨i,l,cnt,ks,n,g,base.elem,base.own,[b,i]⟩ else f
   | .tail i2 l2 cnt2 sz2=>oK (mm i2) (fun base2=>match base2.cells with
    | .row ks n g=>bif Nat.beq ks.length sz&&Nat.beq sz2 sz&&Nat.ble (l+cnt) cnt2&&Nat.ble (l2+cnt2) n then k ⟨i2,l2+l,cnt,ks,n,g,base2.elem,base2.own,[b,i,i2]⟩ else f
    | _=>f) f
   | _=>f) f
  | _=>f) f
def accK (mm:Nat->Option Blk) (b:Nat) (k:Acc->R) (f:R):R:=
 oK (mm b) (fun blk=>match blk.cells with
  | .lst l=>k ⟨l,blk.own,fun l'=>(b,⟨.lst l',blk.elem,blk.own⟩),fun _=>true,[b]⟩
  | .elt i j sz=>segK mm i (fun s=>bif Nat.blt j s.cnt&&Nat.beq s.ks.length sz then
    k ⟨nrmK s.ks (s.f (s.start+j)),s.own,fun l'=>(s.base,⟨.row s.ks s.n (updR s.f (s.start+j) l'),s.elem,s.own⟩),fitsK s.ks,b::s.rd⟩ else f) f
  | _=>segK mm b (fun s=>k ⟨rowL s.ks s.f s.start s.cnt,false,fun l'=>(b,⟨.lst l',0,false⟩),fun _=>false,s.rd⟩) f) f
def cellK (mm:Nat->Option Blk) (b off:Nat) (k:CK->Seg->R) (f:R):R:=
 segK mm b (fun s=>match s.ks with
  | [c]=>bif Nat.blt off s.cnt then k c s else f
  | _=>f) f
def ckEq:CK->CK->Bool
 | .i k,.i k'=>decide (k=k')
 | .b,.b=>true
 | .s,.s=>true
 | _,_=>false
def ksEq:List CK->List CK->Bool
 | [],[]=>true
 | x::l,y::m=>ckEq x y&&ksEq l m
 | _,_=>false
def repK:Nat->List CK->List CK
 | 0,_=>[]
 | n+1,l=>l++repK n l
structure Src where
 n:Nat
 g:Nat->List Value
 rd:List Nat
def lstF (l:List Value) (off sz:Nat):Nat->List Value:=fun j=>(l.drop (off+j*sz)).take sz
def segF (s:Seg):Nat->List Value:=fun j=>nrmK s.ks (s.f (s.start+j))
def strF (s:ByteArray):Nat->List Value:=fun j=>[.int .u8 ((s.data.toList.getD j 0).toNat:Int)]
def srcK (mm:Nat->Option Blk) (ks:List CK) (v:Value) (k:Src->R) (f:R):R:=
 match v with
 | .slice none n _=>bif Nat.beq n 0 then k ⟨0,fun _=>[],[]⟩ else f
 | .slice (some ⟨b,off,none⟩) n _=>oK (mm b) (fun blk=>match blk.cells with
  | .lst l=>bif Nat.ble (off+n*ks.length) l.length&&fitsK (repK n ks) ((l.drop off).take (n*ks.length)) then k ⟨n,lstF l off ks.length,[b]⟩ else f
  | .elt _ _ _=>accK mm b (fun A=>bif Nat.ble (off+n*ks.length) A.cells.length&&fitsK (repK n ks) ((A.cells.drop off).take (n*ks.length)) then k ⟨n,lstF A.cells off ks.length,A.rd⟩ else f) f
  | _=>segK mm b (fun s=>bif Nat.beq off 0&&Nat.ble n s.cnt&&ksEq s.ks ks then k ⟨n,segF s,s.rd⟩ else f) f) f
 | .string s=>bif ksEq ks [.i .u8] then k ⟨s.size,strF s,[]⟩ else f
 | _=>f
def appF (m:Nat) (f g:Nat->List Value):Nat->List Value:=fun j=>bif Nat.blt j m then f j else g (j-m)
def cpyF (f:Nat->List Value) (s m:Nat) (g:Nat->List Value):Nat->List Value:=fun j=>bif Nat.ble s j&&Nat.blt j (s+m) then g (j-s) else f j
def ksOk (j:TInf):Bool:=!(j.eqk.isEmpty)&&Nat.beq j.eqk.length j.siz&&!(Nat.beq j.byt 0)&&Nat.beq j.zer.cells.toList.length j.siz
def szOk (n byt:Nat):Bool:=Nat.ble (n*byt) 140737488355328
def elemK (T:Tab) (t:Nat) (k:Nat->TInf->R) (f:R):R:=
 oK (look T t) (fun i=>descK i (fun _ _=>f) (fun e=>oK (look T e) (fun j=>bif ksOk j then k e j else f) f) (fun _=>f) f f f) f
def copyK (T:Tab) (t:Nat) (d s:Value) (mm:Nat->Option Blk) (k:Res->R) (f:R):R:=
 sliceK d (fun b off n _=>elemK T t (fun _ j=>srcK mm j.eqk s (fun q=>oK (mm b) (fun blk=>match blk.cells with
  | .lst l=>bif blk.own&&Nat.ble (off+min q.n n*j.siz) l.length then
    k ⟨.int .i64 ((min q.n n:Nat):Int),[(b,⟨.lst (l.take off++rowL j.eqk q.g 0 (min q.n n)++l.drop (off+min q.n n*j.siz)),blk.elem,true⟩)],b::q.rd⟩ else f
  | _=>segK mm b (fun S=>bif S.own&&Nat.beq off 0&&Nat.ble n S.cnt&&ksEq S.ks j.eqk then
      k ⟨.int .i64 ((min q.n n:Nat):Int),[(S.base,⟨.row S.ks S.n (cpyF S.f S.start (min q.n n) q.g),S.elem,true⟩)],S.rd++q.rd⟩ else f) f) f) f) f) f
def slK (v:Value) (nil:Nat->Nat->R) (k:Nat->Nat->Nat->Nat->R) (f:R):R:=
 match v with
 | .slice none n c=>nil n c
 | .slice (some ⟨b,off,none⟩) n c=>k b off n c
 | _=>f
def appendK (T:Tab) (t:Nat) (s x:Value) (id:Nat) (mm:Nat->Option Blk) (k:Res->R) (f:R):R:=
 elemK T t (fun e j=>bif Nat.blt id 60000&&(mm (nid id 0)).isNone then srcK mm j.eqk x (fun q=>slK s
  (fun m c=>bif Nat.beq m 0&&Nat.beq c 0&&szOk q.n j.byt then
   k ⟨.slice (some ⟨nid id 0,0,none⟩) q.n q.n,[(nid id 0,⟨.row j.eqk q.n q.g,e,true⟩)],nid id 0::q.rd⟩ else f)
  (fun b off m c=>bif szOk (m+q.n) j.byt then oK (mm b) (fun blk=>match blk.cells with
   | .lst l=>bif !(loose b)&&blk.own&&Nat.beq c m&&Nat.beq blk.elem e&&Nat.ble (off+m*j.siz) l.length&&fitsK (repK m j.eqk) ((l.drop off).take (m*j.siz)) then
     k ⟨.slice (some ⟨nid id 0,0,none⟩) (m+q.n) (m+q.n),[(nid id 0,⟨.row j.eqk (m+q.n) (appF m (lstF l off j.siz) q.g),e,true⟩),(b,⟨.lst [],blk.elem,false⟩)],nid id 0::b::q.rd⟩ else f
   | .row ks n g=>bif loose b then (bif blk.own&&Nat.beq off 0&&Nat.beq m n&&Nat.beq blk.elem e&&ksEq ks j.eqk then
     (bif Nat.ble 1500000 b then (bif Nat.ble (m+q.n) c&&Nat.blt 0 m&&Nat.blt 0 q.n then
      k ⟨.slice (some ⟨b,0,none⟩) (m+q.n) c,[(b,⟨.row j.eqk (m+q.n) (appF m g q.g),e,true⟩)],nid id 0::b::q.rd⟩ else f) else
     k ⟨.slice (some ⟨nid id 0,0,none⟩) (m+q.n) (m+q.n),[(nid id 0,⟨.row j.eqk (m+q.n) (appF m g q.g),e,true⟩),(b,⟨.lst [],blk.elem,false⟩)],nid id 0::b::q.rd⟩) else f)
    else (bif Nat.beq off 0&&Nat.beq m n&&Nat.blt c (m+q.n)&&ksEq ks j.eqk then
     k ⟨.slice (some ⟨nid id 0,0,none⟩) (m+q.n) (m+q.n),[(nid id 0,⟨.row j.eqk (m+q.n) (appF m g q.g),e,true⟩)],nid id 0::b::q.rd⟩ else f)
   | _=>f) f else f) f) f else f) f
def sameOp:Operand->Operand->Bool
 | .tmp a,.tmp b=>Nat.beq a b
 | .const _,.tmp _=>false
 | .tmp _,.const _=>false
 | _,_=>true
def makeK (T:Tab) (t:Nat) (p:Bool) (l c:Value) (id:Nat) (mm:Nat->Option Blk) (k:Res->R) (f:R):R:=
 elemK T t (fun e j=>intK l (fun _ a=>intK c (fun _ b=>bif (bif p then decide (a=b) else decide (a<=b))&&decide (0<=a)&&szOk (bif p then a.toNat else b.toNat) j.byt&&!(Nat.beq j.byt 0)&&Nat.blt id 60000&&(mm (nid id 0)).isNone&&notTup j.zer&&fitsK j.eqk j.zer.cells.toList then
  k ⟨.slice (some ⟨nid id 0,0,none⟩) a.toNat a.toNat,[(nid id 0,⟨.row j.eqk a.toNat (fun _=>j.zer.cells.toList),e,true⟩)],[nid id 0]⟩ else f) f) f) f
def twoK (vs:List Value) (ts:List Nat) (k:Value->Value->Nat->R) (f:R):R:=
 match vs,ts with
 | [d,s],t::_=>k d s t
 | _,_=>f
def oneLK (vs:List Value) (ts:List Nat) (k:Value->Nat->R) (f:R):R:=
 match vs,ts with
 | [v],t::_=>k v t
 | _,_=>f
def two2K (vs:List Value) (k:IntKind->Int->Int->R) (f:R):R:=
 match vs with
 | [.int kd x,.int _ y]=>k kd x y
 | _=>f
def slLenK (v:Value) (k:Nat->R) (f:R):R:=
 match v with
 | .slice _ n _=>k n
 | _=>f
def lenK (T:Tab) (v:Value) (t:Nat) (k:Res->R) (f:R):R:=
 oK (look T t) (fun i=>descK i (fun n _=>k (val (.int .i64 ((n:Nat):Int)))) (fun _=>slLenK v (fun n=>k (val (.int .i64 ((n:Nat):Int)))) f) (fun _=>f) f (strK v (fun s=>k (val (.int .i64 ((s.size:Nat):Int)))) f) f) f
def repL:Nat->List Value->List Value
 | 0,_=>[]
 | n+1,z=>z++repL n z
def intsEq:List Value->List Value->Bool
 | [],[]=>true
 | .int k a::xs,.int k' b::ys=>decide (k=k')&&decide (a=b)&&intsEq xs ys
 | _,_=>false
def zCells (T:Tab) (i:TInf):Cells:=
 bif Nat.ble i.siz 63 then .lst i.zer.cells.toList else
 match i.und with
 | .array n e=>(match look T e with
  | some j=>bif fitsK j.eqk j.zer.cells.toList&&intsEq i.zer.cells.toList (repL n j.zer.cells.toList) then .row j.eqk n (fun _=>j.zer.cells.toList) else .lst i.zer.cells.toList
  | none=>.lst i.zer.cells.toList)
 | _=>.lst i.zer.cells.toList
def elSl (T:Tab) (t:Nat):Bool:=
 match look T t with
 | some i=>(match i.und with
  | .slice e=>!i.st&&(match look T e with
   | some j=>(match j.und with
    | .slice _=>!j.st
    | _=>false)
   | none=>false)
  | _=>false)
 | none=>false
def setN {α:Type}(m:Nat) (x:α) (f:Nat->α):Nat->α:=fun j=>bif Nat.beq j m then x else f j
structure ORow where
 num:Nat
 ks:List CK
 tot:Nat
 n:Nat
 g:Nat->List Value
 elem:TypeId
def ownRow0 (mm:Nat->Option Blk) (v:Value):Option ORow:=
 match v with
 | .slice (some ⟨b,_,none⟩) n _=>(match mm b with
  | some blk=>(match blk.cells with
   | .row ks N g=>some ⟨b,ks,N,n,g,blk.elem⟩
   | _=>none)
  | none=>none)
 | _=>none
def ownB (mm:Nat->Option Blk) (v:Value):Bool:=
 match v with
 | .slice (some ⟨b,off,none⟩) n c=>(match mm b with
  | some blk=>(match blk.cells with
   | .row _ N _=>loose b&&blk.own&&Nat.beq off 0&&Nat.ble n N&&Nat.ble n c
   | _=>false)
  | none=>false)
 | _=>false
def ownRow (mm:Nat->Option Blk) (v:Value):Option ORow:=bif ownB mm v then ownRow0 mm v else none
def oneSl (mm:Nat->Option Blk) (x:Value):Option (Nat×Value):=
 match x with
 | .slice (some ⟨b,off,none⟩) 1 _=>(match mm b with
  | some blk=>(match blk.cells with
   | .lst l=>(match l[off]? with
    | some v=>some (b,v)
    | none=>none)
   | _=>none)
  | none=>none)
 | _=>none
def appFK (T:Tab) (t:Nat) (s x:Value) (id:Nat) (mm:Nat->Option Blk) (k:Res->R) (f:R):R:=
 oK (look T t) (fun i=>descK i (fun _ _=>f) (fun e=>oK (look T e) (fun j=>oK (oneSl mm x) (fun q=>oK (ownRow0 mm q.2) (fun o=>
  bif ownB mm q.2&&Nat.beq j.siz 1&&!(Nat.beq j.byt 0)&&Nat.blt id 60000&&(mm (nid id 0)).isNone&&Nat.beq j.zer.cells.toList.length 1 then slK s
   (fun m c=>bif Nat.beq m 0&&Nat.beq c 0&&szOk 1 j.byt then k ⟨.slice (some ⟨nid id 0,0,none⟩) 1 1,[(nid id 0,⟨.fam o.ks 1 (fun _=>o.elem) (fun _=>(o.n,o.g)),e,true⟩),(o.num,⟨.row o.ks o.tot o.g,o.elem,false⟩)],[nid id 0,q.1,o.num]⟩ else f)
   (fun b off m _=>oK (mm b) (fun blk=>match blk.cells with
    | .fam ks n es g=>bif loose b&&blk.own&&Nat.beq off 0&&Nat.beq m n&&Nat.beq blk.elem e&&ksEq ks o.ks&&szOk (m+1) j.byt&&!(Nat.beq b o.num) then
      k ⟨.slice (some ⟨nid id 0,0,none⟩) (m+1) (m+1),[(nid id 0,⟨.fam ks (m+1) (setN m o.elem es) (setN m (o.n,o.g) g),e,true⟩),(b,⟨.lst [],blk.elem,false⟩),(o.num,⟨.row o.ks o.tot o.g,o.elem,false⟩)],[nid id 0,b,q.1,o.num]⟩ else f
    | _=>f) f) f else f) f) f) f) (fun _=>f) f f f) f
def isTl (mm:Nat->Option Blk) (v:Value):Bool:=
 match v with
 | .slice (some ⟨b,_,none⟩) _ _=>(match mm b with
  | some blk=>(match blk.cells with
   | .tail _ _ _ _=>true
   | _=>false)
  | none=>false)
 | _=>false
def tlB (mm:Nat->Option Blk) (x:Value):Bool:=
 match oneSl mm x with
 | some q=>isTl mm q.2
 | none=>false
def appLK (T:Tab) (t:Nat) (s x:Value) (id:Nat) (mm:Nat->Option Blk) (k:Res->R) (f:R):R:=
 oK (look T t) (fun i=>descK i (fun _ _=>f) (fun e=>oK (look T e) (fun j=>oK (oneSl mm x) (fun q=>sliceK q.2 (fun tb _ _ _=>
  bif Nat.beq j.siz 1&&!(Nat.beq j.byt 0)&&Nat.blt id 60000&&(mm (nid id 0)).isNone&&Nat.beq j.zer.cells.toList.length 1 then slK s
   (fun m c=>bif Nat.beq m 0&&Nat.beq c 0&&szOk 1 j.byt then k ⟨.slice (some ⟨nid id 0,0,none⟩) 1 1,[(nid id 0,⟨.lst [q.2],e,true⟩)],[nid id 0,q.1,tb]⟩ else f)
   (fun b off m _=>oK (mm b) (fun blk=>match blk.cells with
    | .lst l=>bif loose b&&blk.own&&Nat.beq off 0&&Nat.beq m l.length&&Nat.beq blk.elem e&&szOk (m+1) j.byt then
      k ⟨.slice (some ⟨nid id 0,0,none⟩) (m+1) (m+1),[(nid id 0,⟨.lst (l++[q.2]),e,true⟩),(b,⟨.lst [],blk.elem,false⟩)],[nid id 0,b,q.1,tb]⟩ else f
    | _=>f) f) f else f) f) f) f) (fun _=>f) f f f) f
def lstB (mm:Nat->Option Blk) (b:Nat):Bool:=
 match mm b with
 | some blk=>(match blk.cells with
  | .lst _=>true
  | _=>false)
 | none=>false
def makeLK (T:Tab) (t:Nat) (l c:Value) (id:Nat) (mm:Nat->Option Blk) (k:Res->R) (f:R):R:=
 oK (look T t) (fun i=>descK i (fun _ _=>f) (fun e=>oK (look T e) (fun j=>intK l (fun _ a=>intK c (fun _ b=>
  bif decide (a=b)&&decide (0<=a)&&szOk a.toNat j.byt&&!(Nat.beq j.byt 0)&&Nat.blt id 60000&&(mm (nid id 0)).isNone&&j.zer.cells.toList.all pl0&&Nat.beq j.siz j.zer.cells.toList.length&&!(Nat.beq j.siz 0) then
   k ⟨.slice (some ⟨nid id 0,0,none⟩) a.toNat a.toNat,[(nid id 0,⟨.lst (repL a.toNat j.zer.cells.toList),e,true⟩)],[nid id 0]⟩ else f) f) f) f) (fun _=>f) f f f) f
def appT (T:Tab) (ts:List Nat):Bool:=
 match ts with
 | [_,u]=>oK (look T u) (fun i=>descK i (fun _ _=>false) (fun _=>true) (fun _=>false) false true false) false
 | _=>false
def okM (id:Nat) (mm:Nat->Option Blk) (rd:List Nat) (l:List (Nat×Blk)):Bool:=l.all fun p=>bif Nat.ble (nid id 0) p.1&&Nat.blt p.1 (nid id 8) then (mm p.1).isNone else nmem p.1 rd&&(mm p.1).isSome
def altM (l:List (Bool×Value×List (Nat×Blk))) (k:Value->List (Nat×Blk)->R) (f:R):R:=
 match l with
 | []=>f
 | p::r=>bif p.1 then k p.2.1 p.2.2 else altM r k f
def entK (e:Ent) (id:Nat) (vs:List Value) (mm:Nat->Option Blk) (k:Res->R) (f:R):R:=
 match e with
 | .pl F=>bif vs.all pl2 then oK (F vs) (fun q=>bif q.1 then (bif pl2 q.2 then k (val q.2) else f) else f) f else f
 | .me F=>bif Nat.blt id 60000 then altM (F vs (restr mm (reach mm (vs.flatMap idsV))) id) (fun v l=>bif okM id mm (reach mm (vs.flatMap idsV)) l then k ⟨v,l,l.map (·.1)++reach mm (vs.flatMap idsV)⟩ else f) f else f
 | .gl _ _ _ _=>f
 | .il F _=>bif Nat.blt id 60000 then F R vs (restr mm (reach mm (vs.flatMap idsV))) (reach mm (vs.flatMap idsV)) id (fun v l=>bif okM id mm (reach mm (vs.flatMap idsV)) l then k ⟨v,l,l.map (·.1)++reach mm (vs.flatMap idsV)⟩ else f) f else f
def glbK (x:Operand) (k:Nat->R) (f:R):R:=
 match x with
 | .global g=>k g
 | _=>f
def entG (e:Ent) (k:List CK->Nat->(Nat->List Value)->TypeId->R) (f:R):R:=
 match e with
 | .gl ks n g e=>k ks n g e
 | _=>f
def gidxK (T:Tab) (G:Sums) (t g:Nat) (vi:Value) (id:Nat) (mm:Nat->Option Blk) (k:Res->R) (f:R):R:=
 intK vi (fun _ n=>oK (look T t) (fun i=>descK i (fun len e=>oK (look T e) (fun j=>oK (look G (10000000+g)) (fun ent=>entG ent (fun ks m c el=>
  bif inR n len&&(mm id).isNone&&Nat.blt id 60000 then k ⟨.pointer (some ⟨id,n.toNat*j.siz,none⟩),[(id,⟨.row ks m c,el,false⟩)],[id]⟩ else f) f) f) f)
  (fun _=>f) (fun _=>f) f f f) f) f
def tlK (mm:Nat->Option Blk) (b l cnt sz:Nat) (k:Nat->Nat->List Nat->R) (f:R):R:=
 oK (mm b) (fun blk=>match blk.cells with
  | .tail i l0 cnt0 sz0=>bif Nat.beq sz0 sz&&Nat.ble (l+cnt) cnt0 then k i (l0+l) [b] else f
  | _=>k b l [b]) f
def callK (T:Tab) (G:Sums) (c:Call) (id:Nat) (ev:Operand->Option Value) (mm:Nat->Option Blk) (k:Res->R) (f:R):R:=
 match c.callee with
 | .value (.func g)=>evsK ev c.args.toList (fun vs=>oK (look G g) (fun e=>entK e id vs mm k f) f) f
 | .builtin .copy=>evsK ev c.args.toList (fun vs=>twoK vs c.argTypes.toList (fun d s t=>copyK T t d s mm k f) f) f
 | .builtin .append=>evsK ev c.args.toList (fun vs=>twoK vs c.argTypes.toList (fun d s t=>bif appT T c.argTypes.toList then (bif elSl T t then (bif tlB mm s then appLK T t d s id mm k f else appFK T t d s id mm k f) else appendK T t d s id mm k f) else f) f) f
 | .builtin .len=>evsK ev c.args.toList (fun vs=>oneLK vs c.argTypes.toList (fun v t=>lenK T v t k f) f) f
 | .builtin .max=>evsK ev c.args.toList (fun vs=>two2K vs (fun kd x y=>k (val (.int kd (if y > x then y else x)))) f) f
 | .builtin .min=>evsK ev c.args.toList (fun vs=>two2K vs (fun kd x y=>k (val (.int kd (if y<x then y else x)))) f) f
 | _=>f
def loadK (T:Tab) (t:Nat) (mm:Nat->Option Blk) (b off:Nat) (k:Res->R) (f:R):R:=
 oK (mm b) (fun blk=>oK (look T t) (fun i=>match blk.cells with
  | .lst _=>accK mm b (fun A=>partK i A.cells off (fun v=>k ⟨v,[],A.rd⟩) f) f
  | .elt _ _ _=>accK mm b (fun A=>partK i A.cells off (fun v=>k ⟨v,[],A.rd⟩) f) f
  | _=>bif isAggT i then accK mm b (fun A=>partK i A.cells off (fun v=>k ⟨v,[],A.rd⟩) f) f
      else cellK mm b off (fun c s=>k ⟨nrm1 c ((s.f (s.start+off)).headD (.bool false)),[],s.rd⟩) f) f) f
def famB (mm:Nat->Option Blk) (b:Nat):Bool:=
 match mm b with
 | some blk=>(match blk.cells with
  | .elt i _ _=>(match mm i with
   | some base=>(match base.cells with
    | .fam _ _ _ _=>true
    | .tail i2 _ _ _=>(match mm i2 with
     | some base2=>(match base2.cells with
      | .fam _ _ _ _=>true
      | _=>false)
     | none=>false)
    | _=>false)
   | none=>false)
  | _=>false)
 | none=>false
def famLK (T:Tab) (t id:Nat) (mm:Nat->Option Blk) (b off:Nat) (k:Res->R) (f:R):R:=
 oK (mm b) (fun blk=>match blk.cells with
  | .elt i j sz=>oK (mm i) (fun base=>match base.cells with
   | .fam ks n es g=>oK (look T t) (fun ti=>bif !(isAggT ti)&&Nat.beq off 0&&Nat.beq sz 1&&Nat.blt j n&&Nat.blt id 60000&&(mm (nid id 0)).isNone then
     k ⟨.slice (some ⟨nid id 0,0,none⟩) (g j).1 (g j).1,[(nid id 0,⟨.row ks (g j).1 (g j).2,es j,false⟩)],[nid id 0,b,i]⟩ else f) f
   | .tail i2 l2 cnt2 sz2=>oK (mm i2) (fun base2=>match base2.cells with
    | .fam ks n es g=>oK (look T t) (fun ti=>bif !(isAggT ti)&&Nat.beq off 0&&Nat.beq sz 1&&Nat.beq sz2 1&&Nat.blt j cnt2&&Nat.blt (l2+j) n&&Nat.blt id 60000&&(mm (nid id 0)).isNone then
      k ⟨.slice (some ⟨nid id 0,0,none⟩) (g (l2+j)).1 (g (l2+j)).1,[(nid id 0,⟨.row ks (g (l2+j)).1 (g (l2+j)).2,es (l2+j),false⟩)],[nid id 0,b,i,i2]⟩ else f) f
    | _=>f) f
   | _=>f) f
  | _=>f) f
def setL (cells:List Value) (off:Nat) (i:TInf) (v:Value):List Value:=
 match v.cells.toList with
 | [c]=>bif Nat.beq i.siz 1 then cells.set off c else cells.take off++[c]++cells.drop (off+i.siz)
 | l=>cells.take off++l++cells.drop (off+i.siz)
def storeK (T:Tab) (t:Nat) (mm:Nat->Option Blk) (b off:Nat) (v:Value) (k:Res->R) (f:R):R:=
 oK (mm b) (fun blk=>oK (look T t) (fun i=>match blk.cells with
  | .row ks n _=>bif isAggT i then (bif blk.own&&!(loose b)&&Nat.beq off 0&&Nat.beq i.siz (n*ks.length)&&notTup v&&Nat.beq v.cells.toList.length i.siz then k ⟨undef,[(b,⟨.lst v.cells.toList,blk.elem,true⟩)],[b]⟩ else f) else cellK mm b off (fun c s=>bif s.own&&isCK c v&&Nat.beq i.siz 1 then k ⟨undef,[(s.base,⟨.row s.ks s.n (updR s.f (s.start+off) [v]),s.elem,true⟩)],s.rd⟩ else f) f
  | _=>accK mm b (fun A=>bif A.own&&notTup v&&Nat.beq v.cells.toList.length i.siz&&Nat.ble (off+i.siz) A.cells.length&&A.ok (setL A.cells off i v) then
      k ⟨undef,[A.put (setL A.cells off i v)],A.rd⟩ else f) f) f) f
def isU8T (i:TInf):Bool:=
 match i.und with
 | .int .u8=>!i.st
 | _=>false
def isI32T (i:TInf):Bool:=
 match i.und with
 | .int .i32=>!i.st
 | _=>false
def cvsK (T:Tab) (s d:Nat) (j:TInf) (vx:Value) (mm:Nat->Option Blk) (k:Res->R) (f:R):R:=
 sliceK vx (fun b _ _ _=>descK j (fun _ _=>f) (fun e=>oK (look T e) (fun je=>bif Nat.beq s d&&isU8T je then oK (mm b) (fun blk=>match blk.cells with
  | .lst l=>bif blk.own&&!(loose b) then k ⟨vx,[(b,⟨.lst l,blk.elem,false⟩)],[b]⟩ else f
  | _=>f) f else f) f) (fun _=>f) f f f) f
def cvtK (T:Tab) (j:TInf) (sb:ByteArray) (id:Nat) (mm:Nat->Option Blk) (k:Res->R) (f:R):R:=
 descK j (fun _ _=>f) (fun e=>oK (look T e) (fun je=>bif isU8T je&&Nat.blt id 60000&&(mm (nid id 0)).isNone then
  k ⟨.slice (some ⟨nid id 0,0,none⟩) sb.size sb.size,[(nid id 0,⟨.row [.i .u8] sb.size (strF sb),e,true⟩)],[nid id 0]⟩ else f) f) (fun _=>f) f f f
def nsL (g:Nat->List Value):Nat->Nat->List Int
 | _,0=>[]
 | lo,n+1=>toI ((g lo).headD (.bool false))::nsL g (lo+1) n
def rowS (n:Nat) (g:Nat->List Value):ByteArray:=(nsL g 0 n).foldl (fun r n=>r.push (UInt8.ofNat n.toNat)) ByteArray.empty
def rowRn (n:Nat) (g:Nat->List Value):ByteArray:=(nsL g 0 n).foldl (fun r n=>r++Utf8.encode n) ByteArray.empty
def cvrK (T:Tab) (i:TInf) (vx:Value) (mm:Nat->Option Blk) (k:Res->R) (f:R):R:=
 descK i (fun _ _=>f) (fun e=>oK (look T e) (fun je=>bif isU8T je then srcK mm [.i .u8] vx (fun q=>k ⟨.string (rowS q.n q.g),[],q.rd⟩) f else bif isI32T je then srcK mm [.i .i32] vx (fun q=>k ⟨.string (rowRn q.n q.g),[],q.rd⟩) f else f) f) (fun _=>f) f f f
def dcC (s:ByteArray) (pos:Nat):Int:=((Utf8.decode s pos).1:Nat)
def dcW (s:ByteArray) (pos:Nat):Nat:=(Utf8.decode s pos).2
def nextK (mm:Nat->Option Blk) (j off:Nat) (k:Res->R) (f:R):R:=
 oK (mm j) (fun blk=>match blk.cells with
  | .itr s pos=>bif Nat.beq off 0&&Nat.blt j 60000 then (bif Nat.blt pos s.size then k ⟨.tuple #[.bool true,.int .i64 (pos:Nat),.int .i32 (dcC s pos)],[(j,⟨.itr s (pos+dcW s pos),0,true⟩)],[j]⟩ else k ⟨.tuple #[.bool false],[],[j]⟩) else f
  | _=>f) f
def ifcV (x:Value) (nil:R) (k:Nat->Value->R) (f:R):R:=
 match x with
 | .nilIface=>nil
 | .iface t v=>k t v
 | _=>f
def noIf:Value->Bool
 | .iface _ _=>false
 | _=>true
def asrtK (T:Tab) (t:Nat) (ok:Bool) (x:Value) (k:Res->R) (f:R):R:=
 oK (look T t) (fun i=>bif conT i then
  ifcV x (bif ok&&notTup i.zer&&pl1 i.zer then k (val (.tuple #[i.zer,.bool false])) else f)
   (fun t' v=>bif notTup v then (bif Nat.beq t' t then (bif ok then k (val (.tuple #[v,.bool true])) else k (val v)) else (bif ok&&notTup i.zer&&pl1 i.zer then k (val (.tuple #[i.zer,.bool false])) else f)) else f) f
  else f) f
def opK (T:Tab) (G:Sums) (id:Nat) (op:Op) (ev:Operand->Option Value) (mm:Nat->Option Blk) (k:Res->R) (f:R):R:=
 match op with
 | .move x=>oK (ev x) (fun v=>k (val v)) f
 | .assign x=>oK (ev x) (fun v=>k (val v)) f
 | .pick c x y=>oK (ev c) (fun vc=>boolK vc (fun b=>bif b then oK (ev x) (fun v=>k (val v)) f else oK (ev y) (fun v=>k (val v)) f) f) f
 | .alloc t=>oK (look T t) (fun i=>bif notTup i.zer&&pl1 i.zer&&(mm id).isNone&&Nat.blt id 60000 then k ⟨.pointer (some ⟨id,0,none⟩),[(id,⟨zCells T i,t,true⟩)],[id]⟩ else f) f
 | .box t x=>oK (ev x) (fun v=>bif notTup v&&(mm id).isNone&&Nat.blt id 60000 then k ⟨.pointer (some ⟨id,0,none⟩),[(id,⟨.lst v.cells.toList,t,true⟩)],[id]⟩ else f) f
 | .load t x=>oK (ev x) (fun a=>ptrK a (fun b off=>bif famB mm b then famLK T t id mm b off k f else loadK T t mm b off k f) f) f
 | .store t x y=>oK (ev x) (fun a=>oK (ev y) (fun v=>ptrK a (fun b off=>storeK T t mm b off v k f) f) f) f
 | .indexAddr t x ix=>glbK x (fun g=>oK (ev ix) (fun vi=>gidxK T G t g vi id mm k f) f) (oK (ev x) (fun vx=>oK (ev ix) (fun vi=>intK vi (fun _ n=>oK (look T t) (fun i=>descK i
   (fun len e=>ptrK vx (fun b off=>oK (look T e) (fun j=>bif inR n len then k (val (.pointer (some ⟨b,off+n.toNat*j.siz,none⟩))) else f) f) f)
   (fun e=>sliceK vx (fun b off len _=>oK (look T e) (fun j=>bif inR n len then
     (bif loose b then (bif elSl T t then (bif lstB mm b then k ⟨.pointer (some ⟨b,off+n.toNat*j.siz,none⟩),[],[b]⟩
       else bif (mm id).isNone&&Nat.blt id 60000 then k ⟨.pointer (some ⟨id,0,none⟩),[(id,⟨.elt b n.toNat j.siz,e,false⟩)],[id,b]⟩ else f)
       else bif (mm id).isNone&&Nat.blt id 60000 then k ⟨.pointer (some ⟨id,0,none⟩),[(id,⟨.elt b n.toNat j.siz,e,false⟩)],[id]⟩ else f)
      else k (val (.pointer (some ⟨b,off+n.toNat*j.siz,none⟩)))) else f) f) f)
   (fun _=>f) f f f) f) f) f) f)
 | .fieldAddr t x n=>oK (ev x) (fun vx=>ptrK vx (fun b off=>oK (look T t) (fun i=>bif i.st then oK i.flds[n]? (fun fl=>oK (look T fl.2) (fun j=>
   bif Nat.beq j.siz 0 then f else k (val (.pointer (some ⟨b,off+fl.1,none⟩)))) f) f else f) f) f) f
 | .field t x n=>oK (ev x) (fun vx=>aggK vx (fun cs=>oK (look T t) (fun i=>bif i.st then oK i.flds[n]? (fun fl=>oK (look T fl.2) (fun j=>partK j cs fl.1 (fun v=>k (val v)) f) f) f else f) f) f) f
 | .index t x ix=>oK (ev x) (fun vx=>oK (ev ix) (fun vi=>intK vi (fun _ n=>oK (look T t) (fun i=>descK i
   (fun len e=>aggK vx (fun cs=>oK (look T e) (fun j=>bif inR n len then partK j cs (n.toNat*j.siz) (fun v=>k (val v)) f else f) f) f)
   (fun _=>f) (fun _=>f) f (strK vx (fun s=>bif inR n s.size then k (val (.int .u8 ((s.data.toList.getD n.toNat 0).toNat:Int))) else f) f) f) f) f) f) f
 | .extract x n=>oK (ev x) (fun vx=>tupK vx (fun vs=>oK vs[n]? (fun v=>bif notTup v then k (val v) else f) f) f) f
 | .binOp op t x y _=>oK (ev x) (fun vx=>oK (ev y) (fun vy=>binK T op t vx vy (fun v=>k (val v)) f) f) f
 | .unOp op _ x=>oK (ev x) (fun vx=>unK op vx (fun v=>k (val v)) f) f
 | .convert s d x=>oK (ev x) (fun vx=>oK (look T s) (fun i=>oK (look T d) (fun j=>intK vx (fun _ n=>descK j (fun _ _=>f) (fun _=>f) (fun kd=>k (val (.int kd (kd.wrap n)))) f (k (val (.string (Utf8.encode n)))) f) (strK vx (fun sb=>cvtK T j sb id mm k f) (bif isStrT j then cvrK T i vx mm k f else cvsK T s d j vx mm k f))) f) f) f
 | .build t parts=>oK (look T t) (fun i=>partsK ev parts.toList (fun ps=>bif notTup i.zer&&pl1 i.zer then
   (bif i.st then bif i.flds.all (fun fl=>(look T fl.2).isSome) then fillK (placeOf T i) ps i.zer.cells.toList (fun cs=>k (val (.agg cs.toArray))) f else f
    else descK i (fun _ e=>oK (look T e) (fun j=>fillK (fun m=>some (m*j.siz,j.siz)) ps i.zer.cells.toList (fun cs=>k (val (.agg cs.toArray))) f) f) (fun _=>f) (fun _=>f) f f f) else f) f) f
 | .buildSlice t len parts=>oK (look T t) (fun i=>partsK ev parts.toList (fun ps=>descK i (fun _ _=>f)
   (fun e=>oK (look T e) (fun j=>bif notTup j.zer&&pl1 j.zer&&Nat.beq j.zer.cells.toList.length j.siz&&!(Nat.beq j.siz 0)&&!(Nat.beq len 0)&&Nat.ble (len*j.siz) 65536&&(mm id).isNone&&Nat.blt id 60000 then
    fillK (fun m=>some (m*j.siz,j.siz)) ps (repL len j.zer.cells.toList) (fun cs=>k ⟨.slice (some ⟨id,0,none⟩) len len,[(id,⟨.lst cs,e,true⟩)],[id]⟩) f else f) f)
   (fun _=>f) f f f) f) f
 | .slice t x lo hi mx=>noneK mx (oK (ev x) (fun vx=>optK ev lo (fun l=>optK ev hi (fun h=>oK (look T t) (fun i=>descK i
   (fun n e=>ptrK vx (fun b off=>oK (look T e) (fun j=>highK n n h (fun h=>lowK h l (fun l=>
     bif loose b then f else k (val (.slice (some ⟨b,bif Nat.beq n l then off else off+l*j.siz,none⟩) (h-l) (n-l)))) f) f) f) f)
   (fun e=>slK vx (fun n c=>oK (look T e) (fun _=>bif Nat.beq n 0&&Nat.beq c 0&&zOpt l&&zOpt h then k (val (.slice none 0 0)) else f) f) (fun b off n c=>oK (look T e) (fun j=>highK n c h (fun h=>lowK h l (fun l=>bif Nat.ble h c then
     (bif loose b then (bif Nat.blt id 60000&&(mm (nid id 0)).isNone then tlK mm b l (h-l) j.siz (fun b2 l2 rd=>k ⟨.slice (some ⟨nid id 0,0,none⟩) (h-l) (c-l),[(nid id 0,⟨.tail b2 l2 (h-l) j.siz,e,false⟩)],nid id 0::rd⟩) f else f)
      else k (val (.slice (some ⟨b,bif Nat.beq c l then off else off+l*j.siz,none⟩) (h-l) (c-l)))) else f) f) f) f) f)
   (fun _=>f) f (strK vx (fun s=>highK s.size s.size h (fun h=>lowK h l (fun l=>k (val (.string (s.extract l h)))) f) f) f) f) f) f) f) f) f
 | .makeSlice t l c=>oK (ev l) (fun vl=>oK (ev c) (fun vc=>bif elSl T t then makeLK T t vl vc id mm k f else makeK T t (sameOp l c) vl vc id mm k f) f) f
 | .nilCheck x=>oK (ev x) (fun v=>ptrK v (fun b off=>k (val (.pointer (some ⟨b,off,none⟩)))) f) f
 | .sliceToArrayPointer t x=>oK (ev x) (fun vx=>oK (look T t) (fun i=>descK i (fun n _=>sliceK vx (fun b off len _=>bif Nat.ble n len&&!(Nat.beq n 0) then k (val (.pointer (some ⟨b,off,none⟩))) else f) f) (fun _=>f) (fun _=>f) f f f) f) f
 | .call c=>callK T G c id ev mm k f
 | .range t x=>oK (ev x) (fun v=>strK v (fun s=>oK (look T t) (fun i=>descK i (fun _ _=>f) (fun _=>f) (fun _=>f) f (bif (mm id).isNone&&Nat.blt id 60000 then k ⟨.pointer (some ⟨id,0,none⟩),[(id,⟨.itr s 0,0,true⟩)],[id]⟩ else f) f) f) f) f
 | .next x b=>bif b then oK (ev x) (fun v=>ptrK v (fun j off=>nextK mm j off k f) f) f else f
 | .makeInterface t x=>oK (ev x) (fun v=>oK (look T t) (fun i=>bif conT i&&notTup v&&v.cells.toList.all noIf then k (val (.iface t v)) else f) f) f
 | .typeAssert x _ t ok=>oK (ev x) (fun v=>asrtK T t ok v k f) f
 | _=>f
variable {R':Type}(h:R->R')
theorem oK_nat {α:Type u}(o:Option α) (k:α->R) (f:R):h (oK o k f)=oK o (fun a=>h (k a)) (h f):=by cases o<;>rfl
theorem boolK_nat (v:Value) (k:Bool->R) (f:R):h (boolK v k f)=boolK v (fun a=>h (k a)) (h f):=by cases v<;>rfl
theorem intK_nat (v:Value) (k:IntKind->Int->R) (f:R):h (intK v k f)=intK v (fun a b=>h (k a b)) (h f):=by cases v<;>rfl
theorem ptrK_nat (v:Value) (k:Nat->Nat->R) (f:R):h (ptrK v k f)=ptrK v (fun a b=>h (k a b)) (h f):=by unfold ptrK;split<;>simp_all
theorem sliceK_nat (v:Value) (k:Nat->Nat->Nat->Nat->R) (f:R):h (sliceK v k f)=sliceK v (fun a b c d=>h (k a b c d)) (h f):=by unfold sliceK;split<;>simp_all
theorem aggK_nat (v:Value) (k:List Value->R) (f:R):h (aggK v k f)=aggK v (fun a=>h (k a)) (h f):=by cases v<;>rfl
theorem tupK_nat (v:Value) (k:List Value->R) (f:R):h (tupK v k f)=tupK v (fun a=>h (k a)) (h f):=by cases v<;>rfl
theorem strK_nat (v:Value) (k:ByteArray->R) (f:R):h (strK v k f)=strK v (fun a=>h (k a)) (h f):=by cases v<;>rfl
theorem cond_nat (b:Bool) (x y:R):h (bif b then x else y)=bif b then h x else h y:=by cases b<;>rfl
theorem descK_nat (i:TInf) (arr:Nat->Nat->R) (slc:Nat->R) (int:IntKind->R) (bool str:R) (f:R):
  h (descK i arr slc int bool str f)=descK i (fun a b=>h (arr a b)) (fun a=>h (slc a)) (fun a=>h (int a)) (h bool) (h str) (h f):=by
 unfold descK;cases i.st
 ·simp only[cond_false];split<;>rfl
 ·rfl
theorem partK_nat (i:TInf) (cells:List Value) (off:Nat) (k:Value->R) (f:R):h (partK i cells off k f)=partK i cells off (fun v=>h (k v)) (h f):=by
 simp only[partK,cond_nat h,oK_nat h]
theorem strsK_at:∀{l:List Value}{j:Nat},strsK l=true->j<l.length->l[j]?=some (.string (toS (l.getD j (.bool false))))
 | [],j,_,h=>absurd h (Nat.not_lt_zero _)
 | .string x::l,0,_,_=>rfl
 | .string x::l,j+1,h,hj=>by
  have:=strsK_at (l:=l) (j:=j) h (by simpa using hj)
  simpa using this
theorem partK_old {α:Type}{i:TInf}{cells:List Value}{off:Nat}{k:Value->Option α}{r:α}(h:partK i cells off k none=some r):
  (bif isAggT i then (bif Nat.ble (off+i.siz) cells.length then k (.agg ((cells.drop off).take i.siz).toArray) else none) else oK cells[off]? k none)=some r:=by
 unfold partK at h
 cases hA:isAggT i with
 | true=>rw[hA]at h;exact h
 | false=>
  rw[hA,cond_false]at h
  rw[cond_false]
  cases hs:(isStrT i&&strsK cells) with
  | false=>rw[hs]at h;exact h
  | true=>
   rw[hs,cond_true]at h
   rw[Bool.and_eq_true]at hs
   cases hb:Nat.blt off cells.length with
   | false=>rw[hb]at h;simp at h
   | true=>
    rw[hb,cond_true]at h
    rw[strsK_at hs.2 (by rw[Nat.blt_eq]at hb;exact hb)];exact h
theorem binI_nat (op:BinOp) (kx:IntKind) (a:Int) (ky:IntKind) (b:Int) (k:Value->R) (f:R):h (binI op kx a ky b k f)=binI op kx a ky b (fun v=>h (k v)) (h f):=by
 cases op<;>simp only[binI,cond_nat h]
theorem eqA_nat (T:Tab) (t:Nat) (xs ys:List Value) (k:Bool->R) (f:R):h (eqA T t xs ys k f)=eqA T t xs ys (fun b=>h (k b)) (h f):=by
 simp only[eqA,oK_nat h,cond_nat h]
theorem eqOpK_nat (op:BinOp) (b:Bool) (k:Value->R) (f:R):h (eqOpK op b k f)=eqOpK op b (fun v=>h (k v)) (h f):=by cases op<;>rfl
theorem addTx_nat (op:BinOp) (a b:ByteArray) (k:Value->R) (f:R):h (addTx op a b k f)=addTx op a b (fun v=>h (k v)) (h f):=by
 unfold addTx;split<;>first|rfl|exact cond_nat h _ _ _
theorem ifcB_nat (x y:Value) (k:Bool->R) (f:R):h (ifcB x y k f)=ifcB x y (fun b=>h (k b)) (h f):=by unfold ifcB;split<;>rfl
theorem ifcV_nat (x:Value) (n:R) (k:Nat->Value->R) (f:R):h (ifcV x n k f)=ifcV x (h n) (fun a b=>h (k a b)) (h f):=by unfold ifcV;split<;>rfl
theorem ifcK_nat (T:Tab) (op:BinOp) (t:Nat) (x y:Value) (k:Value->R) (f:R):h (ifcK T op t x y k f)=ifcK T op t x y (fun v=>h (k v)) (h f):=by
 simp only[ifcK,ifcB_nat h,oK_nat h,cond_nat h,eqOpK_nat h]
theorem asrtK_nat (T:Tab) (t:Nat) (ok:Bool) (x:Value) (k:Res->R) (f:R):h (asrtK T t ok x k f)=asrtK T t ok x (fun r=>h (k r)) (h f):=by
 simp only[asrtK,ifcV_nat h,oK_nat h,cond_nat h]
theorem binK_nat (T:Tab) (op:BinOp) (t:Nat) (x y:Value) (k:Value->R) (f:R):h (binK T op t x y k f)=binK T op t x y (fun v=>h (k v)) (h f):=by
 simp only[binK,intK_nat h,boolK_nat h,aggK_nat h,oK_nat h,descK_nat h,binI_nat h,eqA_nat h,eqOpK_nat h,strK_nat h,addTx_nat h,ifcK_nat h]
theorem unI_nat (op:UnOp) (kd:IntKind) (n:Int) (k:Value->R) (f:R):h (unI op kd n k f)=unI op kd n (fun v=>h (k v)) (h f):=by cases op<;>rfl
theorem unB_nat (op:UnOp) (b:Bool) (k:Value->R) (f:R):h (unB op b k f)=unB op b (fun v=>h (k v)) (h f):=by cases op<;>rfl
theorem unK_nat (op:UnOp) (x:Value) (k:Value->R) (f:R):h (unK op x k f)=unK op x (fun v=>h (k v)) (h f):=by
 simp only[unK,intK_nat h,boolK_nat h,unI_nat h,unB_nat h]
theorem fillK_nat (place:Nat->Option (Nat×Nat)):∀(ps:List (Nat×Value)) (cells:List Value) (k:List Value->R) (f:R),
  h (fillK place ps cells k f)=fillK place ps cells (fun v=>h (k v)) (h f)
 | [],_,_,_=>rfl
 | p::rest,cells,k,f=>by simp only[fillK,oK_nat h,cond_nat h,fillK_nat place rest]
theorem evsK_nat (ev:Operand->Option Value):∀(xs:List Operand) (k:List Value->R) (f:R),h (evsK ev xs k f)=evsK ev xs (fun v=>h (k v)) (h f)
 | [],_,_=>rfl
 | x::r,k,f=>by simp only[evsK,oK_nat h,evsK_nat ev r]
theorem partsK_nat (ev:Operand->Option Value):∀(xs:List (Nat×Operand)) (k:List (Nat×Value)->R) (f:R),h (partsK ev xs k f)=partsK ev xs (fun v=>h (k v)) (h f)
 | [],_,_=>rfl
 | x::r,k,f=>by simp only[partsK,oK_nat h,partsK_nat ev r]
theorem optK_nat (ev:Operand->Option Value) (o:Option Operand) (k:Option Value->R) (f:R):h (optK ev o k f)=optK ev o (fun v=>h (k v)) (h f):=by
 cases o<;>simp only[optK,oK_nat h]
theorem noneK_nat (o:Option Operand) (x f:R):h (noneK o x f)=noneK o (h x) (h f):=by cases o<;>rfl
theorem lowK_nat (n:Nat) (lo:Option Value) (k:Nat->R) (f:R):h (lowK n lo k f)=lowK n lo (fun v=>h (k v)) (h f):=by
 cases lo<;>simp only[lowK,intK_nat h,cond_nat h]
theorem highK_nat (n m:Nat) (lo:Option Value) (k:Nat->R) (f:R):h (highK n m lo k f)=highK n m lo (fun v=>h (k v)) (h f):=by
 cases lo<;>simp only[highK,intK_nat h,cond_nat h]
theorem segK_nat (mm:Nat->Option Blk) (b:Nat) (k:Seg->R) (f:R):h (segK mm b k f)=segK mm b (fun v=>h (k v)) (h f):=by
 unfold segK
 rw[oK_nat h]
 congr 1;funext blk
 split
 ·rfl
 ·rw[oK_nat h]
  congr 1;funext base
  split
  ·rw[cond_nat h]
  ·rw[oK_nat h]
   congr 1;funext base2
   split
   ·rw[cond_nat h]
   ·rfl
  ·rfl
 ·rfl
theorem accK_nat (mm:Nat->Option Blk) (b:Nat) (k:Acc->R) (f:R):h (accK mm b k f)=accK mm b (fun v=>h (k v)) (h f):=by
 unfold accK
 rw[oK_nat h]
 congr 1;funext blk
 split
 ·rfl
 ·simp only[segK_nat h,cond_nat h]
 ·simp only[segK_nat h]
theorem cellK_nat (mm:Nat->Option Blk) (b off:Nat) (k:CK->Seg->R) (f:R):h (cellK mm b off k f)=cellK mm b off (fun c v=>h (k c v)) (h f):=by
 unfold cellK
 rw[segK_nat h]
 congr 1;funext s
 split
 ·rw[cond_nat h]
 ·rfl
theorem srcK_nat (mm:Nat->Option Blk) (ks:List CK) (v:Value) (k:Src->R) (f:R):h (srcK mm ks v k f)=srcK mm ks v (fun v=>h (k v)) (h f):=by
 unfold srcK
 split
 ·rw[cond_nat h]
 ·rw[oK_nat h]
  congr 1;funext blk
  split
  ·rw[cond_nat h]
  ·simp only[accK_nat h,cond_nat h]
  ·simp only[segK_nat h,cond_nat h]
 ·rw[cond_nat h]
 ·rfl
theorem elemK_nat (T:Tab) (t:Nat) (k:Nat->TInf->R) (f:R):h (elemK T t k f)=elemK T t (fun a b=>h (k a b)) (h f):=by
 simp only[elemK,oK_nat h,descK_nat h,cond_nat h]
theorem slK_nat (v:Value) (nil:Nat->Nat->R) (k:Nat->Nat->Nat->Nat->R) (f:R):h (slK v nil k f)=slK v (fun a b=>h (nil a b)) (fun a b c d=>h (k a b c d)) (h f):=by
 unfold slK;split<;>rfl
theorem copyK_nat (T:Tab) (t:Nat) (d s:Value) (mm:Nat->Option Blk) (k:Res->R) (f:R):h (copyK T t d s mm k f)=copyK T t d s mm (fun v=>h (k v)) (h f):=by
 simp only[copyK,sliceK_nat h,elemK_nat h,srcK_nat h,oK_nat h]
 congr 1;funext b off n c
 congr 1;funext e j
 congr 1;funext q
 congr 1;funext blk
 split
 ·rw[cond_nat h]
 ·simp only[segK_nat h,cond_nat h]
theorem appendK_nat (T:Tab) (t:Nat) (s x:Value) (id:Nat) (mm:Nat->Option Blk) (k:Res->R) (f:R):h (appendK T t s x id mm k f)=appendK T t s x id mm (fun v=>h (k v)) (h f):=by
 simp only[appendK,elemK_nat h,cond_nat h,srcK_nat h,slK_nat h,oK_nat h]
 congr 1;funext e j
 congr 1
 congr 1;funext q
 congr 1;funext b off m c
 congr 1
 congr 1;funext blk
 split
 ·rw[cond_nat h]
 ·simp only[cond_nat h]
 ·rfl
theorem appFK_nat (T:Tab) (t:Nat) (s x:Value) (id:Nat) (mm:Nat->Option Blk) (k:Res->R) (f:R):h (appFK T t s x id mm k f)=appFK T t s x id mm (fun v=>h (k v)) (h f):=by
 simp only[appFK,oK_nat h,descK_nat h,cond_nat h,slK_nat h]
 congr 1;funext i
 congr 1;funext e
 congr 1;funext j
 congr 1;funext q
 congr 1;funext o
 congr 1
 congr 1;funext b off m c
 congr 1;funext blk
 split
 ·rw[cond_nat h]
 ·rfl
theorem makeK_nat (T:Tab) (t:Nat) (p:Bool) (l c:Value) (id:Nat) (mm:Nat->Option Blk) (k:Res->R) (f:R):h (makeK T t p l c id mm k f)=makeK T t p l c id mm (fun v=>h (k v)) (h f):=by
 simp only[makeK,elemK_nat h,intK_nat h,cond_nat h]
theorem makeLK_nat (T:Tab) (t:Nat) (l c:Value) (id:Nat) (mm:Nat->Option Blk) (k:Res->R) (f:R):h (makeLK T t l c id mm k f)=makeLK T t l c id mm (fun v=>h (k v)) (h f):=by
 simp only[makeLK,oK_nat h,descK_nat h,intK_nat h,cond_nat h]
theorem twoK_nat (vs:List Value) (ts:List Nat) (k:Value->Value->Nat->R) (f:R):h (twoK vs ts k f)=twoK vs ts (fun a b c=>h (k a b c)) (h f):=by
 unfold twoK;split<;>rfl
theorem oneLK_nat (vs:List Value) (ts:List Nat) (k:Value->Nat->R) (f:R):h (oneLK vs ts k f)=oneLK vs ts (fun a b=>h (k a b)) (h f):=by
 unfold oneLK;split<;>rfl
theorem two2K_nat (vs:List Value) (k:IntKind->Int->Int->R) (f:R):h (two2K vs k f)=two2K vs (fun a b c=>h (k a b c)) (h f):=by
 unfold two2K;split<;>rfl
theorem slLenK_nat (v:Value) (k:Nat->R) (f:R):h (slLenK v k f)=slLenK v (fun a=>h (k a)) (h f):=by cases v<;>rfl
theorem lenK_nat (T:Tab) (v:Value) (t:Nat) (k:Res->R) (f:R):h (lenK T v t k f)=lenK T v t (fun a=>h (k a)) (h f):=by
 simp only[lenK,oK_nat h,descK_nat h,slLenK_nat h,strK_nat h]
theorem altM_nat (l:List (Bool×Value×List (Nat×Blk))) (k:Value->List (Nat×Blk)->R) (f:R):h (altM l k f)=altM l (fun a b=>h (k a b)) (h f):=by
 induction l with
 | nil=>rfl
 | cons p r ih=>simp only[altM,cond_nat h,ih]
theorem entK_nat (e:Ent) (id:Nat) (vs:List Value) (mm:Nat->Option Blk) (k:Res->R) (f:R):h (entK e id vs mm k f)=entK e id vs mm (fun v=>h (k v)) (h f):=by
 cases e with
 | il F nat=>simp only[entK,cond_nat h,nat R R' h]
 | _=>simp only[entK,cond_nat h,oK_nat h,altM_nat h]
theorem glbK_nat (x:Operand) (k:Nat->R) (f:R):h (glbK x k f)=glbK x (fun a=>h (k a)) (h f):=by cases x<;>rfl
theorem entG_nat (e:Ent) (k:List CK->Nat->(Nat->List Value)->TypeId->R) (f:R):h (entG e k f)=entG e (fun a b c d=>h (k a b c d)) (h f):=by cases e<;>rfl
theorem gidxK_nat (T:Tab) (G:Sums) (t g:Nat) (vi:Value) (id:Nat) (mm:Nat->Option Blk) (k:Res->R) (f:R):h (gidxK T G t g vi id mm k f)=gidxK T G t g vi id mm (fun v=>h (k v)) (h f):=by
 simp only[gidxK,intK_nat h,oK_nat h,descK_nat h,entG_nat h,cond_nat h]
theorem tlK_nat (mm:Nat->Option Blk) (b l cnt sz:Nat) (k:Nat->Nat->List Nat->R) (f:R):h (tlK mm b l cnt sz k f)=tlK mm b l cnt sz (fun a b c=>h (k a b c)) (h f):=by
 unfold tlK
 rw[oK_nat h]
 congr 1;funext blk
 split
 ·rw[cond_nat h]
 ·rfl
theorem appLK_nat (T:Tab) (t:Nat) (s x:Value) (id:Nat) (mm:Nat->Option Blk) (k:Res->R) (f:R):h (appLK T t s x id mm k f)=appLK T t s x id mm (fun v=>h (k v)) (h f):=by
 simp only[appLK,oK_nat h,descK_nat h,cond_nat h,slK_nat h,sliceK_nat h]
 congr 1;funext i
 congr 1;funext e
 congr 1;funext j
 congr 1;funext q
 congr 1;funext tb o n c
 congr 1
 congr 1;funext b off m c
 congr 1;funext blk
 split
 ·rw[cond_nat h]
 ·rfl
theorem callK_nat (T:Tab) (G:Sums) (c:Call) (id:Nat) (ev:Operand->Option Value) (mm:Nat->Option Blk) (k:Res->R) (f:R):h (callK T G c id ev mm k f)=callK T G c id ev mm (fun v=>h (k v)) (h f):=by
 unfold callK;split<;>simp only[evsK_nat h,oK_nat h,twoK_nat h,copyK_nat h,oneLK_nat h,lenK_nat h,entK_nat h,two2K_nat h,cond_nat h,appendK_nat h,appFK_nat h,appLK_nat h]
theorem loadK_nat (T:Tab) (t:Nat) (mm:Nat->Option Blk) (b off:Nat) (k:Res->R) (f:R):h (loadK T t mm b off k f)=loadK T t mm b off (fun v=>h (k v)) (h f):=by
 simp only[loadK,oK_nat h]
 congr 1;funext blk
 congr 1;funext i
 split
 ·simp only[accK_nat h,partK_nat h]
 ·simp only[accK_nat h,partK_nat h]
 ·simp only[cond_nat h,accK_nat h,partK_nat h,cellK_nat h]
theorem famLK_nat (T:Tab) (t id:Nat) (mm:Nat->Option Blk) (b off:Nat) (k:Res->R) (f:R):h (famLK T t id mm b off k f)=famLK T t id mm b off (fun v=>h (k v)) (h f):=by
 simp only[famLK,oK_nat h]
 congr 1;funext blk
 split
 ·rw[oK_nat h]
  congr 1;funext base
  split
  ·simp only[oK_nat h,cond_nat h]
  ·rw[oK_nat h]
   congr 1;funext base2
   split
   ·simp only[oK_nat h,cond_nat h]
   ·rfl
  ·rfl
 ·rfl
theorem storeK_nat (T:Tab) (t:Nat) (mm:Nat->Option Blk) (b off:Nat) (v:Value) (k:Res->R) (f:R):h (storeK T t mm b off v k f)=storeK T t mm b off v (fun v=>h (k v)) (h f):=by
 simp only[storeK,oK_nat h]
 congr 1;funext blk
 congr 1;funext i
 split
 ·simp only[cond_nat h,cellK_nat h]
 ·simp only[accK_nat h,cond_nat h]
theorem cvrK_nat (T:Tab) (i:TInf) (vx:Value) (mm:Nat->Option Blk) (k:Res->R) (f:R):h (cvrK T i vx mm k f)=cvrK T i vx mm (fun v=>h (k v)) (h f):=by
 simp only[cvrK,descK_nat h,oK_nat h,cond_nat h,srcK_nat h]
theorem cvtK_nat (T:Tab) (j:TInf) (sb:ByteArray) (id:Nat) (mm:Nat->Option Blk) (k:Res->R) (f:R):h (cvtK T j sb id mm k f)=cvtK T j sb id mm (fun v=>h (k v)) (h f):=by
 simp only[cvtK,descK_nat h,oK_nat h,cond_nat h]
theorem cvsK_nat (T:Tab) (s d:Nat) (j:TInf) (vx:Value) (mm:Nat->Option Blk) (k:Res->R) (f:R):h (cvsK T s d j vx mm k f)=cvsK T s d j vx mm (fun v=>h (k v)) (h f):=by
 simp only[cvsK,sliceK_nat h,descK_nat h,oK_nat h,cond_nat h]
 congr 1;funext b off n c
 congr 1;funext e
 congr 1;funext je
 congr 1
 congr 1;funext blk
 split
 ·rw[cond_nat h]
 ·rfl
theorem nextK_nat (mm:Nat->Option Blk) (j off:Nat) (k:Res->R) (f:R):h (nextK mm j off k f)=nextK mm j off (fun r=>h (k r)) (h f):=by
 simp only[nextK,oK_nat h]
 congr 1;funext blk
 split
 ·simp only[cond_nat h]
 ·rfl
theorem opK_nat (T:Tab) (G:Sums) (id:Nat) (op:Op) (ev:Operand->Option Value) (mm:Nat->Option Blk) (k:Res->R) (f:R):
  h (opK T G id op ev mm k f)=opK T G id op ev mm (fun r=>h (k r)) (h f):=by
 unfold opK
 split<;>simp only[asrtK_nat h,oK_nat h,boolK_nat h,intK_nat h,ptrK_nat h,sliceK_nat h,aggK_nat h,tupK_nat h,strK_nat h,slK_nat h,cond_nat h,descK_nat h,partK_nat h,binK_nat h,unK_nat h,fillK_nat h,
  partsK_nat h,optK_nat h,noneK_nat h,lowK_nat h,highK_nat h,callK_nat h,loadK_nat h,famLK_nat h,storeK_nat h,makeK_nat h,makeLK_nat h,glbK_nat h,gidxK_nat h,tlK_nat h,cvsK_nat h,cvtK_nat h,cvrK_nat h,nextK_nat h]
end
def opS (T:Tab) (G:Sums) (id:Nat) (op:Op) (ev:Operand->Option Value) (mm:Nat->Option Blk):Option Res:=opK T G id op ev mm some none
theorem opK_eq {R:Type}(T:Tab) (G:Sums) (id:Nat) (op:Op) (ev:Operand->Option Value) (mm:Nat->Option Blk) (k:Res->R) (f:R):
  opK T G id op ev mm k f=oK (opS T G id op ev mm) k f:=
 (opK_nat (fun o:Option Res=>oK o k f) T G id op ev mm some none).symm
end Go.W

namespace Go.W
universe u
section inv
variable {α:Type u}{β:Type}
theorem oK_some {o:Option α}{k:α->Option β}{r:β}:oK o k none=some r↔∃a,o=some a∧k a=some r:=by cases o<;>simp[oK]
theorem cond_some {b:Bool}{x:Option β}{r:β}:(bif b then x else none)=some r↔b=true∧x=some r:=by cases b<;>simp
theorem cond_none {b:Bool}{x:Option β}{r:β}:(bif b then none else x)=some r↔b=false∧x=some r:=by cases b<;>simp
theorem boolK_some {v:Value}{k:Bool->Option β}{r:β}:boolK v k none=some r↔∃b,v=.bool b∧k b=some r:=by cases v<;>simp[boolK]
theorem intK_some {v:Value}{k:IntKind->Int->Option β}{r:β}:intK v k none=some r↔∃kd n,v=.int kd n∧k kd n=some r:=by
 cases v<;>simp[intK]
 constructor
 ·intro h;exact⟨_,_,⟨rfl,rfl⟩,h⟩
 ·rintro ⟨_,_,⟨rfl,rfl⟩,h⟩;exact h
theorem ptrK_some {v:Value}{k:Nat->Nat->Option β}{r:β}:ptrK v k none=some r↔∃b off,v=.pointer (some ⟨b,off,none⟩)∧k b off=some r:=by
 unfold ptrK;split
 ·constructor
  ·intro h;exact⟨_,_,rfl,h⟩
  ·rintro ⟨_,_,h,h'⟩;cases h;exact h'
 ·rename_i h;constructor
  ·intro h';simp at h'
  ·rintro ⟨b,off,rfl,_⟩;exact absurd rfl (h b off)
theorem sliceK_some {v:Value}{k:Nat->Nat->Nat->Nat->Option β}{r:β}:
  sliceK v k none=some r↔∃b off n c,v=.slice (some ⟨b,off,none⟩) n c∧k b off n c=some r:=by
 unfold sliceK;split
 ·constructor
  ·intro h;exact⟨_,_,_,_,rfl,h⟩
  ·rintro ⟨_,_,_,_,h,h'⟩;cases h;exact h'
 ·rename_i h;constructor
  ·intro h';simp at h'
  ·rintro ⟨b,off,n,c,rfl,_⟩;exact absurd rfl (h b off n c)
theorem aggK_some {v:Value}{k:List Value->Option β}{r:β}:aggK v k none=some r↔∃cs,v=.agg cs∧k cs.toList=some r:=by cases v<;>simp[aggK]
theorem tupK_some {v:Value}{k:List Value->Option β}{r:β}:tupK v k none=some r↔∃cs,v=.tuple cs∧k cs.toList=some r:=by cases v<;>simp[tupK]
theorem strK_some {v:Value}{k:ByteArray->Option β}{r:β}:strK v k none=some r↔∃s,v=.string s∧k s=some r:=by cases v<;>simp[strK]
theorem slLenK_some {v:Value}{k:Nat->Option β}{r:β}:slLenK v k none=some r↔∃a n c,v=.slice a n c∧k n=some r:=by
 unfold slLenK;split
 ·constructor
  ·intro h;exact⟨_,_,_,rfl,h⟩
  ·rintro ⟨_,_,_,h,h'⟩;cases h;exact h'
 ·rename_i h;constructor
  ·intro h';simp at h'
  ·rintro ⟨a,n,c,rfl,_⟩;exact absurd rfl (h a n c)
theorem oneLK_some {vs:List Value}{ts:List Nat}{k:Value->Nat->Option β}{r:β}:oneLK vs ts k none=some r↔∃v t l,vs=[v]∧ts=t::l∧k v t=some r:=by
 unfold oneLK;split
 ·rename_i v t l;constructor
  ·intro h;exact⟨v,t,l,rfl,rfl,h⟩
  ·rintro ⟨v',t',l',h1,h2,h3⟩
   simp at h1 h2;obtain rfl:=h1;obtain ⟨rfl,rfl⟩:=h2;exact h3
 ·rename_i h;constructor
  ·intro h';simp at h'
  ·rintro ⟨v,t,l,rfl,rfl,_⟩;exact absurd rfl (h v t l rfl)
theorem two2K_some {vs:List Value}{k:IntKind->Int->Int->Option β}{r:β}:two2K vs k none=some r↔∃kd x k2 y,vs=[.int kd x,.int k2 y]∧k kd x y=some r:=by
 unfold two2K;split
 ·rename_i kd x k2 y;constructor
  ·intro h;exact⟨kd,x,k2,y,rfl,h⟩
  ·rintro ⟨kd',x',k2',y',h1,h3⟩
   simp at h1;obtain ⟨⟨rfl,rfl⟩,rfl,rfl⟩:=h1;exact h3
 ·rename_i h;constructor
  ·intro h';simp at h'
  ·rintro ⟨kd,x,k2,y,rfl,_⟩;exact absurd rfl (h kd x k2 y)
def segS (mm:Nat->Option Blk) (b:Nat):Option Seg:=segK mm b some none
def accS (mm:Nat->Option Blk) (b:Nat):Option Acc:=accK mm b some none
def srcS (mm:Nat->Option Blk) (ks:List CK) (v:Value):Option Src:=srcK mm ks v some none
theorem segK_some {mm:Nat->Option Blk}{b:Nat}{k:Seg->Option β}{r:β}:segK mm b k none=some r↔∃s,segS mm b=some s∧k s=some r:=by
 have:segK mm b k none=oK (segS mm b) k none:=(segK_nat (fun o:Option Seg=>oK o k none) mm b some none).symm
 rw[this,oK_some]
theorem accK_some {mm:Nat->Option Blk}{b:Nat}{k:Acc->Option β}{r:β}:accK mm b k none=some r↔∃s,accS mm b=some s∧k s=some r:=by
 have:accK mm b k none=oK (accS mm b) k none:=(accK_nat (fun o:Option Acc=>oK o k none) mm b some none).symm
 rw[this,oK_some]
theorem srcK_some {mm:Nat->Option Blk}{ks:List CK}{v:Value}{k:Src->Option β}{r:β}:srcK mm ks v k none=some r↔∃s,srcS mm ks v=some s∧k s=some r:=by
 have:srcK mm ks v k none=oK (srcS mm ks v) k none:=(srcK_nat (fun o:Option Src=>oK o k none) mm ks v some none).symm
 rw[this,oK_some]
theorem cellK_some {mm:Nat->Option Blk}{b off:Nat}{k:CK->Seg->Option β}{r:β}:cellK mm b off k none=some r↔∃s c,segS mm b=some s∧s.ks=[c]∧off<s.cnt∧k c s=some r:=by
 unfold cellK
 rw[segK_some]
 constructor
 ·rintro ⟨s,h1,h2⟩
  split at h2
  ·rename_i c hc
   obtain ⟨h3,h4⟩:=cond_some.1 h2
   exact⟨s,c,h1,hc,Eq.mp Nat.blt_eq h3,h4⟩
  ·simp at h2
 ·rintro ⟨s,c,h1,hc,h3,h4⟩
  refine⟨s,h1,?_⟩
  rw[hc]
  exact cond_some.2 ⟨Eq.mpr Nat.blt_eq h3,h4⟩
theorem slK_some {v:Value}{nil:Nat->Nat->Option β}{k:Nat->Nat->Nat->Nat->Option β}{r:β}:slK v nil k none=some r↔(∃n c,v=.slice none n c∧nil n c=some r)∨(∃b off n c,v=.slice (some ⟨b,off,none⟩) n c∧k b off n c=some r):=by
 unfold slK;split
 ·constructor
  ·intro h;exact .inl ⟨_,_,rfl,h⟩
  ·rintro (⟨_,_,h,h'⟩|⟨_,_,_,_,h,_⟩)
   ·cases h;exact h'
   ·simp at h
 ·constructor
  ·intro h;exact .inr ⟨_,_,_,_,rfl,h⟩
  ·rintro (⟨_,_,h,_⟩|⟨_,_,_,_,h,h'⟩)
   ·simp at h
   ·cases h;exact h'
 ·rename_i h1 h2;constructor
  ·intro h';simp at h'
  ·rintro (⟨n,c,rfl,_⟩|⟨b,off,n,c,rfl,_⟩)
   ·exact absurd rfl (h1 n c)
   ·exact absurd rfl (h2 b off n c)
theorem makeLK_some {T:Tab}{t:Nat}{l c:Value}{id:Nat}{mm:Nat->Option Blk}{r:Res}:makeLK T t l c id mm some none=some r↔∃i e j,look T t=some i∧i.st=false∧i.und=.slice e∧look T e=some j∧
  intK l (fun _ a=>intK c (fun _ b=>bif decide (a=b)&&decide (0<=a)&&szOk a.toNat j.byt&&!(Nat.beq j.byt 0)&&Nat.blt id 60000&&(mm (nid id 0)).isNone&&j.zer.cells.toList.all pl0&&Nat.beq j.siz j.zer.cells.toList.length&&!(Nat.beq j.siz 0) then
   some (⟨.slice (some ⟨nid id 0,0,none⟩) a.toNat a.toNat,[(nid id 0,⟨.lst (repL a.toNat j.zer.cells.toList),e,true⟩)],[nid id 0]⟩:Res) else none) none) none=some r:=by
 unfold makeLK
 simp only[oK_some]
 constructor
 ·rintro ⟨i,hi,h⟩
  unfold descK at h
  obtain ⟨h1,h2⟩:=cond_none.1 h
  split at h2<;>first|(simp at h2;done)|skip
  rename_i e he
  obtain ⟨j,hj,h3⟩:=oK_some.1 h2
  exact⟨i,e,j,hi,h1,he,hj,h3⟩
 ·rintro ⟨i,e,j,hi,h1,he,hj,h3⟩
  refine⟨i,hi,?_⟩
  unfold descK
  rw[h1,cond_false,he]
  exact oK_some.2 ⟨j,hj,h3⟩
theorem elemK_some {T:Tab}{t:Nat}{k:Nat->TInf->Option β}{r:β}:elemK T t k none=some r↔∃i e j,look T t=some i∧i.st=false∧i.und=.slice e∧look T e=some j∧ksOk j=true∧k e j=some r:=by
 unfold elemK
 simp only[oK_some]
 constructor
 ·rintro ⟨i,hi,h⟩
  unfold descK at h
  obtain ⟨h1,h2⟩:=cond_none.1 h
  split at h2<;>first|(simp at h2;done)|skip
  rename_i e he
  obtain ⟨j,hj,h3⟩:=oK_some.1 h2
  obtain ⟨h4,h5⟩:=cond_some.1 h3
  exact⟨i,e,j,hi,h1,he,hj,h4,h5⟩
 ·rintro ⟨i,e,j,hi,h1,he,hj,h4,h5⟩
  refine⟨i,hi,?_⟩
  unfold descK
  rw[h1,he]
  exact oK_some.2 ⟨j,hj,cond_some.2 ⟨h4,h5⟩⟩
def pickM:List (Bool×Value×List (Nat×Blk))->Option (Value×List (Nat×Blk))
 | []=>none
 | p::r=>bif p.1 then some p.2 else pickM r
def ilS (F:(R:Type)->List Value->(Nat->Option Blk)->List Nat->Nat->(Value->List (Nat×Blk)->R)->R->R) (vs:List Value) (mm:Nat->Option Blk) (rd:List Nat) (id:Nat):Option (Value×List (Nat×Blk)):=F _ vs mm rd id (fun v l=>some (v,l)) none
theorem ilF_some {F:(R:Type)->List Value->(Nat->Option Blk)->List Nat->Nat->(Value->List (Nat×Blk)->R)->R->R}(nat:∀(R R':Type) (h:R->R') vs mm rd id k f,h (F R vs mm rd id k f)=F R' vs mm rd id (fun v l=>h (k v l)) (h f))
  {vs:List Value}{mm:Nat->Option Blk}{rd:List Nat}{id:Nat}{k:Value->List (Nat×Blk)->Option β}{r:β}:F _ vs mm rd id k none=some r↔∃v l,ilS F vs mm rd id=some (v,l)∧k v l=some r:=by
 have e:F _ vs mm rd id k none=oK (ilS F vs mm rd id) (fun q=>k q.1 q.2) none:=(nat _ _ (fun o:Option (Value×List (Nat×Blk))=>oK o (fun q=>k q.1 q.2) none) vs mm rd id (fun v l=>some (v,l)) none).symm
 rw[e,oK_some]
 constructor
 ·rintro ⟨⟨v,l⟩,h1,h2⟩;exact⟨v,l,h1,h2⟩
 ·rintro ⟨v,l,h1,h2⟩;exact⟨(v,l),h1,h2⟩
theorem altM_some {l:List (Bool×Value×List (Nat×Blk))}{k:Value->List (Nat×Blk)->Option β}{r:β}:altM l k none=some r↔∃v m,pickM l=some (v,m)∧k v m=some r:=by
 induction l with
 | nil=>simp[altM,pickM]
 | cons p l ih=>
  simp only[altM,pickM]
  cases p.1 with
  | false=>exact ih
  | true=>
   simp only[cond_true]
   constructor
   ·intro h;exact⟨_,_,rfl,h⟩
   ·rintro ⟨v,m,h1,h2⟩
    have:=Option.some.inj h1
    rw[this];exact h2
theorem twoK_some {vs:List Value}{ts:List Nat}{k:Value->Value->Nat->Option β}{r:β}:
  twoK vs ts k none=some r↔∃d s t l,vs=[d,s]∧ts=t::l∧k d s t=some r:=by
 unfold twoK;split
 ·rename_i d s t l;constructor
  ·intro h;exact⟨d,s,t,l,rfl,rfl,h⟩
  ·rintro ⟨d',s',t',l',h1,h2,h3⟩
   simp at h1 h2;obtain ⟨rfl,rfl⟩:=h1;obtain ⟨rfl,rfl⟩:=h2;exact h3
 ·rename_i h;constructor
  ·intro h';simp at h'
  ·rintro ⟨d,s,t,l,rfl,rfl,_⟩;exact absurd rfl (h d s t l rfl)
end inv
theorem evsK_congr {R:Type}{ev ev':Operand->Option Value}:∀(xs:List Operand) (k:List Value->R) (f:R),(∀x∈xs,ev' x=ev x)->evsK ev' xs k f=evsK ev xs k f
 | [],_,_,_=>rfl
 | x::r,k,f,h=>by
  simp only[evsK,h x (by simp)]
  congr 1;funext v
  exact evsK_congr r _ _ fun y hy=>h y (by simp[hy])
theorem partsK_congr {R:Type}{ev ev':Operand->Option Value}:∀(xs:List (Nat×Operand)) (k:List (Nat×Value)->R) (f:R),(∀x∈xs,ev' x.2=ev x.2)->partsK ev' xs k f=partsK ev xs k f
 | [],_,_,_=>rfl
 | x::r,k,f,h=>by
  simp only[partsK,h x (by simp)]
  congr 1;funext v
  exact partsK_congr r _ _ fun y hy=>h y (by simp[hy])
theorem optK_congr {R:Type}{ev ev':Operand->Option Value}(o:Option Operand) (k:Option Value->R) (f:R) (h:∀x,o=some x->ev' x=ev x):optK ev' o k f=optK ev o k f:=by
 cases o with
 | none=>rfl
 | some x=>simp only[optK,h x rfl]
theorem opS_ev {T:Tab}{G:Sums}{id:Nat}{op:Op}{ev ev':Operand->Option Value}{mm:Nat->Option Blk}(h:∀x∈op.operands.toList,ev' x=ev x):
  opS T G id op ev' mm=opS T G id op ev mm:=by
 unfold opS
 cases op<;>simp only[opK]<;>simp only[Op.operands,Array.toList_append,List.mem_append,List.mem_cons,List.not_mem_nil,or_false,forall_eq_or_imp,forall_eq]at h
 case build t parts=>
  congr 1;funext i
  exact partsK_congr _ _ _ fun x hx=>h _ (by simp;exact⟨x.1,by simpa using hx⟩)
 case buildSlice t len parts=>
  congr 1;funext i
  exact partsK_congr _ _ _ fun x hx=>h _ (by simp;exact⟨x.1,by simpa using hx⟩)
 case slice t x lo hi mx=>
  cases mx with
  | some m=>rfl
  | none=>
   simp only[noneK,h x (by simp)]
   congr 1;funext vx
   rw[optK_congr lo _ _ (fun y hy=>h y (by simp[hy]))]
   congr 1;funext l
   rw[optK_congr hi _ _ (fun y hy=>h y (by simp[hy]))]
 case call c=>
  unfold callK
  split
  ·exact evsK_congr _ _ _ fun x hx=>h x (by simp[Call.operands];exact .inr (by simpa using hx))
  ·exact evsK_congr _ _ _ fun x hx=>h x (by simp[Call.operands];exact .inr (by simpa using hx))
  ·exact evsK_congr _ _ _ fun x hx=>h x (by simp[Call.operands];exact .inr (by simpa using hx))
  ·exact evsK_congr _ _ _ fun x hx=>h x (by simp[Call.operands];exact .inr (by simpa using hx))
  ·exact evsK_congr _ _ _ fun x hx=>h x (by simp[Call.operands];exact .inr (by simpa using hx))
  ·exact evsK_congr _ _ _ fun x hx=>h x (by simp[Call.operands];exact .inr (by simpa using hx))
  ·rfl
 all_goals first|rfl|simp only[h]
theorem segS_congr {mm mm':Nat->Option Blk}{b:Nat}{s:Seg}(h:segS mm b=some s) (hm:∀x∈s.rd,mm' x=mm x):segS mm' b=some s:=by
 unfold segS segK at *
 obtain ⟨blk,hb,h⟩:=oK_some.1 h
 refine oK_some.2 ⟨blk,?_,?_⟩
 ·split at h
  ·cases h;rw[hm b (by simp)];exact hb
  ·obtain ⟨base,_,h⟩:=oK_some.1 h
   split at h
   ·obtain ⟨_,h⟩:=cond_some.1 h;cases h;rw[hm b (by simp)];exact hb
   ·obtain ⟨base2,_,h⟩:=oK_some.1 h
    split at h
    ·obtain ⟨_,h⟩:=cond_some.1 h;cases h;rw[hm b (by simp)];exact hb
    ·simp at h
   ·simp at h
  ·simp at h
 ·split at h
  ·exact h
  ·obtain ⟨base,h1,h⟩:=oK_some.1 h
   refine oK_some.2 ⟨base,?_,?_⟩
   ·split at h
    ·obtain ⟨_,h⟩:=cond_some.1 h;cases h;rw[hm _ (by simp)];exact h1
    ·obtain ⟨base2,_,h⟩:=oK_some.1 h
     split at h
     ·obtain ⟨_,h⟩:=cond_some.1 h;cases h;rw[hm _ (by simp)];exact h1
     ·simp at h
    ·simp at h
   ·split at h
    ·exact h
    ·obtain ⟨base2,h2,h⟩:=oK_some.1 h
     refine oK_some.2 ⟨base2,?_,h⟩
     split at h
     ·obtain ⟨_,h⟩:=cond_some.1 h;cases h;rw[hm _ (by simp)];exact h2
     ·simp at h
    ·simp at h
  ·simp at h
theorem segS_tail {mm:Nat->Option Blk}{b:Nat}{s:Seg}(h:segS mm b=some s){blk:Blk}{i l c z:Nat}(hb:mm b=some blk) (hc:blk.cells=.tail i l c z):i∈s.rd:=by
 unfold segS segK at h
 rw[hb]at h
 simp only[oK,hc]at h
 obtain ⟨base,_,h⟩:=oK_some.1 h
 split at h
 ·obtain ⟨_,h⟩:=cond_some.1 h
  cases h;simp
 ·obtain ⟨base2,_,h⟩:=oK_some.1 h
  split at h
  ·obtain ⟨_,h⟩:=cond_some.1 h
   cases h;simp
  ·simp at h
 ·simp at h
theorem segS_self {mm:Nat->Option Blk}{b:Nat}{s:Seg}(h:segS mm b=some s):b∈s.rd:=by
 unfold segS segK at h
 obtain ⟨blk,hb,h⟩:=oK_some.1 h
 split at h
 ·cases h;simp
 ·obtain ⟨base,_,h⟩:=oK_some.1 h
  split at h
  ·obtain ⟨_,h⟩:=cond_some.1 h;cases h;simp
  ·obtain ⟨base2,_,h⟩:=oK_some.1 h
   split at h
   ·obtain ⟨_,h⟩:=cond_some.1 h;cases h;simp
   ·simp at h
  ·simp at h
 ·simp at h
theorem accS_self {mm:Nat->Option Blk}{b:Nat}{s:Acc}(h:accS mm b=some s):b∈s.rd:=by
 unfold accS accK at h
 obtain ⟨blk,hb,h⟩:=oK_some.1 h
 split at h
 ·cases h;simp
 ·obtain ⟨g,_,h⟩:=segK_some.1 h
  obtain ⟨_,h⟩:=cond_some.1 h;cases h;simp
 ·obtain ⟨g,h1,h⟩:=segK_some.1 h
  cases h;exact segS_self h1
theorem accS_congr {mm mm':Nat->Option Blk}{b:Nat}{s:Acc}(h:accS mm b=some s) (hm:∀x∈s.rd,mm' x=mm x):accS mm' b=some s:=by
 have hb':=hm b (accS_self h)
 unfold accS accK at *
 obtain ⟨blk,hb,h⟩:=oK_some.1 h
 refine oK_some.2 ⟨blk,by rw[hb'];exact hb,?_⟩
 split at h
 ·exact h
 ·obtain ⟨g,h1,h⟩:=segK_some.1 h
  refine segK_some.2 ⟨g,segS_congr h1 fun x hx=>hm x ?_,h⟩
  obtain ⟨_,h⟩:=cond_some.1 h;cases h;simp[hx]
 ·obtain ⟨g,h1,h⟩:=segK_some.1 h
  refine segK_some.2 ⟨g,segS_congr h1 fun x hx=>hm x ?_,h⟩
  cases h;exact hx
theorem srcS_congr {mm mm':Nat->Option Blk}{ks:List CK}{v:Value}{s:Src}(h:srcS mm ks v=some s) (hm:∀x∈s.rd,mm' x=mm x):srcS mm' ks v=some s:=by
 unfold srcS srcK at *
 split at h
 ·exact h
 ·obtain ⟨blk,hb,h⟩:=oK_some.1 h
  refine oK_some.2 ⟨blk,?_,?_⟩
  ·split at h
   ·obtain ⟨_,h⟩:=cond_some.1 h;cases h;rw[hm _ (by simp)];exact hb
   ·obtain ⟨A,h1,h⟩:=accK_some.1 h
    obtain ⟨_,h⟩:=cond_some.1 h;cases h;rw[hm _ (accS_self h1)];exact hb
   ·obtain ⟨g,h1,h⟩:=segK_some.1 h
    obtain ⟨_,h⟩:=cond_some.1 h;cases h;rw[hm _ (segS_self h1)];exact hb
  ·split at h
   ·exact h
   ·obtain ⟨A,h1,h⟩:=accK_some.1 h
    refine accK_some.2 ⟨A,accS_congr h1 fun x hx=>hm x ?_,h⟩
    obtain ⟨_,h⟩:=cond_some.1 h;cases h;exact hx
   ·obtain ⟨g,h1,h⟩:=segK_some.1 h
    refine segK_some.2 ⟨g,segS_congr h1 fun x hx=>hm x ?_,h⟩
    obtain ⟨_,h⟩:=cond_some.1 h;cases h;exact hx
 ·exact h
 ·simp at h
set_option maxHeartbeats 2000000 in
theorem glb_cases (x:Operand):(∃g,x=.global g)∨(∀{R:Type}(k:Nat->R) (f:R),glbK x k f=f):=by
 cases x with
 | global g=>exact .inl ⟨_,rfl⟩
 | _=>exact .inr fun _ _=>rfl
def tlS (mm:Nat->Option Blk) (b l cnt sz:Nat):Option (Nat×Nat):=tlK mm b l cnt sz (fun b2 l2 _=>some (b2,l2)) none
theorem tlK_some {β:Type}{mm:Nat->Option Blk}{b l cnt sz:Nat}{k:Nat->Nat->List Nat->Option β}{r:β}:tlK mm b l cnt sz k none=some r↔∃b2 l2,tlS mm b l cnt sz=some (b2,l2)∧k b2 l2 [b]=some r:=by
 unfold tlS tlK
 cases mm b with
 | none=>simp[oK]
 | some blk=>
  simp only[oK]
  split
  ·rename_i i l0 cnt0 sz0 _
   cases hc:(Nat.beq sz0 sz&&Nat.ble (l+cnt) cnt0) with
   | true=>
    simp only[cond_true,Option.some.injEq,Prod.mk.injEq]
    exact⟨fun h=>⟨_,_,⟨rfl,rfl⟩,h⟩,by rintro ⟨_,_,⟨rfl,rfl⟩,h⟩;exact h⟩
   | false=>simp
  ·simp only[Option.some.injEq,Prod.mk.injEq]
   exact⟨fun h=>⟨_,_,⟨rfl,rfl⟩,h⟩,by rintro ⟨_,_,⟨rfl,rfl⟩,h⟩;exact h⟩
theorem gidx_iff {T:Tab}{G:Sums}{t g:Nat}{vi:Value}{id:Nat}{mm:Nat->Option Blk}{r:Res}:gidxK T G t g vi id mm some none=some r↔
  ∃kd n i len e j ks m c el,vi=.int kd n∧look T t=some i∧i.st=false∧i.und=.array len e∧look T e=some j∧look G (10000000+g)=some (.gl ks m c el)∧inR n len=true∧(mm id).isNone=true∧Nat.blt id 60000=true∧
   r=⟨.pointer (some ⟨id,n.toNat*j.siz,none⟩),[(id,⟨.row ks m c,el,false⟩)],[id]⟩:=by
 unfold gidxK
 constructor
 ·intro h
  simp only[intK_some,oK_some]at h
  obtain ⟨kd,n,h1,i,h2,h⟩:=h
  unfold descK at h
  obtain ⟨h3,h⟩:i.st=false∧_:=by
   cases hst:i.st with
   | true=>rw[hst]at h;simp at h
   | false=>rw[hst,cond_false]at h;exact⟨rfl,h⟩
  split at h<;>first|(simp at h;done)|skip
  rename_i len e h4
  simp only[oK_some]at h
  obtain ⟨j,h5,ent,h6,h⟩:=h
  cases ent with
  | gl ks m c el=>
   simp only[entG,cond_some,Bool.and_eq_true]at h
   obtain ⟨⟨⟨h7,h8⟩,h9⟩,h10⟩:=h
   exact⟨kd,n,i,len,e,j,ks,m,c,el,h1,h2,h3,h4,h5,h6,h7,h8,h9,(Option.some.inj h10).symm⟩
  | pl F=>simp[entG]at h
  | me F=>simp[entG]at h
  | il F _=>simp[entG]at h
 ·rintro ⟨kd,n,i,len,e,j,ks,m,c,el,rfl,h2,h3,h4,h5,h6,h7,h8,h9,rfl⟩
  simp only[intK,oK,h2,descK,h3,h4,cond_false,h5,h6,entG,h7,h8,h9,Bool.and_self,cond_true]
theorem cvr_iff {T:Tab}{i:TInf}{vx:Value}{mm:Nat->Option Blk}{r:Res}:cvrK T i vx mm some none=some r↔
  ∃e je q,i.st=false∧i.und=.slice e∧look T e=some je∧((isU8T je=true∧srcS mm [.i .u8] vx=some q∧r=⟨.string (rowS q.n q.g),[],q.rd⟩)∨(isU8T je=false∧isI32T je=true∧srcS mm [.i .i32] vx=some q∧r=⟨.string (rowRn q.n q.g),[],q.rd⟩)):=by
 unfold cvrK
 constructor
 ·intro h
  unfold descK at h
  obtain ⟨h1,h2⟩:=cond_none.1 h
  split at h2<;>first|(simp at h2;done)|skip
  rename_i e he
  obtain ⟨je,h3,h4⟩:=oK_some.1 h2
  cases h5:isU8T je with
  | true=>
   rw[h5,cond_true]at h4
   obtain ⟨q,h7,h8⟩:=srcK_some.1 h4
   exact⟨e,je,q,h1,he,h3,.inl ⟨h5,h7,(Option.some.inj h8).symm⟩⟩
  | false=>
   rw[h5,cond_false]at h4
   obtain ⟨h6,h4⟩:=cond_some.1 h4
   obtain ⟨q,h7,h8⟩:=srcK_some.1 h4
   exact⟨e,je,q,h1,he,h3,.inr ⟨h5,h6,h7,(Option.some.inj h8).symm⟩⟩
 ·rintro ⟨e,je,q,h1,h2,h3,⟨h4,h5,rfl⟩|⟨h4,h4',h5,rfl⟩⟩
  ·simp only[descK,h1,h2,cond_false,oK,h3,h4,cond_true]
   exact srcK_some.2 ⟨q,h5,rfl⟩
  ·simp only[descK,h1,h2,cond_false,oK,h3,h4,h4',cond_true]
   exact srcK_some.2 ⟨q,h5,rfl⟩
theorem cvt_iff {T:Tab}{j:TInf}{sb:ByteArray}{id:Nat}{mm:Nat->Option Blk}{r:Res}:cvtK T j sb id mm some none=some r↔
  ∃e je,j.st=false∧j.und=.slice e∧look T e=some je∧isU8T je=true∧Nat.blt id 60000=true∧(mm (nid id 0)).isNone=true∧r=⟨.slice (some ⟨nid id 0,0,none⟩) sb.size sb.size,[(nid id 0,⟨.row [.i .u8] sb.size (strF sb),e,true⟩)],[nid id 0]⟩:=by
 unfold cvtK
 constructor
 ·intro h
  unfold descK at h
  obtain ⟨h3,h⟩:j.st=false∧_:=by
   cases hst:j.st with
   | true=>rw[hst]at h;simp at h
   | false=>rw[hst,cond_false]at h;exact⟨rfl,h⟩
  split at h<;>first|(simp at h;done)|skip
  rename_i e h4
  obtain ⟨je,h5,h⟩:=oK_some.1 h
  obtain ⟨h6,h⟩:=cond_some.1 h
  rw[Bool.and_eq_true,Bool.and_eq_true]at h6
  exact⟨e,je,h3,h4,h5,h6.1.1,h6.1.2,h6.2,(Option.some.inj h).symm⟩
 ·rintro ⟨e,je,h3,h4,h5,h6,h7,h8,rfl⟩
  simp only[descK,h3,h4,cond_false,oK,h5,h6,h7,h8,Bool.and_self,cond_true]
theorem cvs_iff {T:Tab}{s d:Nat}{j:TInf}{vx:Value}{mm:Nat->Option Blk}{r:Res}:cvsK T s d j vx mm some none=some r↔
  ∃b off n c e je blk l,vx=.slice (some ⟨b,off,none⟩) n c∧j.st=false∧j.und=.slice e∧look T e=some je∧s=d∧isU8T je=true∧mm b=some blk∧blk.cells=.lst l∧blk.own=true∧loose b=false∧r=⟨vx,[(b,⟨.lst l,blk.elem,false⟩)],[b]⟩:=by
 unfold cvsK
 constructor
 ·intro h
  obtain ⟨b,off,n,c,h1,h⟩:=sliceK_some.1 h
  unfold descK at h
  obtain ⟨h3,h⟩:j.st=false∧_:=by
   cases hst:j.st with
   | true=>rw[hst]at h;simp at h
   | false=>rw[hst,cond_false]at h;exact⟨rfl,h⟩
  split at h<;>first|(simp at h;done)|skip
  rename_i e h4
  obtain ⟨je,h5,h⟩:=oK_some.1 h
  obtain ⟨h6,h⟩:=cond_some.1 h
  rw[Bool.and_eq_true]at h6
  obtain ⟨blk,h7,h⟩:=oK_some.1 h
  split at h
  ·rename_i l h8
   obtain ⟨h9,h⟩:=cond_some.1 h
   rw[Bool.and_eq_true,Bool.not_eq_true']at h9
   exact⟨b,off,n,c,e,je,blk,l,h1,h3,h4,h5,nbeq.1 h6.1,h6.2,h7,h8,h9.1,h9.2,(Option.some.inj h).symm⟩
  ·simp at h
 ·rintro ⟨b,off,n,c,e,je,blk,l,rfl,h3,h4,h5,rfl,h6,h7,h8,h9,h10,rfl⟩
  simp only[sliceK,descK,h3,h4,cond_false,oK,h5,Nat.beq_refl,h6,Bool.and_self,cond_true,h7,h8,h9,h10,Bool.not_false]
def FamP (mm:Nat->Option Blk) (id b i j:Nat) (ks:List CK) (n:Nat) (es:Nat->TypeId) (g:Nat->Nat×(Nat->List Value)) (j':Nat) (rd:List Nat):Prop:=
 (∃base,mm i=some base∧base.cells=.fam ks n es g∧j'=j∧rd=[nid id 0,b,i])∨
 ∃base i2 l cnt base2,mm i=some base∧base.cells=.tail i2 l cnt 1∧mm i2=some base2∧base2.cells=.fam ks n es g∧j<cnt∧j'=l+j∧rd=[nid id 0,b,i,i2]
theorem famL_iff {T:Tab}{t id:Nat}{mm:Nat->Option Blk}{b off:Nat}{r:Res}:famLK T t id mm b off some none=some r↔∃blk i j sz ks n es g ti j' rd,mm b=some blk∧blk.cells=.elt i j sz∧FamP mm id b i j ks n es g j' rd∧look T t=some ti∧isAggT ti=false∧off=0∧sz=1∧j'<n∧id<60000∧(mm (nid id 0)).isNone=true∧
  r=⟨.slice (some ⟨nid id 0,0,none⟩) (g j').1 (g j').1,[(nid id 0,⟨.row ks (g j').1 (g j').2,es j',false⟩)],rd⟩:=by
 unfold famLK
 constructor
 ·intro h
  obtain ⟨blk,hb,h⟩:=oK_some.1 h
  split at h
  ·rename_i i j sz hc
   obtain ⟨base,hi,h⟩:=oK_some.1 h
   split at h
   ·rename_i ks n es g hc2
    obtain ⟨ti,ht,h⟩:=oK_some.1 h
    obtain ⟨h1,h2⟩:=cond_some.1 h
    simp only[Bool.and_eq_true,Bool.not_eq_true',Nat.blt_eq]at h1
    obtain ⟨⟨⟨⟨⟨h3,h4⟩,h5⟩,h6⟩,h7⟩,h8⟩:=h1
    exact⟨blk,i,j,sz,ks,n,es,g,ti,j,_,hb,hc,.inl ⟨base,hi,hc2,rfl,rfl⟩,ht,h3,nbeq.1 h4,nbeq.1 h5,h6,h7,h8,(Option.some.inj h2).symm⟩
   ·rename_i i2 l2 cnt2 sz2 hc2
    obtain ⟨base2,hi2,h⟩:=oK_some.1 h
    split at h
    ·rename_i ks n es g hc3
     obtain ⟨ti,ht,h⟩:=oK_some.1 h
     obtain ⟨h1,h2⟩:=cond_some.1 h
     simp only[Bool.and_eq_true,Bool.not_eq_true',Nat.blt_eq]at h1
     obtain ⟨⟨⟨⟨⟨⟨⟨h3,h4⟩,h5⟩,h5b⟩,h6a⟩,h6⟩,h7⟩,h8⟩:=h1
     have h5b:=nbeq.1 h5b
     subst h5b
     exact⟨blk,i,j,sz,ks,n,es,g,ti,l2+j,_,hb,hc,.inr ⟨base,i2,l2,cnt2,base2,hi,hc2,hi2,hc3,h6a,rfl,rfl⟩,ht,h3,nbeq.1 h4,nbeq.1 h5,h6,h7,h8,(Option.some.inj h2).symm⟩
    ·simp at h
   ·simp at h
  ·simp at h
 ·rintro ⟨blk,i,j,sz,ks,n,es,g,ti,j',rd,hb,hc,hf,ht,h3,rfl,rfl,h6,h7,h8,rfl⟩
  have h6:Nat.blt j' n=true:=by rw[Nat.blt_eq];exact h6
  have h7:Nat.blt id 60000=true:=by rw[Nat.blt_eq];exact h7
  rcases hf with⟨base,hi,hc2,rfl,rfl⟩|⟨base,i2,l,cnt,base2,hi,hc2,hi2,hc3,h9,rfl,rfl⟩
  ·simp only[hb,oK,hc,hi,hc2,ht,h3,h6,h7,h8,Nat.beq_refl,Bool.not_false,Bool.and_self,cond_true]
  ·have h9:Nat.blt j cnt=true:=by rw[Nat.blt_eq];exact h9
   simp only[hb,oK,hc,hi,hc2,hi2,hc3,ht,h3,h6,h7,h8,h9,Nat.beq_refl,Bool.not_false,Bool.and_self,cond_true]
theorem famB_of {mm:Nat->Option Blk}{id b i j sz:Nat}{blk:Blk}{ks:List CK}{n:Nat}{es:Nat->TypeId}{g:Nat->Nat×(Nat->List Value)}{j':Nat}{rd:List Nat}(h1:mm b=some blk) (h2:blk.cells=.elt i j sz) (h3:FamP mm id b i j ks n es g j' rd):famB mm b=true:=by
 rcases h3 with⟨base,hi,hc2,_,_⟩|⟨base,i2,l,cnt,base2,hi,hc2,hi2,hc3,_⟩
 ·simp only[famB,h1,h2,hi,hc2]
 ·simp only[famB,h1,h2,hi,hc2,hi2,hc3]
theorem FamP_of {mm mm':Nat->Option Blk}{id b i j:Nat}{ks:List CK}{n:Nat}{es:Nat->TypeId}{g:Nat->Nat×(Nat->List Value)}{j':Nat}{rd:List Nat}(h:FamP mm id b i j ks n es g j' rd) (hm:∀x∈rd,mm' x=mm x):FamP mm' id b i j ks n es g j' rd∧mm' b=mm b∧mm' (nid id 0)=mm (nid id 0):=by
 rcases h with⟨base,hi,hc2,rfl,rfl⟩|⟨base,i2,l,cnt,base2,hi,hc2,hi2,hc3,h9,rfl,rfl⟩
 ·exact⟨.inl ⟨base,by rw[hm i (by simp)];exact hi,hc2,rfl,rfl⟩,hm _ (by simp),hm _ (by simp)⟩
 ·exact⟨.inr ⟨base,i2,l,cnt,base2,by rw[hm i (by simp)];exact hi,hc2,by rw[hm i2 (by simp)];exact hi2,hc3,h9,rfl,rfl⟩,hm _ (by simp),hm _ (by simp)⟩
theorem ckEq_eq {x y:CK}(h:ckEq x y=true):x=y:=by
 unfold ckEq at h
 split at h<;>simp_all
theorem ksEq_eq:∀{a b:List CK},ksEq a b=true->a=b
 | [],[],_=>rfl
 | x::a,y::b,h=>by
  simp only[ksEq,Bool.and_eq_true]at h
  rw[ckEq_eq h.1,ksEq_eq h.2]
 | [],_::_,h=>by simp[ksEq]at h
 | _::_,[],h=>by simp[ksEq]at h
theorem ckEq_refl (x:CK):ckEq x x=true:=by cases x<;>simp[ckEq]
theorem ksEq_refl:∀l:List CK,ksEq l l=true
 | []=>rfl
 | x::l=>by simp only[ksEq,ckEq_refl,ksEq_refl l,Bool.and_self]
theorem ownRow_some {mm:Nat->Option Blk}{v:Value}{o:ORow}(h:ownRow mm v=some o):∃c,v=.slice (some ⟨o.num,0,none⟩) o.n c∧mm o.num=some ⟨.row o.ks o.tot o.g,o.elem,true⟩∧loose o.num=true∧o.n<=o.tot∧o.n<=c:=by
 unfold ownRow at h
 replace h:=cond_some.1 h
 obtain ⟨h1,h⟩:=h
 unfold ownB at h1
 unfold ownRow0 at h
 split at h
 ·rename_i b off n c
  split at h
  ·rename_i blk hb
   simp only[hb]at h1
   obtain ⟨cells,e,own⟩:=blk
   simp only at h h1
   split at h
   ·simp only[Bool.and_eq_true]at h1
    obtain ⟨⟨⟨⟨h3,h4⟩,h5⟩,h6⟩,h7⟩:=h1
    cases h
    have h5:=nbeq.1 h5
    subst h4 h5
    exact⟨c,rfl,hb,h3,Nat.le_of_ble_eq_true h6,Nat.le_of_ble_eq_true h7⟩
   ·simp at h
  ·simp at h
 ·simp at h
theorem ownRow_congr {mm mm':Nat->Option Blk}{v:Value}{o:ORow}(h:ownRow mm v=some o) (he:mm' o.num=mm o.num):ownRow mm' v=some o:=by
 obtain ⟨c,rfl,_⟩:=ownRow_some h
 unfold ownRow ownB ownRow0 at h ⊢
 simp only[he];exact h
theorem ownRow_iff {mm:Nat->Option Blk}{v:Value}{o:ORow}:ownRow mm v=some o↔ownB mm v=true∧ownRow0 mm v=some o:=by
 unfold ownRow;exact cond_some
theorem oneSl_some {mm:Nat->Option Blk}{x:Value}{q:Nat×Value}(h:oneSl mm x=some q):∃off c l e own,x=.slice (some ⟨q.1,off,none⟩) 1 c∧mm q.1=some ⟨.lst l,e,own⟩∧l[off]?=some q.2:=by
 unfold oneSl at h
 split at h
 ·rename_i b off c
  split at h
  ·rename_i blk hb
   obtain ⟨cells,e,own⟩:=blk
   simp only at h
   split at h
   ·rename_i l
    split at h
    ·rename_i v hv
     cases h
     exact⟨off,c,l,e,own,rfl,hb,hv⟩
    ·simp at h
   ·simp at h
  ·simp at h
 ·simp at h
theorem oneSl_congr {mm mm':Nat->Option Blk}{x:Value}{q:Nat×Value}(h:oneSl mm x=some q) (he:mm' q.1=mm q.1):oneSl mm' x=some q:=by
 obtain ⟨off,c,l,e,own,rfl,h1,h2⟩:=oneSl_some h
 unfold oneSl at h ⊢
 simp only[he];exact h
theorem appF_iff {T:Tab}{t:Nat}{s x:Value}{id:Nat}{mm:Nat->Option Blk}{r:Res}(h:appFK T t s x id mm some none=some r):∃i e j q o,look T t=some i∧i.st=false∧i.und=.slice e∧look T e=some j∧oneSl mm x=some q∧ownRow mm q.2=some o∧j.siz=1∧j.byt≠0∧id<60000∧(mm (nid id 0)).isNone=true∧j.zer.cells.toList.length=1∧
  ((s=.slice none 0 0∧szOk 1 j.byt=true∧r=⟨.slice (some ⟨nid id 0,0,none⟩) 1 1,[(nid id 0,⟨.fam o.ks 1 (fun _=>o.elem) (fun _=>(o.n,o.g)),e,true⟩),(o.num,⟨.row o.ks o.tot o.g,o.elem,false⟩)],[nid id 0,q.1,o.num]⟩)∨
   ∃b m c es g,s=.slice (some ⟨b,0,none⟩) m c∧mm b=some ⟨.fam o.ks m es g,e,true⟩∧loose b=true∧szOk (m+1) j.byt=true∧b≠o.num∧
    r=⟨.slice (some ⟨nid id 0,0,none⟩) (m+1) (m+1),[(nid id 0,⟨.fam o.ks (m+1) (setN m o.elem es) (setN m (o.n,o.g) g),e,true⟩),(b,⟨.lst [],e,false⟩),(o.num,⟨.row o.ks o.tot o.g,o.elem,false⟩)],[nid id 0,b,q.1,o.num]⟩):=by
 unfold appFK at h
 obtain ⟨i,hi,h⟩:=oK_some.1 h
 unfold descK at h
 obtain ⟨h1,h2⟩:=cond_none.1 h
 split at h2<;>first|(simp at h2;done)|skip
 rename_i e he
 obtain ⟨j,hj,h3⟩:=oK_some.1 h2
 obtain ⟨q,hq,h4⟩:=oK_some.1 h3
 obtain ⟨o,ho,h5⟩:=oK_some.1 h4
 obtain ⟨h6,h7⟩:=cond_some.1 h5
 simp only[Bool.and_eq_true,Bool.not_eq_true',Nat.blt_eq]at h6
 obtain ⟨⟨⟨⟨⟨k0,k1⟩,k2⟩,k3⟩,k4⟩,k5⟩:=h6
 refine⟨i,e,j,q,o,hi,h1,he,hj,hq,ownRow_iff.2 ⟨k0,ho⟩,nbeq.1 k1,fun e0=>by rw[e0]at k2;simp at k2,k3,k4,nbeq.1 k5,?_⟩
 rcases slK_some.1 h7 with⟨m,c,rfl,h8⟩|⟨b,off,m,c,rfl,h8⟩
 ·obtain ⟨h9,h10⟩:=cond_some.1 h8
  simp only[Bool.and_eq_true]at h9
  obtain ⟨⟨z1,z2⟩,z3⟩:=h9
  have z1:=nbeq.1 z1;have z2:=nbeq.1 z2
  subst z1 z2
  exact .inl ⟨rfl,z3,(Option.some.inj h10).symm⟩
 ·obtain ⟨blk,hb,h9⟩:=oK_some.1 h8
  obtain ⟨cells,e0,own⟩:=blk
  simp only at h9
  split at h9
  ·rename_i ks n es g
   obtain ⟨h10,h11⟩:=cond_some.1 h9
   simp only[Bool.and_eq_true,Bool.not_eq_true']at h10
   obtain ⟨⟨⟨⟨⟨⟨⟨z1,z2⟩,z3⟩,z4⟩,z5⟩,z6⟩,z7⟩,z8⟩:=h10
   have z3:=nbeq.1 z3;have z4:=nbeq.1 z4;have z5:=nbeq.1 z5;have z6:=ksEq_eq z6
   subst z2 z3 z4 z5 z6
   exact .inr ⟨b,m,c,es,g,rfl,hb,z1,z7,fun e1=>by rw[e1,Nat.beq_refl]at z8;simp at z8,(Option.some.inj h11).symm⟩
  ·simp at h9
theorem appF_of {T:Tab}{t:Nat}{s x:Value}{id:Nat}{mm mm':Nat->Option Blk}{r:Res}(h:appFK T t s x id mm some none=some r) (hm:∀b∈r.rd,mm' b=mm b):appFK T t s x id mm' some none=some r:=by
 obtain ⟨i,e,j,q,o,h1,h2,h3,h4,h5,h6,h7,h8,h9,h10,h11,hr⟩:=appF_iff h
 have hrd:nid id 0∈r.rd∧q.1∈r.rd∧o.num∈r.rd:=by
  rcases hr with⟨_,_,rfl⟩|⟨b,m,c,es,g,_,_,_,_,_,rfl⟩<;>simp
 have h8:(!(Nat.beq j.byt 0))=true:=by
  cases hb:Nat.beq j.byt 0 with
  | false=>rfl
  | true=>exact absurd (nbeq.1 hb) h8
 have h9:Nat.blt id 60000=true:=by rw[Nat.blt_eq];exact h9
 unfold appFK
 rw[h1]
 simp only[oK,descK,h2,cond_false,h3,h4,oneSl_congr h5 (hm _ hrd.2.1),(ownRow_iff.1 (ownRow_congr h6 (hm _ hrd.2.2))).1,(ownRow_iff.1 (ownRow_congr h6 (hm _ hrd.2.2))).2,h7,Nat.beq_refl,h8,h9,hm _ hrd.1,h10,h11,Bool.and_self,cond_true]
 rcases hr with⟨rfl,z3,rfl⟩|⟨b,m,c,es,g,rfl,z1,z2,z3,z4,rfl⟩
 ·simp only[slK,Nat.beq_refl,z3,Bool.and_self,cond_true]
 ·simp only[slK,hm b (by simp),z1,z2,Nat.beq_refl,ksEq_refl,z3,nbeq_ne z4,Bool.not_false,Bool.and_self,cond_true]
theorem isTl_some {mm:Nat->Option Blk}{v:Value}(h:isTl mm v=true):∃b o n c blk i l cnt sz,v=.slice (some ⟨b,o,none⟩) n c∧mm b=some blk∧blk.cells=.tail i l cnt sz:=by
 unfold isTl at h
 split at h
 ·rename_i b o n c
  split at h
  ·rename_i blk hb
   split at h
   ·rename_i i l cnt sz hc
    exact⟨b,o,n,c,blk,i,l,cnt,sz,rfl,hb,hc⟩
   ·simp at h
  ·simp at h
 ·simp at h
theorem tlB_some {mm:Nat->Option Blk}{x:Value}(h:tlB mm x=true):∃q,oneSl mm x=some q∧isTl mm q.2=true:=by
 unfold tlB at h
 split at h
 ·rename_i q hq;exact⟨q,hq,h⟩
 ·simp at h
theorem appF_notB {T:Tab}{t:Nat}{s x:Value}{id:Nat}{mm:Nat->Option Blk}{r:Res}(h:appFK T t s x id mm some none=some r):tlB mm x=false:=by
 obtain ⟨i,e,j,q,o,h1,h2,h3,h4,h5,h6,_⟩:=appF_iff h
 cases hb:tlB mm x with
 | false=>rfl
 | true=>
  obtain ⟨q',hq',ht⟩:=tlB_some hb
  rw[h5]at hq';cases hq'
  obtain ⟨b,o2,n,c,blk,i2,l,cnt,sz,hv,hb2,hc⟩:=isTl_some ht
  obtain ⟨h7,h8⟩:=ownRow_iff.1 h6
  rw[hv]at h7
  simp only[ownB,hb2,hc]at h7
  simp at h7
theorem appL_iff {T:Tab}{t:Nat}{s x:Value}{id:Nat}{mm:Nat->Option Blk}{r:Res}(h:appLK T t s x id mm some none=some r):∃i e j q tb o3 n3 c3,look T t=some i∧i.st=false∧i.und=.slice e∧look T e=some j∧oneSl mm x=some q∧q.2=.slice (some ⟨tb,o3,none⟩) n3 c3∧j.siz=1∧j.byt≠0∧id<60000∧(mm (nid id 0)).isNone=true∧j.zer.cells.toList.length=1∧
  ((s=.slice none 0 0∧szOk 1 j.byt=true∧r=⟨.slice (some ⟨nid id 0,0,none⟩) 1 1,[(nid id 0,⟨.lst [q.2],e,true⟩)],[nid id 0,q.1,tb]⟩)∨
   ∃b c l,s=.slice (some ⟨b,0,none⟩) l.length c∧mm b=some ⟨.lst l,e,true⟩∧loose b=true∧szOk (l.length+1) j.byt=true∧
    r=⟨.slice (some ⟨nid id 0,0,none⟩) (l.length+1) (l.length+1),[(nid id 0,⟨.lst (l++[q.2]),e,true⟩),(b,⟨.lst [],e,false⟩)],[nid id 0,b,q.1,tb]⟩):=by
 unfold appLK at h
 obtain ⟨i,hi,h⟩:=oK_some.1 h
 unfold descK at h
 obtain ⟨h1,h2⟩:=cond_none.1 h
 split at h2<;>first|(simp at h2;done)|skip
 rename_i e he
 obtain ⟨j,hj,h3⟩:=oK_some.1 h2
 obtain ⟨q,hq,h4⟩:=oK_some.1 h3
 obtain ⟨tb,o3,n3,c3,hq2,h5⟩:=sliceK_some.1 h4
 obtain ⟨h6,h7⟩:=cond_some.1 h5
 simp only[Bool.and_eq_true,Bool.not_eq_true',Nat.blt_eq]at h6
 obtain ⟨⟨⟨⟨k1,k2⟩,k3⟩,k4⟩,k5⟩:=h6
 refine⟨i,e,j,q,tb,o3,n3,c3,hi,h1,he,hj,hq,hq2,nbeq.1 k1,fun e0=>by rw[e0]at k2;simp at k2,k3,k4,nbeq.1 k5,?_⟩
 rcases slK_some.1 h7 with⟨m,c,rfl,h8⟩|⟨b,off,m,c,rfl,h8⟩
 ·obtain ⟨h9,h10⟩:=cond_some.1 h8
  simp only[Bool.and_eq_true]at h9
  obtain ⟨⟨z1,z2⟩,z3⟩:=h9
  have z1:=nbeq.1 z1;have z2:=nbeq.1 z2
  subst z1 z2
  exact .inl ⟨rfl,z3,(Option.some.inj h10).symm⟩
 ·obtain ⟨blk,hb,h9⟩:=oK_some.1 h8
  obtain ⟨cells,e0,own⟩:=blk
  simp only at h9
  split at h9
  ·rename_i l
   obtain ⟨h10,h11⟩:=cond_some.1 h9
   simp only[Bool.and_eq_true]at h10
   obtain ⟨⟨⟨⟨⟨z1,z2⟩,z3⟩,z4⟩,z5⟩,z6⟩:=h10
   have z3:=nbeq.1 z3;have z4:=nbeq.1 z4;have z5:=nbeq.1 z5
   subst z2 z3 z4 z5
   exact .inr ⟨b,c,l,rfl,hb,z1,z6,(Option.some.inj h11).symm⟩
  ·simp at h9
theorem appL_of {T:Tab}{t:Nat}{s x:Value}{id:Nat}{mm mm':Nat->Option Blk}{r:Res}(hB:tlB mm x=true) (h:appLK T t s x id mm some none=some r) (hm:∀b∈r.rd,mm' b=mm b):appLK T t s x id mm' some none=some r∧tlB mm' x=true:=by
 obtain ⟨i,e,j,q,tb,o3,n3,c3,h1,h2,h3,h4,h5,h6,h7,h8,h9,h10,h11,hr⟩:=appL_iff h
 have hrd:nid id 0∈r.rd∧q.1∈r.rd∧tb∈r.rd:=by
  rcases hr with⟨_,_,rfl⟩|⟨b,c,l,_,_,_,_,rfl⟩<;>simp
 have h8:(!(Nat.beq j.byt 0))=true:=by
  cases hb:Nat.beq j.byt 0 with
  | false=>rfl
  | true=>exact absurd (nbeq.1 hb) h8
 have h9:Nat.blt id 60000=true:=by rw[Nat.blt_eq];exact h9
 have h5':=oneSl_congr h5 (hm _ hrd.2.1)
 refine⟨?_,?_⟩
 ·unfold appLK
  rw[h1]
  simp only[oK,descK,h2,cond_false,h3,h4,h5',h6,sliceK,h7,Nat.beq_refl,h8,h9,hm _ hrd.1,h10,h11,Bool.and_self,cond_true]
  rcases hr with⟨rfl,z3,rfl⟩|⟨b,c,l,rfl,z1,z2,z3,rfl⟩
  ·simp only[slK,Nat.beq_refl,z3,Bool.and_self,cond_true,h6]
  ·simp only[slK,hm b (by simp),z1,z2,Nat.beq_refl,z3,Bool.and_self,cond_true,h6]
 ·obtain ⟨q',hq',ht⟩:=tlB_some hB
  rw[h5]at hq';cases hq'
  unfold tlB
  rw[h5']
  obtain ⟨b,o2,n,c,blk,i2,l,cnt,sz,hv,hb2,hc⟩:=isTl_some ht
  rw[h6]at hv
  cases hv
  show isTl mm' q.2=true
  rw[h6]
  simp only[isTl,hm tb hrd.2.2,hb2,hc]
theorem opS_mm {T:Tab}{G:Sums}{id:Nat}{op:Op}{ev:Operand->Option Value}{mm mm':Nat->Option Blk}{r:Res}(h:opS T G id op ev mm=some r) (hm:∀b∈r.rd,mm' b=mm b):
  opS T G id op ev mm'=some r:=by
 unfold opS at *
 cases op<;>simp only[opK]at h ⊢<;>first|(with_reducible exact h)|skip
 case load t x=>
  simp only[oK_some,ptrK_some]at h ⊢
  obtain ⟨a,ha,b,off,hp,h⟩:=h
  refine⟨a,ha,b,off,hp,?_⟩
  cases hfb:famB mm b with
  | true=>
   rw[hfb,cond_true]at h
   obtain ⟨blk,i,j,sz,ks,n,es,g,ti,j',rd,h1,h2,h3,h5,h6,h7,h8,h9,h10,h11,h12⟩:=famL_iff.1 h
   have hrd:r.rd=rd:=by rw[h12]
   obtain ⟨e3,e1,e2⟩:=FamP_of h3 (mm':=mm') (fun x hx=>hm x (by rw[hrd];exact hx))
   have:famB mm' b=true:=famB_of (by rw[e1];exact h1) h2 e3
   rw[this,cond_true]
   exact famL_iff.2 ⟨blk,i,j,sz,ks,n,es,g,ti,j',rd,by rw[e1];exact h1,h2,e3,h5,h6,h7,h8,h9,h10,by rw[e2];exact h11,h12⟩
  | false=>
  rw[hfb,cond_false]at h
  have hfb':famB mm' b=false:=by
   have hself:b∈r.rd∧∀blk i j sz,mm b=some blk->blk.cells=.elt i j sz->i∈r.rd∧∀base i2 l c z,mm i=some base->base.cells=.tail i2 l c z->i2∈r.rd:=by
    unfold loadK at h
    simp only[oK_some]at h
    obtain ⟨blk,hb,i,hi,h⟩:=h
    have part:∀A:Acc,partK i A.cells off (fun v=>some (⟨v,[],A.rd⟩:Res)) none=some r->r.rd=A.rd:=by
     intro A hA
     have hA:=partK_old hA
     cases hg:isAggT i<;>simp only[hg,cond_true,cond_false]at hA
     ·obtain ⟨v,_,hv⟩:=oK_some.1 hA;cases hv;rfl
     ·obtain ⟨_,hv⟩:=cond_some.1 hA;cases hv;rfl
    have acc:accK mm b (fun A=>partK i A.cells off (fun v=>some (⟨v,[],A.rd⟩:Res)) none) none=some r->b∈r.rd∧∀blk i j sz,mm b=some blk->blk.cells=.elt i j sz->i∈r.rd∧∀base i2 l c z,mm i=some base->base.cells=.tail i2 l c z->i2∈r.rd:=by
     intro h
     obtain ⟨A,h1,h⟩:=accK_some.1 h
     rw[part A h]
     refine⟨accS_self h1,fun blk' i' j sz hb' hc=>?_⟩
     unfold accS accK at h1
     rw[hb']at h1
     simp only[oK,hc]at h1
     obtain ⟨s,hs,h1⟩:=segK_some.1 h1
     obtain ⟨_,h1⟩:=cond_some.1 h1
     cases h1
     exact⟨List.mem_cons_of_mem _ (segS_self hs),fun base i2 l c z h5 h6=>List.mem_cons_of_mem _ (segS_tail hs h5 h6)⟩
    split at h
    ·exact acc h
    ·exact acc h
    ·rename_i c1 c2
     cases hg:isAggT i<;>simp only[hg,cond_true,cond_false]at h
     ·obtain ⟨s,c,h1,h2,h3,h4⟩:=cellK_some.1 h
      have hrd:r.rd=s.rd:=by cases h4;rfl
      refine⟨by rw[hrd];exact segS_self h1,fun blk' i' j sz hb' hc=>?_⟩
      rw[hb]at hb';cases hb'
      exact absurd hc (c2 _ _ _)
     ·exact acc h
   have e1:=hm b hself.1
   unfold famB at hfb ⊢
   rw[e1]
   split at hfb
   ·rename_i blk hb
    split at hfb
    ·rename_i i j sz hc
     obtain ⟨z1,z2⟩:=hself.2 blk i j sz hb hc
     rw[hm i z1]
     split at hfb
     ·rename_i base hbase
      split at hfb
      ·simp at hfb
      ·rename_i i2 l2 c2 s2 hc2
       rw[hm i2 (z2 base i2 l2 c2 s2 hbase hc2)];exact hfb
      ·rfl
     ·rfl
    ·rfl
   ·rfl
  rw[hfb',cond_false]
  unfold loadK at h ⊢
  simp only[oK_some]at h ⊢
  obtain ⟨blk,hb,i,hi,h⟩:=h
  have part:∀A:Acc,partK i A.cells off (fun v=>some (⟨v,[],A.rd⟩:Res)) none=some r->r.rd=A.rd:=by
   intro A hA
   have hA:=partK_old hA
   cases hg:isAggT i<;>simp only[hg,cond_true,cond_false]at hA
   ·obtain ⟨v,_,hv⟩:=oK_some.1 hA;cases hv;rfl
   ·obtain ⟨_,hv⟩:=cond_some.1 hA;cases hv;rfl
  have acc:accK mm b (fun A=>partK i A.cells off (fun v=>some (⟨v,[],A.rd⟩:Res)) none) none=some r->b∈r.rd∧accK mm' b (fun A=>partK i A.cells off (fun v=>some (⟨v,[],A.rd⟩:Res)) none) none=some r:=by
   intro h
   obtain ⟨A,h1,h⟩:=accK_some.1 h
   have:=part A h
   exact⟨by rw[this];exact accS_self h1,accK_some.2 ⟨A,accS_congr h1 (fun x hx=>hm x (by rw[this];exact hx)),h⟩⟩
  split at h
  ·rename_i hc;obtain ⟨h1,h2⟩:=acc h;exact⟨blk,by rw[hm b h1];exact hb,i,hi,by rw[hc];exact h2⟩
  ·rename_i hc;obtain ⟨h1,h2⟩:=acc h;exact⟨blk,by rw[hm b h1];exact hb,i,hi,by rw[hc];exact h2⟩
  ·rename_i c1 c2
   cases hg:isAggT i<;>simp only[hg,cond_true,cond_false]at h
   ·obtain ⟨s,c,h1,h2,h3,h4⟩:=cellK_some.1 h
    have hrd:r.rd=s.rd:=by cases h4;rfl
    refine⟨blk,by rw[hm b (by rw[hrd];exact segS_self h1)];exact hb,i,hi,?_⟩
    split
    ·rename_i hc;exact absurd hc (c1 _)
    ·rename_i hc;exact absurd hc (c2 _ _ _)
    ·rw[hg];exact cellK_some.2 ⟨s,c,segS_congr h1 (fun x hx=>hm x (by rw[hrd];exact hx)),h2,h3,h4⟩
   ·obtain ⟨h1,h2⟩:=acc h
    refine⟨blk,by rw[hm b h1];exact hb,i,hi,?_⟩
    split
    ·exact h2
    ·exact h2
    ·rw[hg];exact h2
 case alloc t=>
  simp only[oK_some,cond_some]at h ⊢
  obtain ⟨i,hi,hc,hr⟩:=h
  have:r.rd=[id]:=by cases hr;rfl
  exact⟨i,hi,by rw[hm id (by simp[this])];exact hc,hr⟩
 case buildSlice t len parts=>
  have key:∀(xs:List (Nat×Operand)) (F F':List (Nat×Value)->Option Res),(∀vs,F vs=some r->F' vs=some r)->partsK ev xs F none=some r->partsK ev xs F' none=some r:=by
   intro xs
   induction xs with
   | nil=>intro F F' hF hh;exact hF _ hh
   | cons x xs ih=>
    intro F F' hF hh
    simp only[partsK,oK_some]at hh ⊢
    obtain ⟨v,hv,hh⟩:=hh
    exact⟨v,hv,ih _ _ (fun vs hvs=>hF _ hvs) hh⟩
  obtain ⟨i,hi,h⟩:=oK_some.1 h
  refine oK_some.2 ⟨i,hi,key _ _ _ (fun vs hvs=>?_) h⟩
  unfold descK at hvs ⊢
  cases hst:i.st<;>simp only[hst,cond_true,cond_false]at hvs ⊢
  ·split at hvs<;>first|(simp at hvs;done)|skip
   obtain ⟨j,hj,h5⟩:=oK_some.1 hvs
   obtain ⟨h6,h7⟩:=cond_some.1 h5
   have hrd:r.rd=[id]:=by
    have fl:∀(place:Nat->Option (Nat×Nat)) (ps:List (Nat×Value)) (cells:List Value) (k:List Value->Option Res),fillK place ps cells k none=some r->∃cs,k cs=some r:=by
     intro place ps
     induction ps with
     | nil=>intro cells k hk;exact⟨cells,hk⟩
     | cons p ps ih=>
      intro cells k hk
      simp only[fillK,oK_some,cond_some]at hk
      obtain ⟨q,_,_,hk⟩:=hk
      exact ih _ _ hk
    obtain ⟨cs,hcs⟩:=fl _ _ _ _ h7
    cases hcs;rfl
   exact oK_some.2 ⟨j,hj,cond_some.2 ⟨by rw[hm id (by simp[hrd])];exact h6,h7⟩⟩
  ·simp at hvs
 case box t x=>
  simp only[oK_some,cond_some]at h ⊢
  obtain ⟨v,hv,hc,hr⟩:=h
  have:r.rd=[id]:=by cases hr;rfl
  exact⟨v,hv,by rw[hm id (by simp[this])];exact hc,hr⟩
 case store t x y=>
  simp only[oK_some,ptrK_some]at h ⊢
  obtain ⟨a,ha,v,hv,b,off,hp,h⟩:=h
  refine⟨a,ha,v,hv,b,off,hp,?_⟩
  unfold storeK at h ⊢
  simp only[oK_some]at h ⊢
  obtain ⟨blk,hb,i,hi,h⟩:=h
  split at h
  ·rename_i hc
   cases hag:isAggT i with
   | true=>
    rw[hag,cond_true]at h
    obtain ⟨h1,h2⟩:=cond_some.1 h
    have hrd:r.rd=[b]:=by cases h2;rfl
    refine⟨blk,by rw[hm b (by rw[hrd];simp)];exact hb,i,hi,?_⟩
    rw[hc]
    simp only[hag,cond_true]
    exact cond_some.2 ⟨h1,h2⟩
   | false=>
   rw[hag,cond_false]at h
   have hg:=hag
   obtain ⟨s,c,h1,h2,h3,h4⟩:=cellK_some.1 h
   have hrd:r.rd=s.rd:=by obtain ⟨_,h5⟩:=cond_some.1 h4;cases h5;rfl
   refine⟨blk,by rw[hm b (by rw[hrd];exact segS_self h1)];exact hb,i,hi,?_⟩
   rw[hc]
   simp only[hg,cond_false]
   exact cellK_some.2 ⟨s,c,segS_congr h1 (fun x hx=>hm x (by rw[hrd];exact hx)),h2,h3,h4⟩
  ·rename_i hc
   obtain ⟨A,h1,h⟩:=accK_some.1 h
   have hrd:r.rd=A.rd:=by obtain ⟨_,h5⟩:=cond_some.1 h;cases h5;rfl
   refine⟨blk,by rw[hm b (by rw[hrd];exact accS_self h1)];exact hb,i,hi,?_⟩
   split
   ·rename_i hx;exact absurd hx (hc _ _ _)
   ·exact accK_some.2 ⟨A,accS_congr h1 (fun x hx=>hm x (by rw[hrd];exact hx)),h⟩
 case convert s d x=>
  simp only[oK_some]at h ⊢
  obtain ⟨vx,hx,i,hi,j,hj,h⟩:=h
  refine⟨vx,hx,i,hi,j,hj,?_⟩
  by_cases hint:∃kd n,vx=.int kd n
  ·obtain ⟨kd,n,rfl⟩:=hint;exact h
  by_cases hstr:∃sb,vx=.string sb
  ·obtain ⟨sb,rfl⟩:=hstr
   simp only[intK,strK]at h ⊢
   obtain ⟨e,je,h1,h2,h3,h4,h5,h6,h7⟩:=cvt_iff.1 h
   have hrd:r.rd=[nid id 0]:=by rw[h7]
   exact cvt_iff.2 ⟨e,je,h1,h2,h3,h4,h5,by rw[hm (nid id 0) (by rw[hrd];simp)];exact h6,h7⟩
  ·have e:∀mm0:Nat->Option Blk,intK vx (fun _ n=>descK j (fun _ _=>none) (fun _=>none) (fun kd=>some (val (.int kd (kd.wrap n)))) none (some (val (.string (Utf8.encode n)))) none) (strK vx (fun sb=>cvtK T j sb id mm0 some none) (bif isStrT j then cvrK T i vx mm0 some none else cvsK T s d j vx mm0 some none))=bif isStrT j then cvrK T i vx mm0 some none else cvsK T s d j vx mm0 some none:=by
    intro mm0
    cases vx<;>first|rfl|exact absurd ⟨_,_,rfl⟩ hint|exact absurd ⟨_,rfl⟩ hstr
   rw[e]at h ⊢
   cases hst:isStrT j with
   | true=>
    rw[hst,cond_true]at h
    rw[cond_true]
    obtain ⟨e,je,q,h1,h2,h3,⟨h4,h5,rfl⟩|⟨h4,h4',h5,rfl⟩⟩:=cvr_iff.1 h
    ·exact cvr_iff.2 ⟨e,je,q,h1,h2,h3,.inl ⟨h4,srcS_congr h5 hm,rfl⟩⟩
    ·exact cvr_iff.2 ⟨e,je,q,h1,h2,h3,.inr ⟨h4,h4',srcS_congr h5 hm,rfl⟩⟩
   | false=>
   rw[hst,cond_false]at h
   rw[cond_false]
   obtain ⟨b,off,n,c,e,je,blk,l,h1,h2,h3,h4,h5,h6,h7,h8,h9,h10,h11⟩:=cvs_iff.1 h
   have hrd:r.rd=[b]:=by rw[h11]
   exact cvs_iff.2 ⟨b,off,n,c,e,je,blk,l,h1,h2,h3,h4,h5,h6,by rw[hm b (by rw[hrd];simp)];exact h7,h8,h9,h10,h11⟩
 case indexAddr t x ix=>
  rcases glb_cases x with⟨g,rfl⟩|hg
  ·simp only[glbK,oK_some]at h ⊢
   obtain ⟨vi,hvi,h⟩:=h
   refine⟨vi,hvi,?_⟩
   obtain ⟨kd,n,i,len,e,j,ks,m,c,el,h1,h2,h3,h4,h5,h6,h7,h8,h9,h10⟩:=gidx_iff.1 h
   have:r.rd=[id]:=by rw[h10]
   exact gidx_iff.2 ⟨kd,n,i,len,e,j,ks,m,c,el,h1,h2,h3,h4,h5,h6,h7,by rw[hm id (by simp[this])];exact h8,h9,h10⟩
  rw[hg]at h ⊢
  simp only[oK_some,intK_some]at h ⊢
  obtain ⟨vx,hx,vi,hvi,kd,m,he,i,hi,h⟩:=h
  refine⟨vx,hx,vi,hvi,kd,m,he,i,hi,?_⟩
  unfold descK at h ⊢
  cases hst:i.st<;>simp only[hst,cond_true,cond_false]at h ⊢
  ·split at h<;>first|(simp at h;done)|skip
   ·exact h
   ·simp only[sliceK_some,oK_some,cond_some]at h ⊢
    obtain ⟨b,off,len,c,hs,j,hj,hin,h⟩:=h
    refine⟨b,off,len,c,hs,j,hj,hin,?_⟩
    cases hlo:loose b with
    | false=>rw[hlo,cond_false]at h;rw[cond_false];exact h
    | true=>
    rw[hlo,cond_true]at h
    rw[cond_true]
    cases hel:elSl T t with
    | false=>
     rw[hel,cond_false]at h
     rw[cond_false]
     obtain ⟨h1,h2⟩:=cond_some.1 h
     have:r.rd=[id]:=by cases h2;rfl
     exact cond_some.2 ⟨by rw[hm id (by simp[this])];exact h1,h2⟩
    | true=>
     rw[hel,cond_true]at h
     rw[cond_true]
     cases hls:lstB mm b with
     | true=>
      rw[hls,cond_true]at h
      have:r.rd=[b]:=by cases h;rfl
      rw[show lstB mm' b=true from by unfold lstB at hls ⊢;rw[hm b (by simp[this])];exact hls,cond_true]
      exact h
     | false=>
      rw[hls,cond_false]at h
      obtain ⟨h1,h2⟩:=cond_some.1 h
      have:r.rd=[id,b]:=by cases h2;rfl
      rw[show lstB mm' b=false from by unfold lstB at hls ⊢;rw[hm b (by simp[this])];exact hls,cond_false]
      exact cond_some.2 ⟨by rw[hm id (by simp[this])];exact h1,h2⟩
  ·simp at h
 case slice t x lo hi mx=>
  cases mx with
  | some m=>exact h
  | none=>
   simp only[noneK,oK_some]at h ⊢
   obtain ⟨vx,hx,h⟩:=h
   refine⟨vx,hx,?_⟩
   have opt:∀(o:Option Operand) (F F':Option Value->Option Res),(∀v,F v=some r->F' v=some r)->optK ev o F none=some r->optK ev o F' none=some r:=by
    intro o F F' hF hh
    cases o with
    | none=>exact hF _ hh
    | some y=>
     simp only[optK,oK_some]at hh ⊢
     obtain ⟨v,hv,hh⟩:=hh
     exact⟨v,hv,hF _ hh⟩
   refine opt lo _ _ (fun l h=>?_) h
   refine opt hi _ _ (fun u h=>?_) h
   obtain ⟨i,hi',h⟩:=oK_some.1 h
   refine oK_some.2 ⟨i,hi',?_⟩
   unfold descK at h ⊢
   cases hst:i.st<;>simp only[hst,cond_true,cond_false]at h ⊢
   ·split at h<;>first|(simp at h;done)|skip
    ·exact h
    ·rcases slK_some.1 h with⟨n,c,hs,h⟩|⟨b,off,n,c,hs,h⟩
     ·exact slK_some.2 (.inl ⟨n,c,hs,h⟩)
     obtain ⟨j,hj,h⟩:=oK_some.1 h
     refine slK_some.2 (.inr ⟨b,off,n,c,hs,oK_some.2 ⟨j,hj,?_⟩⟩)
     have high:∀(F F':Nat->Option Res),(∀v,F v=some r->F' v=some r)->highK n c u F none=some r->highK n c u F' none=some r:=by
      intro F F' hF hh
      cases u with
      | none=>exact hF _ hh
      | some y=>
       simp only[highK,intK_some,cond_some]at hh ⊢
       obtain ⟨kd,q,e,e2,hh⟩:=hh
       exact⟨kd,q,e,e2,hF _ hh⟩
     have low:∀(H:Nat) (F F':Nat->Option Res),(∀v,F v=some r->F' v=some r)->lowK H l F none=some r->lowK H l F' none=some r:=by
      intro H F F' hF hh
      cases l with
      | none=>exact hF _ hh
      | some y=>
       simp only[lowK,intK_some,cond_some]at hh ⊢
       obtain ⟨kd,q,e,e2,hh⟩:=hh
       exact⟨kd,q,e,e2,hF _ hh⟩
     refine high _ _ (fun H h=>?_) h
     refine low H _ _ (fun L h=>?_) h
     simp only[cond_some]at h ⊢
     obtain ⟨h1,h⟩:=h
     refine⟨h1,?_⟩
     cases hlo:loose b<;>simp only[hlo,cond_true,cond_false,cond_some]at h ⊢
     ·exact h
     ·obtain ⟨h2,h3⟩:=h
      obtain ⟨b2,l2,h4,h5⟩:=tlK_some.1 h3
      have:r.rd=[nid id 0,b]:=by cases h5;rfl
      refine⟨by rw[hm (nid id 0) (by simp[this])];exact h2,tlK_some.2 ⟨b2,l2,?_,h5⟩⟩
      unfold tlS tlK at h4 ⊢
      rw[hm b (by simp[this])];exact h4
    ·exact h
   ·simp at h
 case range t x=>
  simp only[oK_some]at h ⊢
  obtain ⟨v,hv,h⟩:=h
  refine⟨v,hv,?_⟩
  unfold strK at h ⊢
  split at h
  ·obtain ⟨i,hi,h⟩:=oK_some.1 h
   refine oK_some.2 ⟨i,hi,?_⟩
   unfold descK at h ⊢
   cases hst:i.st<;>simp only[hst,cond_true,cond_false]at h ⊢
   ·split at h<;>first|(simp at h;done)|skip
    obtain ⟨h1,h2⟩:=cond_some.1 h
    have:r.rd=[id]:=by cases h2;rfl
    exact cond_some.2 ⟨by rw[hm id (by simp[this])];exact h1,h2⟩
   ·simp at h
  ·simp at h
 case next x b=>
  obtain ⟨hb,h⟩:=cond_some.1 h
  refine cond_some.2 ⟨hb,?_⟩
  simp only[oK_some,ptrK_some]at h ⊢
  obtain ⟨v,hv,j,off,hp,h⟩:=h
  refine⟨v,hv,j,off,hp,?_⟩
  unfold nextK at h ⊢
  obtain ⟨blk,hblk,h⟩:=oK_some.1 h
  have hrd:j∈r.rd:=by
   split at h
   ·rename_i s pos _
    obtain ⟨_,h⟩:=cond_some.1 h
    cases hlt:Nat.blt pos s.size<;>rw[hlt]at h<;>(simp only[cond_true,cond_false]at h;cases h;simp)
   ·simp at h
  exact oK_some.2 ⟨blk,by rw[hm j hrd];exact hblk,h⟩
 case makeSlice t l c=>
  simp only[oK_some]at h ⊢
  obtain ⟨vl,hl,vc,hc,h⟩:=h
  refine⟨vl,hl,vc,hc,?_⟩
  cases hel:elSl T t with
  | true=>
   rw[hel,cond_true]at h
   rw[cond_true]
   obtain ⟨i,e,j,h1,h2,h3,h4,h⟩:=makeLK_some.1 h
   refine makeLK_some.2 ⟨i,e,j,h1,h2,h3,h4,?_⟩
   simp only[intK_some,cond_some]at h ⊢
   obtain ⟨k1,a,e1,k2,b,e2,h6,h7⟩:=h
   have:r.rd=[nid id 0]:=by cases h7;rfl
   exact⟨k1,a,e1,k2,b,e2,by rw[hm (nid id 0) (by simp[this])];exact h6,h7⟩
  | false=>
  rw[hel,cond_false]at h
  rw[cond_false]
  unfold makeK at h ⊢
  obtain ⟨i,e,j,h1,h2,h3,h4,h5,h⟩:=elemK_some.1 h
  refine elemK_some.2 ⟨i,e,j,h1,h2,h3,h4,h5,?_⟩
  simp only[intK_some,cond_some]at h ⊢
  obtain ⟨k1,a,e1,k2,b,e2,h6,h7⟩:=h
  have:r.rd=[nid id 0]:=by cases h7;rfl
  exact⟨k1,a,e1,k2,b,e2,by rw[hm (nid id 0) (by simp[this])];exact h6,h7⟩
 case call c=>
  have key:∀(xs:List Operand) (F F':List Value->Option Res),(∀vs,F vs=some r->F' vs=some r)->evsK ev xs F none=some r->evsK ev xs F' none=some r:=by
   intro xs
   induction xs with
   | nil=>intro F F' hF hh;exact hF _ hh
   | cons x xs ih=>
    intro F F' hF hh
    simp only[evsK,oK_some]at hh ⊢
    obtain ⟨v,hv,hh⟩:=hh
    exact⟨v,hv,ih _ _ (fun vs hvs=>hF _ hvs) hh⟩
  unfold callK at h ⊢
  split at h
  ·refine key _ _ _ (fun vs hvs=>?_) h
   obtain ⟨e,he,hvs⟩:=oK_some.1 hvs
   refine oK_some.2 ⟨e,he,?_⟩
   cases e with
   | pl F=>exact hvs
   | gl _ _ _ _=>exact hvs
   | me F=>
    simp only[entK,cond_some]at hvs ⊢
    obtain ⟨h0,hvs⟩:=hvs
    refine⟨h0,?_⟩
    obtain ⟨v,l,h1,h2⟩:=altM_some.1 hvs
    obtain ⟨h3,h4⟩:=cond_some.1 h2
    have hrd:r.rd=l.map (·.1)++reach mm (vs.flatMap idsV):=by cases h4;rfl
    have hre:reach mm' (vs.flatMap idsV)=reach mm (vs.flatMap idsV):=reach_congr fun b hb=>hm b (by rw[hrd];exact List.mem_append_right _ hb)
    have hrs:restr mm' (reach mm (vs.flatMap idsV))=restr mm (reach mm (vs.flatMap idsV)):=restr_congr fun b hb=>hm b (by rw[hrd];exact List.mem_append_right _ hb)
    rw[hre,hrs]
    refine altM_some.2 ⟨v,l,h1,cond_some.2 ⟨?_,h4⟩⟩
    unfold okM at h3 ⊢
    rw[List.all_eq_true]at h3 ⊢
    intro p hp
    have:=h3 p hp
    rw[hm p.1 (by rw[hrd];exact List.mem_append_left _ (List.mem_map.2 ⟨p,hp,rfl⟩))]
    exact this
   | il F nat=>
    simp only[entK,cond_some]at hvs ⊢
    obtain ⟨h0,hvs⟩:=hvs
    refine⟨h0,?_⟩
    obtain ⟨v,l,h1,h2⟩:=(ilF_some nat).1 hvs
    obtain ⟨h3,h4⟩:=cond_some.1 h2
    have hrd:r.rd=l.map (·.1)++reach mm (vs.flatMap idsV):=by cases h4;rfl
    have hre:reach mm' (vs.flatMap idsV)=reach mm (vs.flatMap idsV):=reach_congr fun b hb=>hm b (by rw[hrd];exact List.mem_append_right _ hb)
    have hrs:restr mm' (reach mm (vs.flatMap idsV))=restr mm (reach mm (vs.flatMap idsV)):=restr_congr fun b hb=>hm b (by rw[hrd];exact List.mem_append_right _ hb)
    rw[hre,hrs]
    refine(ilF_some nat).2 ⟨v,l,h1,cond_some.2 ⟨?_,h4⟩⟩
    unfold okM at h3 ⊢
    rw[List.all_eq_true]at h3 ⊢
    intro p hp
    have:=h3 p hp
    rw[hm p.1 (by rw[hrd];exact List.mem_append_left _ (List.mem_map.2 ⟨p,hp,rfl⟩))]
    exact this
  ·refine key _ _ _ (fun vs hvs=>?_) h
   simp only[twoK_some]at hvs ⊢
   obtain ⟨d,s,t,l,h1,h2,h3⟩:=hvs
   refine⟨d,s,t,l,h1,h2,?_⟩
   unfold copyK at h3 ⊢
   simp only[sliceK_some]at h3 ⊢
   obtain ⟨b,off,n,c1,hd,h3⟩:=h3
   refine⟨b,off,n,c1,hd,?_⟩
   obtain ⟨i,e,j,k1,k2,k3,k4,k5,h3⟩:=elemK_some.1 h3
   refine elemK_some.2 ⟨i,e,j,k1,k2,k3,k4,k5,?_⟩
   obtain ⟨q,hq,h3⟩:=srcK_some.1 h3
   obtain ⟨blk,hb,h3⟩:=oK_some.1 h3
   split at h3
   ·rename_i hc
    have hrd:r.rd=b::q.rd:=by obtain ⟨_,h4⟩:=cond_some.1 h3;cases h4;rfl
    refine srcK_some.2 ⟨q,srcS_congr hq (fun x hx=>hm x (by rw[hrd];simp[hx])),oK_some.2 ⟨blk,by rw[hm b (by rw[hrd];simp)];exact hb,?_⟩⟩
    rw[hc];exact h3
   ·rename_i hc
    obtain ⟨S,hS,h3⟩:=segK_some.1 h3
    have hrd:r.rd=S.rd++q.rd:=by obtain ⟨_,h4⟩:=cond_some.1 h3;cases h4;rfl
    refine srcK_some.2 ⟨q,srcS_congr hq (fun x hx=>hm x (by rw[hrd];simp[hx])),oK_some.2 ⟨blk,by rw[hm b (by rw[hrd];simp[segS_self hS])];exact hb,?_⟩⟩
    split
    ·rename_i hx;exact absurd hx (hc _)
    ·exact segK_some.2 ⟨S,segS_congr hS (fun x hx=>hm x (by rw[hrd];simp[hx])),h3⟩
  ·refine key _ _ _ (fun vs hvs=>?_) h
   simp only[twoK_some]at hvs ⊢
   obtain ⟨d,s,t,l,h1,h2,h3⟩:=hvs
   refine⟨d,s,t,l,h1,h2,?_⟩
   obtain ⟨ht,h3⟩:=cond_some.1 h3
   refine cond_some.2 ⟨ht,?_⟩
   cases hel:elSl T t with
   | true=>
    rw[hel,cond_true]at h3
    rw[cond_true]
    cases hB:tlB mm s with
    | true=>
     rw[hB,cond_true]at h3
     obtain ⟨h4,h5⟩:=appL_of hB h3 hm
     rw[h5,cond_true];exact h4
    | false=>
     rw[hB,cond_false]at h3
     have h4:=appF_of h3 hm
     rw[appF_notB h4,cond_false];exact h4
   | false=>
   rw[hel,cond_false]at h3
   rw[cond_false]
   unfold appendK at h3 ⊢
   obtain ⟨i,e,j,k1,k2,k3,k4,k5,h3⟩:=elemK_some.1 h3
   refine elemK_some.2 ⟨i,e,j,k1,k2,k3,k4,k5,?_⟩
   obtain ⟨h4,h3⟩:=cond_some.1 h3
   obtain ⟨q,hq,h3⟩:=srcK_some.1 h3
   rcases slK_some.1 h3 with⟨n,c,e1,h5⟩|⟨b,off,m,c,e1,h5⟩
   ·have hrd:r.rd=nid id 0::q.rd:=by obtain ⟨_,h6⟩:=cond_some.1 h5;cases h6;rfl
    refine cond_some.2 ⟨by rw[hm _ (by rw[hrd];simp)];exact h4,srcK_some.2 ⟨q,srcS_congr hq (fun x hx=>hm x (by rw[hrd];simp[hx])),slK_some.2 (.inl ⟨n,c,e1,h5⟩)⟩⟩
   ·obtain ⟨h6,h5⟩:=cond_some.1 h5
    obtain ⟨blk,hb,h5⟩:=oK_some.1 h5
    have hrd:r.rd=nid id 0::b::q.rd:=by
     split at h5
     ·obtain ⟨_,h7⟩:=cond_some.1 h5;cases h7;rfl
     ·cases hlo:loose b with
      | true=>
       rw[hlo,cond_true]at h5
       obtain ⟨_,h7⟩:=cond_some.1 h5
       cases hbb:Nat.ble 1500000 b with
       | true=>rw[hbb,cond_true]at h7;obtain ⟨_,h8⟩:=cond_some.1 h7;cases h8;rfl
       | false=>rw[hbb,cond_false]at h7;cases h7;rfl
      | false=>rw[hlo,cond_false]at h5;obtain ⟨_,h7⟩:=cond_some.1 h5;cases h7;rfl
     ·simp at h5
    refine cond_some.2 ⟨by rw[hm _ (by rw[hrd];simp)];exact h4,srcK_some.2 ⟨q,srcS_congr hq (fun x hx=>hm x (by rw[hrd];simp[hx])),slK_some.2 (.inr ⟨b,off,m,c,e1,cond_some.2 ⟨h6,oK_some.2 ⟨blk,by rw[hm b (by rw[hrd];simp)];exact hb,h5⟩⟩⟩)⟩⟩
  ·exact h
  ·exact h
  ·exact h
  ·exact h
end Go.W

namespace Go.W
def fldK (K:TypeId->Option (List CK)) (size:TypeId->Nat):List Field->Nat->Option (List CK)
 | [],_=>some []
 | f::r,off=>bif (f.name=="_")||!(Nat.beq f.offset off) then none else oK (K f.type) (fun l=>bif Nat.beq l.length (size f.type) then oK (fldK K size r (off+l.length)) (fun m=>some (l++m)) none else none) none
def kindsT (P:Program):Nat->TypeId->Option (List CK)
 | 0,_=>none
 | d+1,t=>
  match P.underlying t with
  | some (.int k)=>some [.i k]
  | some .bool=>some [.b]
  | some .string=>some [.s]
  | some (.array n e)=>oK (kindsT P d e) (fun l=>bif Nat.beq l.length (P.cellsOf e)&&(P.info? e).isSome then some (repK n l) else none) none
  | some (.struct fs)=>bif P.stoodInHeld t then none else fldK (kindsT P d) P.cellsOf fs.toList 0
  | _=>none
def TOk (P:Program) (t:Nat) (i:TInf):Prop:=
 (∃inf,P.info? t=some inf∧inf.size=i.siz∧inf.zero=some i.zer∧inf.bytes=i.byt)∧
 (i.st=false->P.underlying t=some i.und)∧
 (i.st=true->∃fs,P.underlying t=some (.struct fs)∧fs.toList.map (fun f=>(f.offset,f.type))=i.flds)∧
 (i.eqk≠[]->P.eqGuardType P.depth t=false∧kindsT P 20 t=some i.eqk)
def TabOk (P:Program) (T:Tab):Prop:=∀t i,look T t=some i->TOk P t i
def Invokes (P:Program) (g:FuncId) (args:Array Value) (w:World) (K:Value->World->Prop):Prop:=
 match (callFunc g args).run P w with
 | .ok (.value v) w'=>K v w'
 | .ok (.enter f args') w'=>Calls P f args' w' fun
   | .returned v,w''=>K v w''
   | _,_=>False
 | _=>False
def Sum (P:Program) [Laid P] (g:FuncId) (F:List Value->Option (Bool×Value)):Prop:=
 ∀args v,F args=some (true,v)->args.all pl2=true->∀w,GOk (lay P) w->Invokes P g args.toArray w fun v' w'=>v'=v∧RowKit.Below w.heap.size w w'
def MSum (P:Program) [Laid P] (g:FuncId) (F:List Value->(Nat->Option Blk)->Nat->List (Bool×Value×List (Nat×Blk))):Prop:=
 ∀(w0:Wb (lay P)) (R:Nat->Pl->Prop) (fm:Nat->Option Blk) (w:World),MRel w0 R fm w->∀vs args',LR (V2 R) vs args'->∀mm:Nat->Option Blk,(∀b blk,mm b=some blk->fm b=some blk)->
  ∀id,id<60000->∀v l,pickM (F vs mm id)=some (v,l)->(∀p∈l,(nid id 0<=p.1∧p.1<nid id 8->fm p.1=none)∧(¬(nid id 0<=p.1∧p.1<nid id 8)->(mm p.1).isSome=true))->
   Invokes P g args'.toArray w fun v' w'=>∃R':Nat->Pl->Prop,(∀i p,R i p->R' i p)∧V2 R' v v'∧MRel w0 R' (memF fm l) w'
def ISum (P:Program) [Laid P] (g:FuncId) (F:(R:Type)->List Value->(Nat->Option Blk)->List Nat->Nat->(Value->List (Nat×Blk)->R)->R->R):Prop:=
 ∀(w0:Wb (lay P)) (R:Nat->Pl->Prop) (fm:Nat->Option Blk) (w:World),MRel w0 R fm w->∀vs args',LR (V2 R) vs args'->∀mm:Nat->Option Blk,(∀b blk,mm b=some blk->fm b=some blk)->
  ∀rd id,id<60000->∀v l,ilS F vs mm rd id=some (v,l)->(∀p∈l,(nid id 0<=p.1∧p.1<nid id 8->fm p.1=none)∧(¬(nid id 0<=p.1∧p.1<nid id 8)->(mm p.1).isSome=true))->
   Invokes P g args'.toArray w fun v' w'=>∃R':Nat->Pl->Prop,(∀i p,R i p->R' i p)∧V2 R' v v'∧MRel w0 R' (memF fm l) w'
def EntOk (P:Program) [Laid P] (g:FuncId):Ent->Prop
 | .pl F=>Sum P g F
 | .me F=>MSum P g F
 | .gl ks n f e=>∃h,g=10000000+h∧(h,rowL ks f 0 n,e)∈lay P
 | .il F _=>ISum P g F
def SumsOk (P:Program) [Laid P] (G:Sums):Prop:=∀g e,look G g=some e->EntOk P g e
def evF (fs:Nat->Option Value):Operand->Option Value
 | .tmp t=>fs t
 | .const v=>bif pl2 v then some v else none
 | _=>none
section
variable {P:Program}{T:Tab}{GL:Glob}{w0:Wb GL}{w:World}{n:Nat}{R:Nat->Pl->Prop}{S:FS}{a:Act}
theorem Rel.ev {x:Operand}{v:Value}(h:Rel w0 n R S a w) (hx:evF S.fs x=some v):V2 R v (a.eval x):=by
 cases x with
 | tmp t=>
  obtain ⟨v',h1,h2⟩:=h.slot t v hx
  have:a.eval (.tmp t)=v':=by simp[Act.eval,h1]
  rw[this];exact h2
 | const u=>
  simp only[evF]at hx
  obtain ⟨hp,hx⟩:=cond_some.1 hx
  cases hx
  exact(V2_plain hp).2 rfl
 | global g=>simp[evF]at hx
 | func f=>simp[evF]at hx
theorem V2_int {kd:IntKind}{m:Int}{v':Value}(h:V2 R (.int kd m) v'):v'=.int kd m:=(V2_plain rfl).1 h
theorem V2_bool {b:Bool}{v':Value}(h:V2 R (.bool b) v'):v'=.bool b:=(V2_plain rfl).1 h
theorem V2_string {s:ByteArray}{v':Value}(h:V2 R (.string s) v'):v'=.string s:=(V2_plain rfl).1 h
theorem V2_ptr {b off:Nat}{v':Value}(h:V2 R (.pointer (some ⟨b,off,none⟩)) v'):∃p b',R b p∧p.a=some b'∧v'=.pointer (some ⟨b',p.d+off,none⟩):=h
theorem V2_slice {b off m c:Nat}{v':Value}(h:V2 R (.slice (some ⟨b,off,none⟩) m c) v'):∃p,R b p∧SlOk ⟨b,off,none⟩ m c p v':=h
theorem SlOk_tight {b off m c:Nat}{p:Pl}{v':Value}(hl:loose b=false) (h:SlOk ⟨b,off,none⟩ m c p v'):∃b',p.a=some b'∧v'=.slice (some ⟨b',p.d+off,none⟩) m c:=by
 unfold SlOk at h
 rw[if_neg (by rw[hl];exact Bool.false_ne_true)]at h
 exact h
theorem SlOk_loose {b off m c:Nat}{p:Pl}{v':Value}(hl:loose b=true) (h:SlOk ⟨b,off,none⟩ m c p v'):off=0∧c<=p.c∧((∃b',p.a=some b'∧v'=.slice (some ⟨b',p.d,none⟩) m p.c)∨(p.a=none∧m=0∧p.c=0∧Emp v')):=by
 unfold SlOk at h
 rw[if_pos hl]at h
 obtain ⟨h1,_,h2,h3⟩:=h
 refine⟨h1,h2,?_⟩
 split at h3
 ·rename_i b' hb;exact .inl ⟨b',hb,h3⟩
 ·rename_i hb;exact .inr ⟨hb,h3⟩
theorem SlOk_some {b off m c:Nat}{p:Pl}{v':Value}(h:SlOk ⟨b,off,none⟩ m c p v') (hm:m≠0):∃b' c',p.a=some b'∧v'=.slice (some ⟨b',p.d+off,none⟩) m c':=by
 cases hl:loose b with
 | false=>obtain ⟨b',h1,h2⟩:=SlOk_tight hl h;exact⟨b',c,h1,h2⟩
 | true=>
  obtain ⟨rfl,_,⟨b',h1,h2⟩|⟨_,h1,_⟩⟩:=SlOk_loose hl h
  ·exact⟨b',_,h1,h2⟩
  ·exact absurd h1 hm
theorem V2_agg {cs:Array Value}{v':Value}(h:V2 R (.agg cs) v'):∃cs',v'=.agg cs'∧LR (V0 R) cs.toList cs'.toList:=h
theorem V2_tuple {cs:Array Value}{v':Value}(h:V2 R (.tuple cs) v'):∃cs',v'=.tuple cs'∧LR (V1 R) cs.toList cs'.toList:=h
theorem V2_of_V1 {v v':Value}(h:V1 R v v'):V2 R v v':=by
 unfold V2;split
 ·simp[V1,V0]at h
 ·exact h
theorem V1_of_V0 {v v':Value}(h:V0 R v v'):V1 R v v':=by
 unfold V1;split
 ·simp[V0]at h
 ·exact h
theorem V2_of_V0 {v v':Value}(h:V0 R v v'):V2 R v v':=V2_of_V1 (V1_of_V0 h)
theorem info_of (hT:TabOk P T){t:Nat}{i:TInf}(h:look T t=some i):∃inf,P.info? t=some inf∧inf.size=i.siz∧inf.zero=some i.zer∧inf.bytes=i.byt:=(hT t i h).1
theorem cellsOf_of (hT:TabOk P T){t:Nat}{i:TInf}(h:look T t=some i):P.cellsOf t=i.siz:=by
 obtain ⟨inf,h1,h2,_⟩:=info_of hT h
 simp[Program.cellsOf,h1,h2]
theorem run_size (hT:TabOk P T){t:Nat}{i:TInf}(h:look T t=some i) (w:World):(sizeOf t).run P w=.ok i.siz w:=by
 obtain ⟨inf,h1,h2,_⟩:=info_of hT h
 rw[run_sizeOf w h1,cellsOf_of hT h]
theorem und_some (hT:TabOk P T){t:Nat}{i:TInf}(h:look T t=some i):∃d,P.underlying t=some d∧(i.st=false->d=i.und)∧(i.st=true->∃fs,d=.struct fs∧fs.toList.map (fun f=>(f.offset,f.type))=i.flds):=by
 obtain ⟨_,h1,h2,_⟩:=hT t i h
 cases hs:i.st with
 | false=>exact⟨_,h1 hs,fun _=>rfl,nofun⟩
 | true=>obtain ⟨fs,e1,e2⟩:=h2 hs;exact⟨_,e1,nofun,fun _=>⟨fs,rfl,e2⟩⟩
theorem run_agg (hT:TabOk P T){t:Nat}{i:TInf}(h:look T t=some i) (w:World):(isAgg t).run P w=.ok (isAggT i) w:=by
 obtain ⟨d,hd,h1,h2⟩:=und_some hT h
 cases hs:i.st with
 | false=>
  have:=h1 hs;subst this
  simp only[isAgg,Sem.run_bind,run_underlying hd,Result.andThen_ok,isAggT,hs,Bool.false_or]
  cases i.und<;>rfl
 | true=>
  obtain ⟨fs,rfl,_⟩:=h2 hs
  simp only[isAgg,Sem.run_bind,run_underlying hd,Result.andThen_ok,isAggT,hs,Bool.true_or]
  rfl
theorem descK_some {β:Type}{i:TInf}{arr:Nat->Nat->Option β}{slc:Nat->Option β}{int:IntKind->Option β}{bool str:Option β}{r:β}
  (h:descK i arr slc int bool str none=some r):i.st=false∧((∃m e,i.und=.array m e∧arr m e=some r)∨(∃e,i.und=.slice e∧slc e=some r)∨(∃kd,i.und=.int kd∧int kd=some r)∨
   (i.und=.bool∧bool=some r)∨(i.und=.string∧str=some r)):=by
 unfold descK at h
 obtain ⟨h1,h2⟩:=cond_none.1 h
 refine⟨h1,?_⟩
 split at h2
 ·exact .inl ⟨_,_,by assumption,h2⟩
 ·exact .inr (.inl ⟨_,by assumption,h2⟩)
 ·exact .inr (.inr (.inl ⟨_,by assumption,h2⟩))
 ·exact .inr (.inr (.inr (.inl ⟨by assumption,h2⟩)))
 ·exact .inr (.inr (.inr (.inr ⟨by assumption,h2⟩)))
 ·simp at h2
theorem part_run (hT:TabOk P T){t:Nat}{i:TInf}(ht:look T t=some i){cs cs':List Value}(hl:LR (V0 R) cs cs'){off:Nat}{k:Value->Option Res}{r:Res}(h:partK i cs off k none=some r) (w:World):
  ∃v v',k v=some r∧(part t cs'.toArray off).run P w=.ok v' w∧V1 R v v':=by
 have h:=partK_old h
 simp only[part,Sem.run_bind,run_agg hT ht,Result.andThen_ok]
 cases hA:isAggT i with
 | true=>
  simp only[hA,cond_true]at h
  obtain ⟨h1,h2⟩:=cond_some.1 h
  refine⟨_,_,h2,by simp only[if_true,Sem.run_bind,run_size hT ht,Result.andThen_ok];rfl,?_⟩
  refine⟨_,rfl,?_⟩
  simp only[List.extract_toArray,List.extract_eq_take_drop]
  have:=LR_take i.siz (LR_drop off hl)
  simpa using this
 | false=>
  simp only[hA,cond_false]at h
  obtain ⟨v,h1,h2⟩:=oK_some.1 h
  obtain ⟨v',h3,h4⟩:=LR_get hl h1
  refine⟨v,v',h2,?_,V1_of_V0 h4⟩
  simp[h3]
def PR (P:Program) (R:Nat->Pl->Prop) (a:Act) (w:World) (o:Oper) (r:Res):Prop:=
 r.mem=[]∧∃v',(execOp a.eval o).run P w=.ok (.value v') w∧V2 R r.val v'
theorem PR.mk {o:Oper}{v v':Value}(hr:(execOp a.eval o).run P w=.ok (.value v') w) (hv:V2 R v v'):PR P R a w o (val v):=⟨rfl,v',hr,hv⟩
theorem binI_run {op:BinOp}{kx ky:IntKind}{x y:Int}{k:Value->Option Res}{r:Res}(h:binI op kx x ky y k none=some r) (t:Nat) (w:World):
  ∃v,k v=some r∧(binOp op t (.int kx x) (.int ky y)).run P w=.ok v w∧V2 R v v:=by
 cases op<;>simp only[binI]at h<;>simp only[cond_some,cond_none,decide_eq_true_eq,decide_eq_false_iff_not]at h
 case shl=>exact⟨_,h.2,by simp[binOp,Op.shift,h.1],(V2_plain rfl).2 rfl⟩
 case shr=>exact⟨_,h.2,by simp[binOp,Op.shift,h.1],(V2_plain rfl).2 rfl⟩
 case quo=>obtain ⟨rfl,h2,h3⟩:=h;exact⟨_,h3,by simp[binOp,Op.intDiv,h2],(V2_plain rfl).2 rfl⟩
 case rem=>obtain ⟨rfl,h2,h3⟩:=h;exact⟨_,h3,by simp[binOp,Op.intDiv,h2],(V2_plain rfl).2 rfl⟩
 all_goals (obtain ⟨rfl,h2⟩:=h;exact⟨_,h2,by simp[binOp,Op.intArith,Op.intBits,Op.intCmp],(V2_plain rfl).2 rfl⟩)
theorem isCK_inv {k:CK}{v:Value}(h:isCK k v=true):(∃kd x,k=.i kd∧v=.int kd x)∨(∃x,k=.b∧v=.bool x)∨(∃x,k=.s∧v=.string x):=by
 unfold isCK at h
 split at h
 ·simp only[decide_eq_true_eq]at h;subst h;exact .inl ⟨_,_,rfl,rfl⟩
 ·exact .inr (.inl ⟨_,rfl,rfl⟩)
 ·exact .inr (.inr ⟨_,rfl,rfl⟩)
 ·simp at h
theorem fitsK_len:∀{ks:List CK}{vs:List Value},fitsK ks vs=true->vs.length=ks.length
 | [],[],_=>rfl
 | k::ks,v::vs,h=>by
  simp only[fitsK,Bool.and_eq_true]at h
  simp[fitsK_len h.2]
 | [],_::_,h=>by simp[fitsK]at h
 | _::_,[],h=>by simp[fitsK]at h
theorem fitsK_pl:∀{ks:List CK}{vs:List Value},fitsK ks vs=true->vs.all pl0=true
 | [],[],_=>rfl
 | k::ks,v::vs,h=>by
  simp only[fitsK,Bool.and_eq_true]at h
  rw[List.all_cons,fitsK_pl h.2,Bool.and_true]
  rcases isCK_inv h.1 with⟨_,_,_,rfl⟩|⟨_,_,rfl⟩|⟨_,_,rfl⟩<;>rfl
 | [],_::_,h=>by simp[fitsK]at h
 | _::_,[],h=>by simp[fitsK]at h
theorem fitsK_app:∀{ks ls:List CK}{vs:List Value},fitsK (ks++ls) vs=true->fitsK ks (vs.take ks.length)=true∧fitsK ls (vs.drop ks.length)=true
 | [],_,_,h=>⟨by simp[fitsK],by simpa using h⟩
 | k::ks,ls,v::vs,h=>by
  simp only[List.cons_append,fitsK,Bool.and_eq_true]at h
  obtain ⟨h1,h2⟩:=fitsK_app h.2
  simp only[List.length_cons,List.take_succ_cons,List.drop_succ_cons,fitsK,Bool.and_eq_true]
  exact⟨⟨h.1,h1⟩,h2⟩
 | _::_,_,[],h=>by simp[fitsK]at h
theorem eqL_app:∀{ks:List CK}{xs ys:List Value}(xs' ys':List Value),fitsK ks xs=true->fitsK ks ys=true->eqL (xs++xs') (ys++ys')=(eqL xs ys&&eqL xs' ys')
 | [],[],[],_,_,_,_=>by simp[eqL]
 | k::ks,x::xs,y::ys,xs',ys',h1,h2=>by
  simp only[fitsK,Bool.and_eq_true]at h1 h2
  have ih:=eqL_app xs' ys' h1.2 h2.2
  rcases isCK_inv h1.1 with⟨_,_,rfl,rfl⟩|⟨_,rfl,rfl⟩|⟨_,rfl,rfl⟩<;>rcases isCK_inv h2.1 with⟨_,_,e,rfl⟩|⟨_,e,rfl⟩|⟨_,e,rfl⟩<;>first|(cases e;done)|skip
  all_goals (simp only[List.cons_append,eqL,ih,Bool.and_assoc])
 | [],_::_,_,_,_,h,_=>by simp[fitsK]at h
 | [],[],_::_,_,_,_,h=>by simp[fitsK]at h
 | _::_,[],_,_,_,h,_=>by simp[fitsK]at h
 | _::_,_::_,[],_,_,_,h=>by simp[fitsK]at h
def aggD (P:Program) (t:TypeId):Bool:=
 match P.underlying t with
 | some (.struct _)=>true
 | some (.array _ _)=>true
 | _=>false
def isAggV:Value->Bool
 | .agg _=>true
 | _=>false
theorem kindsT_agg {d:Nat}{t:TypeId}{ks:List CK}(hk:kindsT P d t=some ks) (h:aggD P t=false):∃k,ks=[k]:=by
 cases d with
 | zero=>simp[kindsT]at hk
 | succ d=>
  unfold kindsT at hk
  unfold aggD at h
  split at hk
  ·cases hk;exact⟨_,rfl⟩
  ·cases hk;exact⟨_,rfl⟩
  ·cases hk;exact⟨_,rfl⟩
  ·rename_i hu;rw[hu]at h;simp at h
  ·rename_i hu;rw[hu]at h;simp at h
  ·simp at hk
theorem part_kinds {d:Nat}{e:TypeId}{l:List CK}(hk:kindsT P d e=some l) (hl:l.length=P.cellsOf e){xs:Array Value}{off:Nat}(hf:fitsK l ((xs.toList.drop off).take l.length)=true) (w:World):
  ∃v,(part e xs off).run P w=.ok v w∧isAggV v=aggD P e∧v.cells.toList=(xs.toList.drop off).take l.length:=by
 obtain ⟨kd,hu⟩:∃kd,P.underlying e=some kd:=by
  cases d with
  | zero=>simp[kindsT]at hk
  | succ d=>
   cases hu:P.underlying e with
   | none=>simp[kindsT,hu]at hk
   | some kd=>exact⟨kd,rfl⟩
 obtain ⟨i,hi⟩:=info_of_underlying hu
 have hag:(isAgg e).run P w=.ok (aggD P e) w:=by
  unfold aggD
  rw[hu]
  simp only[isAgg,Sem.run_bind,run_underlying hu,Result.andThen_ok]
  cases kd<;>rfl
 cases ha:aggD P e with
 | true=>
  refine⟨.agg (xs.extract off (off+P.cellsOf e)),?_,rfl,?_⟩
  ·simp only[part,Sem.run_bind,hag,ha,Result.andThen_ok,if_true,run_sizeOf w hi];rfl
  ·show(xs.extract off (off+P.cellsOf e)).toList=_
   rw[hl,Array.toList_extract]
   simp[List.extract]
 | false=>
  obtain ⟨k,rfl⟩:=kindsT_agg hk ha
  simp only[List.length_cons,List.length_nil,Nat.zero_add]at hf ⊢
  match hx:(xs.toList.drop off).take 1,hf with
  | [v],hf=>
   have hv:xs[off]?=some v:=by
    have:((xs.toList.drop off).take 1)[0]?=some v:=by rw[hx];rfl
    simpa using this
   refine⟨v,?_,?_,?_⟩
   ·simp[part,hag,ha,hv]
   ·simp only[fitsK,Bool.and_true]at hf
    rcases isCK_inv hf with⟨_,_,_,rfl⟩|⟨_,_,rfl⟩|⟨_,_,rfl⟩<;>rfl
   ·simp only[fitsK,Bool.and_true]at hf
    rcases isCK_inv hf with⟨_,_,_,rfl⟩|⟨_,_,rfl⟩|⟨_,_,rfl⟩<;>rfl
  | [],hf=>simp[fitsK]at hf
  | _::_::_,hf=>simp[fitsK]at hf
def EqC (P:Program) (D d:Nat) (t:TypeId):Prop:=∀ks,kindsT P d t=some ks->∀(w:World) (x y:Value),isAggV x=aggD P t->isAggV y=aggD P t->fitsK ks x.cells.toList=true->fitsK ks y.cells.toList=true->
 (Op.equalIn (D+d) t x y).run P w=.ok (eqL x.cells.toList y.cells.toList) w
theorem items_kinds {D d:Nat}{e:TypeId}(IH:EqC P D d e){l:List CK}(hk:kindsT P d e=some l) (hl:l.length=P.cellsOf e) (w:World) (xs ys:Array Value):∀(m lo:Nat),
  fitsK (repK m l) (xs.toList.drop (lo*l.length))=true->fitsK (repK m l) (ys.toList.drop (lo*l.length))=true->
   (Op.eqItems (D+d) e (P.cellsOf e) xs ys (List.range' lo m)).run P w=.ok (eqL (xs.toList.drop (lo*l.length)) (ys.toList.drop (lo*l.length))) w
 | 0,lo,hx,hy=>by
  have e1:xs.toList.drop (lo*l.length)=[]:=List.length_eq_zero_iff.1 (fitsK_len hx)
  rw[e1]
  simp[Op.eqItems,eqL]
 | m+1,lo,hx,hy=>by
  obtain ⟨x1,x2⟩:=fitsK_app hx
  obtain ⟨y1,y2⟩:=fitsK_app hy
  obtain ⟨a,pa,fa,ca⟩:=part_kinds hk hl x1 w
  obtain ⟨b,pb,fb,cb⟩:=part_kinds hk hl y1 w
  have heq:=IH l hk w a b fa fb (by rw[ca];exact x1) (by rw[cb];exact y1)
  rw[ca,cb]at heq
  rw[List.drop_drop,show lo*l.length+l.length=(lo+1)*l.length from by rw[Nat.add_mul,Nat.one_mul]]at x2 y2
  have hr:=items_kinds IH hk hl w xs ys m (lo+1) x2 y2
  have ex:xs.toList.drop (lo*l.length)=(xs.toList.drop (lo*l.length)).take l.length++xs.toList.drop ((lo+1)*l.length):=by
   rw[show(lo+1)*l.length=lo*l.length+l.length from by rw[Nat.add_mul,Nat.one_mul],<-List.drop_drop,List.take_append_drop]
  have ey:ys.toList.drop (lo*l.length)=(ys.toList.drop (lo*l.length)).take l.length++ys.toList.drop ((lo+1)*l.length):=by
   rw[show(lo+1)*l.length=lo*l.length+l.length from by rw[Nat.add_mul,Nat.one_mul],<-List.drop_drop,List.take_append_drop]
  have hL:eqL (xs.toList.drop (lo*l.length)) (ys.toList.drop (lo*l.length))=(eqL ((xs.toList.drop (lo*l.length)).take l.length) ((ys.toList.drop (lo*l.length)).take l.length)&&eqL (xs.toList.drop ((lo+1)*l.length)) (ys.toList.drop ((lo+1)*l.length))):=by
   rw[<-eqL_app _ _ x1 y1,<-ex,<-ey]
  rw[List.range'_succ,hL]
  rw[hl]at pa pb
  simp only[Op.eqItems,Sem.run_bind,pa,pb,Result.andThen_ok,heq]
  rw[<-hl]
  cases eqL ((xs.toList.drop (lo*l.length)).take l.length) ((ys.toList.drop (lo*l.length)).take l.length) with
  | false=>simp
  | true=>
   simp only[Bool.not_true,Bool.false_eq_true,if_false,Bool.true_and]
   rw[hl]at hr ⊢;exact hr
theorem fields_kinds {D d:Nat}(IH:∀t,EqC P D d t) (w:World) (xs ys:Array Value):∀(fs:List Field) (off:Nat) (ks:List CK),fldK (kindsT P d) P.cellsOf fs off=some ks->
  fitsK ks (xs.toList.drop off)=true->fitsK ks (ys.toList.drop off)=true->(Op.eqFields (D+d) xs ys fs).run P w=.ok (eqL (xs.toList.drop off) (ys.toList.drop off)) w
 | [],off,ks,hk,hx,hy=>by
  simp only[fldK,Option.some.injEq]at hk
  subst hk
  have e1:xs.toList.drop off=[]:=List.length_eq_zero_iff.1 (fitsK_len hx)
  rw[e1]
  simp[Op.eqFields,eqL]
 | f::fs,off,ks,hk,hx,hy=>by
  simp only[fldK,cond_none,oK_some,cond_some,Bool.or_eq_false_iff,Bool.not_eq_false']at hk
  obtain ⟨⟨hn,ho⟩,l,hl,hlen,m,hm,hk⟩:=hk
  have hk:=(Option.some.inj hk).symm;subst hk
  have ho:=nbeq.1 ho
  have hlen:=nbeq.1 hlen
  have hn:f.name≠"_":=by simpa using hn
  obtain ⟨x1,x2⟩:=fitsK_app hx
  obtain ⟨y1,y2⟩:=fitsK_app hy
  obtain ⟨a,pa,fa,ca⟩:=part_kinds hl hlen x1 w
  obtain ⟨b,pb,fb,cb⟩:=part_kinds hl hlen y1 w
  have heq:=IH f.type l hl w a b fa fb (by rw[ca];exact x1) (by rw[cb];exact y1)
  rw[ca,cb]at heq
  rw[List.drop_drop]at x2 y2
  have hr:=fields_kinds IH w xs ys fs (off+l.length) m hm x2 y2
  have hL:eqL (xs.toList.drop off) (ys.toList.drop off)=(eqL ((xs.toList.drop off).take l.length) ((ys.toList.drop off).take l.length)&&eqL (xs.toList.drop (off+l.length)) (ys.toList.drop (off+l.length))):=by
   rw[<-eqL_app _ _ x1 y1,<-List.drop_drop,<-List.drop_drop,List.take_append_drop,List.take_append_drop]
  rw[hL]
  simp only[Op.eqFields,ne_eq,hn,not_false_eq_true,if_true,Sem.run_bind,ho,pa,pb,Result.andThen_ok,heq]
  cases eqL ((xs.toList.drop off).take l.length) ((ys.toList.drop off).take l.length) with
  | false=>simp
  | true=>
   simp only[Bool.not_true,Bool.false_eq_true,if_false,Bool.true_and]
   exact hr
theorem equal_kinds (D:Nat):∀(d:Nat) (t:TypeId),EqC P D d t
 | 0,t=>by intro ks hk;simp[kindsT]at hk
 | d+1,t=>by
  intro ks hk w x y ax ay fx fy
  unfold kindsT at hk
  unfold aggD at ax ay
  have hone:∀{v:Value},isAggV v=false->v.cells.toList=[v]:=by
   intro v hv;cases v<;>first|rfl|simp[isAggV]at hv
  split at hk
  ·rename_i k hu
   rw[hu]at ax ay
   cases hk
   rw[hone ax]at fx ⊢;rw[hone ay]at fy ⊢
   simp only[fitsK,Bool.and_true]at fx fy
   rcases isCK_inv fx with⟨_,_,e,rfl⟩|⟨_,e,_⟩|⟨_,e,_⟩<;>first|(cases e;done)|skip
   rcases isCK_inv fy with⟨_,_,e',rfl⟩|⟨_,e',_⟩|⟨_,e',_⟩<;>first|(cases e';done)|skip
   cases e;cases e'
   rw[show D+(d+1)=D+d+1 from rfl,run_equalIn_int w (D+d) t _ k _ _ hu];simp[eqL]
  ·rename_i hu
   rw[hu]at ax ay
   cases hk
   rw[hone ax]at fx ⊢;rw[hone ay]at fy ⊢
   simp only[fitsK,Bool.and_true]at fx fy
   rcases isCK_inv fx with⟨_,_,e,_⟩|⟨_,e,rfl⟩|⟨_,e,_⟩<;>first|(cases e;done)|skip
   rcases isCK_inv fy with⟨_,_,e',_⟩|⟨_,e',rfl⟩|⟨_,e',_⟩<;>first|(cases e';done)|skip
   rw[show D+(d+1)=D+d+1 from rfl,run_equalIn_bool' w (D+d) t _ _ hu];simp[eqL]
  ·rename_i hu
   rw[hu]at ax ay
   cases hk
   rw[hone ax]at fx ⊢;rw[hone ay]at fy ⊢
   simp only[fitsK,Bool.and_true]at fx fy
   rcases isCK_inv fx with⟨_,_,e,_⟩|⟨_,e,_⟩|⟨_,e,rfl⟩<;>first|(cases e;done)|skip
   rcases isCK_inv fy with⟨_,_,e',_⟩|⟨_,e',_⟩|⟨_,e',rfl⟩<;>first|(cases e';done)|skip
   rw[show D+(d+1)=D+d+1 from rfl,run_equalIn_string w (D+d) t _ _ hu,<-beq_toListBytes];simp[eqL]
  ·rename_i n e hu
   rw[hu]at ax ay
   simp only[oK_some,cond_some,Bool.and_eq_true]at hk
   obtain ⟨l,hl,⟨hlen,hinf⟩,hk⟩:=hk
   have hk:=(Option.some.inj hk).symm;subst hk
   have hlen:=nbeq.1 hlen
   obtain ⟨i,hi⟩:=Option.isSome_iff_exists.1 hinf
   cases x<;>simp only[isAggV,Bool.false_eq_true]at ax
   cases y<;>simp only[isAggV,Bool.false_eq_true]at ay
   rename_i xs ys
   rw[show D+(d+1)=D+d+1 from rfl,run_equalIn_array w (D+d) xs ys hu hi,List.range_eq_range']
   have:=items_kinds (equal_kinds D d e) hl hlen w xs ys n 0 (by simpa [Value.cells] using fx) (by simpa [Value.cells] using fy)
   simpa [Value.cells] using this
  ·rename_i fs hu
   rw[hu]at ax ay
   obtain ⟨hs,hk⟩:=cond_none.1 hk
   cases x<;>simp only[isAggV,Bool.false_eq_true]at ax
   cases y<;>simp only[isAggV,Bool.false_eq_true]at ay
   rename_i xs ys
   have hfs:P.fieldsOf t=fs:=by simp[Program.fieldsOf,hu]
   rw[show D+(d+1)=D+d+1 from rfl,run_equalIn_struct w (D+d) t xs ys (by rw[hfs];exact hu) hs,hfs]
   have:=fields_kinds (D:=D) (equal_kinds D d) w xs ys fs.toList 0 ks hk (by simpa [Value.cells] using fx) (by simpa [Value.cells] using fy)
   simpa [Value.cells] using this
  ·simp at hk
theorem eqA_run (hT:TabOk P T){t:Nat}{xs ys:Array Value}{k:Bool->Option Res}{r:Res}(h:eqA T t xs.toList ys.toList k none=some r) (w:World):
  ∃b,k b=some r∧(Op.equal t (.agg xs) (.agg ys)).run P w=.ok b w∧P.eqGuardType P.depth t=false∧xs.toList.all pl0=true∧ys.toList.all pl0=true:=by
 unfold eqA at h
 simp only[oK_some,cond_some,cond_none,Bool.and_eq_true]at h
 obtain ⟨i,hi,hne,⟨⟨hag,fx⟩,fy⟩,h⟩:=h
 obtain ⟨hg,hk⟩:=(hT t i hi).2.2.2 (by intro e;rw[e]at hne;simp at hne)
 have ha:aggD P t=true:=by
  obtain ⟨d,hd1,hd2,hd3⟩:=und_some hT hi
  unfold aggD
  rw[hd1]
  cases hs:i.st with
  | false=>
   have:=hd2 hs;subst this
   simp only[isAggT,hs,Bool.false_or]at hag
   cases hu:i.und<;>rw[hu]at hag<;>first|rfl|simp at hag
  | true=>obtain ⟨fs,rfl,_⟩:=hd3 hs;rfl
 refine⟨_,h,?_,hg,fitsK_pl fx,fitsK_pl fy⟩
 exact equal_kinds (P:=P) 9980 20 t _ hk w (.agg xs) (.agg ys) ha.symm ha.symm fx fy
theorem eqGuard_agg {op:BinOp}{t:Nat}{x y:Operand}{xs ys:Array Value}(hg:P.eqGuardType P.depth t=false) (w:World):(eqGuard op t x y (.agg xs) (.agg ys)).run P w=.ok () w:=by
 unfold eqGuard
 cases op<;>simp[hg]
theorem eqGuard_int {op:BinOp}{t:Nat}{x y:Operand}{k1 k2:IntKind}{m1 m2:Int}(w:World):(eqGuard op t x y (.int k1 m1) (.int k2 m2)).run P w=.ok () w:=by
 unfold eqGuard
 cases op<;>simp
theorem eqGuard_bool {op:BinOp}{t:Nat}{x y:Operand}{b1 b2:Bool}(w:World):(eqGuard op t x y (.bool b1) (.bool b2)).run P w=.ok () w:=by
 unfold eqGuard
 cases op<;>simp
end
end Go.W
