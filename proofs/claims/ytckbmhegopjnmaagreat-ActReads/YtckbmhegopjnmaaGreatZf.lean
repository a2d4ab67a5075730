/-
  Several texts in one: W21 M63p M51n W25 M51 M52 M32 M55 M58s M63 W22 W28 W31 W32 W33 W34 W27 W36 M33r M42 M77 M78 M87 M94 M65 W35.
-/
import Derived.Test.YtckbmhegopjnmaaGreatZe
import Derived.KernelRfl
namespace Go.W
open Go.RowKit (Below)
section
variable {P:Program} [Laid P]
theorem msum_core2 {g:FuncId}{fn:Func}{c:Code}(hf:P.funcs[g]?=some fn) (hname:(fn.name=="runtime.NumGoroutine")=false) (hb:fn.body=some c){fuel next:Nat}
  {w0:Wb (lay P)}{R:Nat->Pl->Prop}{fm:Nat->Option Blk}{w:World}(hm:MRel w0 R fm w){args':List Value}{id:Nat}(hlt:id<60000){v:Value}{l:List (Nat×Blk)}(hl1:l=[]∨∃blk,l=[(nid id 0,blk)]) (hnew:∀p∈l,nid id 0<=p.1∧p.1<nid id 8->fm p.1=none)
  {A Rc:Nat->Pl->Prop}{memC:List (Nat×Blk)}{argsC:List Value}(hmC:MRel (⟨w,fun _=>False,A⟩:Wb (lay P)) Rc (look memC) w) (hargs:LR (V2 Rc) argsC args') (hlen:argsC.length<=fn.ntmps)
  {C:Cfg}(hC:CfgOk P C c) (hn:C.n=fn.ntmps) (hev:fnMS C fuel fn c argsC memC next id=some (v,l)):
  Invokes P g args'.toArray w fun v' w'=>∃R':Nat->Pl->Prop,(∀i p,R i p->R' i p)∧V2 R' v v'∧MRel w0 R' (memF fm l) w':=by
 have hne:fn.name≠"runtime.NumGoroutine":=by simpa using hname
 have hrun:(callFunc g args'.toArray).run P w=.ok (.enter g args'.toArray) w:=by simp[callFunc,hf,hne,hb]
 unfold Invokes
 rw[hrun]
 unfold fnMS fnM at hev
 rw[evK_eq,oK_some]at hev
 obtain ⟨⟨e,s'⟩,he1,he2⟩:=hev
 obtain ⟨vC,he3,he4⟩:∃vC,endK C.T fn e s' some none=some vC∧expK C.T (look s'.mem) id vC (fun v l=>some (v,l)) none=some (v,l):=by
  unfold endK at he2 ⊢
  have key:∀lr:List ResultVar,resK C.T s' lr (fun vs=>oneK vs fun v=>expK C.T (look s'.mem) id v (fun v l=>some (v,l)) none) none=some (v,l)->∃vC,resK C.T s' lr (fun vs=>oneK vs some) none=some vC∧expK C.T (look s'.mem) id vC (fun v l=>some (v,l)) none=some (v,l):=by
   intro lr hh
   have e1:resK C.T s' lr (fun vs=>oneK vs fun v=>expK C.T (look s'.mem) id v (fun v l=>some (v,l)) none) none=oK (resK C.T s' lr (fun vs=>oneK vs some) none) (fun v=>expK C.T (look s'.mem) id v (fun v l=>some (v,l)) none) none:=by
    rw[resK_nat (fun o:Option Value=>oK o (fun v=>expK C.T (look s'.mem) id v (fun v l=>some (v,l)) none) none)]
    congr 1;funext vs
    exact(oneK_nat (fun o:Option Value=>oK o (fun v=>expK C.T (look s'.mem) id v (fun v l=>some (v,l)) none) none) vs some).symm
   rw[e1]at hh
   exact oK_some.1 hh
  cases e<;>simp only at he2 ⊢<;>first|exact key _ he2|(simp at he2;done)
 refine Calls.mono (fn_mem hC hf hb hn hmC hargs hlen he1 he3) ?_
 rintro ex w' ⟨R',v',rfl,hvv,hvt,hm'⟩
 show ∃R2:Nat->Pl->Prop,_∧_∧_
 have hX:∀k,¬(⟨w,fun _=>False,A⟩:Wb (lay P)).X k:=fun _ h=>h
 have h8:nid id 0<nid id 8:=by unfold nid;omega
 have hbel:Below w.heap.size w w':=hm'.below.below hX
 have none_case:l=[]->expK C.T (look s'.mem) id vC (fun v l=>some (v,l)) none=some (v,[])->∃R2:Nat->Pl->Prop,(∀i p,R i p->R2 i p)∧V2 R2 v v'∧MRel w0 R2 (memF fm []) w':=by
  intro _ he
  refine⟨R,fun _ _ h=>h,?_,hm.world hbel⟩
  unfold expK at he
  split at he
  ·rename_i ws
   obtain ⟨us,l2,hu,he⟩:=expL_some.1 he
   simp only[Option.some.injEq,Prod.mk.injEq]at he
   obtain ⟨rfl,rfl⟩:=he
   obtain ⟨vs',rfl,hl2⟩:=hvt ws rfl
   obtain ⟨j1,j2⟩:=expL_nil hm' hl2 hu
   refine⟨vs',rfl,?_⟩
   rw[j2,List.toList_toArray]
   exact(LR_plain (r:=V1 R) (pl:=pl1) (fun _ _ hv=>V1_plain hv) j1).2 rfl
  ·rename_i hnt
   have hv2:=hvv hnt
   have:=expL_nil (T:=C.T) (id:=id) hm' (vs:=[vC]) (us:=[v]) (vs':=[v']) ⟨hv2,trivial⟩ (by
    simp only[expL]
    exact expV_some.2 ⟨v,[],he,rfl⟩)
   obtain ⟨j1,j2⟩:=this
   simp only[List.all_cons,List.all_nil,Bool.and_true]at j1
   simp only[List.cons.injEq,and_true]at j2
   subst j2
   exact V2_of_V1 ((V1_plain j1).2 rfl)
 rcases hl1 with rfl|⟨blk,rfl⟩
 ·exact none_case rfl he4
 ·have hid:fm (nid id 0)=none:=hnew _ (List.mem_singleton.2 rfl) ⟨Nat.le_refl _,h8⟩
  unfold expK at he4
  split at he4
  ·rename_i ws
   obtain ⟨us,l2,hu,he⟩:=expL_some.1 he4
   simp only[Option.some.injEq,Prod.mk.injEq]at he
   obtain ⟨rfl,rfl⟩:=he
   obtain ⟨vs',rfl,hl2⟩:=hvt ws rfl
   obtain ⟨R2,j1,j2,j3⟩:=expL_ok hm hm' rfl hX hid hlt hl2 hu
   exact⟨R2,j1,⟨vs',rfl,by rw[List.toList_toArray];exact j2⟩,j3⟩
  ·rename_i hnt
   have hv2:=hvv hnt
   rcases expV_ok hm hm' rfl hX hid hlt hv2 he4 with⟨h0,_⟩|⟨R2,j1,j2,_,j4⟩
   ·simp at h0
   ·exact⟨R2,j1,j2,j4⟩
end
def RowW (w:World) (e:TypeId) (ks:List CK) (m:Nat) (f:Nat->List Value) (v:Value):Prop:=
 (m=0∧Emp v)∨∃b d c cs fz,v=.slice (some ⟨b,d,none⟩) m c∧m<=c∧w.heap[b]?=some (.cells cs e fz)∧(cs.toList.drop d).take (m*ks.length)=rowL ks f 0 m
def srcF (mm:Nat->Option Blk) (ks:List CK) (v:Value):Bool×Nat×(Nat->Nat×(Nat->List Value)):=
 match v with
 | .slice none n c=>(Nat.beq n 0&&Nat.beq c 0,0,fun _=>(0,fun _=>[]))
 | .slice (some ⟨b,off,none⟩) n c=>(match mm b with
  | some blk=>(match blk.cells with
   | .lst l=>(Nat.ble (off+n) l.length&&((l.drop off).take n).all (fun x=>(srcB mm ks x).1)&&Nat.ble n c,n,fun j=>(srcB mm ks (((l.drop off).take n).getD j (.slice none 0 0))).2)
   | .fam ks' m _ g=>(Nat.beq off 0&&Nat.ble n m&&ksEq ks' ks&&Nat.ble n c,n,g)
   | _=>(false,0,fun _=>(0,fun _=>[])))
  | none=>(false,0,fun _=>(0,fun _=>[])))
 | _=>(false,0,fun _=>(0,fun _=>[]))
def FamW (w:World) (e:TypeId) (ks:List CK) (n:Nat) (es:Nat->TypeId) (g:Nat->Nat×(Nat->List Value)) (p:Pl) (v':Value):Prop:=
 n<=p.c∧(match p.a with
  | some b=>v'=.slice (some ⟨b,p.d,none⟩) n p.c∧∃cs fz,w.heap[b]?=some (.cells cs e fz)∧∀j,j<n->∃u,cs.toList[p.d+j]?=some u∧RowW w (es j) ks (g j).1 (g j).2 u
  | none=>n=0∧p.c=0∧p.d=0∧Emp v')
section
variable {GL:Glob}{w0:Wb GL}{R:Nat->Pl->Prop}{fm:Nat->Option Blk}{w:World}
theorem srcB_rowW (h:MRel w0 R fm w){ks:List CK}{v v':Value}{n:Nat}{g:Nat->List Value}(hq:srcB fm ks v=(true,n,g)) (hv:V2 R v v'):∃e,RowW w e ks n g v':=by
 obtain ⟨p,e,h1,h2⟩:=src_heap h hq hv
 refine⟨e,?_⟩
 cases hpa:p.a with
 | none=>rw[hpa]at h2;exact .inl ⟨h2.1,h2.2.2.2⟩
 | some b=>
  rw[hpa]at h2
  obtain ⟨h3,cs,fz,h4,h5⟩:=h2
  refine .inr ⟨b,p.d,p.c,cs,fz,h3,h1,h4,?_⟩
  have:=(LR_plain (r:=V0 R) (pl:=pl0) (fun _ _ hv=>V0_plain hv) (rowL_pl ks g n 0)).1 h5
  rw[rowL_len]at this;exact this
theorem fam_heap (h:MRel w0 R fm w){ks:List CK}{v v':Value}{n:Nat}{g:Nat->Nat×(Nat->List Value)}(hq:srcF fm ks v=(true,n,g)) (hv:V2 R v v'):∃(p:Pl) (e:TypeId) (es:Nat->TypeId),FamW w e ks n es g p v':=by
 unfold srcF at hq
 split at hq
 ·rename_i n0 c
  simp only[Prod.mk.injEq,Bool.and_eq_true]at hq
  obtain ⟨⟨h0,h1⟩,rfl,_⟩:=hq
  have h0:=nbeq.1 h0;subst h0
  have h1:=nbeq.1 h1;subst h1
  have:=(V2_plain (R:=R) (v:=.slice none 0 0) rfl).1 hv
  exact⟨⟨none,0,0⟩,0,fun _=>0,Nat.le_refl _,rfl,rfl,rfl,none,this⟩
 ·rename_i b off n0 c
  obtain ⟨p0,hp0,hsl⟩:=V2_slice hv
  split at hq
  ·rename_i blk hb
   obtain ⟨cells,e,own⟩:=blk
   simp only at hq
   have place:(∀s pos,cells≠.itr s pos)->n<=c->n0=n->∀es:Nat->TypeId,(∀bl,p0.a=some bl->n≠0->∃cs fz,w.heap[bl]?=some (.cells cs e fz)∧∀j,j<n->∃u,cs.toList[p0.d+off+j]?=some u∧RowW w (es j) ks (g j).1 (g j).2 u)->∃(p:Pl) (e:TypeId) (es:Nat->TypeId),FamW w e ks n es g p v':=by
    intro hni hnc hn es hcont
    subst hn
    have some_case:∀bl c',p0.a=some bl->c<=c'->v'=.slice (some ⟨bl,p0.d+off,none⟩) n0 c'->∃(p:Pl) (e:TypeId) (es:Nat->TypeId),FamW w e ks n0 es g p v':=by
     intro bl c' hpa hcc hv'
     by_cases h0:n0=0
     ·obtain ⟨cs,e1,fz,h1⟩:=(h.there _ _ _ hp0 hpa).cells (fun s pos hs=>by rw[hb]at hs;exact hni s pos (congrArg Blk.cells (Option.some.inj hs)))
      exact⟨⟨some bl,p0.d+off,c'⟩,e1,es,by simp only;omega,hv',cs,fz,h1,fun j hj=>by omega⟩
     ·obtain ⟨cs,fz,h1,h2⟩:=hcont bl hpa h0
      exact⟨⟨some bl,p0.d+off,c'⟩,e,es,by simp only;omega,hv',cs,fz,h1,h2⟩
    cases hlo:loose b with
    | false=>
     obtain ⟨bl,h1,h2⟩:=SlOk_tight hlo hsl
     exact some_case bl c h1 (Nat.le_refl _) h2
    | true=>
     obtain ⟨rfl,h2,⟨bl,h3,h4⟩|⟨h3,h4,h5,h6⟩⟩:=SlOk_loose hlo hsl
     ·exact some_case bl p0.c h3 h2 (by rw[Nat.add_zero];exact h4)
     ·exact⟨⟨none,0,0⟩,0,es,by simp only;omega,h4,rfl,rfl,h6⟩
   split at hq
   ·rename_i l
    simp only[Prod.mk.injEq,Bool.and_eq_true]at hq
    obtain ⟨⟨⟨h1,h2⟩,h3⟩,h4,h5⟩:=hq
    have h1:=Nat.le_of_ble_eq_true h1
    have h3:=Nat.le_of_ble_eq_true h3
    obtain ⟨p',hp',hcont⟩:=memOk_lst h hb
    have:=h.func _ _ _ hp0 hp';subst this
    cases hpa:p0.a with
    | none=>
     rw[hpa]at hcont
     have hcont:l=[]:=hcont
     rw[hcont]at h1
     have h0:n0=0:=by simp at h1;omega
     exact place nofun (by omega) h4 (fun _=>0) (fun bl hb2=>by rw[hpa]at hb2;simp at hb2)
    | some bl=>
     rw[hpa]at hcont
     obtain ⟨cs,fz,k1,k2,_⟩:=hcont
     have k2:LP R l (cs.toList.drop p0.d):=k2
     have row:∀j,j<n0->∃u e1,cs.toList[p0.d+off+j]?=some u∧RowW w e1 ks (g j).1 (g j).2 u:=by
      intro j hj
      have hx:l[off+j]?=some (l[off+j]'(by omega)):=List.getElem?_eq_getElem (by omega)
      obtain ⟨u,k3,k4⟩:=LP_get k2 hx
      rw[List.getElem?_drop,<-Nat.add_assoc]at k3
      have hmem:(l[off+j]'(by omega))∈(l.drop off).take n0:=by
       rw[List.mem_iff_getElem?]
       refine⟨j,?_⟩
       rw[List.getElem?_take_of_lt hj,List.getElem?_drop];exact hx
      have h6:=List.all_eq_true.1 h2 _ hmem
      have h7:((l.drop off).take n0).getD j (.slice none 0 0)=l[off+j]'(by omega):=by
       simp only[List.getD,List.getElem?_take_of_lt hj,List.getElem?_drop,hx,Option.getD_some]
      obtain ⟨e1,k5⟩:=srcB_rowW h (n:=(g j).1) (g:=(g j).2) (by
       rw[<-h5]
       simp only[h7]
       exact Prod.ext h6 rfl) (V2_of_V0 k4)
      exact⟨u,e1,k3,k5⟩
     refine place nofun (by omega) h4 (fun j=>if hj:j<n0 then Classical.choose (Classical.choose_spec (row j hj)) else 0) (fun bl2 hb2 _=>?_)
     rw[hpa]at hb2;cases hb2
     refine⟨cs,fz,k1,fun j hj=>?_⟩
     have hj0:j<n0:=by omega
     have hs:=Classical.choose_spec (Classical.choose_spec (row j hj0))
     refine⟨_,hs.1,?_⟩
     rw[dif_pos hj0];exact hs.2
   ·rename_i ks' m es g'
    simp only[Prod.mk.injEq,Bool.and_eq_true]at hq
    obtain ⟨⟨⟨⟨h1,h2⟩,h2'⟩,h3⟩,h4,h5⟩:=hq
    have h1:=nbeq.1 h1
    have h2:=Nat.le_of_ble_eq_true h2
    have h2':=ksEq_eq h2'
    have h3:=Nat.le_of_ble_eq_true h3
    subst h1 h2' h5
    obtain ⟨p',hp',hcont⟩:FamOk w0 R w b e own ks' m es g':=h.mem b _ hb
    have:=h.func _ _ _ hp0 hp';subst this
    refine place nofun (by omega) h4 es (fun bl hpa _=>?_)
    rw[hpa]at hcont
    obtain ⟨cs,fz,k1,k2,_⟩:=hcont
    refine⟨cs,fz,k1,fun j hj=>?_⟩
    obtain ⟨u,k3,k4⟩:=k2 j (by omega)
    refine⟨u,by rw[Nat.add_zero];exact k3,?_⟩
    rcases k4 with k4|⟨b2,d,c2,cs2,fz2,o1,o2,_,o4,o5⟩
    ·exact .inl k4
    ·exact .inr ⟨b2,d,c2,cs2,fz2,o1,o2,o4,o5⟩
   ·simp at hq
  ·simp at hq
 ·simp at hq
end
inductive ArgF where
 | pl (v:Value)
 | sl (ks:List CK) (n:Nat) (g:Nat->List Value)
 | fm (ks:List CK) (n:Nat) (g:Nat->Nat×(Nat->List Value))
def RcF (w:World) (pl:Nat->Option Pl) (N:Nat) (i:Nat) (p:Pl):Prop:=
 (∃j,j<N∧i=argId j∧pl j=some p)∨(∃b,(∃cs e fz,w.heap[b]?=some (.cells cs e fz))∧i=1000000000+b∧p=⟨some b,0,0⟩)
theorem RowW.at {w:World}{e:TypeId}{ks:List CK}{m:Nat}{f:Nat->List Value}{v:Value}(h:RowW w e ks m f v) (pl:Nat->Option Pl) (N:Nat):RowAt (RcF w pl N) w e ks m f v:=by
 rcases h with h|⟨b,d,c,cs,fz,h1,h2,h3,h4⟩
 ·exact .inl h
 ·exact .inr ⟨b,d,c,cs,fz,h1,h2,.inr ⟨b,⟨cs,e,fz,h3⟩,rfl,rfl⟩,h3,h4⟩
def setAt {α:Type}(k:Nat) (x:α) (f:Nat->α) (j:Nat):α:=if j=k then x else f j
section
variable {GL:Glob}{w0:Wb GL}{R:Nat->Pl->Prop}{fm:Nat->Option Blk}{w:World}
end
theorem srcF_mono {mm fm:Nat->Option Blk}(hsub:∀b blk,mm b=some blk->fm b=some blk){ks:List CK}{v:Value}{n:Nat}{g:Nat->Nat×(Nat->List Value)}(h:srcF mm ks v=(true,n,g)):srcF fm ks v=(true,n,g):=by
 unfold srcF at h ⊢
 split at h
 ·exact h
 ·rename_i b off n0 c0
  split at h
  ·rename_i blk hb
   rw[hsub b blk hb]
   obtain ⟨cells,e,own⟩:=blk
   simp only at h ⊢
   split at h
   ·rename_i l
    simp only[Prod.mk.injEq,Bool.and_eq_true]at h ⊢
    obtain ⟨⟨⟨h1,h2⟩,h3⟩,h4,h5⟩:=h
    have key:∀x∈(l.drop off).take n0,srcB fm ks x=srcB mm ks x:=fun x hx=>by
     have:=List.all_eq_true.1 h2 x hx
     have e:srcB mm ks x=(true,(srcB mm ks x).2):=Prod.ext this rfl
     have:=srcB_mono hsub (n:=(srcB mm ks x).2.1) (g:=(srcB mm ks x).2.2) e
     rw[this,<-e]
    refine⟨⟨⟨h1,List.all_eq_true.2 fun x hx=>by rw[key x hx];exact List.all_eq_true.1 h2 x hx⟩,h3⟩,h4,?_⟩
    rw[<-h5]
    funext j
    by_cases hj:j<((l.drop off).take n0).length
    ·have:((l.drop off).take n0).getD j (.slice none 0 0)∈(l.drop off).take n0:=by
      simp only[List.getD,List.getElem?_eq_getElem hj,Option.getD_some];exact List.getElem_mem hj
     rw[key _ this]
    ·have:((l.drop off).take n0).getD j (.slice none 0 0)=.slice none 0 0:=by simp only[List.getD,List.getElem?_eq_none (show((l.drop off).take n0).length<=j by omega),Option.getD_none]
     rw[this];rfl
   ·exact h
   ·simp at h
  ·simp at h
 ·simp at h
section
variable {P:Program} [Laid P]
end
end Go.W

namespace Go.W
def kP9:List CK:=[.b,.i .u64,.i .u64,.i .u64,.i .u64,.i .u64,.i .u64,.i .u64,.i .u64]
def ptF (V:Nat->RP):Nat->List Value:=fun j=>ptC (V j)
def el9 (f:Nat->List Value) (j:Nat):Value:=.agg (nrmK kP9 (f j)).toArray
def pA (f:Nat->List Value) (j:Nat):RP:=unPt (el9 f j)
noncomputable def okP (n:Nat) (f:Nat->List Value):Bool:=@decide (n<=1000∧∀j,j<n->isPt (el9 f j)=true) (Classical.propDecidable _)
theorem okP_iff {n:Nat}{f:Nat->List Value}:okP n f=true↔n<=1000∧∀j,j<n->isPt (el9 f j)=true:=by
 unfold okP
 exact⟨fun h=>@of_decide_eq_true _ (Classical.propDecidable _) h,fun h=>@decide_eq_true _ (Classical.propDecidable _) h⟩
theorem el_pt {n:Nat}{f:Nat->List Value}(h:okP n f=true){j:Nat}(hj:j<n):el9 f j=ptV (pA f j)∧okR (pA f j):=by
 obtain ⟨X,hX,e⟩:=isPt_some ((okP_iff.1 h).2 j hj)
 have:pA f j=X:=by unfold pA;rw[e,unPt_ptV hX]
 rw[this];exact⟨e,hX⟩
theorem row_pt {n:Nat}{f:Nat->List Value}(h:okP n f=true):∀j,j<n->nrmK kP9 (f j)=nrmK kP9 (ptF (pA f) j):=by
 intro j hj
 have e:=(el_pt h hj).1
 have:=congrArg (fun v:Value=>v.cells.toList) e
 exact this
theorem pA_pt {V:Nat->RP}{j:Nat}(h:okR (V j)):pA (ptF V) j=V j:=unPt_ptV h
theorem okP_pt {n:Nat}{V:Nat->RP}(hn:n<=1000):okP n (ptF V)=true:=okP_iff.2 ⟨hn,fun j _=>isPt_ptV (V j)⟩
def sg9 (n:Nat) (f:Nat->List Value):Nat->List Value:=segF ⟨0,0,n,kP9,n,f,0,false,[]⟩
theorem el9_sg (n:Nat) (f:Nat->List Value) (j:Nat):el9 (sg9 n f) j=el9 f j:=by show el9 f (0+j)=el9 f j;rw[Nat.zero_add]
theorem pA_sg (n:Nat) (f:Nat->List Value):pA (sg9 n f)=pA f:=by funext j;unfold pA;rw[el9_sg]
theorem okP_sg (m n:Nat) (f:Nat->List Value):okP m (sg9 n f)=okP m f:=by
 rw[Bool.eq_iff_iff,okP_iff,okP_iff];simp only[el9_sg]
noncomputable def alP (V:Nat->RP) (n:Nat):Bool:=@decide (∀j,j<n->ckR (V j)=true) (Classical.propDecidable _)
theorem alP_iff {V:Nat->RP}{n:Nat}:alP V n=true↔∀j,j<n->ckR (V j)=true:=by
 unfold alP
 exact⟨fun h=>@of_decide_eq_true _ (Classical.propDecidable _) h,fun h=>@decide_eq_true _ (Classical.propDecidable _) h⟩
theorem alP_congr {V W:Nat->RP}{n:Nat}(h:∀j,j<n->V j=W j):alP V n=alP W n:=by
 rw[Bool.eq_iff_iff,alP_iff,alP_iff]
 exact⟨fun a j hj=>(h j hj)▸a j hj,fun a j hj=>(h j hj).symm▸a j hj⟩
end Go.W

namespace Go.W
theorem n1_lt:pN<2^256:=by decide
end Go.W

namespace Go.W
theorem loopE {P:Program} [Laid P] {code:Code}{n:Nat}(C:Nat->Cfg) (N:Nat) (hC:∀k,k<=N->CfgOk P (C k) code) (hn:∀k,(C k).n=n){p:List Nat}(hp:codeAt p code=some (.loop (loopAt p code))){m:Nat}{ts:List Nat}{is:Ren}{tx:Nat}{nt et:List Nat}{ni ei:Ren}{nx ex:Nat}(st:Nat->St){e:Exit}{s0 sf:St}(h0:s0=st 0) (he:e≠.normal)
  (step:∀k,k<N->∃s,roundS (C k) m (p++[0]) (loopAt p code) nt ni nx et ei ex (st k)=some (.normal,s)∧stEq s (st (k+1))=true)
  (last:∃s,roundS (C N) m (p++[0]) (loopAt p code) nt ni nx et ei ex (st N)=some (e,s)∧stEq s sf=true):
  LoopOk P n (loopAt p code) (atSt ts is tx s0 e sf):=by
 refine atSt_ok fun w0 R a w hrel=>?_
 rw[h0]at hrel
 have hx:codeAt (p++[0]) code=some (loopAt p code):=by rw[codeAt_app,hp];rfl
 have key:∀j,j<=N->∀(R:Nat->Pl->Prop) (a:Act) (w:World),Rel w0 n R (st (N-j)).f a w->Code.rounds P (loopAt p code) (fun e' a' w'=>e'=e∧∃R',Rel w0 n R' sf.f a' w') (j+1) a w:=by
  intro j
  induction j with
  | zero=>
   intro _ R a w hr
   rw[rounds_succ]
   obtain ⟨s,h1,h2⟩:=last
   have hs:=round_sound (hC N (Nat.le_refl _)) hx h1 (w0:=w0) (R:=R) (a:=a) (w:=w) (by rw[hn];exact hr)
   rw[hn]at hs
   refine wp_mono hs ?_
   rintro e' a' w' ⟨rfl,R',hr'⟩
   cases e' with
   | normal=>exact absurd rfl he
   | _=>exact⟨rfl,R',hr'.eqv h2⟩
  | succ j ih=>
   intro hj R a w hr
   rw[rounds_succ]
   obtain ⟨s,h1,h2⟩:=step (N-(j+1)) (by omega)
   have hs:=round_sound (hC (N-(j+1)) (by omega)) hx h1 (w0:=w0) (R:=R) (a:=a) (w:=w) (by rw[hn];exact hr)
   rw[hn]at hs
   refine wp_mono hs ?_
   rintro e' a' w' ⟨rfl,R',hr'⟩
   refine ih (by omega) R' a' w' ?_
   rw[show N-j=N-(j+1)+1 from by omega]
   exact hr'.eqv h2
 exact wp_loop_rounds (N+1) (key N (Nat.le_refl N) R a w (by rw[Nat.sub_self];exact hrel))
theorem mNil:memEq [] []=true:=rfl
theorem mRow {a:Nat}{ks:List CK}{n:Nat}{f g:Nat->List Value}{e:TypeId}{o:Bool}{l m:List (Nat×Blk)}(h:∀j,j<n->nrmK ks (f j)=nrmK ks (g j)) (h2:memEq l m=true):memEq ((a,⟨.row ks n f,e,o⟩)::l) ((a,⟨.row ks n g,e,o⟩)::m)=true:=memEq_cons (cellsEq_rr h) h2
theorem mSame {a:Nat}{c:Cells}{e:TypeId}{o:Bool}{l m:List (Nat×Blk)}(h:vokC c=true) (h2:memEq l m=true):memEq ((a,⟨c,e,o⟩)::l) ((a,⟨c,e,o⟩)::m)=true:=memEq_cons (cellsEq_refl h) h2
end Go.W

namespace Go.W
theorem iR {i n:Nat}(h:i<n):inR (i:Int) n=true:=by unfold inR;simp only[Bool.and_eq_true,decide_eq_true_eq];omega
theorem bL {a b:Nat}(h:a<b):Nat.blt a b=true:=by rw[Nat.blt_eq];exact h
theorem bE {a b:Nat}(h:a<=b):Nat.ble a b=true:=by rw[Nat.ble_eq];exact h
end Go.W

namespace Go.W
def rdR {α:Type}(k n:Nat) (x:Option α):Option α:=req (inR (k:Int) n) (req (Nat.blt k n&&true) x)
theorem rdR_eq {α:Type}{k n:Nat}(h:k<n) (x:Option α):rdR k n x=x:=by unfold rdR;rw[iR h,req_true rfl,bL h,req_true (b:=true&&true) rfl]
def kb4 (n:Nat):Bool:=true&&Nat.ble n n&&true&&Nat.ble n n
theorem kb4_true (n:Nat):kb4 n=true:=by unfold kb4;rw[bE (Nat.le_refl _)];rfl
theorem first_bad {P:Nat->Prop}{n:Nat}(h:∃i,i<n∧P i):∃i,i<n∧P i∧∀j,j<i->¬P j:=by
 induction n with
 | zero=>obtain ⟨i,hi,_⟩:=h;omega
 | succ n ih=>
  by_cases h1:∃i,i<n∧P i
  ·obtain ⟨i,a,b,c⟩:=ih h1;exact⟨i,by omega,b,c⟩
  ·obtain ⟨i,a,b⟩:=h
   have:i=n:=by
    rcases Nat.lt_or_ge i n with h2|h2
    ·exact absurd ⟨i,h2,b⟩ h1
    ·omega
   subst this
   exact⟨i,by omega,b,fun j hj hp=>h1 ⟨j,hj,hp⟩⟩
end Go.W

namespace Go.W
def nSl (id n:Nat):Value:=.slice (some ⟨nid id 0,0,none⟩) n n
def pbF (h:Value) (bs:List Value):Nat->List Value:=appF 1 (lstF [h] 0 1) (lstF bs 0 1)
def rw1 (e id n:Nat) (f:Nat->List Value):List (Nat×Blk):=[(nid id 0,⟨.row kB n f,e,true⟩)]
def cBytT (e id:Nat) (i:Bool) (x y:Value):Option (Value×List (Nat×Blk)):=
 req (isPt (pt3 i x y))<|bif !(ckR (unPt (pt3 i x y))) then some (.tuple #[.slice none 0 0,i64 3],[]) else
 bif i then some (.tuple #[nSl id 1,i64 0],rw1 e id 1 (lstF [.int .u8 0] 0 1)) else
 req (isNum x)<|req (isNum y)<|some (.tuple #[nSl id 33,i64 0],rw1 e id 33 (pbF (.int .u8 (IntKind.u8.wrap (IntKind.i64.wrap (2+bitI (unnum y) 0)))) (bytesL 32 (unnum x))))
def hdY (Y:Nat):Value:=.int .u8 ((2+Y%2:Nat):Int)
def CBytF (e:Nat):List Value->(Nat->Option Blk)->Nat->List (Bool×Value×List (Nat×Blk))
 | [p],_,id=>[(isPt p&&!(ckR (unPt p)),.tuple #[.slice none 0 0,i64 3],[]),(isPt p&&(unPt p).1,.tuple #[nSl id 1,i64 0],rw1 e id 1 (lstF [.int .u8 0] 0 1)),(isPt p,.tuple #[nSl id 33,i64 0],rw1 e id 33 (pbF (hdY (unPt p).2.2) (bytesL 32 (unPt p).2.1)))]
 | _,_,_=>[]
theorem CBytF_eq (e:Nat) (p:Value) (mm:Nat->Option Blk) (id:Nat):CBytF e [p] mm id=[(isPt p&&!(ckR (unPt p)),.tuple #[.slice none 0 0,i64 3],[]),(isPt p&&(unPt p).1,.tuple #[nSl id 1,i64 0],rw1 e id 1 (lstF [.int .u8 0] 0 1)),(isPt p,.tuple #[nSl id 33,i64 0],rw1 e id 33 (pbF (hdY (unPt p).2.2) (bytesL 32 (unPt p).2.1)))]:=rfl
theorem CBytF_one {e:Nat}{p v:Value}{mm:Nat->Option Blk}{id:Nat}{l:List (Nat×Blk)}(h:pickM (CBytF e [p] mm id)=some (v,l)):l=[]∨∃blk,l=[(nid id 0,blk)]:=by
 rw[CBytF_eq]at h
 simp only[pickM]at h
 cases h1:(isPt p&&!(ckR (unPt p))) with
 | true=>rw[h1,cond_true]at h;exact .inl (congrArg Prod.snd (Option.some.inj h)).symm
 | false=>
  rw[h1,cond_false]at h
  cases h2:(isPt p&&(unPt p).1) with
  | true=>rw[h2,cond_true]at h;exact .inr ⟨_,(congrArg Prod.snd (Option.some.inj h)).symm⟩
  | false=>
   rw[h2,cond_false]at h
   cases h3:isPt p with
   | true=>rw[h3,cond_true]at h;exact .inr ⟨_,(congrArg Prod.snd (Option.some.inj h)).symm⟩
   | false=>rw[h3,cond_false]at h;cases h
theorem hd_c {Y:Nat}(h:lt6 Y):Value.int .u8 (IntKind.u8.wrap (IntKind.i64.wrap (2+bitI (unnum (num Y)) 0)))=hdY Y:=by
 have:=bitI_nat (A:=Y) (n:=0) (by omega)
 rw[show((0:Nat):Int)=0 from rfl]at this
 rw[unnum_lt h,this]
 unfold bitN hdY
 rw[Nat.pow_zero,Nat.div_one]
 rcases Nat.mod_two_eq_zero_or_one Y with h0|h0<;>rw[h0]<;>rfl
theorem cBytT_eq {e id:Nat}{i:Bool}{X Y:Nat}(hX:lt6 X) (hY:lt6 Y):cBytT e id i (num X) (num Y)=pickM (CBytF e [ptV (i,X,Y)] (fun _=>none) id):=by
 unfold cBytT
 rw[CBytF_eq,pt3_num,isPt_ptV,req_true rfl,unPt_ptV (r:=(i,X,Y)) ⟨hX,hY⟩,isNum_num,isNum_num,req_true rfl,req_true rfl,hd_c hY,unnum_lt hX]
 cases hc:ckR (i,X,Y) with
 | false=>rfl
 | true=>
  cases i with
  | true=>rfl
  | false=>rfl
def b32V (f:Nat->List Value):Value:=.agg (rowL kB f 1 32).toArray
def rdX (X:Nat) (b:Int):RP×Int:=
 if X<pP then (if rootIs (sqN X)=true then ((false,X,if b=3 then sp 0 (rootNum (sqN X)) else rootNum (sqN X)),0) else (zR,3)) else (zR,2)
noncomputable def rdS (n:Nat) (f:Nat->List Value):RP×Int:=
 hide (if n=1∧bI f 0=0 then (infR,0) else if n=33∧(bI f 0=2∨bI f 0=3) then rdX (unbytes (b32V f)) (bI f 0) else (zR,7))
def rdOk (n:Nat) (f:Nat->List Value):Bool:=!(Nat.beq n 33)||isB32 (b32V f)
noncomputable def rdV (n:Nat) (f:Nat->List Value):Value:=.tuple #[ptV (rdS n f).1,i64 (rdS n f).2]
noncomputable def RdF:List Value->(Nat->Option Blk)->Nat->List (Bool×Value×List (Nat×Blk))
 | [v],mm,_=>[((srcB mm kB v).1&&rdOk (srcB mm kB v).2.1 (srcB mm kB v).2.2,rdV (srcB mm kB v).2.1 (srcB mm kB v).2.2,[])]
 | _,_,_=>[]
abbrev VL:=Value×List (Nat×Blk)
def eT (e:Int):Option VL:=some (.tuple #[ptV zR,i64 e],[])
def rdK (v:Value) (b0:Int):Option VL:=
 req (isB32 v)<|(fun X=>bif readE 0 X != 0 then eT (readE 0 X) else req (isNum (num (readN 0 X)))<|(fun A=>req (isNum (num A))<|(fun B=>bif !(rootIs B) then eT 3 else
  bif b0==3 then req (isNum (num (rootNum B))) (some (.tuple #[pt3 false (num (readN 0 X)) (sv (num 0) (num (rootNum B))),i64 0],[])) else some (.tuple #[pt3 false (num (readN 0 X)) (num (rootNum B)),i64 0],[])) (unnum (num A))) (sqN (unnum (num (readN 0 X))))) (unbytes v)
def rrK (v:Value) (b0:Int):Option VL:=
 req (isB32 v)<|(fun x=>r2 x (num (primeN 0))<|bif decide (cI x (num (primeN 0))>=0) then eT 2 else m2 x x fun a=>m2 a x fun b=>a2 b (num 7) fun c=>req (isNum c)<|(fun B=>bif !(rootIs B) then eT 3 else
  bif b0==3 then (s2 (num 0) (num (rootNum B)) fun y=>some (.tuple #[pt3 false x y,i64 0],[])) else some (.tuple #[pt3 false x (num (rootNum B)),i64 0],[])) (unnum c)) (num (unbytes v))
def rd33 (b0:Int) (k:Option VL):Option VL:=bif b0 != 2 then (bif b0 != 3 then eT 7 else k) else k
def rd1 (b0:Int):Option VL:=bif b0==0 then some (.tuple #[ptV infR,i64 0],[]) else eT 7
theorem rootNum_lt (A:Nat):lt6 (rootNum A):=by
 unfold rootNum
 split
 ·split
  ·exact sp_l 0 _
  ·exact powN_lt qP_lt
 ·exact lt6_0
theorem rdK_eq {v:Value}(hv:isB32 v=true){b0:Int}:rdK v b0=some (.tuple #[ptV (rdX (unbytes v) b0).1,i64 (rdX (unbytes v) b0).2],[]):=by
 obtain ⟨X,hX,rfl,h2⟩:=isB32_some hv
 unfold rdK rdX
 rw[hv,req_true rfl,h2]
 have ok:okW 0=true:=rfl
 have hp:primeN 0=pP:=prime0
 by_cases hlt:X<pP
 ·have e1:readE 0 X=0:=by unfold readE;rw[if_pos ok,hp,if_pos hlt]
  have e2:readN 0 X=X:=by unfold readN;rw[if_pos ok,hp,if_pos hlt]
  simp only[e1,e2,isNum_num,unnum_lt hX,unnum_lt (show lt6 (sqN X) from ap_l _ _),if_pos hlt]
  rw[req_true rfl,req_true rfl,req_true rfl]
  show(bif !(rootIs (sqN X)) then eT 3 else _)=_
  cases hr:rootIs (sqN X) with
  | false=>rfl
  | true=>
   rw[if_pos rfl,Bool.not_true,cond_false]
   unfold sv
   rw[unnum_lt lt6_0,unnum_lt (rootNum_lt _),pt3_num,pt3_num]
   by_cases h3:b0=3
   ·rw[if_pos h3,beq_iff_eq.2 h3];rfl
   ·rw[if_neg h3,beq_eq_false_iff_ne.2 h3];rfl
 ·have e1:readE 0 X=2:=by unfold readE;rw[if_pos ok,hp,if_neg hlt]
  simp only[e1,if_neg hlt]
  rfl
theorem rrK_eq {v:Value}(hv:isB32 v=true){b0:Int}:rrK v b0=some (.tuple #[ptV (rdX (unbytes v) b0).1,i64 (rdX (unbytes v) b0).2],[]):=by
 obtain ⟨X,hX,rfl,h2⟩:=isB32_some hv
 have hpp:pP<2^256:=by decide
 unfold rrK rdX
 rw[hv,req_true rfl,h2,prime0]
 have hX6:lt6 X:=hX
 simp only[r2_num,m2_num hX6 hX6,m2_num (mp_l _ _) hX6,a2_num (mp_l _ _) lt6_7,isNum_num,unnum_lt (ap_l _ _),cI_num hX hpp,s2_num lt6_0 (rootNum_lt _)]
 by_cases hlt:X<pP
 ·rw[decide_eq_false (by unfold cmpI;rw[if_pos hlt];decide),if_pos hlt,cond_false,req_true rfl]
  show(bif !(rootIs (sqN X)) then eT 3 else _)=_
  cases hr:rootIs (sqN X) with
  | false=>rfl
  | true=>
   rw[if_pos rfl,Bool.not_true,cond_false,pt3_num,pt3_num]
   by_cases h3:b0=3
   ·rw[if_pos h3,beq_iff_eq.2 h3];rfl
   ·rw[if_neg h3,beq_eq_false_iff_ne.2 h3];rfl
 ·rw[decide_eq_true (by unfold cmpI;rw[if_neg hlt];split<;>decide),if_neg hlt];rfl
theorem rd_all {f:Nat->List Value}(E:Nat->Option VL){n:Nat}{K:Option VL}(hs:rdOk n f=true) (h1:E 1=rd1 (bI f 0)) (h33:E 33=rd33 (bI f 0) K)
  (hK:isB32 (b32V f)=true->K=some (.tuple #[ptV (rdX (unbytes (b32V f)) (bI f 0)).1,i64 (rdX (unbytes (b32V f)) (bI f 0)).2],[])) (hless:∀n,n<33->n≠1->E n=eT 7) (hmore:∀k,E (k+34)=eT 7):E n=some (rdV n f,[]):=by
 unfold rdV rdS
 rw[hide_eq]
 by_cases e1:n=1
 ·subst e1
  rw[h1]
  unfold rd1
  by_cases h0:bI f 0=0
  ·rw[if_pos ⟨rfl,h0⟩,beq_iff_eq.2 h0];rfl
  ·rw[if_neg (fun h=>h0 h.2),if_neg (fun h=>absurd h.1 (by decide)),beq_eq_false_iff_ne.2 h0];rfl
 ·rw[if_neg (fun h=>e1 h.1)]
  by_cases e2:n=33
  ·subst e2
   have hb:isB32 (b32V f)=true:=by
    unfold rdOk at hs
    rw[Nat.beq_refl,Bool.not_true,Bool.false_or]at hs;exact hs
   rw[h33,hK hb]
   unfold rd33
   by_cases h2:bI f 0=2
   ·rw[if_pos ⟨rfl,.inl h2⟩,h2];rfl
   ·by_cases h3:bI f 0=3
    ·rw[if_pos ⟨rfl,.inr h3⟩,h3];rfl
    ·rw[if_neg (fun h=>h.2.elim h2 h3),bne_iff_ne.2 h2,bne_iff_ne.2 h3];rfl
  ·rw[if_neg (fun h=>e2 h.1)]
   rcases Nat.lt_or_ge n 33 with h|h
   ·exact hless n h e1
   ·obtain ⟨k,rfl⟩:∃k,n=k+34:=⟨n-34,by omega⟩
    exact hmore k
end Go.W

namespace Go.W
theorem nrm_take:∀(ks:List CK) (l:List Value),nrmK ks (l.take ks.length)=nrmK ks l
 | [],_=>rfl
 | _::_,[]=>by rw[List.take_nil]
 | k::ks,a::l=>by
  show nrm1 k a::nrmK ks (l.take ks.length)=nrm1 k a::nrmK ks l
  rw[nrm_take ks l]
theorem lst0_row {ks:List CK}{L:List Value}(off:Nat):nrmK ks (lstF L off ks.length 0)=nrmK ks (L.drop off):=by
 show nrmK ks ((L.drop (off+0*ks.length)).take ks.length)=_
 rw[Nat.zero_mul,Nat.add_zero,nrm_take]
theorem app_row {ks:List CK}{g h:Nat->List Value}{m:Nat}{L:List Value}(hg:∀j,j<m->nrmK ks (g j)=nrmK ks (h j)) (hL:nrmK ks L=nrmK ks (h m)):∀j,j<m+1->nrmK ks (appF m g (lstF L 0 ks.length) j)=nrmK ks (h j):=by
 intro j hj
 unfold appF
 by_cases h1:j<m
 ·rw[bL h1,cond_true];exact hg j h1
 ·have:j=m:=by omega
  subst this
  rw[show Nat.blt j j=false from by rw[Bool.eq_false_iff,ne_eq,Nat.blt_eq];omega,cond_false,Nat.sub_self,lst0_row,List.drop_zero,hL]
end Go.W

namespace Go.W
theorem MSum_sub {P:Program} [Laid P] {g:FuncId}{F F':List Value->(Nat->Option Blk)->Nat->List (Bool×Value×List (Nat×Blk))}(h:MSum P g F) (hs:∀vs mm id v l,pickM (F' vs mm id)=some (v,l)->pickM (F vs mm id)=some (v,l)):MSum P g F':=by
 intro w0 R fm w hm vs args' hl mm hsub id hlt v l hpick hnew
 exact h w0 R fm w hm vs args' hl mm hsub id hlt v l (hs _ _ _ _ _ hpick) hnew
end Go.W

namespace Go.W
theorem ptF_congr {n:Nat}{V W:Nat->RP}(h:∀j,j<n->V j=W j):∀j,j<n->nrmK kP9 (ptF V j)=nrmK kP9 (ptF W j):=by
 intro j hj;unfold ptF;rw[h j hj]
theorem first_no {V:Nat->RP}{n:Nat}(h:alP V n=false):∃k,k<n∧ckR (V k)=false∧∀j,j<k->ckR (V j)=true:=by
 have hne:∃i,i<n∧ckR (V i)=false:=by
  refine Classical.byContradiction fun hn=>?_
  have:alP V n=true:=alP_iff.2 fun j hj=>by
   cases e:ckR (V j) with
   | true=>rfl
   | false=>exact absurd ⟨j,hj,e⟩ hn
  rw[this]at h;cases h
 obtain ⟨i,a,b,c⟩:=first_bad hne
 refine⟨i,a,b,fun j hj=>?_⟩
 cases e:ckR (V j) with
 | true=>rfl
 | false=>exact absurd e (c j hj)
end Go.W

namespace Go.W
open Go.RowKit (Below)
def fnO (C:Cfg) (fuel:Nat) (fn:Func) (c:Code) (args:List Value) (mem:List (Nat×Blk)) (next i0:Nat):Option (Value×Option Blk):=
 evK C fuel [] c ⟨argSlots 0 args,mem,next⟩ (fun e s=>endK C.T fn e s (fun v=>some (v,look s.mem i0)) none) none
def apart2 (mm:Nat->Option Blk) (b:Nat) (u:Value):Bool:=
 match u with
 | .slice none _ _=>true
 | .slice (some a) _ _=>!(Nat.beq b a.block)&&(match mm a.block with
  | some blk=>(match blk.cells with
   | .lst _=>true
   | .row _ _ _=>true
   | _=>false)
  | none=>false)
 | .int _ _=>true
 | _=>false
section
variable {GL:Glob}{w0:Wb GL}{R:Nat->Pl->Prop}{fm:Nat->Option Blk}{w:World}
def RoF (i0:Nat) (p:Pl) (pl1:Option Pl) (i:Nat) (q:Pl):Prop:=(i=i0∧q=p)∨(i=argId 1∧pl1=some q)
theorem own_rel (hg:GOk GL w){i0:Nat}(hi0:i0=argId 0∨i0=1000000){ow:Bool}{p:Pl}{b':Nat}(hpa:p.a=some b'){ks:List CK}{n:Nat}{f:Nat->List Value}{e:TypeId}{cs:Array Value}{fz:Nat×Nat}(g1:w.heap[b']?=some (.cells cs e fz)) (g2:(cs.toList.drop p.d).take (n*ks.length)=rowL ks f 0 n)
  (hfz:ow=true->FzOk fz cs.size∧p.d+p.c*ks.length<=cs.size) (hgl:∀x∈GL,x.1≠b'){mem1:List (Nat×Blk)}{pl1:Option Pl}
  (h1:(mem1=[]∧pl1=none)∨∃ks1 m g e1 p1,mem1=[(argId 1,⟨.row ks1 m g,e1,false⟩)]∧pl1=some p1∧(p1.a=some b'->rowL ks1 g 0 m=[])∧(match p1.a with
   | some b=>∃cs fz,w.heap[b]?=some (.cells cs e1 fz)∧(cs.toList.drop p1.d).take (m*ks1.length)=rowL ks1 g 0 m
   | none=>m=0)):
  MRel (⟨w,fun k=>ow=true∧k=b',RoF i0 p pl1⟩:Wb GL) (RoF i0 p pl1) (look ((i0,⟨.row ks n f,e,ow⟩)::mem1)) w:=by
 have hne:i0≠argId 1:=by rcases hi0 with h|h<;>(rw[h];unfold argId;omega)
 have hlt:i0<1000000000:=by
  rcases hi0 with h|h
  ·rw[h];unfold argId;omega
  ·omega
 have hrow:LP (RoF i0 p pl1) (rowL ks f 0 n) (cs.toList.drop p.d):=LP_plain (rowL_pl _ _ _ _) (by rw[rowL_len];exact g2)
 have hmem:∀i blk,look ((i0,⟨.row ks n f,e,ow⟩)::mem1) i=some blk->(i=i0∧blk=⟨.row ks n f,e,ow⟩)∨(i=argId 1∧∃ks1 m g e1 p1,blk=⟨.row ks1 m g,e1,false⟩∧pl1=some p1∧(p1.a=some b'->rowL ks1 g 0 m=[])∧(match p1.a with
   | some b=>∃cs fz,w.heap[b]?=some (.cells cs e1 fz)∧(cs.toList.drop p1.d).take (m*ks1.length)=rowL ks1 g 0 m
   | none=>m=0)):=by
  intro i blk hi
  rw[look_cons]at hi
  by_cases e1:i0=i
  ·subst e1;rw[upd_same]at hi;cases hi;exact .inl ⟨rfl,rfl⟩
  ·rw[upd_ne _ _ e1]at hi
   rcases h1 with⟨rfl,_⟩|⟨ks1,m,g,e2,p1,rfl,k2,k3⟩
   ·simp[look]at hi
   ·rw[look_cons]at hi
    by_cases e3:argId 1=i
    ·subst e3;rw[upd_same]at hi;cases hi;exact .inr ⟨rfl,ks1,m,g,e2,p1,rfl,k2,k3⟩
    ·rw[upd_ne _ _ e3]at hi;simp[look]at hi
 refine⟨BelowX.refl _ _ _ hg (fun x hx h=>hgl x hx h.2),?_,?_,?_,?_,fun _ _ h _ _=>h,?_,?_⟩
 ·rintro i q q' (⟨rfl,rfl⟩|⟨rfl,h2⟩) (⟨h3,rfl⟩|⟨h3,h4⟩)
  ·rfl
  ·exact absurd h3 hne
  ·exact absurd h3.symm hne
  ·rw[h2]at h4;exact Option.some.inj h4
 ·intro i j q q' b hq hq' ha hb hij blk hblk hown blk' hblk'
  rcases hmem i blk hblk with⟨rfl,rfl⟩|⟨rfl,_,_,_,_,_,rfl,_⟩
  ·rcases hmem j blk' hblk' with⟨rfl,rfl⟩|⟨rfl,ks1,m,g,e1,p1,rfl,k2,k3,_⟩
   ·exact absurd rfl hij
   ·have e1:q=p:=by rcases hq with⟨_,h⟩|⟨h,_⟩;exact h;exact absurd h hne
    have e2:q'=p1:=by
     rcases hq' with⟨h,_⟩|⟨_,h⟩
     ·exact absurd h.symm hne
     ·rw[k2]at h;exact(Option.some.inj h).symm
    subst e1 e2
    rw[hpa]at ha;cases ha
    exact⟨rfl,k3 hb⟩
  ·simp at hown
 ·intro i blk hi
  rcases hmem i blk hi with⟨rfl,rfl⟩|⟨rfl,ks1,m,g,e1,p1,rfl,k2,_,k4⟩
  ·refine⟨p,.inl ⟨rfl,rfl⟩,?_⟩
   rw[hpa]
   exact⟨cs,fz,g1,hrow,fun ho=>⟨(hfz ho).1,.inl ⟨ho,rfl⟩,fun _ _=>(hfz ho).2⟩⟩
  ·refine⟨p1,.inr ⟨rfl,k2⟩,?_⟩
   cases hpa1:p1.a with
   | none=>rw[hpa1]at k4;show rowL ks1 g 0 m=[];rw[k4];rfl
   | some b=>
    rw[hpa1]at k4
    obtain ⟨cs1,fz1,m1,m2⟩:=k4
    exact⟨cs1,fz1,m1,LP_plain (rowL_pl _ _ _ _) (by rw[show(Cells.row ks1 m g).list=rowL ks1 g 0 m from rfl,rowL_len];exact m2),fun ho=>by simp at ho⟩
 ·rintro i q (⟨rfl,rfl⟩|⟨rfl,h2⟩) _
  ·rw[look_cons,upd_same];rfl
  ·rw[look_cons,upd_ne _ _ hne]
   rcases h1 with⟨_,h3⟩|⟨ks1,m,g,e2,p1,rfl,_⟩
   ·rw[h3]at h2;simp at h2
   ·rw[look_cons,upd_same];rfl
 ·rintro i q b (⟨rfl,rfl⟩|⟨rfl,h2⟩) hb
  ·rw[hpa]at hb;cases hb;exact .inl ⟨cs,e,fz,g1⟩
  ·rcases h1 with⟨_,h3⟩|⟨ks1,m,g,e2,p1,_,k2,_,k4⟩
   ·rw[h3]at h2;simp at h2
   ·rw[k2]at h2;cases h2
    rw[hb]at k4
    obtain ⟨cs1,fz1,m1,_⟩:=k4
    exact .inl ⟨cs1,e2,fz1,m1⟩
 ·rintro i q (⟨rfl,rfl⟩|⟨rfl,h2⟩) hge
  ·omega
  ·unfold argId at hge;omega
theorem plain_ans {R':Nat->Pl->Prop}{v v':Value}(hv:pl2 v=true) (h1:(∀vs,v≠.tuple vs)->V2 R' v v') (h2:∀vs,v=.tuple vs->∃vs',v'=.tuple vs'∧LR (V2 R') vs.toList vs'.toList):v'=v:=by
 by_cases ht:∃vs,v=.tuple vs
 ·obtain ⟨vs,rfl⟩:=ht
  obtain ⟨vs',rfl,hl⟩:=h2 vs rfl
  have hv:vs.toList.all pl1=true:=hv
  have:vs.toList.all pl2=true:=by
   rw[List.all_eq_true]at hv ⊢
   intro x hx
   have:=hv x hx
   unfold pl2;split
   ·simp[pl1,pl0]at this
   ·exact this
  have:=(LR_plain (r:=V2 R') (pl:=pl2) (fun _ _ h=>V2_plain h) this).1 hl
  congr 1
  exact Array.toList_inj.1 this
 ·exact(V2_plain hv).1 (h1 fun vs e=>ht ⟨vs,e⟩)
end
section
variable {P:Program} [Laid P]
end
end Go.W

namespace Go.W
open Go.RowKit (Below)
def srcW (mm:Nat->Option Blk) (ks:List CK) (e:TypeId) (v:Value):Bool×Nat×Nat×(Nat->List Value):=
 match v with
 | .slice (some ⟨b,off,none⟩) n c=>(match mm b with
  | some blk=>(match blk.cells with
   | .row ks' m f=>(loose b&&blk.own&&Nat.beq blk.elem e&&Nat.beq off 0&&Nat.beq n m&&ksEq ks' ks&&Nat.ble n c,b,n,f)
   | _=>(false,0,0,fun _=>[]))
  | none=>(false,0,0,fun _=>[]))
 | _=>(false,0,0,fun _=>[])
theorem srcW_some {mm:Nat->Option Blk}{ks:List CK}{e:TypeId}{v:Value}{b n:Nat}{f:Nat->List Value}(h:srcW mm ks e v=(true,b,n,f)):∃c,v=.slice (some ⟨b,0,none⟩) n c∧mm b=some ⟨.row ks n f,e,true⟩∧loose b=true∧n<=c:=by
 unfold srcW at h
 split at h
 ·rename_i b0 off n0 c
  split at h
  ·rename_i blk hb
   obtain ⟨cells,e0,own⟩:=blk
   simp only at h
   split at h
   ·rename_i ks' m f'
    simp only[Prod.mk.injEq,Bool.and_eq_true]at h
    obtain ⟨⟨⟨⟨⟨⟨⟨h1,h2⟩,h3⟩,h4⟩,h5⟩,h6⟩,h7⟩,rfl,rfl,rfl⟩:=h
    have h3:=nbeq.1 h3
    have h4:=nbeq.1 h4
    have h5:=nbeq.1 h5
    have h6:=ksEq_eq h6
    subst h2 h3 h4 h5 h6
    exact⟨c,rfl,hb,h1,Nat.le_of_ble_eq_true h7⟩
   ·simp at h
  ·simp at h
 ·simp at h
section
variable {GL:Glob}{w0:Wb GL}{R:Nat->Pl->Prop}{fm:Nat->Option Blk}{w:World}
theorem MRel.rerow (h:MRel w0 R fm w){i:Nat}{ks:List CK}{f f':Nat->List Value}{e:TypeId}{o:Bool}(hi:fm i=some ⟨.row ks 0 f,e,o⟩):MRel w0 R (upd fm i ⟨.row ks 0 f',e,o⟩) w:=by
 have hx:∀j blk,upd fm i ⟨.row ks 0 f',e,o⟩ j=some blk->∃blk',fm j=some blk'∧blk'.own=blk.own∧blk'.cells.list=blk.cells.list:=by
  intro j blk hj
  by_cases e1:i=j
  ·subst e1;rw[upd_same]at hj;cases hj;exact⟨_,hi,rfl,rfl⟩
  ·rw[upd_ne _ _ e1]at hj;exact⟨blk,hj,rfl,rfl⟩
 refine⟨h.below,h.func,?_,?_,?_,h.anc,fun i1 p1 b1 h1 h2=>(h.there i1 p1 b1 h1 h2).mono (fun s pos hs=>by
  have e1:i≠i1:=by
   rintro rfl
   rw[hi]at hs;cases hs
  rw[upd_ne _ _ e1]) rfl,?_⟩
 ·intro i0 j0 p q b h5 h6 ha hb hne blk hblk hown blk' hblk'
  obtain ⟨b1,k1,k2,_⟩:=hx _ _ hblk
  obtain ⟨b2,k3,k4,k5⟩:=hx _ _ hblk'
  have:=h.inj _ _ _ _ _ h5 h6 ha hb hne b1 k1 (k2.trans hown) b2 k3
  exact⟨k4.symm.trans this.1,k5.symm.trans this.2⟩
 ·intro j blk hj
  by_cases e1:i=j
  ·subst e1;rw[upd_same]at hj;cases hj
   have h1:ContOk w0 R w i ⟨.row ks 0 f,e,o⟩:=h.mem i _ hi
   exact h1
  ·rw[upd_ne _ _ e1]at hj;exact h.mem j blk hj
 ·intro j p hp hlt
  by_cases e1:i=j
  ·subst e1;rw[upd_same];rfl
  ·rw[upd_ne _ _ e1];exact h.dom j p hp hlt
 ·intro j p hp hge
  obtain ⟨h2,h3⟩:=h.fro j p hp hge
  refine⟨h2,fun k q hk hq blk hblk=>?_⟩
  obtain ⟨b1,k1,k2,_⟩:=hx _ _ hblk
  exact k2▸h3 k q hk hq b1 k1
end
section
variable {GL:Glob}{w0:Wb GL}{R:Nat->Pl->Prop}{fm:Nat->Option Blk}{w:World}
theorem MRel.recell (h:MRel w0 R fm w){i:Nat}{ks:List CK}{n:Nat}{f f':Nat->List Value}{e:TypeId}{o:Bool}(hi:fm i=some ⟨.row ks n f,e,o⟩) (hl:rowL ks f 0 n=rowL ks f' 0 n):MRel w0 R (upd fm i ⟨.row ks n f',e,o⟩) w:=by
 have hx:∀j blk,upd fm i ⟨.row ks n f',e,o⟩ j=some blk->∃blk',fm j=some blk'∧blk'.own=blk.own∧blk'.cells.list=blk.cells.list:=by
  intro j blk hj
  by_cases e1:i=j
  ·subst e1;rw[upd_same]at hj;cases hj;exact⟨_,hi,rfl,hl⟩
  ·rw[upd_ne _ _ e1]at hj;exact⟨blk,hj,rfl,rfl⟩
 refine⟨h.below,h.func,?_,?_,?_,h.anc,fun i1 p1 b1 h1 h2=>(h.there i1 p1 b1 h1 h2).mono (fun s pos hs=>by
  have e1:i≠i1:=by
   rintro rfl
   rw[hi]at hs;cases hs
  rw[upd_ne _ _ e1]) rfl,?_⟩
 ·intro i0 j0 p q b h5 h6 ha hb hne blk hblk hown blk' hblk'
  obtain ⟨b1,k1,k2,_⟩:=hx _ _ hblk
  obtain ⟨b2,k3,k4,k5⟩:=hx _ _ hblk'
  have:=h.inj _ _ _ _ _ h5 h6 ha hb hne b1 k1 (k2.trans hown) b2 k3
  exact⟨k4.symm.trans this.1,k5.symm.trans this.2⟩
 ·intro j blk hj
  by_cases e1:i=j
  ·subst e1;rw[upd_same]at hj;cases hj
   obtain ⟨p,hp,hc⟩:ContOk w0 R w i ⟨.row ks n f,e,o⟩:=h.mem i _ hi
   have hl2:(Cells.row ks n f).list=(Cells.row ks n f').list:=hl
   have h1:ContOk w0 R w i ⟨.row ks n f',e,o⟩:=by
    refine⟨p,hp,?_⟩
    cases hpa:p.a with
    | none=>rw[hpa]at hc;exact hl2.symm.trans hc
    | some b=>
     rw[hpa]at hc
     obtain ⟨cs,fz,k1,k2,k3⟩:=hc
     exact⟨cs,fz,k1,hl2▸k2,k3⟩
   exact h1
  ·rw[upd_ne _ _ e1]at hj;exact h.mem j blk hj
 ·intro j p hp hlt
  by_cases e1:i=j
  ·subst e1;rw[upd_same];rfl
  ·rw[upd_ne _ _ e1];exact h.dom j p hp hlt
 ·intro j p hp hge
  obtain ⟨h2,h3⟩:=h.fro j p hp hge
  refine⟨h2,fun k q hk hq blk hblk=>?_⟩
  obtain ⟨b1,k1,k2,_⟩:=hx _ _ hblk
  exact k2▸h3 k q hk hq b1 k1
end
section
variable {P:Program} [Laid P]
theorem fnO_split {C:Cfg}{fn:Func}{ex:Exit}{s':St}{i0:Nat}{v:Value}{x:Option Blk}(he2:endK C.T fn ex s' (fun v=>some (v,look s'.mem i0)) none=some (v,x)):endK C.T fn ex s' some none=some v∧look s'.mem i0=x:=by
 have key:endK C.T fn ex s' (fun v=>some (v,look s'.mem i0)) none=oK (endK C.T fn ex s' some none) (fun v=>some (v,look s'.mem i0)) none:=by
  unfold endK
  have key:∀lr:List ResultVar,resK C.T s' lr (fun vs=>oneK vs fun v=>some (v,look s'.mem i0)) none=oK (resK C.T s' lr (fun vs=>oneK vs some) none) (fun v=>some (v,look s'.mem i0)) none:=by
   intro lr
   rw[resK_nat (fun o:Option Value=>oK o (fun v=>some (v,look s'.mem i0)) none)]
   congr 1;funext vs
   exact(oneK_nat (fun o:Option Value=>oK o (fun v=>some (v,look s'.mem i0)) none) vs some).symm
  cases ex<;>first|exact key _|rfl
 rw[key,oK_some]at he2
 obtain ⟨v2,h5,h6⟩:=he2
 simp only[Option.some.injEq,Prod.mk.injEq]at h6
 obtain ⟨rfl,h6⟩:=h6
 exact⟨h5,h6⟩
theorem msum_wr {g:FuncId}{fn:Func}{c:Code}(hf:P.funcs[g]?=some fn) (hname:(fn.name=="runtime.NumGoroutine")=false) (hb:fn.body=some c){fuel next:Nat}
  {w0:Wb (lay P)}{R:Nat->Pl->Prop}{fm:Nat->Option Blk}{w:World}(hm:MRel w0 R fm w){v0:Value}{args':List Value}(hl:LR (V2 R) [v0] args'){mm:Nat->Option Blk}(hsub:∀b blk,mm b=some blk->fm b=some blk)
  {ks:List CK}{e:TypeId}{i n:Nat}{f f':Nat->List Value}(h0:srcW mm ks e v0=(true,i,n,f)) (hlen:1<=fn.ntmps){v:Value}(hv:pl2 v=true)
  (hev:∃C,CfgOk P C c∧C.n=fn.ntmps∧fnO C fuel fn c [.slice (some ⟨argId 0,0,none⟩) n n] [(argId 0,⟨.row ks n f,e,true⟩)] next (argId 0)=some (v,some ⟨.row ks n f',e,true⟩))
  (hev0:n=0->∀f0 es,∃C,CfgOk P C c∧C.n=fn.ntmps∧fnMS C fuel fn c (cArgs [.sl ks 0 f0] 0) (cMem es [.sl ks 0 f0] 0) next 0=some (v,[])) (hnt:fn.ntmps<=900000000:=by decide +kernel):
  Invokes P g args'.toArray w fun v' w'=>∃R':Nat->Pl->Prop,(∀i p,R i p->R' i p)∧V2 R' v v'∧MRel w0 R' (memF fm [(i,⟨.row ks n f',e,true⟩)]) w':=by
 obtain ⟨cc,rfl,hbm,hlo,hncc⟩:=srcW_some h0
 have hbf:=hsub _ _ hbm
 by_cases hn0:n=0
 ·subst hn0
  have hsrc:∃f0,srcB mm ks (.slice (some ⟨i,0,none⟩) 0 cc)=(true,0,f0):=by
   unfold srcB
   simp only[hbm]
   exact⟨_,by rw[Nat.beq_refl,Nat.ble_eq_true_of_le (Nat.le_refl 0),ksEq_refl,Nat.ble_eq_true_of_le (Nat.zero_le cc)];rfl⟩
  obtain ⟨f0,hsrc⟩:=hsrc
  have h1:=msum_at (l:=[]) (id:=0) hf hname hb hm hl hsub (by decide) (A:=[.sl ks 0 f0]) ⟨hsrc,trivial⟩ hlen (.inl rfl) nofun (hev0 rfl f0) hnt
  unfold Invokes at h1 ⊢
  revert h1
  split
  ·rintro ⟨R',h2,h3,h4⟩
   exact⟨R',h2,h3,MRel.rerow (f':=f') h4 hbf⟩
  ·intro h1
   refine Calls.mono h1 ?_
   intro ex w'
   split
   ·rintro ⟨R',h2,h3,h4⟩
    exact⟨R',h2,h3,MRel.rerow (f':=f') h4 hbf⟩
   ·exact id
  ·exact id
 have hne:fn.name≠"runtime.NumGoroutine":=by simpa using hname
 have hrun:(callFunc g args'.toArray).run P w=.ok (.enter g args'.toArray) w:=by simp[callFunc,hf,hne,hb]
 unfold Invokes
 rw[hrun]
 match args',hl with
 | [],hl=>exact hl.elim
 | _::_::_,hl=>exact hl.2.elim
 | [v0'],hl=>
 obtain ⟨p,hp,hsl⟩:=V2_slice hl.1
 obtain ⟨_,hcc,⟨b',hpa,rfl⟩|⟨_,hn1,_,_⟩⟩:=SlOk_loose hlo hsl
 rotate_left
 ·omega
 obtain ⟨cs,fz,g1,g2,g3,g4⟩:=row_cells hm hbf hp hpa
 obtain ⟨hfz,hge,hroom⟩:=g4 rfl
 have hroom:=hroom hlo (by omega)
 have hgl:∀x∈lay P,x.1≠b':=by
  intro x hx e1
  obtain ⟨fz1,k1⟩:=hm.below.glob.1 x hx
  have k2:=hm.below.glob.2 x hx
  rw[e1]at k1 k2
  rcases hge with h5|h5
  ·exact k2 h5
  ·have:=heap_lt k1;omega
 obtain ⟨C,hC,hn,hev⟩:=hev
 have hmC:=own_rel (i0:=argId 0) (ow:=true) (pl1:=none) (mem1:=[]) hm.below.gok (.inl rfl) hpa g1 g2 (fun _=>⟨hfz,hroom⟩) hgl (.inl ⟨rfl,rfl⟩)
 unfold fnO at hev
 rw[evK_eq,oK_some]at hev
 obtain ⟨⟨ex,s'⟩,he1,he2⟩:=hev
 obtain ⟨he3,he4⟩:=fnO_split he2
 refine Calls.mono (fn_mem hC hf hb hn hmC (args:=[.slice (some ⟨argId 0,0,none⟩) n n]) (args':=[.slice (some ⟨b',p.d,none⟩) n p.c]) (And.intro (slice_V2 (q:=p) (argId_loose 0) (.inl ⟨rfl,rfl⟩) (by omega) (by rw[hpa])) trivial) hlen he1 he3) ?_
 rintro ex2 w' ⟨R',v',rfl,hvv,hvt,hm'⟩
 show ∃R2:Nat->Pl->Prop,_∧_∧_
 have hvv:=plain_ans hv hvv hvt
 subst hvv
 refine⟨R,fun _ _ h=>h,(V2_plain hv).2 rfl,?_⟩
 obtain ⟨p',hp',_⟩:=memOk_row hm' he4
 have hanc:=hm'.anc _ _ hp' (by unfold argId;omega) (by unfold argId;omega)
 have epp:p'=p:=by
  rcases hanc with⟨_,h⟩|⟨h,_⟩
  ·exact h
  ·unfold argId at h;omega
 subst epp
 obtain ⟨cs',fz',k1,k2,k3,k4⟩:=row_cells hm' he4 hp' hpa
 obtain ⟨hfz',_,hroom'⟩:=k4 rfl
 have hroom':=hroom' (argId_loose 0) (by omega)
 have hw:=hm.write hbf hp hpa rfl g1 hge (c:=.row ks n f') (cs:=cs') nofun nofun nofun (LP_plain (rowL_pl _ _ _ _) (by rw[show(Cells.row ks n f').list=rowL ks f' 0 n from rfl,rowL_len];exact k2)) (fun _ _=>hroom') hfz'
 have hbl:=hm'.below
 refine hw.world ⟨hbl.os,hbl.tape,hbl.output,by simpa [setBlk] using hbl.size,fun k hk=>?_⟩
 have hk2:k<w.heap.size:=by simpa [setBlk] using hk
 by_cases hkb:k=b'
 ·subst hkb
  rw[k1]
  exact(setBlk_same (w:=w) (o:=.cells cs' e fz') hk2).symm
 ·rw[hbl.block k hk2 (fun h=>hkb h.2)]
  simp only[setBlk];rw[Array.getElem?_setIfInBounds_ne (fun h=>hkb h.symm)]
end
end Go.W

namespace Go.W
open Go.RowKit (Below)
def isNilL:Cells->Bool
 | .lst []=>true
 | _=>false
def ancOk (mem:Nat->Option Blk) (e:TypeId):Bool:=
 match mem 1400000 with
 | some blk=>Nat.beq blk.elem e&&isNilL blk.cells
 | none=>false
def takK (mem:Nat->Option Blk) (e:TypeId) (v:Value):Option (Nat×Blk):=
 match v with
 | .slice (some ⟨j,off,none⟩) m c=>oK (mem j) (fun blk=>match blk.cells with
  | .row ks n g=>bif blk.own&&loose j&&Nat.blt j 1000000&&Nat.beq off 0&&Nat.ble m c&&Nat.beq m n&&ancOk mem e then some (m,⟨.row ks n g,blk.elem,true⟩) else none
  | _=>none) none
 | _=>none
def fnT (C:Cfg) (fuel:Nat) (fn:Func) (c:Code) (args:List Value) (mem:List (Nat×Blk)) (next:Nat) (e:TypeId):Option (Nat×Blk):=
 evK C fuel [] c ⟨argSlots 0 args,mem,next⟩ (fun ex s=>endK C.T fn ex s (fun v=>takK (look s.mem) e v) none) none
theorem takK_some {mem:Nat->Option Blk}{e:TypeId}{v:Value}{m:Nat}{blk:Blk}(h:takK mem e v=some (m,blk)):
  ∃j c ks g e2,v=.slice (some ⟨j,0,none⟩) m c∧mem j=some ⟨.row ks m g,e2,true⟩∧blk=⟨.row ks m g,e2,true⟩∧loose j=true∧j<1000000∧m<=c∧∃o,mem 1400000=some ⟨.lst [],e,o⟩:=by
 unfold takK at h
 split at h
 ·rename_i j off m0 c
  obtain ⟨blk0,hb,h⟩:=oK_some.1 h
  obtain ⟨cells,e2,own⟩:=blk0
  simp only at h
  split at h
  ·rename_i ks n g
   obtain ⟨hc,h⟩:=cond_some.1 h
   simp only[Bool.and_eq_true,Nat.blt_eq]at hc
   obtain ⟨⟨⟨⟨⟨⟨h1,h2⟩,h3⟩,h4⟩,h5⟩,h6⟩,h7⟩:=hc
   have h4:=nbeq.1 h4
   have h6:=nbeq.1 h6
   simp only[Option.some.injEq,Prod.mk.injEq]at h
   obtain ⟨rfl,rfl⟩:=h
   subst h1 h4 h6
   refine⟨j,c,ks,g,e2,rfl,hb,rfl,h2,h3,Nat.le_of_ble_eq_true h5,?_⟩
   unfold ancOk at h7
   split at h7
   ·rename_i blk1 hb1
    obtain ⟨cells1,e1,o1⟩:=blk1
    simp only[Bool.and_eq_true]at h7
    obtain ⟨k1,k2⟩:=h7
    have k1:=nbeq.1 k1
    subst k1
    unfold isNilL at k2
    split at k2
    ·exact⟨o1,hb1⟩
    ·simp at k2
   ·simp at h7
  ·simp at h
 ·simp at h
section
variable {GL:Glob}{w0:Wb GL}{R:Nat->Pl->Prop}{fm:Nat->Option Blk}{w:World}
theorem MRel.swap (h:MRel w0 R fm w){b:Nat}{e:TypeId}(hfree:∀j q blk',R j q->q.a=some b->fm j=some blk'->weak blk') (hnf:¬Frz R b) (hge:w0.X b∨w0.w.heap.size<=b) (hold:∃cs fz,w.heap[b]?=some (.cells cs e fz))
  {w':World}{A:Nat->Pl->Prop}(hb:BelowX (⟨w,fun k=>some b=some k,A⟩:Wb GL) w') (hnew:∃cs fz,w'.heap[b]?=some (.cells cs e fz)):MRel w0 R fm w':=by
 have hsame:∀k,k<w.heap.size->k≠b->w'.heap[k]?=w.heap[k]?:=fun k hk hne=>hb.block k hk (fun h=>hne (Option.some.inj h).symm)
 obtain ⟨cs1,fz1,ho⟩:=hold
 obtain ⟨cs2,fz2,hn⟩:=hnew
 refine⟨⟨hb.os.trans h.below.os,hb.tape.trans h.below.tape,hb.output.trans h.below.output,Nat.le_trans h.below.size hb.size,fun k hk hx=>?_,h.below.glob⟩,h.func,h.inj,?_,h.dom,h.anc,fun i p b2 h1 h2=>?_,h.fro⟩
 ·have hne:k≠b:=by
   rintro rfl
   rcases hge with h5|h5
   ·exact hx h5
   ·omega
  exact(hsame k (Nat.lt_of_lt_of_le hk h.below.size) hne).trans (h.below.block k hk hx)
 ·intro i blk hi
  have hm:=h.mem i blk hi
  unfold MemOk at hm ⊢
  split at hm
  ·exact hm
  ·exact hm
  ·refine hm.mono (fun _ _ h=>h) (fun b2 hb2=>hsame b2 (h.frz_lt hb2) ?_) (fun hown p b2 hp hpa=>hsame b2 (h.lt hp hpa) ?_)
   ·rintro rfl;exact hnf hb2
   ·rintro rfl
    have:=(hfree _ _ _ hp hpa hi).1
    rw[hown]at this;simp at this
  ·obtain ⟨b2,k1,k2,k3⟩:=hm
   have hne:b2≠b:=by rintro rfl;rw[ho]at k2;simp at k2
   exact⟨b2,k1,by rw[hsame b2 (h.lt k1 rfl) hne];exact k2,k3⟩
  ·obtain ⟨p,k1,k2⟩:=hm
   refine⟨p,k1,?_⟩
   cases hpa:p.a with
   | none=>rw[hpa]at k2;exact k2
   | some b2=>
    rw[hpa]at k2
    obtain ⟨cs',fz,k3,k4,k5⟩:=k2
    by_cases hne:b2=b
    ·subst hne
     have hwk:=hfree _ _ _ k1 hpa hi
     rw[ho]at k3
     simp only[Option.some.injEq,Obj.cells.injEq]at k3
     exact⟨cs2,fz2,by rw[<-k3.2.1];exact hn,by rw[hwk.2];exact LP_nil,fun hown=>by rw[hwk.1]at hown;simp at hown⟩
    ·exact⟨cs',fz,by rw[hsame b2 (h.lt k1 hpa) hne];exact k3,k4,k5⟩
 ·by_cases hne:b2=b
  ·subst hne;exact .inl ⟨cs2,e,fz2,hn⟩
  ·exact(h.there i p b2 h1 h2).mono (fun _ _ _=>rfl) (hsame b2 (h.lt h1 h2) hne)
theorem apart_nil (hm:MRel w0 R fm w){mm:Nat->Option Blk}(hsub:∀b blk,mm b=some blk->fm b=some blk){i:Nat}{p:Pl}{blk:Blk}{b':Nat}(hp:R i p) (hpa:p.a=some b') (hi:fm i=some blk) (hown:blk.own=true)
  {v:Value}{d m c:Nat}(hv:V2 R v (.slice (some ⟨b',d,none⟩) m c)) (hap:apart2 mm i v=true){ks:List CK}{g:Nat->List Value}(hs:srcB mm ks v=(true,m,g)):rowL ks g 0 m=[]:=by
 by_cases hm0:m=0
 ·subst hm0;rfl
 unfold apart2 at hap
 split at hap
 ·have:=(V2_plain (R:=R) (v:=.slice none _ _) rfl).1 hv
  simp at this
 ·rename_i a2 n2 c2
  obtain ⟨b2,off2,sp2⟩:=a2
  have hsp:sp2=none:=by
   cases sp2 with
   | none=>rfl
   | some x=>simp[srcB]at hs
  subst hsp
  simp only[Bool.and_eq_true,Bool.not_eq_true']at hap
  obtain ⟨ha1,ha2⟩:=hap
  have hne2:i≠b2:=fun e2=>by rw[e2,Nat.beq_refl]at ha1;simp at ha1
  obtain ⟨q,hq,hsl2⟩:=V2_slice hv
  have hqa:q.a=some b':=by
   cases hlo2:loose b2 with
   | false=>
    obtain ⟨b3,h5,h6⟩:=SlOk_tight hlo2 hsl2
    simp only[Value.slice.injEq,Option.some.injEq,Addr.mk.injEq]at h6
    rw[h5,h6.1.1]
   | true=>
    obtain ⟨_,_,⟨b3,h5,h6⟩|⟨_,_,_,h6⟩⟩:=SlOk_loose hlo2 hsl2
    ·simp only[Value.slice.injEq,Option.some.injEq,Addr.mk.injEq]at h6
     rw[h5,h6.1.1]
    ·obtain ⟨a9,h6⟩:=h6
     simp only[Value.slice.injEq]at h6
     exact absurd h6.2.1 hm0
  split at ha2
  ·rename_i blk2 hb2
   have hwk:=hm.inj _ _ _ _ _ hp hq hpa hqa hne2 _ hi hown blk2 (hsub _ _ hb2)
   obtain ⟨cells2,e2,own2⟩:=blk2
   have hl0:cells2.list=[]:=hwk.2
   have hsrc2:=hs
   unfold srcB at hsrc2
   simp only[hb2]at hsrc2
   simp only at ha2
   split at ha2
   ·rename_i l
    have hl0:l=[]:=hl0
    subst hl0
    simp only[Prod.mk.injEq,Bool.and_eq_true,List.length_nil]at hsrc2
    obtain ⟨⟨⟨h5,h6⟩,_⟩,h7,_⟩:=hsrc2
    have h5:=Nat.le_of_ble_eq_true h5
    apply List.length_eq_zero_iff.1
    rw[rowL_len,<-h7];omega
   ·rename_i ks2 m2 f2
    have hl0:rowL ks2 f2 0 m2=[]:=hl0
    simp only[Prod.mk.injEq,Bool.and_eq_true]at hsrc2
    obtain ⟨⟨⟨⟨_,h5⟩,h6⟩,_⟩,h7,_⟩:=hsrc2
    have h5:=Nat.le_of_ble_eq_true h5
    have h6:=ksEq_eq h6
    subst h6
    have:=congrArg List.length hl0
    rw[rowL_len,List.length_nil]at this
    apply List.length_eq_zero_iff.1
    rw[rowL_len]
    have:m*ks2.length<=m2*ks2.length:=Nat.mul_le_mul_right _ (by omega)
    omega
   ·simp at ha2
  ·simp at ha2
 ·simp[srcB]at hs
 ·simp at hap
theorem args_apart (hm:MRel w0 R fm w){mm:Nat->Option Blk}(hsub:∀b blk,mm b=some blk->fm b=some blk){i:Nat}{p:Pl}{blk:Blk}{b':Nat}(hp:R i p) (hpa:p.a=some b') (hi:fm i=some blk) (hown:blk.own=true)
  {es:Nat->TypeId}{Rc:Nat->Pl->Prop}(hfun:∀i p p',Rc i p->Rc i p'->p=p'):∀(A:List Arg) (vs args':List Value) (k:Nat),AOk mm vs A->LR (V2 R) vs args'->LR (V2 Rc) (cArgs A k) args'->vs.all (apart2 mm i)=true->
   ∀j blk' q,look (cMem es A k) j=some blk'->Rc j q->q.a=some b'->blk'.cells.list=[]
 | [],_,_,_,_,_,_,_=>fun j blk' q h _ _=>by simp[cMem,look]at h
 | .pl u::A,[],_,_,hA,_,_,_=>hA.elim
 | .sl _ _ _::A,[],_,_,hA,_,_,_=>hA.elim
 | .pl _::_,_::_,[],_,_,hl,_,_=>hl.elim
 | .sl _ _ _::_,_::_,[],_,_,hl,_,_=>hl.elim
 | .pl u::A,v::vs,v'::args',k,hA,hl,hc,hap=>by
  simp only[List.all_cons,Bool.and_eq_true]at hap
  exact args_apart hm hsub hp hpa hi hown hfun A vs args' (k+1) hA.2.2 hl.2 hc.2 hap.2
 | .sl ks n g::A,v::vs,v'::args',k,hA,hl,hc,hap=>by
  simp only[List.all_cons,Bool.and_eq_true]at hap
  intro j blk' q hj hq hqa
  rw[cMem,look_cons]at hj
  by_cases e1:argId k=j
  ·subst e1
   rw[upd_same]at hj;cases hj
   show rowL ks g 0 n=[]
   obtain ⟨q2,hq2,hsl⟩:=V2_slice hc.1
   have:=hfun _ _ _ hq hq2;subst this
   obtain ⟨_,hcc,⟨b3,h5,h6⟩|⟨h5,h6,_,_⟩⟩:=SlOk_loose (argId_loose k) hsl
   ·rw[hqa]at h5;cases h5
    subst h6
    exact apart_nil hm hsub hp hpa hi hown hl.1 hap.1 hA.1
   ·rw[hqa]at h5;simp at h5
  ·rw[upd_ne _ _ e1]at hj
   exact args_apart hm hsub hp hpa hi hown hfun A vs args' (k+1) hA.2 hl.2 hc.2 hap.2 j blk' q hj hq hqa
def RtF (p:Pl) (pl:Nat->Option Pl) (i:Nat) (q:Pl):Prop:=(i=999999∧q=p)∨(i=1400000∧q=p)∨∃j,i=argId j∧pl j=some q
theorem take_rel (hg:GOk GL w){es:Nat->TypeId}{pl:Nat->Option Pl}{A:List Arg}(h2:∀i blk,look (cMem es A 1) i=some blk->∃j p,i=argId j∧pl j=some p∧PlOk w i blk p)
  (h3:∀j p,pl j=some p->(look (cMem es A 1) (argId j)).isSome=true∧∀b,p.a=some b->∃cs e fz,w.heap[b]?=some (.cells cs e fz)) (hA:A.length<=900000000)
  {p:Pl}{ks:List CK}{n:Nat}{f:Nat->List Value}{e:TypeId}(hp:match p.a with
   | none=>n=0
   | some b=>∃cs fz,w.heap[b]?=some (.cells cs e fz)∧FzOk fz cs.size∧(cs.toList.drop p.d).take (n*ks.length)=rowL ks f 0 n∧(p.c≠0->p.d+p.c*ks.length<=cs.size))
  (hap:∀j blk' q b,look (cMem es A 1) j=some blk'->RtF p pl j q->q.a=some b->p.a=some b->blk'.cells.list=[]) (hgl:∀x∈GL,p.a≠some x.1):
  MRel (⟨w,fun k=>p.a=some k,RtF p pl⟩:Wb GL) (RtF p pl) (look ((999999,⟨.row ks n f,e,true⟩)::(1400000,⟨.lst [],e,false⟩)::cMem es A 1)) w:=by
 have hid:∀j,argId j≠999999∧argId j≠1400000:=fun j=>by unfold argId;omega
 have hmem:∀i blk,look ((999999,⟨.row ks n f,e,true⟩)::(1400000,⟨.lst [],e,false⟩)::cMem es A 1) i=some blk->(i=999999∧blk=⟨.row ks n f,e,true⟩)∨(i=1400000∧blk=⟨.lst [],e,false⟩)∨(∃j q,i=argId j∧pl j=some q∧look (cMem es A 1) i=some blk∧PlOk w i blk q):=by
  intro i blk hi
  rw[look_cons]at hi
  by_cases e1:999999=i
  ·subst e1;rw[upd_same]at hi;cases hi;exact .inl ⟨rfl,rfl⟩
  rw[upd_ne _ _ e1,look_cons]at hi
  by_cases e2:1400000=i
  ·subst e2;rw[upd_same]at hi;cases hi;exact .inr (.inl ⟨rfl,rfl⟩)
  rw[upd_ne _ _ e2]at hi
  obtain ⟨j,q,h5,h6,h7⟩:=h2 i blk hi
  exact .inr (.inr ⟨j,q,h5,h6,hi,h7⟩)
 have hfun:∀i q q',RtF p pl i q->RtF p pl i q'->q=q':=by
  rintro i q q' (⟨rfl,rfl⟩|⟨rfl,rfl⟩|⟨j,rfl,hj⟩) (⟨h5,rfl⟩|⟨h5,rfl⟩|⟨j',h5,hj'⟩)
  ·rfl
  ·omega
  ·exact absurd h5.symm (hid _).1
  ·omega
  ·rfl
  ·exact absurd h5.symm (hid _).2
  ·exact absurd h5 (hid _).1
  ·exact absurd h5 (hid _).2
  ·have:j=j':=by unfold argId at h5;omega
   subst this
   rw[hj]at hj';exact Option.some.inj hj'
 refine⟨BelowX.refl _ _ _ hg (fun x hx h=>hgl x hx h),hfun,?_,?_,?_,fun _ _ h _ _=>h,?_,?_⟩
 ·intro i j q q' b hq hq' ha hb hne blk hblk hown blk' hblk'
  rcases hmem i blk hblk with⟨rfl,rfl⟩|⟨rfl,rfl⟩|⟨j1,q1,rfl,_,_,k⟩
  ·have:=hfun _ _ _ hq (.inl ⟨rfl,rfl⟩);subst this
   rcases hmem j blk' hblk' with⟨rfl,rfl⟩|⟨rfl,rfl⟩|⟨j1,q1,rfl,h5,h6,k⟩
   ·exact absurd rfl hne
   ·exact⟨rfl,rfl⟩
   ·exact⟨k.1,hap _ _ _ _ h6 hq' hb ha⟩
  ·simp at hown
  ·rw[k.1]at hown;simp at hown
 ·intro i blk hi
  rcases hmem i blk hi with⟨rfl,rfl⟩|⟨rfl,rfl⟩|⟨j,q,rfl,k2,_,k3,⟨ks1,n1,g1,k4⟩,k5,_⟩
  ·refine⟨p,.inl ⟨rfl,rfl⟩,?_⟩
   cases hpa:p.a with
   | none=>rw[hpa]at hp;show rowL ks f 0 n=[];rw[hp];rfl
   | some b=>
    rw[hpa]at hp
    obtain ⟨cs,fz,m1,hfz,m2,m3⟩:=hp
    exact⟨cs,fz,m1,LP_plain (rowL_pl _ _ _ _) (by rw[show(Cells.row ks n f).list=rowL ks f 0 n from rfl,rowL_len];exact m2),fun _=>⟨hfz,.inl rfl,fun _=>m3⟩⟩
  ·refine⟨p,.inr (.inl ⟨rfl,rfl⟩),?_⟩
   cases hpa:p.a with
   | none=>rfl
   | some b=>
    rw[hpa]at hp
    obtain ⟨cs,fz,m1,_,m2,m3⟩:=hp
    exact⟨cs,fz,m1,LP_nil,fun ho=>by simp at ho⟩
  ·have hc:ContOk (⟨w,fun k=>p.a=some k,RtF p pl⟩:Wb GL) (RtF p pl) w (argId j) blk:=by
    refine⟨q,.inr (.inr ⟨j,rfl,k2⟩),?_⟩
    cases hqa:q.a with
    | none=>rw[hqa]at k5;exact k5
    | some b=>
     rw[hqa]at k5
     obtain ⟨cs,fz,m1,m2⟩:=k5
     exact⟨cs,fz,m1,LP_mono (fun _ _ h=>h.elim) m2,fun ho=>by rw[k3]at ho;simp at ho⟩
   unfold MemOk
   rw[k4];exact hc
 ·rintro i q (⟨rfl,rfl⟩|⟨rfl,rfl⟩|⟨j,rfl,hj⟩) _
  ·rw[look_cons,upd_same];rfl
  ·rw[look_cons,upd_ne _ _ (by omega),look_cons,upd_same];rfl
  ·rw[look_cons,upd_ne _ _ (Ne.symm (hid j).1),look_cons,upd_ne _ _ (Ne.symm (hid j).2)]
   exact(h3 j q hj).1
 ·have hthere:∀b,p.a=some b->∃cs e fz,w.heap[b]?=some (.cells cs e fz):=fun b hb=>by
   rw[hb]at hp
   obtain ⟨cs,fz,m1,_⟩:=hp
   exact⟨cs,e,fz,m1⟩
  rintro i q b (⟨rfl,rfl⟩|⟨rfl,rfl⟩|⟨j,rfl,hj⟩) hb
  ·exact .inl (hthere b hb)
  ·exact .inl (hthere b hb)
  ·exact .inl ((h3 j q hj).2 b hb)
 ·rintro i q (⟨rfl,rfl⟩|⟨rfl,rfl⟩|⟨j,rfl,hj⟩) hge
  ·omega
  ·omega
  ·have:=cMem_lt A 1 j (h3 j q hj).1
   unfold argId at hge;omega
end
section
variable {P:Program} [Laid P]
theorem msum_take {g:FuncId}{fn:Func}{c:Code}(hf:P.funcs[g]?=some fn) (hname:(fn.name=="runtime.NumGoroutine")=false) (hb:fn.body=some c){fuel next:Nat}
  {w0:Wb (lay P)}{R:Nat->Pl->Prop}{fm:Nat->Option Blk}{w:World}(hm:MRel w0 R fm w){v0:Value}{vs args':List Value}(hl:LR (V2 R) (v0::vs) args'){mm:Nat->Option Blk}(hsub:∀b blk,mm b=some blk->fm b=some blk){id:Nat}(hlt:id<60000)
  {ks:List CK}{e:TypeId}{i n:Nat}{f:Nat->List Value}(h0:srcW mm ks e v0=(true,i,n,f)){A:List Arg}(hA:AOk mm vs A) (hap:vs.all (apart2 mm i)=true) (hlen:A.length+1<=fn.ntmps){m:Nat}{blk:Blk}(hnew:fm (nid id 0)=none)
  (hev0:∀es,∃C,CfgOk P C c∧C.n=fn.ntmps∧fnT C fuel fn c (.slice (some ⟨999999,0,none⟩) n n::cArgs A 1) ((999999,⟨.row ks n f,e,true⟩)::(1400000,⟨.lst [],e,false⟩)::cMem es A 1) next e=some (m,blk)) (hnt:fn.ntmps<=900000000:=by decide +kernel):
  Invokes P g args'.toArray w fun v' w'=>∃R':Nat->Pl->Prop,(∀i p,R i p->R' i p)∧V2 R' (.slice (some ⟨nid id 0,0,none⟩) m m) v'∧MRel w0 R' (memF fm [(nid id 0,blk),(i,⟨.lst [],e,false⟩)]) w':=by
 have hne:fn.name≠"runtime.NumGoroutine":=by simpa using hname
 have hrun:(callFunc g args'.toArray).run P w=.ok (.enter g args'.toArray) w:=by simp[callFunc,hf,hne,hb]
 unfold Invokes
 rw[hrun]
 obtain ⟨cc,rfl,hbm,hlo,hncc⟩:=srcW_some h0
 have hbf:=hsub _ _ hbm
 match args',hl with
 | [],hl=>exact hl.elim
 | v0'::args1',hl=>
 obtain ⟨es,pl,h1,h2,h3,h4⟩:=callee_mem hm A vs args1' 1 (AOk_mono hsub hA) hl.2
 obtain ⟨p,hp,hsl⟩:=V2_slice hl.1
 obtain ⟨_,hcc,hcase⟩:=SlOk_loose hlo hsl
 have hcont:match p.a with
   | none=>n=0
   | some b=>∃cs fz,w.heap[b]?=some (.cells cs e fz)∧FzOk fz cs.size∧(cs.toList.drop p.d).take (n*ks.length)=rowL ks f 0 n∧(p.c≠0->p.d+p.c*ks.length<=cs.size):=by
  rcases hcase with⟨b',hpa,_⟩|⟨hpa,hn0,_,_⟩
  ·rw[hpa]
   obtain ⟨cs,fz,g1,g2,g3,g4⟩:=row_cells hm hbf hp hpa
   obtain ⟨hfz,_,hroom⟩:=g4 rfl
   exact⟨cs,fz,g1,hfz,g2,fun hc=>hroom hlo hc⟩
  ·rw[hpa];exact hn0
 have hfun:∀i q q',RtF p pl i q->RtF p pl i q'->q=q':=by
  rintro i q q' (⟨rfl,rfl⟩|⟨rfl,rfl⟩|⟨j,rfl,hj⟩) (⟨h5,rfl⟩|⟨h5,rfl⟩|⟨j',h5,hj'⟩)<;>first|rfl|(unfold argId at h5;omega)|omega|skip
  have:j=j':=by unfold argId at h5;omega
  subst this
  rw[hj]at hj';exact Option.some.inj hj'
 have hargs1:LR (V2 (RtF p pl)) (cArgs A 1) args1':=LR_mono (fun _ _ hu=>V2_mono (fun i q hq=>.inr (.inr hq)) hu) h4
 have hown:∀b,p.a=some b->w0.X b∨w0.w.heap.size<=b:=fun b hpa=>hm.ownX hp hpa hbf rfl
 have hgl:∀x∈lay P,p.a≠some x.1:=by
  intro x hx e1
  obtain ⟨fz1,k1⟩:=hm.below.glob.1 x hx
  have k2:=hm.below.glob.2 x hx
  rcases hown _ e1 with h5|h5
  ·exact k2 h5
  ·have:=heap_lt k1;omega
 have hapa:∀j blk' q b,look (cMem es A 1) j=some blk'->RtF p pl j q->q.a=some b->p.a=some b->blk'.cells.list=[]:=fun j blk' q b hj hq hqa hpa=>args_apart hm hsub hp hpa hbf rfl hfun A vs args1' 1 hA hl.2 hargs1 hap j blk' q hj hq hqa
 have hmC:=take_rel hm.below.gok h2 h3 (by omega) hcont hapa hgl
 obtain ⟨C,hC,hn,hev⟩:=hev0 es
 unfold fnT at hev
 rw[evK_eq,oK_some]at hev
 obtain ⟨⟨ex,s'⟩,he1,he2⟩:=hev
 obtain ⟨vC,he3,he4⟩:∃vC,endK C.T fn ex s' some none=some vC∧takK (look s'.mem) e vC=some (m,blk):=by
  have key:endK C.T fn ex s' (fun v=>takK (look s'.mem) e v) none=oK (endK C.T fn ex s' some none) (fun v=>takK (look s'.mem) e v) none:=by
   unfold endK
   have key:∀lr:List ResultVar,resK C.T s' lr (fun vs=>oneK vs fun v=>takK (look s'.mem) e v) none=oK (resK C.T s' lr (fun vs=>oneK vs some) none) (fun v=>takK (look s'.mem) e v) none:=by
    intro lr
    rw[resK_nat (fun o:Option Value=>oK o (fun v=>takK (look s'.mem) e v) none)]
    congr 1;funext vs
    exact(oneK_nat (fun o:Option Value=>oK o (fun v=>takK (look s'.mem) e v) none) vs some).symm
   cases ex<;>first|exact key _|rfl
  simp only at he2
  rw[key]at he2
  exact oK_some.1 he2
 have hv0:V2 (RtF p pl) (.slice (some ⟨999999,0,none⟩) n n) v0':=by
  refine slice_V2 (q:=p) rfl (.inl ⟨rfl,rfl⟩) (by omega) ?_
  rcases hcase with⟨b',hpa,hv⟩|⟨hpa,hn0,hc0,hv⟩
  ·rw[hpa];exact hv
  ·rw[hpa];exact⟨hn0,hc0,hv⟩
 refine Calls.mono (fn_mem hC hf hb hn hmC (args:=.slice (some ⟨999999,0,none⟩) n n::cArgs A 1) (args':=v0'::args1') (And.intro hv0 hargs1) (by rw[List.length_cons,cArgs_len];exact hlen) he1 he3) ?_
 rintro ex2 w' ⟨R',v',rfl,hvv,hvt,hm'⟩
 show ∃R2:Nat->Pl->Prop,_∧_∧_
 obtain ⟨j,c0,ks2,g2,e2,rfl,hj,rfl,hloj,hjm,hmc,o,hanc⟩:=takK_some he4
 have hvv:=hvv nofun
  -- the caller's memory, without the row
 have hm2:MRel w0 R (upd fm i ⟨.lst [],e,false⟩) w':=by
  have hmf:=hm.forget hbf nofun nofun
  cases hpa:p.a with
  | none=>
   refine hmf.world ?_
   have:=hm'.below.below (fun k hk=>by rw[hpa]at hk;simp at hk)
   exact this
  | some b=>
   rw[hpa]at hcont
   obtain ⟨cs,fz0,g1,_⟩:=hcont
   have hb2:=hm'.below
   simp only[hpa]at hb2
   refine hmf.swap (forget_free hm hbf rfl hp hpa e) (fun hfz=>?_) (hown b hpa) ⟨cs,fz0,g1⟩ hb2 ?_
   ·have:=hm.frz_own hfz hp hpa hbf;simp at this
   ·obtain ⟨p',hp',hc⟩:=memOk_lst hm' hanc
    have hanc2:=hm'.anc _ _ hp' (by omega) (by omega)
    have epp:p'=p:=by
     rcases hanc2 with⟨h,_⟩|⟨_,h⟩|⟨j,h,_⟩
     ·omega
     ·exact h
     ·unfold argId at h;omega
    subst epp
    rw[hpa]at hc
    obtain ⟨cs2,fz2,k1,_⟩:=hc
    exact⟨cs2,fz2,k1⟩
 have hin:i≠nid id 0:=by rintro rfl;rw[hnew]at hbf;simp at hbf
 have hnone:upd fm i ⟨.lst [],e,false⟩ (nid id 0)=none:=by rw[upd_ne _ _ hin];exact hnew
 obtain ⟨q,hq,hslq⟩:=V2_slice hvv
 obtain ⟨q',hq',hcq⟩:=memOk_row hm' hj
 have:=hm'.func _ _ _ hq hq';subst this
 obtain ⟨_,hcc2,hcaseq⟩:=SlOk_loose hloj hslq
 refine⟨fun i2 q2=>R i2 q2∨(i2=nid id 0∧q2=q),fun _ _ h=>.inl h,slice_V2 (nid_loose hlt (by omega)) (.inr ⟨rfl,rfl⟩) (show m<=q.c by omega) ?_,?_⟩
 ·rcases hcaseq with⟨b,hqa,hv'⟩|⟨hqa,hm0,hc0,hv'⟩
  ·rw[hqa];exact hv'
  ·rw[hqa];exact⟨hm0,hc0,hv'⟩
 show MRel w0 _ (upd (upd fm i ⟨.lst [],e,false⟩) (nid id 0) _) w'
 cases hqa:q.a with
 | none=>
  rw[hqa]at hcq
  have hcq:rowL ks2 g2 0 m=[]:=hcq
  refine hm2.view (q:=q) hnone (nid_lt hlt (by omega)) (.inr (.inl hqa)) (fun b hb=>by rw[hqa]at hb;simp at hb) ?_
  intro R3 _ hR
  refine⟨q,hR,?_⟩
  rw[hqa];exact hcq
 | some b=>
  rw[hqa]at hcq
  obtain ⟨cs,fz,k1,k2,k3⟩:=hcq
  obtain ⟨hfz9,hX,hroom⟩:=k3 rfl
  have hfree:∀j q blk',R j q->q.a=some b->upd fm i ⟨.lst [],e,false⟩ j=some blk'->weak blk':=by
   rcases hX with hX|hX
   ·exact forget_free hm hbf rfl hp hX e
   ·intro j q blk' h5 h6
    have:=hm.lt h5 h6
    have hX:w.heap.size<=b:=hX
    omega
  have hnf:¬Frz R b:=by
   intro hfz
   rcases hX with hX|hX
   ·have:=hm.frz_own hfz hp hX hbf;simp at this
   ·have:=hm.frz_lt hfz
    have hX:w.heap.size<=b:=hX
    omega
  have hge:w0.X b∨w0.w.heap.size<=b:=by
   rcases hX with hX|hX
   ·exact hown b hX
   ·exact .inr (Nat.le_trans hm.below.size hX)
  refine hm2.rename hnone (nid_lt hlt (by omega)) hfree hnf hqa k1 hfz9 hge nofun nofun nofun ?_ ?_
  ·have k2:LP R' (rowL ks2 g2 0 m) (cs.toList.drop q.d):=k2
   have:=(LR_plain (r:=V0 R') (pl:=pl0) (fun _ _ hv=>V0_plain hv) (rowL_pl ks2 g2 m 0)).1 k2
   exact LP_plain (rowL_pl _ _ _ _) this
  ·exact fun _ hc=>hroom hloj hc
end
end Go.W

namespace Go.W
section
variable {P:Program} [Laid P]
theorem sum_per {g:FuncId}{fn:Func}{c:Code}(hf:P.funcs[g]?=some fn) (hname:(fn.name=="runtime.NumGoroutine")=false) (hb:fn.body=some c){fuel:Nat}{F:List Value->Option (Bool×Value)}
  (h:∀args v,F args=some (true,v)->args.all pl2=true->∃C,CfgOk P C c∧C.n=fn.ntmps∧args.length<=fn.ntmps∧fnS C fuel fn c args=some v∧pl2 v=true):Sum P g F:=by
 intro args v hF hpl w hg
 obtain ⟨C,hC,hn,hl,hev,hv⟩:=h args v hF hpl
 exact sum_at hC hf hname hb hn hl hev hv hpl w hg
end
end Go.W

namespace Go.W
open Go.RowKit (Below)
def memNat:Nat->List Nat->Bool
 | _,[]=>false
 | x,y::l=>Nat.beq x y||memNat x l
theorem memNat_no {x:Nat}:∀{l:List Nat},memNat x l=false->x ∉ l
 | [],_=>nofun
 | y::l,h=>by
  simp only[memNat,Bool.or_eq_false_iff]at h
  intro hx
  rcases List.mem_cons.1 hx with rfl|hx
  ·rw[Nat.beq_refl]at h;simp at h
  ·exact memNat_no h.2 hx
section
variable {R:Type}
def expC (mem:Nat->Option Blk) (id q:Nat) (used:List Nat) (l:List (Nat×Blk)) (v:Value) (k:Value->Nat->List Nat->List (Nat×Blk)->R) (f:R):R:=
 match v with
 | .slice (some ⟨j,off,none⟩) m c=>bif memNat j used||!(Nat.blt q 8) then f else oK (mem j) (fun blk=>bif blk.own&&Nat.blt j 1000000&&loose j then (match blk.cells with
   | .row ks n g=>bif Nat.beq off 0&&Nat.ble m c then k (.slice (some ⟨nid id q,0,none⟩) m c) (q+1) (j::used) ((nid id q,⟨.row ks n g,blk.elem,true⟩)::l) else f
   | _=>f) else f) f
 | v=>bif pl0 v then k v q used l else f
def expA (mem:Nat->Option Blk) (id:Nat):List Value->Nat->List Nat->List (Nat×Blk)->(List Value->Nat->List Nat->List (Nat×Blk)->R)->R->R
 | [],q,used,l,k,_=>k [] q used l
 | v::r,q,used,l,k,f=>expC mem id q used l v (fun u q used l=>expA mem id r q used l (fun us q used l=>k (u::us) q used l) f) f
def expI (mem:Nat->Option Blk) (id q:Nat) (used:List Nat) (l:List (Nat×Blk)) (v:Value) (k:Value->Nat->List Nat->List (Nat×Blk)->R) (f:R):R:=
 match v with
 | .agg cs=>expA mem id cs.toList q used l (fun us q used l=>bif us.all noIf then k (.agg us.toArray) q used l else f) f
 | v=>expC mem id q used l v (fun u q used l=>bif noIf u then k u q used l else f) f
def exp1 (mem:Nat->Option Blk) (id q:Nat) (used:List Nat) (l:List (Nat×Blk)) (v:Value) (k:Value->Nat->List Nat->List (Nat×Blk)->R) (f:R):R:=
 match v with
 | .agg cs=>expA mem id cs.toList q used l (fun us q used l=>k (.agg us.toArray) q used l) f
 | .iface t x=>expI mem id q used l x (fun u q used l=>k (.iface t u) q used l) f
 | v=>expC mem id q used l v k f
def expB (mem:Nat->Option Blk) (id:Nat):List Value->Nat->List Nat->List (Nat×Blk)->(List Value->Nat->List Nat->List (Nat×Blk)->R)->R->R
 | [],q,used,l,k,_=>k [] q used l
 | v::r,q,used,l,k,f=>exp1 mem id q used l v (fun u q used l=>expB mem id r q used l (fun us q used l=>k (u::us) q used l) f) f
def expX (mem:Nat->Option Blk) (id:Nat) (v:Value) (k:Value->List (Nat×Blk)->R) (f:R):R:=
 match v with
 | .tuple vs=>expB mem id vs.toList 0 [] [] (fun us _ _ l=>k (.tuple us.toArray) l) f
 | v=>exp1 mem id 0 [] [] v (fun u _ _ l=>k u l) f
variable {R':Type}(h:R->R')
theorem expC_nat (mem:Nat->Option Blk) (id q:Nat) (used:List Nat) (l:List (Nat×Blk)) (v:Value) (k:Value->Nat->List Nat->List (Nat×Blk)->R) (f:R):
  h (expC mem id q used l v k f)=expC mem id q used l v (fun a b c d=>h (k a b c d)) (h f):=by
 unfold expC
 split
 ·rw[cond_nat h]
  congr 1
  rw[oK_nat h]
  congr 1;funext blk
  rw[cond_nat h]
  congr 1
  split
  ·rw[cond_nat h]
  ·rfl
 ·rw[cond_nat h]
theorem expA_nat (mem:Nat->Option Blk) (id:Nat):∀(vs:List Value) (q:Nat) (used:List Nat) (l:List (Nat×Blk)) (k:List Value->Nat->List Nat->List (Nat×Blk)->R) (f:R),
  h (expA mem id vs q used l k f)=expA mem id vs q used l (fun a b c d=>h (k a b c d)) (h f)
 | [],_,_,_,_,_=>rfl
 | v::r,q,used,l,k,f=>by simp only[expA,expC_nat h,expA_nat mem id r]
theorem expI_nat (mem:Nat->Option Blk) (id q:Nat) (used:List Nat) (l:List (Nat×Blk)) (v:Value) (k:Value->Nat->List Nat->List (Nat×Blk)->R) (f:R):
  h (expI mem id q used l v k f)=expI mem id q used l v (fun a b c d=>h (k a b c d)) (h f):=by
 unfold expI
 split
 ·rw[expA_nat h];simp only[cond_nat h]
 ·rw[expC_nat h];simp only[cond_nat h]
theorem exp1_nat (mem:Nat->Option Blk) (id q:Nat) (used:List Nat) (l:List (Nat×Blk)) (v:Value) (k:Value->Nat->List Nat->List (Nat×Blk)->R) (f:R):
  h (exp1 mem id q used l v k f)=exp1 mem id q used l v (fun a b c d=>h (k a b c d)) (h f):=by
 unfold exp1
 split
 ·rw[expA_nat h]
 ·rw[expI_nat h]
 ·rw[expC_nat h]
theorem expB_nat (mem:Nat->Option Blk) (id:Nat):∀(vs:List Value) (q:Nat) (used:List Nat) (l:List (Nat×Blk)) (k:List Value->Nat->List Nat->List (Nat×Blk)->R) (f:R),
  h (expB mem id vs q used l k f)=expB mem id vs q used l (fun a b c d=>h (k a b c d)) (h f)
 | [],_,_,_,_,_=>rfl
 | v::r,q,used,l,k,f=>by simp only[expB,exp1_nat h,expB_nat mem id r]
theorem expX_nat (mem:Nat->Option Blk) (id:Nat) (v:Value) (k:Value->List (Nat×Blk)->R) (f:R):h (expX mem id v k f)=expX mem id v (fun a b=>h (k a b)) (h f):=by
 unfold expX
 split
 ·rw[expB_nat h]
 ·rw[exp1_nat h]
end
abbrev XS (α:Type):=α×Nat×List Nat×List (Nat×Blk)
def xsC (mem:Nat->Option Blk) (id q:Nat) (used:List Nat) (l:List (Nat×Blk)) (v:Value):Option (XS Value):=expC mem id q used l v (fun a b c d=>some (a,b,c,d)) none
def xsA (mem:Nat->Option Blk) (id:Nat) (vs:List Value) (q:Nat) (used:List Nat) (l:List (Nat×Blk)):Option (XS (List Value)):=expA mem id vs q used l (fun a b c d=>some (a,b,c,d)) none
def xsI (mem:Nat->Option Blk) (id q:Nat) (used:List Nat) (l:List (Nat×Blk)) (v:Value):Option (XS Value):=expI mem id q used l v (fun a b c d=>some (a,b,c,d)) none
def xs1 (mem:Nat->Option Blk) (id q:Nat) (used:List Nat) (l:List (Nat×Blk)) (v:Value):Option (XS Value):=exp1 mem id q used l v (fun a b c d=>some (a,b,c,d)) none
def xsB (mem:Nat->Option Blk) (id:Nat) (vs:List Value) (q:Nat) (used:List Nat) (l:List (Nat×Blk)):Option (XS (List Value)):=expB mem id vs q used l (fun a b c d=>some (a,b,c,d)) none
theorem expC_some {β:Type}{mem:Nat->Option Blk}{id q:Nat}{used:List Nat}{l:List (Nat×Blk)}{v:Value}{k:Value->Nat->List Nat->List (Nat×Blk)->Option β}{r:β}(he:expC mem id q used l v k none=some r):
  ∃u q2 s2 l2,xsC mem id q used l v=some (u,q2,s2,l2)∧k u q2 s2 l2=some r:=by
 have:expC mem id q used l v k none=oK (xsC mem id q used l v) (fun x=>k x.1 x.2.1 x.2.2.1 x.2.2.2) none:=(expC_nat (fun o:Option (XS Value)=>oK o (fun x=>k x.1 x.2.1 x.2.2.1 x.2.2.2) none) mem id q used l v (fun a b c d=>some (a,b,c,d)) none).symm
 rw[this]at he
 obtain ⟨x,h1,h2⟩:=oK_some.1 he
 exact⟨x.1,x.2.1,x.2.2.1,x.2.2.2,h1,h2⟩
theorem expA_some {β:Type}{mem:Nat->Option Blk}{id q:Nat}{used:List Nat}{l:List (Nat×Blk)}{v:List Value}{k:List Value->Nat->List Nat->List (Nat×Blk)->Option β}{r:β}(he:expA mem id v q used l k none=some r):
  ∃u q2 s2 l2,xsA mem id v q used l=some (u,q2,s2,l2)∧k u q2 s2 l2=some r:=by
 have:expA mem id v q used l k none=oK (xsA mem id v q used l) (fun x=>k x.1 x.2.1 x.2.2.1 x.2.2.2) none:=(expA_nat (fun o:Option (XS (List Value))=>oK o (fun x=>k x.1 x.2.1 x.2.2.1 x.2.2.2) none) mem id v q used l (fun a b c d=>some (a,b,c,d)) none).symm
 rw[this]at he
 obtain ⟨x,h1,h2⟩:=oK_some.1 he
 exact⟨x.1,x.2.1,x.2.2.1,x.2.2.2,h1,h2⟩
theorem expI_some {β:Type}{mem:Nat->Option Blk}{id q:Nat}{used:List Nat}{l:List (Nat×Blk)}{v:Value}{k:Value->Nat->List Nat->List (Nat×Blk)->Option β}{r:β}(he:expI mem id q used l v k none=some r):
  ∃u q2 s2 l2,xsI mem id q used l v=some (u,q2,s2,l2)∧k u q2 s2 l2=some r:=by
 have:expI mem id q used l v k none=oK (xsI mem id q used l v) (fun x=>k x.1 x.2.1 x.2.2.1 x.2.2.2) none:=(expI_nat (fun o:Option (XS Value)=>oK o (fun x=>k x.1 x.2.1 x.2.2.1 x.2.2.2) none) mem id q used l v (fun a b c d=>some (a,b,c,d)) none).symm
 rw[this]at he
 obtain ⟨x,h1,h2⟩:=oK_some.1 he
 exact⟨x.1,x.2.1,x.2.2.1,x.2.2.2,h1,h2⟩
theorem exp1_some {β:Type}{mem:Nat->Option Blk}{id q:Nat}{used:List Nat}{l:List (Nat×Blk)}{v:Value}{k:Value->Nat->List Nat->List (Nat×Blk)->Option β}{r:β}(he:exp1 mem id q used l v k none=some r):
  ∃u q2 s2 l2,xs1 mem id q used l v=some (u,q2,s2,l2)∧k u q2 s2 l2=some r:=by
 have:exp1 mem id q used l v k none=oK (xs1 mem id q used l v) (fun x=>k x.1 x.2.1 x.2.2.1 x.2.2.2) none:=(exp1_nat (fun o:Option (XS Value)=>oK o (fun x=>k x.1 x.2.1 x.2.2.1 x.2.2.2) none) mem id q used l v (fun a b c d=>some (a,b,c,d)) none).symm
 rw[this]at he
 obtain ⟨x,h1,h2⟩:=oK_some.1 he
 exact⟨x.1,x.2.1,x.2.2.1,x.2.2.2,h1,h2⟩
theorem expB_some {β:Type}{mem:Nat->Option Blk}{id q:Nat}{used:List Nat}{l:List (Nat×Blk)}{v:List Value}{k:List Value->Nat->List Nat->List (Nat×Blk)->Option β}{r:β}(he:expB mem id v q used l k none=some r):
  ∃u q2 s2 l2,xsB mem id v q used l=some (u,q2,s2,l2)∧k u q2 s2 l2=some r:=by
 have:expB mem id v q used l k none=oK (xsB mem id v q used l) (fun x=>k x.1 x.2.1 x.2.2.1 x.2.2.2) none:=(expB_nat (fun o:Option (XS (List Value))=>oK o (fun x=>k x.1 x.2.1 x.2.2.1 x.2.2.2) none) mem id v q used l (fun a b c d=>some (a,b,c,d)) none).symm
 rw[this]at he
 obtain ⟨x,h1,h2⟩:=oK_some.1 he
 exact⟨x.1,x.2.1,x.2.2.1,x.2.2.2,h1,h2⟩
theorem xsA_cons {mem:Nat->Option Blk}{id:Nat}{v:Value}{r:List Value}{q:Nat}{used:List Nat}{l:List (Nat×Blk)}:xsA mem id (v::r) q used l=expC mem id q used l v (fun u q used l=>expA mem id r q used l (fun us q used l=>some (u::us,q,used,l)) none) none:=rfl
theorem xsB_cons {mem:Nat->Option Blk}{id:Nat}{v:Value}{r:List Value}{q:Nat}{used:List Nat}{l:List (Nat×Blk)}:xsB mem id (v::r) q used l=exp1 mem id q used l v (fun u q used l=>expB mem id r q used l (fun us q used l=>some (u::us,q,used,l)) none) none:=rfl
structure XInv {GL:Glob}(w0:Wb GL) (R R':Nat->Pl->Prop) (mC fm:Nat->Option Blk) (w w':World) (id q:Nat) (used:List Nat) (l:List (Nat×Blk)) (R1:Nat->Pl->Prop):Prop where
 m:MRel w0 R1 (memF fm l) w'
 sub:∀i p,R i p->R1 i p
 new:∀i p b,R1 i p->p.a=some b->w.heap.size<=b->∃j pj,j∈used∧R' j pj∧pj.a=some b
 own:∀j,j∈used->∃blk,mC j=some blk∧blk.own=true
 num:∀p∈l,∃x,x<q∧p.1=nid id x
theorem memF_no {fm:Nat->Option Blk}{i:Nat}:∀{l:List (Nat×Blk)},(∀p∈l,p.1≠i)->memF fm l i=fm i
 | [],_=>rfl
 | p::l,h=>by
  show upd (memF fm l) p.1 p.2 i=_
  rw[upd_ne _ _ (h p (List.mem_cons_self ..)),memF_no fun p hp=>h p (List.mem_cons_of_mem _ hp)]
section
variable {GL:Glob}{w0 wc:Wb GL}{R R' R1:Nat->Pl->Prop}{fm mC:Nat->Option Blk}{w w':World}
theorem xsC_sub {mem:Nat->Option Blk}{id q:Nat}{used:List Nat}{l:List (Nat×Blk)}{v u:Value}{q2:Nat}{s2:List Nat}{l2:List (Nat×Blk)}(he:xsC mem id q used l v=some (u,q2,s2,l2)):∀p∈l,p∈l2:=by
 unfold xsC expC at he
 split at he
 ·obtain ⟨_,he⟩:=cond_none.1 he
  obtain ⟨blk,_,he⟩:=oK_some.1 he
  obtain ⟨_,he⟩:=cond_some.1 he
  split at he
  ·obtain ⟨_,he⟩:=cond_some.1 he
   cases he
   exact fun p hp=>List.mem_cons_of_mem _ hp
  ·simp at he
 ·obtain ⟨_,he⟩:=cond_some.1 he
  cases he;exact fun p hp=>hp
theorem xsA_sub {mem:Nat->Option Blk}{id:Nat}:∀{v:List Value}{q:Nat}{used:List Nat}{l:List (Nat×Blk)}{u:List Value}{q2:Nat}{s2:List Nat}{l2:List (Nat×Blk)},xsA mem id v q used l=some (u,q2,s2,l2)->∀p∈l,p∈l2
 | [],_,_,_,_,_,_,_,he=>by cases he;exact fun p hp=>hp
 | v::r,q,used,l,u,q2,s2,l2,he=>by
  rw[xsA_cons]at he
  obtain ⟨u1,q3,s3,l3,h1,he⟩:=expC_some he
  obtain ⟨u2,q4,s4,l4,h2,he⟩:=expA_some he
  cases he
  exact fun p hp=>xsA_sub h2 p (xsC_sub h1 p hp)
theorem xsI_sub {mem:Nat->Option Blk}{id q:Nat}{used:List Nat}{l:List (Nat×Blk)}{v u:Value}{q2:Nat}{s2:List Nat}{l2:List (Nat×Blk)}(he:xsI mem id q used l v=some (u,q2,s2,l2)):∀p∈l,p∈l2:=by
 unfold xsI expI at he
 split at he
 ·obtain ⟨u1,q3,s3,l3,h1,he⟩:=expA_some he
  obtain ⟨_,he⟩:=cond_some.1 he
  cases he;exact xsA_sub h1
 ·obtain ⟨u1,q3,s3,l3,h1,he⟩:=expC_some he
  obtain ⟨_,he⟩:=cond_some.1 he
  cases he;exact xsC_sub h1
theorem xs1_sub {mem:Nat->Option Blk}{id q:Nat}{used:List Nat}{l:List (Nat×Blk)}{v u:Value}{q2:Nat}{s2:List Nat}{l2:List (Nat×Blk)}(he:xs1 mem id q used l v=some (u,q2,s2,l2)):∀p∈l,p∈l2:=by
 unfold xs1 exp1 at he
 split at he
 ·obtain ⟨u1,q3,s3,l3,h1,he⟩:=expA_some he
  cases he;exact xsA_sub h1
 ·obtain ⟨u1,q3,s3,l3,h1,he⟩:=expI_some he
  cases he;exact xsI_sub h1
 ·exact xsC_sub he
theorem xsB_sub {mem:Nat->Option Blk}{id:Nat}:∀{v:List Value}{q:Nat}{used:List Nat}{l:List (Nat×Blk)}{u:List Value}{q2:Nat}{s2:List Nat}{l2:List (Nat×Blk)},xsB mem id v q used l=some (u,q2,s2,l2)->∀p∈l,p∈l2
 | [],_,_,_,_,_,_,_,he=>by cases he;exact fun p hp=>hp
 | v::r,q,used,l,u,q2,s2,l2,he=>by
  rw[xsB_cons]at he
  obtain ⟨u1,q3,s3,l3,h1,he⟩:=exp1_some he
  obtain ⟨u2,q4,s4,l4,h2,he⟩:=expB_some he
  cases he
  exact fun p hp=>xsB_sub h2 p (xs1_sub h1 p hp)
theorem xsC_ok (hc:MRel wc R' mC w') (hwc:wc.w=w) (hX:∀j p b blk,R' j p->p.a=some b->mC j=some blk->blk.own=true->j<1000000->¬wc.X b) (hsz:w0.w.heap.size<=w.heap.size){id:Nat}(hlt:id<60000){q:Nat}{used:List Nat}{l:List (Nat×Blk)}(h:XInv w0 R R' mC fm w w' id q used l R1)
  {v v' u:Value}{q2:Nat}{s2:List Nat}{l2:List (Nat×Blk)}(hv:V0 R' v v') (he:xsC mC id q used l v=some (u,q2,s2,l2)) (hfree:∀p∈l2,fm p.1=none):
  ∃R2,XInv w0 R R' mC fm w w' id q2 s2 l2 R2∧(∀i p,R1 i p->R2 i p)∧V0 R2 u v':=by
 unfold xsC expC at he
 split at he
 ·rename_i j off m cc
  have he1:=cond_none.1 he
  clear he
  obtain ⟨hc1,he⟩:=he1
  simp only[Bool.or_eq_false_iff,Bool.not_eq_false',Nat.blt_eq]at hc1
  obtain ⟨hmn,hq8⟩:=hc1
  have hjn:=memNat_no hmn
  have he1:=oK_some.1 he
  clear he
  obtain ⟨blk,hb,he⟩:=he1
  obtain ⟨cells,e,own⟩:=blk
  dsimp only at he
  have he1:=cond_some.1 he
  clear he
  obtain ⟨hc2,he⟩:=he1
  simp only[Bool.and_eq_true,Nat.blt_eq]at hc2
  obtain ⟨⟨hown,hjm⟩,hlo⟩:=hc2
  subst hown
  split at he
  ·rename_i ks n g
   have he1:=cond_some.1 he
   clear he
   obtain ⟨hc3,he⟩:=he1
   simp only[Bool.and_eq_true]at hc3
   obtain ⟨hoff,hmc⟩:=hc3
   have hoff:=nbeq.1 hoff
   subst hoff
   simp only[Option.some.injEq,Prod.mk.injEq]at he
   obtain ⟨rfl,rfl,rfl,rfl⟩:=he
   have hid:fm (nid id q)=none:=hfree _ (List.mem_cons_self ..)
   have hnone:memF fm l (nid id q)=none:=by
    rw[memF_no];exact hid
    intro p hp e1
    obtain ⟨x,hx,e2⟩:=h.num p hp
    rw[e2]at e1;unfold nid at e1;omega
   obtain ⟨p,hp,hsl⟩:∃p,R' j p∧SlOk ⟨j,0,none⟩ m cc p v':=hv
   obtain ⟨p',hp',hcont⟩:=memOk_row hc hb
   have:=hc.func _ _ _ hp hp';subst this
   obtain ⟨_,hcc,hcase⟩:=SlOk_loose hlo hsl
   have hnl:=nid_loose (k:=q) hlt (by omega)
   have hnt:=nid_lt (k:=q) hlt (by omega)
   refine⟨fun i2 q2=>R1 i2 q2∨(i2=nid id q∧q2=p),⟨?_,fun i p hp=>.inl (h.sub i p hp),?_,?_,?_⟩,fun _ _=>.inl,?_⟩
   ·show MRel w0 _ (upd (memF fm l) (nid id q) _) w'
    cases hpa:p.a with
    | none=>
     rw[hpa]at hcont
     have hcont:rowL ks g 0 n=[]:=hcont
     refine h.m.view (q:=p) hnone hnt (.inr (.inl hpa)) (fun b hb=>by rw[hpa]at hb;simp at hb) ?_
     intro R3 _ hR
     refine⟨p,hR,?_⟩
     rw[hpa];exact hcont
    | some b=>
     rw[hpa]at hcont
     obtain ⟨cs,fz,k1,k2,k3⟩:=hcont
     obtain ⟨hfz,hge,hroom⟩:=k3 rfl
     have hge:w.heap.size<=b:=by
      rcases hge with hx|hx
      ·exact absurd hx (hX _ _ _ _ hp hpa hb rfl hjm)
      ·rw[hwc]at hx;exact hx
     have hno:∀i q,R1 i q->q.a=some b->False:=by
      intro i q h5 h6
      obtain ⟨j2,pj,m1,m2,m3⟩:=h.new i q b h5 h6 hge
      obtain ⟨blk2,m4,m5⟩:=h.own j2 m1
      have hne:j≠j2:=fun e1=>hjn (e1▸m1)
      have:=(hc.inj _ _ _ _ _ hp m2 hpa m3 hne _ hb rfl blk2 m4).1
      rw[m5]at this;simp at this
     refine h.m.rename hnone hnt (fun j q blk' h5 h6 _=>(hno j q h5 h6).elim) (fun hf=>hno _ _ hf rfl) hpa k1 hfz (.inr (Nat.le_trans hsz hge)) nofun nofun nofun ?_ fun _ hc0=>hroom hlo hc0
     have k2:LP R' (rowL ks g 0 n) (cs.toList.drop p.d):=k2
     have:=(LR_plain (r:=V0 R') (pl:=pl0) (fun _ _ hv=>V0_plain hv) (rowL_pl ks g n 0)).1 k2
     exact LP_plain (rowL_pl _ _ _ _) this
   ·rintro i p2 b (h5|⟨rfl,rfl⟩) h6 h7
    ·obtain ⟨j2,pj,m1,m2⟩:=h.new i p2 b h5 h6 h7
     exact⟨j2,pj,List.mem_cons_of_mem _ m1,m2⟩
    ·exact⟨j,p2,List.mem_cons_self ..,hp,h6⟩
   ·intro j2 hj2
    rcases List.mem_cons.1 hj2 with rfl|hj2
    ·exact⟨_,hb,rfl⟩
    ·exact h.own j2 hj2
   ·intro p2 hp2
    rcases List.mem_cons.1 hp2 with rfl|hp2
    ·exact⟨q,by omega,rfl⟩
    ·obtain ⟨x,h5,h6⟩:=h.num p2 hp2
     exact⟨x,by omega,h6⟩
   ·refine⟨p,.inr ⟨rfl,rfl⟩,?_⟩
    unfold SlOk
    rw[if_pos hnl]
    refine⟨rfl,rfl,hcc,?_⟩
    rcases hcase with⟨b,hpa,hv'⟩|⟨hpa,hm0,hc0,hv'⟩
    ·rw[hpa];exact hv'
    ·rw[hpa];exact⟨hm0,hc0,hv'⟩
  ·simp at he
 ·obtain ⟨hpl,he⟩:=cond_some.1 he
  cases he
  have:=(V0_plain hpl).1 hv
  subst this
  exact⟨R1,h,fun _ _ h=>h,(V0_plain hpl).2 rfl⟩
theorem xsA_ok (hc:MRel wc R' mC w') (hwc:wc.w=w) (hX:∀j p b blk,R' j p->p.a=some b->mC j=some blk->blk.own=true->j<1000000->¬wc.X b) (hsz:w0.w.heap.size<=w.heap.size){id:Nat}(hlt:id<60000):∀{vs vs' us:List Value}{q:Nat}{used:List Nat}{l:List (Nat×Blk)}{R1:Nat->Pl->Prop}(_:XInv w0 R R' mC fm w w' id q used l R1)
  {q2:Nat}{s2:List Nat}{l2:List (Nat×Blk)}(_:LR (V0 R') vs vs') (_:xsA mC id vs q used l=some (us,q2,s2,l2)) (_:∀p∈l2,fm p.1=none),
  ∃R2,XInv w0 R R' mC fm w w' id q2 s2 l2 R2∧(∀i p,R1 i p->R2 i p)∧LR (V0 R2) us vs'
 | [],[],_,_,_,_,R1,h,_,_,_,_,he,_=>by cases he;exact⟨R1,h,fun _ _ h=>h,trivial⟩
 | v::vs,v'::vs',us,q,used,l,R1,h,q2,s2,l2,hl,he,hf=>by
  rw[xsA_cons]at he
  obtain ⟨u1,q3,s3,l3,h1,he⟩:=expC_some he
  obtain ⟨u2,q4,s4,l4,h2,he⟩:=expA_some he
  cases he
  obtain ⟨R2,k1,k2,k3⟩:=xsC_ok hc hwc hX hsz hlt h hl.1 h1 fun p hp=>hf p (xsA_sub h2 p hp)
  obtain ⟨R3,k4,k5,k6⟩:=xsA_ok hc hwc hX hsz hlt k1 hl.2 h2 hf
  exact⟨R3,k4,fun i p hp=>k5 i p (k2 i p hp),V0_mono k5 k3,k6⟩
 | [],_::_,_,_,_,_,_,_,_,_,_,hl,_,_=>hl.elim
 | _::_,[],_,_,_,_,_,_,_,_,_,hl,_,_=>hl.elim
theorem xsI_ok (hc:MRel wc R' mC w') (hwc:wc.w=w) (hX:∀j p b blk,R' j p->p.a=some b->mC j=some blk->blk.own=true->j<1000000->¬wc.X b) (hsz:w0.w.heap.size<=w.heap.size){id:Nat}(hlt:id<60000){q:Nat}{used:List Nat}{l:List (Nat×Blk)}(h:XInv w0 R R' mC fm w w' id q used l R1)
  {v v' u:Value}{q2:Nat}{s2:List Nat}{l2:List (Nat×Blk)}(hv:VI R' v v') (he:xsI mC id q used l v=some (u,q2,s2,l2)) (hfree:∀p∈l2,fm p.1=none):
  ∃R2,XInv w0 R R' mC fm w w' id q2 s2 l2 R2∧(∀i p,R1 i p->R2 i p)∧VI R2 u v':=by
 unfold xsI expI at he
 split at he
 ·rename_i cs
  obtain ⟨u1,q3,s3,l3,h1,he⟩:=expA_some he
  obtain ⟨hni,he⟩:=cond_some.1 he
  cases he
  obtain ⟨cs',rfl,hl⟩:∃cs',v'=.agg cs'∧LR (V00 R') cs.toList cs'.toList:=hv
  obtain ⟨R2,k1,k2,k3⟩:=xsA_ok hc hwc hX hsz hlt h (LR_mono (fun _ _=>V00_V0) hl) h1 hfree
  exact⟨R2,k1,k2,cs',rfl,by rw[List.toList_toArray];exact LR_V00 k3 hni⟩
 ·rename_i hna
  obtain ⟨u1,q3,s3,l3,h1,he⟩:=expC_some he
  obtain ⟨hni,he⟩:=cond_some.1 he
  cases he
  have hv0:V0 R' v v':=by
   unfold VI at hv
   split at hv
   ·exact absurd rfl (hna _)
   ·exact V00_V0 hv
  obtain ⟨R2,k1,k2,k3⟩:=xsC_ok hc hwc hX hsz hlt h hv0 h1 hfree
  refine⟨R2,k1,k2,?_⟩
  unfold VI;split
  ·exact k3.elim
  ·exact V00_of_V0 k3 hni
theorem xs1_ok (hc:MRel wc R' mC w') (hwc:wc.w=w) (hX:∀j p b blk,R' j p->p.a=some b->mC j=some blk->blk.own=true->j<1000000->¬wc.X b) (hsz:w0.w.heap.size<=w.heap.size){id:Nat}(hlt:id<60000){q:Nat}{used:List Nat}{l:List (Nat×Blk)}(h:XInv w0 R R' mC fm w w' id q used l R1)
  {v v' u:Value}{q2:Nat}{s2:List Nat}{l2:List (Nat×Blk)}(hv:V1 R' v v') (he:xs1 mC id q used l v=some (u,q2,s2,l2)) (hfree:∀p∈l2,fm p.1=none):
  ∃R2,XInv w0 R R' mC fm w w' id q2 s2 l2 R2∧(∀i p,R1 i p->R2 i p)∧V1 R2 u v':=by
 unfold xs1 exp1 at he
 split at he
 ·rename_i cs
  obtain ⟨u1,q3,s3,l3,h1,he⟩:=expA_some he
  cases he
  obtain ⟨cs',rfl,hl⟩:∃cs',v'=.agg cs'∧LR (V0 R') cs.toList cs'.toList:=hv
  obtain ⟨R2,k1,k2,k3⟩:=xsA_ok hc hwc hX hsz hlt h hl h1 hfree
  exact⟨R2,k1,k2,cs',rfl,by rw[List.toList_toArray];exact k3⟩
 ·rename_i t x
  obtain ⟨u1,q3,s3,l3,h1,he⟩:=expI_some he
  cases he
  obtain ⟨x',rfl,hx⟩:∃x',v'=.iface t x'∧VI R' x x':=hv
  obtain ⟨R2,k1,k2,k3⟩:=xsI_ok hc hwc hX hsz hlt h hx h1 hfree
  exact⟨R2,k1,k2,x',rfl,k3⟩
 ·rename_i hna _
  have hv0:V0 R' v v':=by
   unfold V1 at hv
   split at hv
   ·exact absurd rfl (hna _)
   ·exact hv
  obtain ⟨R2,k1,k2,k3⟩:=xsC_ok hc hwc hX hsz hlt h hv0 he hfree
  refine⟨R2,k1,k2,?_⟩
  unfold V1;split
  ·exact k3.elim
  ·exact k3
theorem xsB_ok (hc:MRel wc R' mC w') (hwc:wc.w=w) (hX:∀j p b blk,R' j p->p.a=some b->mC j=some blk->blk.own=true->j<1000000->¬wc.X b) (hsz:w0.w.heap.size<=w.heap.size){id:Nat}(hlt:id<60000):∀{vs vs' us:List Value}{q:Nat}{used:List Nat}{l:List (Nat×Blk)}{R1:Nat->Pl->Prop}(_:XInv w0 R R' mC fm w w' id q used l R1)
  {q2:Nat}{s2:List Nat}{l2:List (Nat×Blk)}(_:LR (V1 R') vs vs') (_:xsB mC id vs q used l=some (us,q2,s2,l2)) (_:∀p∈l2,fm p.1=none),
  ∃R2,XInv w0 R R' mC fm w w' id q2 s2 l2 R2∧(∀i p,R1 i p->R2 i p)∧LR (V1 R2) us vs'
 | [],[],_,_,_,_,R1,h,_,_,_,_,he,_=>by cases he;exact⟨R1,h,fun _ _ h=>h,trivial⟩
 | v::vs,v'::vs',us,q,used,l,R1,h,q2,s2,l2,hl,he,hf=>by
  rw[xsB_cons]at he
  obtain ⟨u1,q3,s3,l3,h1,he⟩:=exp1_some he
  obtain ⟨u2,q4,s4,l4,h2,he⟩:=expB_some he
  cases he
  obtain ⟨R2,k1,k2,k3⟩:=xs1_ok hc hwc hX hsz hlt h hl.1 h1 fun p hp=>hf p (xsB_sub h2 p hp)
  obtain ⟨R3,k4,k5,k6⟩:=xsB_ok hc hwc hX hsz hlt k1 hl.2 h2 hf
  exact⟨R3,k4,fun i p hp=>k5 i p (k2 i p hp),V1_mono k5 k3,k6⟩
 | [],_::_,_,_,_,_,_,_,_,_,_,hl,_,_=>hl.elim
 | _::_,[],_,_,_,_,_,_,_,_,_,hl,_,_=>hl.elim
theorem expX_ok2 (h:MRel w0 R fm w') (hlt0:∀i p b,R i p->p.a=some b->b<w.heap.size) (hsz:w0.w.heap.size<=w.heap.size) (hc:MRel wc R' mC w') (hwc:wc.w=w) (hX:∀j p b blk,R' j p->p.a=some b->mC j=some blk->blk.own=true->j<1000000->¬wc.X b){id:Nat}(hlt:id<60000){v v':Value}(hv1:(∀vs,v≠.tuple vs)->V2 R' v v') (hv2:∀vs,v=.tuple vs->∃vs',v'=.tuple vs'∧LR (V2 R') vs.toList vs'.toList) (hnt:∀vs,v=.tuple vs->vs.toList.all notTup=true)
  {u:Value}{l:List (Nat×Blk)}(he:expX mC id v (fun a b=>some (a,b)) none=some (u,l)) (hfree:∀p∈l,fm p.1=none):
  ∃R2:Nat->Pl->Prop,(∀i p,R i p->R2 i p)∧V2 R2 u v'∧MRel w0 R2 (memF fm l) w':=by
 have h0:XInv w0 R R' mC fm w w' id 0 [] [] R:=⟨h,fun _ _ h=>h,fun i p b h1 h2 h3=>by have:=hlt0 i p b h1 h2;omega,nofun,nofun⟩
 unfold expX at he
 split at he
 ·rename_i vs
  obtain ⟨u1,q3,s3,l3,h1,he⟩:=expB_some he
  cases he
  obtain ⟨vs',rfl,hl⟩:=hv2 vs rfl
  have hl1:LR (V1 R') vs.toList vs'.toList:=by
   have:=hnt vs rfl
   revert hl this
   generalize vs.toList=a
   generalize vs'.toList=b
   intro hl hn
   induction a generalizing b with
   | nil=>cases b with
    | nil=>trivial
    | cons _ _=>exact hl.elim
   | cons x a ih=>cases b with
    | nil=>exact hl.elim
    | cons y b=>
     simp only[List.all_cons,Bool.and_eq_true]at hn
     exact⟨V1_of_V2 hl.1 hn.1,ih b hl.2 hn.2⟩
  obtain ⟨R2,k1,k2,k3⟩:=xsB_ok hc hwc hX hsz hlt h0 hl1 h1 hfree
  exact⟨R2,k2,⟨vs',rfl,by rw[List.toList_toArray];exact k3⟩,k1.m⟩
 ·rename_i hna
  obtain ⟨u1,q3,s3,l3,h1,he⟩:=exp1_some he
  cases he
  have hv:=hv1 hna
  have hv:V1 R' v v':=by
   unfold V2 at hv
   split at hv
   ·exact absurd rfl (hna _)
   ·exact hv
  obtain ⟨R2,k1,k2,k3⟩:=xs1_ok hc hwc hX hsz hlt h0 hv h1 hfree
  exact⟨R2,k2,V2_of_V1 k3,k1.m⟩
theorem expX_ok (h:MRel w0 R fm w) (hc:MRel wc R' mC w') (hwc:wc.w=w) (hX:∀k,¬wc.X k){id:Nat}(hlt:id<60000){v v':Value}(hv1:(∀vs,v≠.tuple vs)->V2 R' v v') (hv2:∀vs,v=.tuple vs->∃vs',v'=.tuple vs'∧LR (V2 R') vs.toList vs'.toList) (hnt:∀vs,v=.tuple vs->vs.toList.all notTup=true)
  {u:Value}{l:List (Nat×Blk)}(he:expX mC id v (fun a b=>some (a,b)) none=some (u,l)) (hfree:∀p∈l,fm p.1=none):
  ∃R2:Nat->Pl->Prop,(∀i p,R i p->R2 i p)∧V2 R2 u v'∧MRel w0 R2 (memF fm l) w':=by
 have hbel:Below w.heap.size w w':=by have:=hc.below.below hX;rw[hwc]at this;exact this
 exact expX_ok2 (h.world hbel) (fun i p b h1 h2=>h.lt h1 h2) h.below.size hc hwc (fun _ _ b _ _ _ _ _ _=>hX b) hlt hv1 hv2 hnt he hfree
end
end Go.W

namespace Go.W
open Go.RowKit (Below)
inductive AC where
 | pl (v:Value)
 | sl (ks:List CK) (n:Nat) (g:Nat->List Value)
 | fm (ks:List CK) (n:Nat) (g:Nat->Nat×(Nat->List Value))
inductive AV where
 | c (a:AC)
 | ag (l:List AC)
 | ig (t:TypeId) (l:List AC)
def agId (k q:Nat):Nat:=1500000+(1000*(k+1)+q)
def acVal (i:Nat):AC->Value
 | .pl v=>v
 | .sl _ n _=>.slice (some ⟨i,0,none⟩) n n
 | .fm _ n _=>.slice (some ⟨i,0,none⟩) n n
def agVals (k:Nat):Nat->List AC->List Value
 | _,[]=>[]
 | q,a::l=>acVal (agId k q) a::agVals k (q+1) l
def cArgsX:List AV->Nat->List Value
 | [],_=>[]
 | .c a::r,k=>acVal (argId k) a::cArgsX r (k+1)
 | .ag l::r,k=>.agg (agVals k 0 l).toArray::cArgsX r (k+1)
 | .ig t l::r,k=>.iface t (.agg (agVals k 0 l).toArray)::cArgsX r (k+1)
def agFlat (k:Nat):Nat->List AC->List (Nat×AC)
 | _,[]=>[]
 | q,a::l=>(agId k q,a)::agFlat k (q+1) l
def flatX:List AV->Nat->List (Nat×AC)
 | [],_=>[]
 | .c a::r,k=>(argId k,a)::flatX r (k+1)
 | .ag l::r,k=>agFlat k 0 l++flatX r (k+1)
 | .ig _ l::r,k=>agFlat k 0 l++flatX r (k+1)
def memL (es:Nat->TypeId) (er:Nat->Nat->TypeId):List (Nat×AC)->List (Nat×Blk)
 | []=>[]
 | (_,.pl _)::L=>memL es er L
 | (i,.sl ks n g)::L=>(i,⟨.row ks n g,es i,false⟩)::memL es er L
 | (i,.fm ks n g)::L=>(i,⟨.fam ks n (er i) g,es i,false⟩)::memL es er L
def cMemX (es:Nat->TypeId) (er:Nat->Nat->TypeId) (A:List AV):List (Nat×Blk):=memL es er (flatX A 0)
def isPl:AC->Bool
 | .pl _=>true
 | _=>false
def numOk:List Nat->Bool
 | []=>true
 | i::l=>Nat.ble 1500000 i&&Nat.blt i 1000000000&&!(memNat i l)&&numOk l
def CellW (w:World) (e:TypeId) (er:Nat->TypeId) (p:Pl):AC->Value->Prop
 | .pl v,v'=>v'=v
 | .sl ks n g,v'=>n<=p.c∧(match p.a with
   | some b=>v'=.slice (some ⟨b,p.d,none⟩) n p.c∧∃cs fz,w.heap[b]?=some (.cells cs e fz)∧(cs.toList.drop p.d).take (n*ks.length)=rowL ks g 0 n
   | none=>n=0∧p.c=0∧p.d=0∧Emp v')
 | .fm ks n g,v'=>FamW w e ks n er g p v'
def LW (w:World) (es:Nat->TypeId) (er:Nat->Nat->TypeId) (pl:Nat->Pl):List (Nat×AC)->List Value->Prop
 | [],[]=>True
 | x::L,v'::vs=>CellW w (es x.1) (er x.1) (pl x.1) x.2 v'∧LW w es er pl L vs
 | _,_=>False
def LX (w:World):List AC->List Value->Prop
 | [],[]=>True
 | a::L,v'::vs=>(∃e er p,CellW w e er p a v')∧LX w L vs
 | _,_=>False
def blkOf (es:Nat->TypeId) (er:Nat->Nat->TypeId) (i:Nat):AC->Blk
 | .pl _=>⟨.lst [],0,false⟩
 | .sl ks n g=>⟨.row ks n g,es i,false⟩
 | .fm ks n g=>⟨.fam ks n (er i) g,es i,false⟩
def RcL (w:World) (pl:Nat->Pl) (L:List (Nat×AC)) (i:Nat) (p:Pl):Prop:=
 (∃a,(i,a)∈L∧isPl a=false∧p=pl i)∨(∃b,(∃cs e fz,w.heap[b]?=some (.cells cs e fz))∧i=1000000000+b∧p=⟨some b,0,0⟩)
theorem LW_congr {w:World}{es es':Nat->TypeId}{er er':Nat->Nat->TypeId}{pl pl':Nat->Pl}:∀{L:List (Nat×AC)}{vs:List Value},(∀x∈L,es x.1=es' x.1∧er x.1=er' x.1∧pl x.1=pl' x.1)->LW w es er pl L vs->LW w es' er' pl' L vs
 | [],[],_,_=>trivial
 | x::L,v'::vs,hc,h=>by
  obtain ⟨h1,h2,h3⟩:=hc x (List.mem_cons_self ..)
  exact⟨by rw[<-h1,<-h2,<-h3];exact h.1,LW_congr (fun y hy=>hc y (List.mem_cons_of_mem _ hy)) h.2⟩
 | [],_::_,_,h=>h.elim
 | _::_,[],_,h=>h.elim
theorem numOk_not {i:Nat}{L:List (Nat×AC)}(h:memNat i (L.map (·.1))=false):∀x∈L,x.1≠i:=by
 intro x hx e
 exact memNat_no h (e▸List.mem_map_of_mem hx)
theorem LW_of {w:World}:∀{L:List (Nat×AC)}{vs:List Value},numOk (L.map (·.1))=true->LX w (L.map (·.2)) vs->∃es er pl,LW w es er pl L vs
 | [],[],_,_=>⟨fun _=>0,fun _ _=>0,fun _=>⟨none,0,0⟩,trivial⟩
 | x::L,v'::vs,hn,h=>by
  simp only[List.map_cons,numOk,Bool.and_eq_true,Bool.not_eq_true']at hn
  obtain ⟨⟨e,er1,p,h1⟩,h2⟩:=h
  obtain ⟨es,er,pl,h3⟩:=LW_of hn.2 h2
  refine⟨setAt x.1 e es,setAt x.1 er1 er,setAt x.1 p pl,?_,LW_congr (fun y hy=>?_) h3⟩
  ·simp only[setAt,if_pos];exact h1
  ·have:=numOk_not hn.1.2 y hy
   simp only[setAt,if_neg this];exact⟨trivial,trivial,trivial⟩
 | [],_::_,_,h=>h.elim
 | _::_,[],_,h=>h.elim
theorem LW_at {w:World}{es:Nat->TypeId}{er:Nat->Nat->TypeId}{pl:Nat->Pl}:∀{L:List (Nat×AC)}{vs:List Value},LW w es er pl L vs->∀x∈L,∃v',CellW w (es x.1) (er x.1) (pl x.1) x.2 v'
 | [],_,_,_,hx=>by simp at hx
 | y::L,v'::vs,h,x,hx=>by
  rcases List.mem_cons.1 hx with rfl|hx
  ·exact⟨v',h.1⟩
  ·exact LW_at h.2 x hx
 | _::_,[],h,_,_=>h.elim
theorem memL_at {es:Nat->TypeId}{er:Nat->Nat->TypeId}:∀{L:List (Nat×AC)}{i:Nat}{blk:Blk},look (memL es er L) i=some blk->∃a,(i,a)∈L∧isPl a=false∧blk=blkOf es er i a
 | [],i,blk,h=>by simp[memL,look]at h
 | (j,.pl v)::L,i,blk,h=>by
  obtain ⟨a,h1,h2⟩:=memL_at (L:=L) h
  exact⟨a,List.mem_cons_of_mem _ h1,h2⟩
 | (j,.sl ks n g)::L,i,blk,h=>by
  rw[memL,look_cons]at h
  by_cases e1:j=i
  ·subst e1
   rw[upd_same]at h;cases h
   exact⟨_,List.mem_cons_self ..,rfl,rfl⟩
  ·rw[upd_ne _ _ e1]at h
   obtain ⟨a,h1,h2⟩:=memL_at (L:=L) h
   exact⟨a,List.mem_cons_of_mem _ h1,h2⟩
 | (j,.fm ks n g)::L,i,blk,h=>by
  rw[memL,look_cons]at h
  by_cases e1:j=i
  ·subst e1
   rw[upd_same]at h;cases h
   exact⟨_,List.mem_cons_self ..,rfl,rfl⟩
  ·rw[upd_ne _ _ e1]at h
   obtain ⟨a,h1,h2⟩:=memL_at (L:=L) h
   exact⟨a,List.mem_cons_of_mem _ h1,h2⟩
theorem memL_some {es:Nat->TypeId}{er:Nat->Nat->TypeId}:∀{L:List (Nat×AC)}{i:Nat}{a:AC},(i,a)∈L->isPl a=false->(look (memL es er L) i).isSome=true
 | [],_,_,h,_=>by simp at h
 | (j,.pl v)::L,i,a,h,hp=>by
  rcases List.mem_cons.1 h with e|h
  ·cases e;simp[isPl]at hp
  ·exact memL_some (L:=L) h hp
 | (j,.sl ks n g)::L,i,a,h,hp=>by
  rw[memL,look_cons]
  by_cases e1:j=i
  ·subst e1;rw[upd_same];rfl
  ·rw[upd_ne _ _ e1]
   rcases List.mem_cons.1 h with e|h
   ·cases e;exact absurd rfl e1
   ·exact memL_some (L:=L) h hp
 | (j,.fm ks n g)::L,i,a,h,hp=>by
  rw[memL,look_cons]
  by_cases e1:j=i
  ·subst e1;rw[upd_same];rfl
  ·rw[upd_ne _ _ e1]
   rcases List.mem_cons.1 h with e|h
   ·cases e;exact absurd rfl e1
   ·exact memL_some (L:=L) h hp
theorem numOk_range:∀{l:List Nat},numOk l=true->∀i∈l,1500000<=i∧i<1000000000
 | [],_,_,h=>by simp at h
 | j::l,hn,i,h=>by
  simp only[numOk,Bool.and_eq_true,Nat.blt_eq]at hn
  obtain ⟨⟨⟨h1,h2⟩,_⟩,h3⟩:=hn
  rcases List.mem_cons.1 h with rfl|h
  ·exact⟨Nat.le_of_ble_eq_true h1,h2⟩
  ·exact numOk_range h3 i h
section
variable {GL:Glob}{w:World}
theorem callee_relX (hg:GOk GL w){es:Nat->TypeId}{er:Nat->Nat->TypeId}{pl:Nat->Pl}{L:List (Nat×AC)}{vs:List Value}(h:LW w es er pl L vs) (hn:numOk (L.map (·.1))=true):
  MRel (⟨w,fun _=>False,RcL w pl L⟩:Wb GL) (RcL w pl L) (look (memL es er L)) w:=by
 have frz:∀b cs e fz,w.heap[b]?=some (.cells cs e fz)->Frz (RcL w pl L) b:=fun b cs e fz hb=>.inr ⟨b,⟨cs,e,fz,hb⟩,rfl,rfl⟩
 have hrange:∀i a,(i,a)∈L->1500000<=i∧i<1000000000:=fun i a hi=>numOk_range hn i (List.mem_map_of_mem (f:=fun x:Nat×AC=>x.1) hi)
 have hrow:∀{e:TypeId}{er1:Nat->TypeId}{p:Pl}{a:AC}{v':Value},isPl a=false->CellW w e er1 p a v'->∀b,p.a=some b->∃cs fz,w.heap[b]?=some (.cells cs e fz):=by
  intro e er1 p a v' hp hc b hb
  cases a with
  | pl v=>simp[isPl]at hp
  | sl ks n g=>
   have hc:=hc.2
   rw[hb]at hc
   obtain ⟨_,cs,fz,m1,_⟩:=hc
   exact⟨cs,fz,m1⟩
  | fm ks n g=>
   have hc:=hc.2
   rw[hb]at hc
   obtain ⟨_,cs,fz,m1,_⟩:=hc
   exact⟨cs,fz,m1⟩
 refine⟨BelowX.refl _ _ _ hg (fun _ _ h=>h),?_,?_,?_,?_,fun _ _ h _ _=>h,?_,?_⟩
 ·rintro i p p' (⟨a,hj,_,rfl⟩|⟨b,hb,rfl,rfl⟩) (⟨a',hj',_,rfl⟩|⟨b',hb',e,rfl⟩)
  ·rfl
  ·have:=hrange _ _ hj;omega
  ·have:=hrange _ _ hj';omega
  ·have:b=b':=by omega
   rw[this]
 ·rintro i j p q b _ _ _ _ _ blk hblk hown _ _
  obtain ⟨a,_,h2,rfl⟩:=memL_at hblk
  cases a<;>simp[blkOf]at hown
 ·intro i blk hi
  obtain ⟨a,h1,h2,rfl⟩:=memL_at hi
  obtain ⟨v',h3⟩:=LW_at h _ h1
  have hR:RcL w pl L i (pl i):=.inl ⟨a,h1,h2,rfl⟩
  cases a with
  | pl v=>simp[isPl]at h2
  | sl ks n g=>
   refine⟨pl i,hR,?_⟩
   have h3:=h3.2
   cases hpa:(pl i).a with
   | none=>simp only[hpa]at h3;show rowL ks g 0 n=[];rw[h3.1];rfl
   | some b=>
    simp only[hpa]at h3
    obtain ⟨_,cs,fz,m1,m2⟩:=h3
    exact⟨cs,fz,m1,LP_plain (rowL_pl _ _ _ _) (by rw[show(blkOf es er i (.sl ks n g)).cells.list=rowL ks g 0 n from rfl,rowL_len];exact m2),fun ho=>by simp[blkOf]at ho⟩
  | fm ks n g=>
   refine⟨pl i,hR,?_⟩
   have h3:=h3.2
   cases hpa:(pl i).a with
   | none=>simp only[hpa]at h3;exact h3.1
   | some b=>
    simp only[hpa]at h3
    obtain ⟨_,cs,fz,m1,m2⟩:=h3
    refine⟨cs,fz,m1,fun j hj=>?_,fun _=>frz b cs _ fz m1,fun ho=>by simp[blkOf]at ho⟩
    obtain ⟨u,m3,m4⟩:=m2 j hj
    refine⟨u,m3,?_⟩
    rcases m4 with m4|⟨b2,d,c,cs2,fz2,q1,q2,q3,q4⟩
    ·exact .inl m4
    ·exact .inr ⟨b2,d,c,cs2,fz2,q1,q2,frz b2 cs2 _ fz2 q3,q3,q4⟩
 ·rintro i p (⟨a,hj,hp,rfl⟩|⟨b,hb,rfl,rfl⟩) hvb
  ·exact memL_some hj hp
  ·omega
 ·rintro i p b (⟨a,hj,hp,rfl⟩|⟨b',hb,rfl,rfl⟩) hpa
  ·obtain ⟨v',h3⟩:=LW_at h _ hj
   obtain ⟨cs,fz,m1⟩:=hrow hp h3 b hpa
   exact .inl ⟨cs,_,fz,m1⟩
  ·cases hpa;exact .inl hb
 ·rintro i p (⟨a,hj,hp,rfl⟩|⟨b',hb,rfl,rfl⟩) hge
  ·have:=hrange _ _ hj;omega
  ·refine⟨by rw[Nat.add_sub_cancel_left],fun j q _ _ blk hblk=>?_⟩
   obtain ⟨a,_,h2,rfl⟩:=memL_at hblk
   cases a<;>rfl
end
def flatV:List AV->List Value->List Value
 | .c _::r,v::vs=>v::flatV r vs
 | .ag _::r,v::vs=>(match v with
  | .agg cs=>cs.toList
  | _=>[])++flatV r vs
 | .ig _ _::r,v::vs=>(match v with
  | .iface _ (.agg cs)=>cs.toList
  | _=>[])++flatV r vs
 | _,_=>[]
def shX:List AV->List Value->Prop
 | [],[]=>True
 | .c a::r,_::vs=>(∀v,a=.pl v->pl2 v=true)∧shX r vs
 | .ag l::r,v::vs=>(∃cs,v=.agg cs∧cs.toList.length=l.length)∧(∀x,.pl x∈l->pl0 x=true)∧shX r vs
 | .ig t l::r,v::vs=>(∃cs,v=.iface t (.agg cs)∧cs.toList.length=l.length)∧(∀x,.pl x∈l->pl0 x=true)∧shX r vs
 | _,_=>False
def cells1:AV->List AC
 | .c a=>[a]
 | .ag l=>l
 | .ig _ l=>l
def cellsX (A:List AV):List AC:=A.flatMap cells1
theorem agFlat_snd (k:Nat):∀(l:List AC) (q:Nat),(agFlat k q l).map (·.2)=l
 | [],_=>rfl
 | a::l,q=>by simp only[agFlat,List.map_cons,agFlat_snd k l (q+1)]
theorem flatX_snd:∀(A:List AV) (k:Nat),(flatX A k).map (·.2)=cellsX A
 | [],_=>rfl
 | .c a::r,k=>by simp only[flatX,List.map_cons,flatX_snd r (k+1)];rfl
 | .ag l::r,k=>by simp only[flatX,List.map_append,agFlat_snd,flatX_snd r (k+1)];rfl
 | .ig _ l::r,k=>by simp only[flatX,List.map_append,agFlat_snd,flatX_snd r (k+1)];rfl
theorem LW_app {w:World}{es:Nat->TypeId}{er:Nat->Nat->TypeId}{pl:Nat->Pl}:∀{L1 L2:List (Nat×AC)}{v1 v2:List Value},v1.length=L1.length->LW w es er pl (L1++L2) (v1++v2)->LW w es er pl L1 v1∧LW w es er pl L2 v2
 | [],_,[],_,_,h=>⟨trivial,h⟩
 | x::L1,L2,v::v1,v2,hl,h=>by
  obtain ⟨h1,h2⟩:=LW_app (L1:=L1) (v1:=v1) (by simpa using hl) h.2
  exact⟨⟨h.1,h1⟩,h2⟩
 | [],_,_::_,_,hl,_=>by simp at hl
 | _::_,_,[],_,hl,_=>by simp at hl
theorem agFlat_len (k:Nat):∀(l:List AC) (q:Nat),(agFlat k q l).length=l.length
 | [],_=>rfl
 | a::l,q=>by simp only[agFlat,List.length_cons,agFlat_len k l (q+1)]
section
variable {w:World}{es:Nat->TypeId}{er:Nat->Nat->TypeId}{pl:Nat->Pl}{Rc:Nat->Pl->Prop}
theorem cell_val {i:Nat}{a:AC}{v':Value}(hi:loose i=true) (hR:isPl a=false->Rc i (pl i)) (h:CellW w (es i) (er i) (pl i) a v') (hp:∀v,a=.pl v->pl0 v=true):V0 Rc (acVal i a) v':=by
 have sl:∀(n:Nat),isPl a=false->n<=(pl i).c->(match (pl i).a with
   | some b=>v'=.slice (some ⟨b,(pl i).d,none⟩) n (pl i).c
   | none=>n=0∧(pl i).c=0∧Emp v')->V0 Rc (.slice (some ⟨i,0,none⟩) n n) v':=by
  intro n hpl hc hm
  refine⟨pl i,hR hpl,?_⟩
  unfold SlOk
  rw[if_pos hi]
  exact⟨rfl,rfl,hc,hm⟩
 cases a with
 | pl v=>have h:v'=v:=h;subst h;exact(V0_plain (hp _ rfl)).2 rfl
 | sl ks n g=>
  refine sl n rfl h.1 ?_
  have h2:=h.2
  cases hpa:(pl i).a with
  | none=>simp only[hpa]at h2;exact⟨h2.1,h2.2.1,h2.2.2.2⟩
  | some b=>simp only[hpa]at h2;exact h2.1
 | fm ks n g=>
  refine sl n rfl h.1 ?_
  have h2:=h.2
  cases hpa:(pl i).a with
  | none=>simp only[hpa]at h2;exact⟨h2.1,h2.2.1,h2.2.2.2⟩
  | some b=>simp only[hpa]at h2;exact h2.1
theorem agId_loose (k q:Nat):loose (agId k q)=true:=by
 unfold loose agId
 rw[show Nat.ble 1500000 (1500000+(1000*(k+1)+q))=true from by rw[Nat.ble_eq];omega,Bool.or_true]
theorem ag_vals {k:Nat}:∀{l:List AC}{q:Nat}{us:List Value},LW w es er pl (agFlat k q l) us->(∀x∈agFlat k q l,isPl x.2=false->Rc x.1 (pl x.1))->(∀x,.pl x∈l->pl0 x=true)->LR (V0 Rc) (agVals k q l) us
 | [],_,[],_,_,_=>trivial
 | _::_,_,_::_,h,hR,hp=>⟨cell_val (agId_loose k _) (fun hpl=>hR _ (List.mem_cons_self ..) hpl) h.1 (fun v e=>hp v (e▸List.mem_cons_self ..)),ag_vals h.2 (fun x hx=>hR x (List.mem_cons_of_mem _ hx)) (fun x hx=>hp x (List.mem_cons_of_mem _ hx))⟩
 | [],_,_::_,h,_,_=>h.elim
 | _::_,_,[],h,_,_=>h.elim
theorem agVals_noIf (k:Nat):∀{l:List AC}(q:Nat),(∀x,.pl x∈l->pl0 x=true)->(agVals k q l).all noIf=true
 | [],_,_=>rfl
 | a::l,q,hp=>by
  simp only[agVals,List.all_cons,Bool.and_eq_true]
  refine⟨?_,agVals_noIf k (q+1) fun x hx=>hp x (List.mem_cons_of_mem _ hx)⟩
  cases a with
  | pl v=>
   have:=hp v (List.mem_cons_self ..)
   cases v<;>first|rfl|(simp[pl0]at this;done)
  | sl ks n g=>rfl
  | fm ks n g=>rfl
theorem args_vals:∀{A:List AV}{k:Nat}{args':List Value},LW w es er pl (flatX A k) (flatV A args')->shX A args'->(∀x∈flatX A k,isPl x.2=false->Rc x.1 (pl x.1))->LR (V2 Rc) (cArgsX A k) args'
 | [],_,[],_,_,_=>trivial
 | .c a::r,k,v'::args',h,hs,hR=>by
  refine⟨?_,args_vals h.2 hs.2 fun x hx=>hR x (List.mem_cons_of_mem _ hx)⟩
  cases a with
  | pl v=>
   have h1:v'=v:=h.1
   subst h1;exact(V2_plain (hs.1 _ rfl)).2 rfl
  | sl ks n g=>
   have:=cell_val (Rc:=Rc) (argId_loose k) (fun hpl=>hR _ (List.mem_cons_self ..) hpl) h.1 nofun
   exact V2_of_V1 (show V1 Rc _ _ from this)
  | fm ks n g=>
   have:=cell_val (Rc:=Rc) (argId_loose k) (fun hpl=>hR _ (List.mem_cons_self ..) hpl) h.1 nofun
   exact V2_of_V1 (show V1 Rc _ _ from this)
 | .ag l::r,k,v'::args',h,hs,hR=>by
  obtain ⟨⟨cs,rfl,hl⟩,hp,hs2⟩:=hs
  obtain ⟨h1,h2⟩:=LW_app (L1:=agFlat k 0 l) (v1:=cs.toList) (by rw[agFlat_len];exact hl) h
  refine⟨?_,args_vals h2 hs2 fun x hx=>hR x (List.mem_append_right _ hx)⟩
  refine V2_of_V1 ⟨cs,rfl,?_⟩
  rw[List.toList_toArray]
  exact ag_vals h1 (fun x hx=>hR x (List.mem_append_left _ hx)) hp
 | .ig t l::r,k,v'::args',h,hs,hR=>by
  obtain ⟨⟨cs,rfl,hl⟩,hp,hs2⟩:=hs
  obtain ⟨h1,h2⟩:=LW_app (L1:=agFlat k 0 l) (v1:=cs.toList) (by rw[agFlat_len];exact hl) h
  refine⟨?_,args_vals h2 hs2 fun x hx=>hR x (List.mem_append_right _ hx)⟩
  refine(⟨_,rfl,cs,rfl,?_⟩:V0 Rc (.iface t (.agg (agVals k 0 l).toArray)) (.iface t (.agg cs)))
  rw[List.toList_toArray]
  exact LR_V00 (ag_vals h1 (fun x hx=>hR x (List.mem_append_left _ hx)) hp) (agVals_noIf k 0 hp)
 | .ig _ _::_,_,[],_,h,_=>h.elim
 | [],_,_::_,_,h,_=>h.elim
 | .c _::_,_,[],_,h,_=>h.elim
 | .ag _::_,_,[],_,h,_=>h.elim
end
def acOk (mm:Nat->Option Blk) (v:Value):AC->Prop
 | .pl u=>v=u
 | .sl ks n g=>srcB mm ks v=(true,n,g)
 | .fm ks n g=>srcF mm ks v=(true,n,g)
def agOk (mm:Nat->Option Blk):List Value->List AC->Prop
 | [],[]=>True
 | v::vs,a::l=>(acOk mm v a∧∀u,a=.pl u->pl0 u=true)∧agOk mm vs l
 | _,_=>False
def AOkX (mm:Nat->Option Blk):List Value->List AV->Prop
 | [],[]=>True
 | v::vs,.c a::A=>(acOk mm v a∧∀u,a=.pl u->pl2 u=true)∧AOkX mm vs A
 | v::vs,.ag l::A=>(∃cs,v=.agg cs∧agOk mm cs.toList l)∧AOkX mm vs A
 | v::vs,.ig t l::A=>(∃cs,v=.iface t (.agg cs)∧agOk mm cs.toList l)∧AOkX mm vs A
 | _,_=>False
section
variable {GL:Glob}{w0:Wb GL}{R:Nat->Pl->Prop}{fm mm:Nat->Option Blk}{w:World}
theorem ac_cell (h:MRel w0 R fm w) (hsub:∀b blk,mm b=some blk->fm b=some blk){a:AC}{v v':Value}(ha:acOk mm v a) (hp:∀u,a=.pl u->pl2 u=true) (hv:V2 R v v'):∃e er p,CellW w e er p a v':=by
 cases a with
 | pl u=>have ha:v=u:=ha;subst ha;exact⟨0,fun _=>0,⟨none,0,0⟩,(V2_plain (hp _ rfl)).1 hv⟩
 | sl ks n g=>
  obtain ⟨p,e,hc,hm⟩:=src_heap h (srcB_mono hsub ha) hv
  refine⟨e,fun _=>0,p,hc,?_⟩
  cases hpa:p.a with
  | none=>rw[hpa]at hm;exact hm
  | some b=>
   rw[hpa]at hm
   obtain ⟨h2,cs,fz,h3,h4⟩:=hm
   refine⟨h2,cs,fz,h3,?_⟩
   have:=(LR_plain (r:=V0 R) (pl:=pl0) (fun _ _ hv=>V0_plain hv) (rowL_pl ks g n 0)).1 h4
   rw[rowL_len]at this;exact this
 | fm ks n g=>
  obtain ⟨p,e,es1,hm⟩:=fam_heap h (srcF_mono hsub ha) hv
  exact⟨e,es1,p,hm⟩
theorem ag_cells (h:MRel w0 R fm w) (hsub:∀b blk,mm b=some blk->fm b=some blk):∀{l:List AC}{us us':List Value},agOk mm us l->LR (V0 R) us us'->LX w l us'∧us'.length=l.length∧∀x,.pl x∈l->pl0 x=true
 | [],[],[],_,_=>⟨trivial,rfl,nofun⟩
 | a::l,u::us,u'::us',ha,hl=>by
  obtain ⟨h1,h2,h3⟩:=ag_cells h hsub ha.2 hl.2
  refine⟨⟨ac_cell h hsub ha.1.1 (fun x e=>?_) (V2_of_V0 hl.1),h1⟩,by simp only[List.length_cons,h2],fun x hx=>?_⟩
  ·have:=ha.1.2 x e
   cases x<;>first|rfl|(simp[pl0]at this;done)|exact this
  ·rcases List.mem_cons.1 hx with e|hx
   ·exact ha.1.2 x e.symm
   ·exact h3 x hx
 | [],_::_,_,ha,_=>ha.elim
 | _::_,[],_,ha,_=>ha.elim
 | [],[],_::_,_,hl=>hl.elim
 | _::_,_::_,[],_,hl=>hl.elim
theorem LX_app {w:World}:∀{l1 l2:List AC}{v1 v2:List Value},LX w l1 v1->LX w l2 v2->LX w (l1++l2) (v1++v2)
 | [],_,[],_,_,h=>h
 | _::_,_,_::_,_,h,h2=>⟨h.1,LX_app h.2 h2⟩
 | [],_,_::_,_,h,_=>h.elim
 | _::_,_,[],_,h,_=>h.elim
theorem args_cells (h:MRel w0 R fm w) (hsub:∀b blk,mm b=some blk->fm b=some blk):∀{A:List AV}{vs args':List Value},AOkX mm vs A->LR (V2 R) vs args'->LX w (cellsX A) (flatV A args')∧shX A args'
 | [],[],[],_,_=>⟨trivial,trivial⟩
 | .c a::A,v::vs,v'::args',hA,hl=>by
  obtain ⟨h1,h2⟩:=args_cells h hsub hA.2 hl.2
  exact⟨⟨ac_cell h hsub hA.1.1 hA.1.2 hl.1,h1⟩,hA.1.2,h2⟩
 | .ag l::A,v::vs,v'::args',hA,hl=>by
  obtain ⟨h1,h2⟩:=args_cells h hsub hA.2 hl.2
  obtain ⟨cs,rfl,ha⟩:=hA.1
  obtain ⟨cs',rfl,hc⟩:=V2_agg hl.1
  obtain ⟨h3,h4,h5⟩:=ag_cells h hsub ha hc
  exact⟨LX_app h3 h1,⟨cs',rfl,h4⟩,h5,h2⟩
 | .ig t l::A,v::vs,v'::args',hA,hl=>by
  obtain ⟨h1,h2⟩:=args_cells h hsub hA.2 hl.2
  obtain ⟨cs,rfl,ha⟩:=hA.1
  obtain ⟨x',hx',cs',e2,hc⟩:∃x',v'=.iface t x'∧∃cs',x'=.agg cs'∧LR (V00 R) cs.toList cs'.toList:=hl.1
  subst e2 hx'
  obtain ⟨h3,h4,h5⟩:=ag_cells h hsub ha (LR_mono (fun _ _=>V00_V0) hc)
  exact⟨LX_app h3 h1,⟨cs',rfl,h4⟩,h5,h2⟩
 | .ig _ _::_,[],_,hA,_=>hA.elim
 | .ig _ _::_,_::_,[],_,hl=>hl.elim
 | [],_::_,_,hA,_=>hA.elim
 | .c _::_,[],_,hA,_=>hA.elim
 | .ag _::_,[],_,hA,_=>hA.elim
 | [],[],_::_,_,hl=>hl.elim
 | .c _::_,_::_,[],_,hl=>hl.elim
 | .ag _::_,_::_,[],_,hl=>hl.elim
end
def fnX (C:Cfg) (fuel:Nat) (fn:Func) (c:Code) (args:List Value) (mem:List (Nat×Blk)) (next id:Nat):Option (Value×List (Nat×Blk)):=
 evK C fuel [] c ⟨argSlots 0 args,mem,next⟩ (fun e s=>endK C.T fn e s (fun v=>bif noTT v then expX (look s.mem) id v (fun v l=>some (v,l)) none else none) none) none
section
variable {P:Program} [Laid P]
theorem cArgsX_len:∀(A:List AV) (k:Nat),(cArgsX A k).length=A.length
 | [],_=>rfl
 | .c _::r,k=>by simp[cArgsX,cArgsX_len r]
 | .ag _::r,k=>by simp[cArgsX,cArgsX_len r]
 | .ig _ _::r,k=>by simp[cArgsX,cArgsX_len r]
theorem msum_atX {g:FuncId}{fn:Func}{c:Code}(hf:P.funcs[g]?=some fn) (hname:(fn.name=="runtime.NumGoroutine")=false) (hb:fn.body=some c){fuel next:Nat}
  {w0:Wb (lay P)}{R:Nat->Pl->Prop}{fm:Nat->Option Blk}{w:World}(hm:MRel w0 R fm w){vs args':List Value}(hl:LR (V2 R) vs args'){mm:Nat->Option Blk}(hsub:∀b blk,mm b=some blk->fm b=some blk){id:Nat}(hlt:id<60000)
  {A:List AV}(hA:AOkX mm vs A) (hnum:numOk ((flatX A 0).map (·.1))=true) (hlen:A.length<=fn.ntmps){v:Value}{l:List (Nat×Blk)}(hnew:∀p∈l,fm p.1=none)
  (hev0:∀es er,∃C,CfgOk P C c∧C.n=fn.ntmps∧fnX C fuel fn c (cArgsX A 0) (cMemX es er A) next id=some (v,l)):
  Invokes P g args'.toArray w fun v' w'=>∃R':Nat->Pl->Prop,(∀i p,R i p->R' i p)∧V2 R' v v'∧MRel w0 R' (memF fm l) w':=by
 have hne:fn.name≠"runtime.NumGoroutine":=by simpa using hname
 have hrun:(callFunc g args'.toArray).run P w=.ok (.enter g args'.toArray) w:=by simp[callFunc,hf,hne,hb]
 unfold Invokes
 rw[hrun]
 obtain ⟨hx,hsh⟩:=args_cells hm hsub hA hl
 rw[<-flatX_snd A 0]at hx
 obtain ⟨es,er,pl,hW⟩:=LW_of hnum hx
 have hmC:=callee_relX hm.below.gok hW hnum
 have hargs:LR (V2 (RcL w pl (flatX A 0))) (cArgsX A 0) args':=args_vals hW hsh fun x hx hp=>.inl ⟨x.2,hx,hp,rfl⟩
 obtain ⟨C,hC,hn,hev⟩:=hev0 es er
 unfold fnX at hev
 rw[evK_eq,oK_some]at hev
 obtain ⟨⟨e,s'⟩,he1,he2⟩:=hev
 obtain ⟨vC,he3,he4⟩:∃vC,endK C.T fn e s' some none=some vC∧(bif noTT vC then expX (look s'.mem) id vC (fun v l=>some (v,l)) none else none)=some (v,l):=by
  have key:endK C.T fn e s' (fun v=>bif noTT v then expX (look s'.mem) id v (fun v l=>some (v,l)) none else none) none=oK (endK C.T fn e s' some none) (fun v=>bif noTT v then expX (look s'.mem) id v (fun v l=>some (v,l)) none else none) none:=by
   unfold endK
   have key:∀lr:List ResultVar,resK C.T s' lr (fun vs=>oneK vs fun v=>bif noTT v then expX (look s'.mem) id v (fun v l=>some (v,l)) none else none) none=oK (resK C.T s' lr (fun vs=>oneK vs some) none) (fun v=>bif noTT v then expX (look s'.mem) id v (fun v l=>some (v,l)) none else none) none:=by
    intro lr
    rw[resK_nat (fun o:Option Value=>oK o (fun v=>bif noTT v then expX (look s'.mem) id v (fun v l=>some (v,l)) none else none) none)]
    congr 1;funext vs
    exact(oneK_nat (fun o:Option Value=>oK o (fun v=>bif noTT v then expX (look s'.mem) id v (fun v l=>some (v,l)) none else none) none) vs some).symm
   cases e<;>first|exact key _|rfl
  simp only at he2
  rw[key]at he2
  exact oK_some.1 he2
 obtain ⟨htt,he4⟩:=cond_some.1 he4
 refine Calls.mono (fn_mem hC hf hb hn hmC hargs (by rw[cArgsX_len];exact hlen) he1 he3) ?_
 rintro ex w' ⟨R',v',rfl,hvv,hvt,hm'⟩
 refine expX_ok hm hm' rfl (fun _ h=>h) hlt hvv hvt ?_ he4 hnew
 rintro vs rfl
 exact htt
theorem lawX_sound {c:Code}{g:FuncId}{fn:Func}(hf:P.funcs[g]?=some fn) (hb:fn.body=some c){A:List AV}{args':List Value}{w:World}(hx:LX w (cellsX A) (flatV A args')) (hsh:shX A args') (hnum:numOk ((flatX A 0).map (·.1))=true) (hg:GOk (lay P) w) (hlen:A.length<=fn.ntmps){v:Value}(hv:pl2 v=true) (hnt:∀vs,v≠.tuple vs){fuel next:Nat}
  (hev0:∀es er,∃C,CfgOk P C c∧C.n=fn.ntmps∧fnA C fuel fn c (cArgsX A 0) (cMemX es er A) next=some v):Calls P g args'.toArray w fun e w'=>e=.returned v∧Below w.heap.size w w':=by
 rw[<-flatX_snd A 0]at hx
 obtain ⟨es,er,pl,hW⟩:=LW_of hnum hx
 have hmC:=callee_relX hg hW hnum
 have hargs:LR (V2 (RcL w pl (flatX A 0))) (cArgsX A 0) args':=args_vals hW hsh fun x hx hp=>.inl ⟨x.2,hx,hp,rfl⟩
 obtain ⟨C,hC,hn,hev⟩:=hev0 es er
 unfold fnA at hev
 rw[evK_eq,oK_some]at hev
 obtain ⟨⟨e,s'⟩,he1,he2⟩:=hev
 refine Calls.mono (fn_mem hC hf hb hn hmC hargs (by rw[cArgsX_len];exact hlen) he1 he2) ?_
 rintro ex w' ⟨R',v',rfl,hvv,hvt,hm'⟩
 have:=(V2_plain hv).1 (hvv hnt)
 subst this
 exact⟨rfl,hm'.below.below fun _ h=>h⟩
end
end Go.W

namespace Go.W
def prL (X:Nat×Nat):List Value:=[u64 (dig X.1 0),u64 (dig X.1 1),u64 (dig X.1 2),u64 (dig X.1 3),u64 (dig X.2 0),u64 (dig X.2 1),u64 (dig X.2 2),u64 (dig X.2 3)]
def prV (c r:Nat):Value:=.agg (prL (c,r)).toArray
section
variable {P:Program}{H:Type}{enc:TypeId×Value->H}{W:World}{base b0:Nat}{sp:Nat->Bool}{held:Bool}{r:Reach}{t tn e:TypeId}{v:Value}{d:DataW H}{p:List MemPlace}
end
end Go.W

namespace Go.W
open Go.RowKit (Below)
def k32:List CK:=List.replicate 32 (.i .u8)
def slC (X:Nat):List Value:=bytesL 32 X
section
variable {P:Program}{H:Type}{enc:TypeId×Value->H}{W:World}{base b0:Nat}{held:Bool}{r:Reach}{t e:TypeId}{v:Value}{d:DataW H}{p:List MemPlace}
open Go.ChangeShapes Go.WideShapes
theorem slC_nrm (X:Nat):nrmK k32 (slC X)=slC X:=by kernel_rfl
def acC (k:Int) (K:RP) (lab:ByteArray) (s c:Value) (g:Int) (X:Nat×Nat):List Value:=
 i64 k::(ptC K++(.string lab::s::c::i64 g::prL X))
end
end Go.W

namespace Go.W
theorem root_pt {X:Nat}(h:X<pP) (hr:rootIs (sqN X)=true):ckR (false,X,rootNum (sqN X))=true∧rootNum (sqN X)%2=0∧sp 0 (rootNum (sqN X))%2=1:=by
 obtain ⟨h1,h2,h3⟩:=root_sq hr
 have hodd:=pP_facts.2.2.2
 refine⟨?_,h2,?_⟩
 ·unfold ckR
  rw[if_neg Bool.false_ne_true]
  refine decide_eq_true ⟨h,h3,?_⟩
  show mp _ _=sqN X
  rw[mp_eq,h1]
  exact Nat.mod_eq_of_lt (ap_lt _ _)
 ·have h0:rootNum (sqN X)≠0:=by
   intro e
   rw[e,Nat.zero_mul,Nat.zero_mod]at h1
   apply no_cube X
   have e2:sqN X=(X*X*X+7)%pP:=by
    unfold sqN
    rw[ap_eq,mp_eq,mp_eq,Nat.add_mod,Nat.mod_mod,Nat.mul_mod (X*X%pP) X,Nat.mod_mod,<-Nat.mul_mod,<-Nat.add_mod]
   rw[<-e2,<-Nat.mod_eq_of_lt (show sqN X<pP from ap_lt _ _)];exact h1.symm
  rw[sp_eq,Nat.mod_eq_of_lt h3,Nat.zero_add,Nat.mod_eq_of_lt (show pP-rootNum (sqN X)<pP from Nat.sub_lt prime_pos.1 (Nat.pos_of_ne_zero h0))]
  clear h1
  generalize rootNum (sqN X)=Y at *
  generalize pP=p at *
  omega
end Go.W

namespace Go.W
def fz {α:Type}(n:Nat) (k:Nat->α):α:=Nat.rec (motive:=fun _=>α) (k 0) (fun m _=>k (Nat.succ m)) n
structure W16 where
 w0:Nat
 w1:Nat
 w2:Nat
 w3:Nat
 w4:Nat
 w5:Nat
 w6:Nat
 w7:Nat
 w8:Nat
 w9:Nat
 w10:Nat
 w11:Nat
 w12:Nat
 w13:Nat
 w14:Nat
 w15:Nat
end Go.W

namespace Go.W
def pbL (p:RP):Nat:=if p.1=true then 1 else 33
def pbR (p:RP):Nat->List Value:=if p.1=true then lstF [.int .u8 0] 0 1 else pbF (hdY p.2.2) (bytesL 32 p.2.1)
theorem pbL_le (p:RP):pbL p<=33:=by unfold pbL;split<;>omega
def CPbF (e:Nat):List Value->(Nat->Option Blk)->Nat->List (Bool×Value×List (Nat×Blk))
 | [p],_,id=>[(isPt p&&ckR (unPt p),.tuple #[nSl id (pbL (unPt p)),i64 0],rw1 e id (pbL (unPt p)) (pbR (unPt p)))]
 | _,_,_=>[]
theorem CPbF_sub (e:Nat):∀vs mm id v l,pickM (CPbF e vs mm id)=some (v,l)->pickM (CBytF e vs mm id)=some (v,l):=by
 intro vs mm id v l h
 match vs,h with
 | [p],h=>
  obtain ⟨hc,rfl,rfl⟩:=pick_one h
  rw[Bool.and_eq_true]at hc
  rw[CBytF_eq]
  simp only[pickM]
  unfold pbL pbR
  rw[hc.1,hc.2]
  cases (unPt p).1<;>rfl
 | [],h=>simp[CPbF,pickM]at h
 | _::_::_,h=>simp[CPbF,pickM]at h
end Go.W

namespace Go.W
def isPrf (v:Value):Bool:=aggK v (fun l=>Nat.beq l.length 8&&(isNum (.agg (l.take 4).toArray)&&isNum (.agg (l.drop 4).toArray))) false
def unPrf (v:Value):Nat×Nat:=(unnum (.agg (v.cells.toList.take 4).toArray),unnum (.agg (v.cells.toList.drop 4).toArray))
theorem isPrf_prV (c r:Nat):isPrf (prV c r)=true:=by
 show(true&&(isNum (num c)&&isNum (num r)))=true
 rw[isNum_num,isNum_num];rfl
theorem unPrf_prV {c r:Nat}(hc:c<2^256) (hr:r<2^256):unPrf (prV c r)=(c,r):=by
 show(unnum (num c),unnum (num r))=(c,r)
 rw[unnum_lt hc,unnum_lt hr]
theorem isPrf_some {v:Value}(h:isPrf v=true):∃X:Nat×Nat,(X.1<2^256∧X.2<2^256)∧v=prV X.1 X.2:=by
 unfold isPrf aggK at h
 split at h
 ·rename_i cs
  simp only[Bool.and_eq_true]at h
  obtain ⟨_,h1,h2⟩:=h
  obtain ⟨X,hX,e1⟩:=isNum_some h1
  obtain ⟨Y,hY,e2⟩:=isNum_some h2
  refine⟨(X,Y),⟨hX,hY⟩,?_⟩
  have a1:=congrArg (fun v:Value=>v.cells.toList) e1
  have a2:=congrArg (fun v:Value=>v.cells.toList) e2
  have b1:cs.toList.take 4=(num X).cells.toList:=a1
  have b2:cs.toList.drop 4=(num Y).cells.toList:=a2
  show Value.agg cs=Value.agg _
  congr 1
  refine Array.toList_inj.1 ?_
  rw[<-List.take_append_drop 4 cs.toList,b1,b2];rfl
 ·simp at h
def KprF:List Value->Option (Bool×Value)
 | [p,q]=>some (isPrf p&&isPrf q,.bool (decide (unPrf p=unPrf q)))
 | _=>none
noncomputable def RblF:List Value->Option (Bool×Value)
 | [p]=>some (isPrf p,.bool (decide ((unPrf p).1<pN)&&decide ((unPrf p).2<pN)))
 | _=>none
theorem below_cmp (a:Nat):decide (cmpI a (primeN 1)<0)=decide (a<pN):=by
 have hp:primeN 1=pN:=rfl
 rw[hp]
 unfold cmpI
 by_cases h:a<pN
 ·rw[if_pos h,decide_eq_true h];rfl
 ·rw[if_neg h,decide_eq_false h]
  split<;>rfl
end Go.W

namespace Go.W
open Go
def byt (s:ByteArray) (j:Nat):Nat:=(s.data.toList.getD j 0).toNat
theorem byt_lt (s:ByteArray) (j:Nat):byt s j<256:=(s.data.toList.getD j 0).toNat_lt
theorem get_byt (s:ByteArray) (j:Nat):(s.get! j).toNat=byt s j:=by
 cases s with|mk d=>
 show(d[j]!).toNat=(d.toList.getD j 0).toNat
 congr 1
 rw[List.getD_eq_getElem?_getD,Array.getElem?_toList]
 simp[getElem!_def]
 cases d[j]?<;>rfl
theorem byt_app (a b:ByteArray) (j:Nat):byt (a++b) j=if j<a.size then byt a j else byt b (j-a.size):=by
 unfold byt
 rw[ByteArray.data_append,Array.toList_append,List.getD_eq_getElem?_getD,List.getD_eq_getElem?_getD,List.getD_eq_getElem?_getD]
 have e:a.data.toList.length=a.size:=Array.length_toList
 by_cases h:j<a.size
 ·rw[if_pos h,List.getElem?_append_left (by omega)]
 ·rw[if_neg h,List.getElem?_append_right (by omega),e]
theorem byt_cut (s:ByteArray) (a b j:Nat) (h:j<b-a):byt (s.extract a b) j=byt s (a+j):=by
 unfold byt
 rw[ByteArray.data_extract,Array.toList_extract,List.extract_eq_take_drop,List.getD_eq_getElem?_getD,List.getD_eq_getElem?_getD,List.getElem?_take,if_pos h,List.getElem?_drop]
theorem txt_ext {a b:ByteArray}(h:a.size=b.size) (h2:∀j,j<a.size->byt a j=byt b j):a=b:=by
 apply ByteArray.ext
 apply Array.toList_inj.1
 have e1:a.data.toList.length=a.size:=Array.length_toList
 have e2:b.data.toList.length=b.size:=Array.length_toList
 apply List.ext_getElem (by omega)
 intro j h3 h4
 have:=h2 j (by omega)
 unfold byt at this
 rw[List.getD_eq_getElem?_getD,List.getD_eq_getElem?_getD,List.getElem?_eq_getElem h3,List.getElem?_eq_getElem h4]at this
 exact UInt8.toNat_inj.1 this
theorem txt_eq (a b:ByteArray):(a==b)=decide (a=b):=by
 rw[Bool.eq_iff_iff,decide_eq_true_eq]
 cases a with|mk x=>cases b with|mk y=>
 show(x==y)=true↔_
 simp
theorem size_cut {s:ByteArray}{a b:Nat}(h:b<=s.size):(s.extract a b).size=b-a:=by rw[ByteArray.size_extract,Nat.min_eq_left h]
theorem cut_all (s:ByteArray):s.extract 0 s.size=s:=by
 apply txt_ext (by rw[size_cut (Nat.le_refl _),Nat.sub_zero])
 intro j hj
 rw[size_cut (Nat.le_refl _)]at hj
 rw[byt_cut _ _ _ _ (by omega),Nat.zero_add]
def decB (b:Nat->Nat) (n i:Nat):Nat×Nat:=
 let cont (k:Nat):Bool:=decide (i+k<n)&&b (i+k) / 64==2
 if b i<128 then (b i,1)
 else if b i / 32==6&&cont 1 then
  if (b i%32)*64+b (i+1)%64>=128 then ((b i%32)*64+b (i+1)%64,2) else (65533,1)
 else if b i / 16==14&&cont 1&&cont 2 then
  if (b i%16)*4096+(b (i+1)%64)*64+b (i+2)%64>=2048&&Utf8.valid (((b i%16)*4096+(b (i+1)%64)*64+b (i+2)%64:Nat):Int) then ((b i%16)*4096+(b (i+1)%64)*64+b (i+2)%64,3) else (65533,1)
 else if b i / 8==30&&cont 1&&cont 2&&cont 3 then
  if (b i%8)*262144+(b (i+1)%64)*4096+(b (i+2)%64)*64+b (i+3)%64>=65536&&Utf8.valid (((b i%8)*262144+(b (i+1)%64)*4096+(b (i+2)%64)*64+b (i+3)%64:Nat):Int) then ((b i%8)*262144+(b (i+1)%64)*4096+(b (i+2)%64)*64+b (i+3)%64,4) else (65533,1)
 else (65533,1)
theorem dec_decB (s:ByteArray) (i:Nat):Utf8.decode s i=decB (byt s) s.size i:=by
 unfold Utf8.decode decB
 simp only[get_byt,Nat.add_zero]
 rfl
def runeAt (b:Nat->Nat) (i r w:Nat):Prop:=
 (w=1∧b i<128∧r=b i)∨
 (w=2∧b i / 32=6∧b (i+1) / 64=2∧r=(b i%32)*64+b (i+1)%64∧128<=r)∨
 (w=3∧b i / 16=14∧b (i+1) / 64=2∧b (i+2) / 64=2∧r=(b i%16)*4096+(b (i+1)%64)*64+b (i+2)%64∧2048<=r∧Utf8.valid (r:Int)=true)∨
 (w=4∧b i / 8=30∧b (i+1) / 64=2∧b (i+2) / 64=2∧b (i+3) / 64=2∧r=(b i%8)*262144+(b (i+1)%64)*4096+(b (i+2)%64)*64+b (i+3)%64∧65536<=r∧Utf8.valid (r:Int)=true)
theorem cont_iff {b:Nat->Nat}{n j:Nat}:(decide (j<n)&&b j / 64==2)=true↔j<n∧b j / 64=2:=by
 rw[Bool.and_eq_true,decide_eq_true_eq,beq_iff_eq]
theorem decB_rune {b:Nat->Nat}{n i r w:Nat}(h:runeAt b i r w) (hn:i+w<=n):decB b n i=(r,w):=by
 unfold decB
 rcases h with⟨rfl,h1,rfl⟩|⟨rfl,h1,h2,rfl,h3⟩|⟨rfl,h1,h2,h3,rfl,h4,h5⟩|⟨rfl,h1,h2,h3,h4,rfl,h5,h6⟩
 ·rw[if_pos h1]
 ·rw[if_neg (by omega),if_pos (by rw[Bool.and_eq_true,cont_iff,beq_iff_eq];omega),if_pos h3]
 ·rw[if_neg (by omega),if_neg (by rw[Bool.and_eq_true,beq_iff_eq];omega),if_pos (by rw[Bool.and_eq_true,Bool.and_eq_true,cont_iff,cont_iff,beq_iff_eq];omega),if_pos (by rw[Bool.and_eq_true,decide_eq_true_eq];exact⟨h4,h5⟩)]
 ·rw[if_neg (by omega),if_neg (by rw[Bool.and_eq_true,beq_iff_eq];omega),if_neg (by rw[Bool.and_eq_true,Bool.and_eq_true,beq_iff_eq];omega),if_pos (by rw[Bool.and_eq_true,Bool.and_eq_true,Bool.and_eq_true,cont_iff,cont_iff,cont_iff,beq_iff_eq];omega),if_pos (by rw[Bool.and_eq_true,decide_eq_true_eq];exact⟨h5,h6⟩)]
theorem decB_cases {b:Nat->Nat}{n i:Nat}(hi:i<n):(decB b n i=(65533,1)∧∀r w,i+w<=n->¬runeAt b i r w)∨∃r w,decB b n i=(r,w)∧runeAt b i r w∧i+w<=n:=by
 by_cases h:∃r w,runeAt b i r w∧i+w<=n
 ·obtain ⟨r,w,h1,h2⟩:=h
  exact .inr ⟨r,w,decB_rune h1 h2,h1,h2⟩
 ·refine .inl ⟨?_,fun r w h1 h2=>h ⟨r,w,h2,h1⟩⟩
  unfold decB
  by_cases h0:b i<128
  ·exact absurd ⟨b i,1,.inl ⟨rfl,h0,rfl⟩,by omega⟩ h
  rw[if_neg h0]
  by_cases h1:b i / 32=6∧i+1<n∧b (i+1) / 64=2
  ·rw[if_pos (by rw[Bool.and_eq_true,cont_iff,beq_iff_eq];exact h1)]
   by_cases h2:(b i%32)*64+b (i+1)%64>=128
   ·exact absurd ⟨_,2,.inr (.inl ⟨rfl,h1.1,h1.2.2,rfl,h2⟩),by omega⟩ h
   ·rw[if_neg h2]
  rw[if_neg (by rw[Bool.and_eq_true,cont_iff,beq_iff_eq];exact h1)]
  by_cases h2:(b i / 16=14∧i+1<n∧b (i+1) / 64=2)∧i+2<n∧b (i+2) / 64=2
  ·rw[if_pos (by rw[Bool.and_eq_true,Bool.and_eq_true,cont_iff,cont_iff,beq_iff_eq];exact h2)]
   by_cases h3:(b i%16)*4096+(b (i+1)%64)*64+b (i+2)%64>=2048∧Utf8.valid (((b i%16)*4096+(b (i+1)%64)*64+b (i+2)%64:Nat):Int)=true
   ·exact absurd ⟨_,3,.inr (.inr (.inl ⟨rfl,h2.1.1,h2.1.2.2,h2.2.2,rfl,h3.1,h3.2⟩)),by omega⟩ h
   ·rw[if_neg (by rw[Bool.and_eq_true,decide_eq_true_eq];exact h3)]
  rw[if_neg (by rw[Bool.and_eq_true,Bool.and_eq_true,cont_iff,cont_iff,beq_iff_eq];exact h2)]
  by_cases h3:((b i / 8=30∧i+1<n∧b (i+1) / 64=2)∧i+2<n∧b (i+2) / 64=2)∧i+3<n∧b (i+3) / 64=2
  ·rw[if_pos (by rw[Bool.and_eq_true,Bool.and_eq_true,Bool.and_eq_true,cont_iff,cont_iff,cont_iff,beq_iff_eq];exact h3)]
   by_cases h4:(b i%8)*262144+(b (i+1)%64)*4096+(b (i+2)%64)*64+b (i+3)%64>=65536∧Utf8.valid (((b i%8)*262144+(b (i+1)%64)*4096+(b (i+2)%64)*64+b (i+3)%64:Nat):Int)=true
   ·exact absurd ⟨_,4,.inr (.inr (.inr ⟨rfl,h3.1.1.1,h3.1.1.2.2,h3.1.2.2,h3.2.2,rfl,h4.1,h4.2⟩)),by omega⟩ h
   ·rw[if_neg (by rw[Bool.and_eq_true,decide_eq_true_eq];exact h4)]
  rw[if_neg (by rw[Bool.and_eq_true,Bool.and_eq_true,Bool.and_eq_true,cont_iff,cont_iff,cont_iff,beq_iff_eq];exact h3)]
theorem runeAt_congr {b b':Nat->Nat}{i i' r w:Nat}(h:runeAt b i r w) (hb:∀k,k<w->b' (i'+k)=b (i+k)):runeAt b' i' r w:=by
 rcases h with⟨rfl,h1,rfl⟩|⟨rfl,h1,h2,rfl,h3⟩|⟨rfl,h1,h2,h3,rfl,h4,h5⟩|⟨rfl,h1,h2,h3,h4,rfl,h5,h6⟩
 ·have e0:b' i'=b i:=hb 0 (by omega)
  exact .inl ⟨rfl,by rw[e0];exact h1,e0.symm⟩
 ·have e0:b' i'=b i:=hb 0 (by omega)
  have e1:=hb 1 (by omega)
  exact .inr (.inl ⟨rfl,by rw[e0];exact h1,by rw[e1];exact h2,by rw[e0,e1],h3⟩)
 ·have e0:b' i'=b i:=hb 0 (by omega)
  have e1:=hb 1 (by omega)
  have e2:=hb 2 (by omega)
  exact .inr (.inr (.inl ⟨rfl,by rw[e0];exact h1,by rw[e1];exact h2,by rw[e2];exact h3,by rw[e0,e1,e2],h4,h5⟩))
 ·have e0:b' i'=b i:=hb 0 (by omega)
  have e1:=hb 1 (by omega)
  have e2:=hb 2 (by omega)
  have e3:=hb 3 (by omega)
  exact .inr (.inr (.inr ⟨rfl,by rw[e0];exact h1,by rw[e1];exact h2,by rw[e2];exact h3,by rw[e3];exact h4,by rw[e0,e1,e2,e3],h5,h6⟩))
theorem runeAt_w {b:Nat->Nat}{i r w:Nat}(h:runeAt b i r w):1<=w∧w<=4:=by
 rcases h with⟨rfl,_⟩|⟨rfl,_⟩|⟨rfl,_⟩|⟨rfl,_⟩<;>omega
theorem decB_w {b:Nat->Nat}{n i:Nat}(hi:i<n):1<=(decB b n i).2∧i+(decB b n i).2<=n:=by
 rcases decB_cases (b:=b) hi with⟨h,_⟩|⟨r,w,h,h1,h2⟩
 ·rw[h];exact⟨Nat.le_refl _,hi⟩
 ·rw[h];exact⟨(runeAt_w h1).1,h2⟩
theorem decB_shift {b b':Nat->Nat}{n n' i i':Nat}(hi:i<n) (hn:n' - i'=n-i) (hi':i'<n') (hb:∀k,i+k<n->b' (i'+k)=b (i+k)):decB b' n' i'=decB b n i:=by
 rcases decB_cases (b:=b) hi with⟨h,hno⟩|⟨r,w,h,h1,h2⟩
 ·rcases decB_cases (b:=b') hi' with⟨h',_⟩|⟨r,w,h',h1,h2⟩
  ·rw[h,h']
  ·exact absurd (runeAt_congr h1 fun k hk=>(hb k (by omega)).symm) (hno r w (by omega))
 ·rw[h];exact decB_rune (runeAt_congr h1 fun k hk=>hb k (by omega)) (by omega)
theorem decB_ext {b b':Nat->Nat}{n n' i:Nat}(hn:n<=n') (hi:i<n) (hv:decB b n i≠(65533,1)) (hb:∀k,k<n->b' k=b k):decB b' n' i=decB b n i:=by
 rcases decB_cases (b:=b) hi with⟨h,_⟩|⟨r,w,h,h1,h2⟩
 ·exact absurd h hv
 ·rw[h];exact decB_rune (runeAt_congr h1 fun k hk=>hb _ (by omega)) (by omega)
def dC (s:ByteArray) (p:Nat):Nat:=(decB (byt s) s.size p).1
def dW (s:ByteArray) (p:Nat):Nat:=(decB (byt s) s.size p).2
theorem dcC_dC (s:ByteArray) (p:Nat):dcC s p=(dC s p:Int):=by unfold dcC dC;rw[dec_decB]
theorem dcW_dW (s:ByteArray) (p:Nat):dcW s p=dW s p:=by unfold dcW dW;rw[dec_decB]
theorem dW_le {s:ByteArray}{p:Nat}(h:p<s.size):1<=dW s p∧p+dW s p<=s.size:=decB_w h
def stp (s:ByteArray) (p:Nat):Nat:=if p<s.size then p+dW s p else p
def psF (s:ByteArray) (p:Nat):Nat->Nat
 | 0=>p
 | k+1=>stp s (psF s p k)
def ps (s:ByteArray) (k:Nat):Nat:=psF s 0 k
def rc (s:ByteArray) (k:Nat):Nat:=dC s (ps s k)
theorem psF_add (s:ByteArray) (p j:Nat):∀k,psF s p (j+k)=psF s (psF s p j) k
 | 0=>rfl
 | k+1=>by show stp s (psF s p (j+k))=stp s _;rw[psF_add s p j k]
theorem ps_zero (s:ByteArray):ps s 0=0:=rfl
theorem ps_succ (s:ByteArray) (k:Nat):ps s (k+1)=stp s (ps s k):=rfl
theorem stp_le {s:ByteArray}{p:Nat}(h:p<=s.size):stp s p<=s.size∧p<=stp s p:=by
 unfold stp
 split
 ·rename_i h1;have:=dW_le h1;omega
 ·omega
theorem ps_le (s:ByteArray):∀k,ps s k<=s.size
 | 0=>Nat.zero_le _
 | k+1=>(stp_le (ps_le s k)).1
theorem ps_mono1 (s:ByteArray) (k:Nat):ps s k<=ps s (k+1):=(stp_le (ps_le s k)).2
theorem ps_mono (s:ByteArray){j k:Nat}(h:j<=k):ps s j<=ps s k:=by
 induction k with
 | zero=>rw[Nat.le_zero.1 h];exact Nat.le_refl _
 | succ k ih=>
  by_cases e:j=k+1
  ·rw[e];exact Nat.le_refl _
  ·exact Nat.le_trans (ih (by omega)) (ps_mono1 s k)
theorem ps_lt {s:ByteArray}{k:Nat}(h:ps s k<s.size):ps s k<ps s (k+1)∧ps s (k+1)=ps s k+dW s (ps s k):=by
 have e:ps s (k+1)=ps s k+dW s (ps s k):=by rw[ps_succ];unfold stp;rw[if_pos h]
 have:=dW_le h
 omega
def isK (s:ByteArray) (n:Nat):Prop:=(∀k,k<n->ps s k<s.size)∧ps s n=s.size
theorem isK_fun {s:ByteArray}{n m:Nat}(h:isK s n) (h2:isK s m):n=m:=by
 rcases Nat.lt_trichotomy n m with h3|h3|h3
 ·have:=h2.1 n h3;have:=h.2;omega
 ·exact h3
 ·have:=h.1 m h3;have:=h2.2;omega
theorem ps_grow (s:ByteArray):∀k,k<=ps s k∨ps s k=s.size
 | 0=>.inl (Nat.le_refl _)
 | k+1=>by
  by_cases h:ps s k<s.size
  ·have:=ps_lt h
   rcases ps_grow s k with h1|h1<;>omega
  ·right
   rw[ps_succ];unfold stp;rw[if_neg h]
   have:=ps_le s k;omega
theorem isK_ex (s:ByteArray):∃n,isK s n∧n<=s.size:=by
 have key:∀n,(∀k,k<n->ps s k<s.size)∨∃m,m<n∧isK s m:=by
  intro n
  induction n with
  | zero=>exact .inl fun k h=>absurd h (Nat.not_lt_zero _)
  | succ n ih=>
   rcases ih with h|⟨m,h1,h2⟩
   ·by_cases e:ps s n<s.size
    ·left
     intro k hk
     by_cases e2:k=n
     ·rw[e2];exact e
     ·exact h k (by omega)
    ·right
     exact⟨n,by omega,h,by have:=ps_le s n;omega⟩
   ·exact .inr ⟨m,by omega,h2⟩
 rcases key (s.size+1) with h|⟨m,h1,h2⟩
 ·exfalso
  have h1:=h s.size (by omega)
  rcases ps_grow s s.size with h2|h2<;>omega
 ·exact⟨m,h2,by omega⟩
noncomputable def rN (s:ByteArray):Nat:=hide (Classical.choose (isK_ex s))
theorem rN_is (s:ByteArray):isK s (rN s):=by unfold rN;rw[hide_eq];exact(Classical.choose_spec (isK_ex s)).1
theorem rN_le (s:ByteArray):rN s<=s.size:=by unfold rN;rw[hide_eq];exact(Classical.choose_spec (isK_ex s)).2
theorem rN_of {s:ByteArray}{n:Nat}(h:isK s n):rN s=n:=isK_fun (rN_is s) h
theorem ps_rN {s:ByteArray}{k:Nat}(h:rN s<=k):ps s k=s.size:=by
 have h1:=ps_mono s h
 have:=(rN_is s).2
 have:=ps_le s k
 omega
theorem lt_rN {s:ByteArray}{k:Nat}:ps s k<s.size↔k<rN s:=by
 constructor
 ·intro h
  rcases Nat.lt_or_ge k (rN s) with h1|h1
  ·exact h1
  ·rw[ps_rN h1]at h;omega
 ·exact(rN_is s).1 k
end Go.W

namespace Go.W
def slF (Z:Nat->Nat):Nat->List Value:=fun j=>slC (Z j)
def el32 (f:Nat->List Value) (j:Nat):Value:=.agg (nrmK k32 (f j)).toArray
def slA (f:Nat->List Value) (j:Nat):Nat:=unbytes (el32 f j)
noncomputable def okSl (n:Nat) (f:Nat->List Value):Bool:=@decide (n<=1000∧∀j,j<n->isB32 (el32 f j)=true) (Classical.propDecidable _)
theorem okSl_iff {n:Nat}{f:Nat->List Value}:okSl n f=true↔n<=1000∧∀j,j<n->isB32 (el32 f j)=true:=by
 unfold okSl
 exact⟨fun h=>@of_decide_eq_true _ (Classical.propDecidable _) h,fun h=>@decide_eq_true _ (Classical.propDecidable _) h⟩
theorem el_sl {n:Nat}{f:Nat->List Value}(h:okSl n f=true){j:Nat}(hj:j<n):el32 f j=bytesV (slA f j)∧slA f j<2^256:=by
 obtain ⟨X,hX,e,e2⟩:=isB32_some ((okSl_iff.1 h).2 j hj)
 have:slA f j=X:=e2
 rw[this];exact⟨e,hX⟩
theorem row_sl {n:Nat}{f:Nat->List Value}(h:okSl n f=true):∀j,j<n->nrmK k32 (f j)=nrmK k32 (slF (slA f) j):=by
 intro j hj
 have e:=(el_sl h hj).1
 have:=congrArg (fun v:Value=>v.cells.toList) e
 exact Eq.trans this (slC_nrm _).symm
theorem el32_slF (Z:Nat->Nat) (j:Nat):el32 (slF Z) j=bytesV (Z j):=by
 show Value.agg (nrmK k32 (slC (Z j))).toArray=_
 rw[slC_nrm];rfl
theorem slA_slF {Z:Nat->Nat}{j:Nat}(h:Z j<2^256):slA (slF Z) j=Z j:=by unfold slA;rw[el32_slF,unbytes_bytesV,Nat.mod_eq_of_lt h]
theorem okSl_slF {n:Nat}{Z:Nat->Nat}(hn:n<=1000):okSl n (slF Z)=true:=okSl_iff.2 ⟨hn,fun j _=>by rw[el32_slF];exact isB32_bytesV _⟩
def sg32 (n:Nat) (f:Nat->List Value):Nat->List Value:=segF ⟨0,0,n,k32,n,f,0,false,[]⟩
theorem el32_sg (n:Nat) (f:Nat->List Value) (j:Nat):el32 (sg32 n f) j=el32 f j:=by show el32 f (0+j)=el32 f j;rw[Nat.zero_add]
theorem slA_sg (n:Nat) (f:Nat->List Value):slA (sg32 n f)=slA f:=by funext j;unfold slA;rw[el32_sg]
theorem okSl_sg (m n:Nat) (f:Nat->List Value):okSl m (sg32 n f)=okSl m f:=by
 rw[Bool.eq_iff_iff,okSl_iff,okSl_iff];simp only[el32_sg]
theorem eqL_iff:∀{ks:List CK}{xs ys:List Value},fitsK ks xs=true->fitsK ks ys=true->(eqL xs ys=true↔xs=ys)
 | [],[],[],_,_=>by simp[eqL]
 | k::ks,x::xs,y::ys,h1,h2=>by
  simp only[fitsK,Bool.and_eq_true]at h1 h2
  have ih:=eqL_iff h1.2 h2.2
  obtain ⟨h1,-⟩:=h1
  obtain ⟨h2,-⟩:=h2
  cases k<;>cases x<;>simp[isCK]at h1<;>cases y<;>simp[isCK]at h2
  ·subst h1 h2;simp[eqL,ih]
  ·simp[eqL,ih]
  ·rw[eqL,txt_eq,Bool.and_eq_true,decide_eq_true_eq,ih,List.cons.injEq,Value.string.injEq]
theorem slC_fits (X:Nat):fitsK k32 (slC X)=true:=by kernel_rfl
theorem slC_inj {X Y:Nat}(hX:X<2^256) (hY:Y<2^256) (h:slC X=slC Y):X=Y:=by
 have h1:unbytes (bytesV X)=unbytes (bytesV Y):=congrArg (fun l:List Value=>unbytes (.agg l.toArray)) h
 rw[unbytes_bytesV,unbytes_bytesV,Nat.mod_eq_of_lt hX,Nat.mod_eq_of_lt hY]at h1;exact h1
theorem eqL_sl {X Y:Nat}(hX:X<2^256) (hY:Y<2^256):eqL (slC X) (slC Y)=decide (X=Y):=by
 rw[Bool.eq_iff_iff,eqL_iff (slC_fits X) (slC_fits Y),decide_eq_true_eq]
 exact⟨slC_inj hX hY,fun h=>by rw[h]⟩
noncomputable def eqN {α:Type}(n:Nat) (Z:Nat->α) (m:Nat) (W:Nat->α):Bool:=@decide (n=m∧∀j,j<n->Z j=W j) (Classical.propDecidable _)
theorem eqN_iff {α:Type}{n m:Nat}{Z W:Nat->α}:eqN n Z m W=true↔n=m∧∀j,j<n->Z j=W j:=by
 unfold eqN
 exact⟨fun h=>@of_decide_eq_true _ (Classical.propDecidable _) h,fun h=>@decide_eq_true _ (Classical.propDecidable _) h⟩
theorem first_ne {α:Type}{n:Nat}{Z W:Nat->α}(h:¬∀j,j<n->Z j=W j):∃k,k<n∧Z k≠W k∧∀j,j<k->Z j=W j:=by
 induction n with
 | zero=>exact absurd (fun j hj=>by omega) h
 | succ n ih=>
  by_cases h1:∀j,j<n->Z j=W j
  ·refine⟨n,by omega,fun e=>h fun j hj=>?_,h1⟩
   by_cases hj2:j<n
   ·exact h1 j hj2
   ·have:j=n:=by omega
    subst this;exact e
  ·obtain ⟨k,a,b,c⟩:=ih h1
   exact⟨k,by omega,b,c⟩
noncomputable def SlsF:List Value->(Nat->Option Blk)->Nat->List (Bool×Value×List (Nat×Blk))
 | [a,b],mm,_=>[((srcB mm k32 a).1&&(srcB mm k32 b).1&&okSl (srcB mm k32 a).2.1 (srcB mm k32 a).2.2&&okSl (srcB mm k32 b).2.1 (srcB mm k32 b).2.2,.bool (eqN (srcB mm k32 a).2.1 (slA (srcB mm k32 a).2.2) (srcB mm k32 b).2.1 (slA (srcB mm k32 b).2.2)),[])]
 | _,_,_=>[]
noncomputable def PteF:List Value->(Nat->Option Blk)->Nat->List (Bool×Value×List (Nat×Blk))
 | [a,b],mm,_=>[((srcB mm kP9 a).1&&(srcB mm kP9 b).1&&okP (srcB mm kP9 a).2.1 (srcB mm kP9 a).2.2&&okP (srcB mm kP9 b).2.1 (srcB mm kP9 b).2.2,.bool (eqN (srcB mm kP9 a).2.1 (pA (srcB mm kP9 a).2.2) (srcB mm kP9 b).2.1 (pA (srcB mm kP9 b).2.2)),[])]
 | _,_,_=>[]
structure AR where
 k:Int
 K:RP
 l:ByteArray
 n:Nat
 S:Nat->Nat
 m:Nat
 V:Nat->RP
 g:Int
 X:Nat×Nat
def nV (i:Nat) (l:List Value):Value:=(l.drop i).headD (.bool false)
def isI:Value->Bool
 | .int .i64 _=>true
 | _=>false
def isT:Value->Bool
 | .string _=>true
 | _=>false
def inV:Value->Int
 | .int _ z=>z
 | _=>0
def teV:Value->ByteArray
 | .string b=>b
 | _=>⟨#[]⟩
def cKey (l:List Value):Value:=.agg ((l.drop 1).take 9).toArray
def cPrf (l:List Value):Value:=.agg (l.drop 14).toArray
noncomputable def isA (mm:Nat->Option Blk) (v:Value):Bool:=
 aggK v (fun l=>Nat.beq l.length 22&&(isI (nV 0 l)&&(isPt (cKey l)&&(isT (nV 10 l)&&(isI (nV 13 l)&&(isPrf (cPrf l) &&
  ((srcB mm k32 (nV 11 l)).1&&(okSl (srcB mm k32 (nV 11 l)).2.1 (srcB mm k32 (nV 11 l)).2.2&&((srcB mm kP9 (nV 12 l)).1&&okP (srcB mm kP9 (nV 12 l)).2.1 (srcB mm kP9 (nV 12 l)).2.2))))))))) false
def unA (mm:Nat->Option Blk) (v:Value):AR:=
 ⟨inV (nV 0 v.cells.toList),unPt (cKey v.cells.toList),teV (nV 10 v.cells.toList),(srcB mm k32 (nV 11 v.cells.toList)).2.1,slA (srcB mm k32 (nV 11 v.cells.toList)).2.2,
  (srcB mm kP9 (nV 12 v.cells.toList)).2.1,pA (srcB mm kP9 (nV 12 v.cells.toList)).2.2,inV (nV 13 v.cells.toList),unPrf (cPrf v.cells.toList)⟩
def acV (k:Int) (K:RP) (lab:ByteArray) (s c:Value) (g:Int) (X:Nat×Nat):Value:=.agg (acC k K lab s c g X).toArray
def acA (k:Int) (K:RP) (lab:ByteArray) (n:Nat) (f:Nat->List Value) (m:Nat) (h:Nat->List Value) (g:Int) (X:Nat×Nat):List AC:=
 .pl (i64 k)::((ptC K).map .pl++(.pl (.string lab)::.sl k32 n f::.sl kP9 m h::.pl (i64 g)::(prL X).map .pl))
theorem isA_some {mm:Nat->Option Blk}{v:Value}(h:isA mm v=true):∃k K lab s c g X n f m q,v=acV k K lab s c g X∧okR K∧X.1<2^256∧X.2<2^256∧
  srcB mm k32 s=(true,n,f)∧okSl n f=true∧srcB mm kP9 c=(true,m,q)∧okP m q=true∧unA mm v=⟨k,K,lab,n,slA f,m,pA q,g,X⟩:=by
 unfold isA aggK at h
 split at h
 ·rename_i cs
  obtain ⟨l,hc⟩:∃l,cs=List.toArray l:=⟨cs.toList,by simp⟩
  subst hc
  rw[List.toList_toArray]at h
  simp only[Bool.and_eq_true]at h
  obtain ⟨hl,h0,hK,hT,hg,hX,h1,h2,h3,h4⟩:=h
  have hl:l.length=22:=nbeq.1 hl
  match l,hl with
  | [c0,c1,c2,c3,c4,c5,c6,c7,c8,c9,c10,c11,c12,c13,c14,c15,c16,c17,c18,c19,c20,c21],_=>
   obtain ⟨k,e0⟩:∃k,c0=i64 k:=by
    have h0:isI c0=true:=h0
    unfold isI at h0
    split at h0
    ·exact⟨_,rfl⟩
    ·cases h0
   obtain ⟨lab,e1⟩:∃lab,c10=.string lab:=by
    have h0:isT c10=true:=hT
    unfold isT at h0
    split at h0
    ·exact⟨_,rfl⟩
    ·cases h0
   obtain ⟨g,e2⟩:∃k,c13=i64 k:=by
    have h0:isI c13=true:=hg
    unfold isI at h0
    split at h0
    ·exact⟨_,rfl⟩
    ·cases h0
   obtain ⟨K,oK,eK⟩:=isPt_some hK
   obtain ⟨X,oX,eX⟩:=isPrf_some hX
   have eK1:[c1,c2,c3,c4,c5,c6,c7,c8,c9]=ptC K:=congrArg (fun v:Value=>v.cells.toList) eK
   have eX1:[c14,c15,c16,c17,c18,c19,c20,c21]=prL X:=congrArg (fun v:Value=>v.cells.toList) eX
   have hv:Value.agg [c0,c1,c2,c3,c4,c5,c6,c7,c8,c9,c10,c11,c12,c13,c14,c15,c16,c17,c18,c19,c20,c21].toArray=acV k K lab c11 c12 g X:=by
    unfold acV
    congr 2
    show[c0]++([c1,c2,c3,c4,c5,c6,c7,c8,c9]++([c10]++(c11::c12::([c13]++[c14,c15,c16,c17,c18,c19,c20,c21]))))=_
    rw[e0,e1,e2,eK1,eX1];rfl
   refine⟨k,K,lab,c11,c12,g,X,(srcB mm k32 c11).2.1,(srcB mm k32 c11).2.2,(srcB mm kP9 c12).2.1,(srcB mm kP9 c12).2.2,hv,oK,oX.1,oX.2,?_,h2,?_,h4,?_⟩
   ·rw[<-show(srcB mm k32 c11).1=true from h1]
   ·rw[<-show(srcB mm kP9 c12).1=true from h3]
   ·show(⟨inV c0,unPt (cKey [c0,c1,c2,c3,c4,c5,c6,c7,c8,c9,c10,c11,c12,c13,c14,c15,c16,c17,c18,c19,c20,c21]),teV c10,_,_,_,_,inV c13,unPrf (cPrf [c0,c1,c2,c3,c4,c5,c6,c7,c8,c9,c10,c11,c12,c13,c14,c15,c16,c17,c18,c19,c20,c21])⟩:AR)=_
    rw[eK,eX,unPt_ptV oK,unPrf_prV oX.1 oX.2,e0,e1,e2];rfl
 ·cases h
theorem acA_ok {mm:Nat->Option Blk}{k:Int}{K:RP}{lab:ByteArray}{s c:Value}{g:Int}{X:Nat×Nat}{n m:Nat}{f q:Nat->List Value}(hs:srcB mm k32 s=(true,n,f)) (hc:srcB mm kP9 c=(true,m,q)):
  agOk mm (acC k K lab s c g X) (acA k K lab n f m q g X):=by
 have p:∀{u:Value}{l:List Value}{L:List AC},pl0 u=true->agOk mm l L->agOk mm (u::l) (.pl u::L):=fun hu h=>⟨⟨rfl,fun _ e=>by cases e;exact hu⟩,h⟩
 refine p rfl (p rfl (p rfl (p rfl (p rfl (p rfl (p rfl (p rfl (p rfl (p rfl (p rfl ⟨⟨hs,fun _ e=>by cases e⟩,⟨hc,fun _ e=>by cases e⟩,p rfl (p rfl (p rfl (p rfl (p rfl (p rfl (p rfl (p rfl (p rfl trivial))))))))⟩))))))))))
theorem int_beq (a b:Int):(a==b)=decide (a=b):=by rw[Bool.eq_iff_iff,beq_iff_eq,decide_eq_true_eq]
noncomputable def smA (x y:AR):Bool:=decide (x.k=y.k)&&decide (x.K=y.K)&&decide (x.l=y.l)&&eqN x.n x.S y.n y.S&&eqN x.m x.V y.m y.V&&decide (x.g=y.g)&&decide (x.X=y.X)
noncomputable def ActF:List Value->(Nat->Option Blk)->Nat->List (Bool×Value×List (Nat×Blk))
 | [a,b],mm,_=>[(isA mm a&&isA mm b,.bool (smA (unA mm a) (unA mm b)),[])]
 | _,_,_=>[]
def whN (n:Nat):Bool:=(Nat.ble n n&&true)&&Nat.ble n n
theorem whN_true (n:Nat):whN n=true:=by unfold whN;rw[Nat.ble_eq_true_of_le (Nat.le_refl n)];rfl
def flsM:Option (Value×List (Nat×Blk)):=some (.bool false,[])
noncomputable def kacT (k:Int) (i:Bool) (x y:Nat) (lab:ByteArray) (n:Nat) (f:Nat->List Value) (m:Nat) (h:Nat->List Value) (g:Int) (c r:Nat)
  (k2:Int) (i2:Bool) (x2 y2:Nat) (lab2:ByteArray) (n2:Nat) (f2:Nat->List Value) (m2:Nat) (h2:Nat->List Value) (g2:Int) (c2 r2:Nat):Option (Value×List (Nat×Blk)):=
 bif k==k2 then req (isPt (ptV (i,x,y))&&isPt (ptV (i2,x2,y2))) (bif decide (unPt (ptV (i,x,y))=unPt (ptV (i2,x2,y2))) then (bif lab==lab2 then
  req (whN n&&whN n2&&okSl n (sg32 n f)&&okSl n2 (sg32 n2 f2)) (bif eqN n (slA (sg32 n f)) n2 (slA (sg32 n2 f2)) then
  req (whN m&&whN m2&&okP m (sg9 m h)&&okP m2 (sg9 m2 h2)) (bif eqN m (pA (sg9 m h)) m2 (pA (sg9 m2 h2)) then (bif g==g2 then
  req (isPrf (prV c r)&&isPrf (prV c2 r2)) (some (.bool (decide (unPrf (prV c r)=unPrf (prV c2 r2))),[])) else flsM) else flsM) else flsM) else flsM) else flsM) else flsM
theorem kacT_eq {k:Int}{K:RP}{lab:ByteArray}{n:Nat}{f:Nat->List Value}{m:Nat}{h:Nat->List Value}{g:Int}{X:Nat×Nat}{k2:Int}{K2:RP}{lab2:ByteArray}{n2:Nat}{f2:Nat->List Value}{m2:Nat}{h2:Nat->List Value}{g2:Int}{X2:Nat×Nat}
  (oK:okR K) (oX:X.1<2^256) (oX':X.2<2^256) (o1:okSl n f=true) (o2:okP m h=true) (pK:okR K2) (pX:X2.1<2^256) (pX':X2.2<2^256) (p1:okSl n2 f2=true) (p2:okP m2 h2=true):
  kacT k K.1 K.2.1 K.2.2 lab n f m h g X.1 X.2 k2 K2.1 K2.2.1 K2.2.2 lab2 n2 f2 m2 h2 g2 X2.1 X2.2=some (.bool (smA ⟨k,K,lab,n,slA f,m,pA h,g,X⟩ ⟨k2,K2,lab2,n2,slA f2,m2,pA h2,g2,X2⟩),[]):=by
 unfold kacT smA flsM
 rw[isPt_ptV,isPt_ptV,isPrf_prV,isPrf_prV,okSl_sg,okSl_sg,okP_sg,okP_sg,slA_sg,slA_sg,pA_sg,pA_sg,whN_true,whN_true,whN_true,whN_true,o1,o2,p1,p2,req_true (b:=true&&true) rfl,req_true (b:=true&&true&&true&&true) rfl,req_true (b:=true&&true&&true&&true) rfl,req_true (b:=true&&true) rfl]
 rw[unPt_ptV (show okR (K.1,K.2.1,K.2.2) from oK),unPt_ptV (show okR (K2.1,K2.2.1,K2.2.2) from pK),unPrf_prV oX oX',unPrf_prV pX pX',txt_eq,int_beq,int_beq]
 cases decide (k=k2)<;>cases decide ((K.1,K.2.1,K.2.2)=(K2.1,K2.2.1,K2.2.2))<;>cases decide (lab=lab2)<;>cases eqN n (slA f) n2 (slA f2)<;>cases eqN m (pA h) m2 (pA h2)<;>cases decide (g=g2)<;>cases decide ((X.1,X.2)=(X2.1,X2.2))<;>rfl
end Go.W

namespace Go.W
noncomputable def RpsF:List Value->(Nat->Option Blk)->Nat->List (Bool×Value×List (Nat×Blk))
 | [l],mm,_=>[((srcB mm kP9 l).1&&okP (srcB mm kP9 l).2.1 (srcB mm kP9 l).2.2,.bool (alP (pA (srcB mm kP9 l).2.2) (srcB mm kP9 l).2.1),[])]
 | _,_,_=>[]
end Go.W

namespace Go.W
open Go.RowKit (Below)
section
variable {R:Type}
def expR (mem:Nat->Option Blk) (id j:Nat) (v:Value) (k:Value->List (Nat×Blk)->R) (f:R):R:=
 match v with
 | .slice (some ⟨x,off,none⟩) n c=>oK (mem x) (fun blk=>match blk.cells with
  | .tail b l cnt sz=>bif Nat.beq b 1500000&&Nat.beq off 0&&loose x then k (.slice (some ⟨nid id 0,0,none⟩) n c) [(nid id 0,⟨.tail j l cnt sz,blk.elem,false⟩)] else f
  | _=>expX mem id v k f) f
 | v=>bif noTT v then expX mem id v k f else f
def objK (mem:Nat->Option Blk) (m:Nat) (e:TypeId) (k:List Value->R) (f:R):R:=
 oK (mem 1000000) (fun blk=>match blk.cells with
  | .lst (.slice (some ⟨a,o,none⟩) n' c'::z)=>bif blk.own&&Nat.beq blk.elem e&&Nat.beq a 1500000&&Nat.beq o 0&&Nat.beq n' m&&Nat.beq c' m&&z.all pl0 then k z else f
  | _=>f) f
end
def fnR (C:Cfg) (fuel:Nat) (fn:Func) (c:Code) (args:List Value) (mem:List (Nat×Blk)) (next id j m:Nat) (e:TypeId):Option (Value×List (Nat×Blk)×List Value):=
 evK C fuel [] c ⟨argSlots 0 args,mem,next⟩ (fun ex s=>endK C.T fn ex s (fun v=>objK (look s.mem) m e (fun z=>expR (look s.mem) id j v (fun u l=>some (u,l,z)) none) none) none) none
theorem objK_some {β:Type}{mem:Nat->Option Blk}{m:Nat}{e:TypeId}{k:List Value->Option β}{r:β}(h:objK mem m e k none=some r):
  ∃z,mem 1000000=some ⟨.lst (.slice (some ⟨1500000,0,none⟩) m m::z),e,true⟩∧z.all pl0=true∧k z=some r:=by
 unfold objK at h
 have h0:=oK_some.1 h
 clear h
 obtain ⟨blk,hb,h⟩:=h0
 obtain ⟨cells,e1,own⟩:=blk
 dsimp only at h
 split at h
 ·rename_i a o n' c' z
  have h1:=cond_some.1 h
  clear h
  obtain ⟨hc,h⟩:=h1
  simp only[Bool.and_eq_true]at hc
  obtain ⟨⟨⟨⟨⟨⟨h1,h2⟩,h3⟩,h4⟩,h5⟩,h6⟩,h7⟩:=hc
  have h2:=nbeq.1 h2
  have h3:=nbeq.1 h3
  have h4:=nbeq.1 h4
  have h5:=nbeq.1 h5
  have h6:=nbeq.1 h6
  subst h1 h2 h3 h4 h5
  rw[h6]at hb
  exact⟨z,hb,h7,h⟩
 ·simp at h
def RobF (pi pj:Pl) (i:Nat) (q:Pl):Prop:=(i=1000000∧q=pi)∨(i=1500000∧q=pj)
section
variable {GL:Glob}{w0:Wb GL}{R:Nat->Pl->Prop}{fm:Nat->Option Blk}{w:World}
theorem rd_rel (h:MRel w0 R fm w){i j:Nat}{pi pj:Pl}{b':Nat}(hpi:R i pi) (hpj:R j pj) (hij:i≠j) (hpa:pi.a=some b') (hlj:loose j=true){e ej:TypeId}{ks:List CK}{m c:Nat}{g:Nat->List Value}{rest:List Value}(hr:rest.all pl0=true) (hmc:m<=c)
  (hi:fm i=some ⟨.lst (.slice (some ⟨j,0,none⟩) m c::rest),e,true⟩) (hj:fm j=some ⟨.row ks m g,ej,false⟩) (hgl:∀x∈GL,pi.a≠some x.1):
  MRel (⟨w,fun k=>pi.a=some k,RobF pi pj⟩:Wb GL) (RobF pi pj) (look [(1000000,⟨.lst (.slice (some ⟨1500000,0,none⟩) m m::rest),e,true⟩),(1500000,⟨.row ks m g,ej,false⟩)]) w:=by
 have hmem:∀x blk,look [(1000000,(⟨.lst (.slice (some ⟨1500000,0,none⟩) m m::rest),e,true⟩:Blk)),(1500000,⟨.row ks m g,ej,false⟩)] x=some blk->(x=1000000∧blk=⟨.lst (.slice (some ⟨1500000,0,none⟩) m m::rest),e,true⟩)∨(x=1500000∧blk=⟨.row ks m g,ej,false⟩):=by
  intro x blk hx
  rw[look_cons]at hx
  by_cases e1:1000000=x
  ·subst e1;rw[upd_same]at hx;cases hx;exact .inl ⟨rfl,rfl⟩
  rw[upd_ne _ _ e1,look_cons]at hx
  by_cases e2:1500000=x
  ·subst e2;rw[upd_same]at hx;cases hx;exact .inr ⟨rfl,rfl⟩
  rw[upd_ne _ _ e2]at hx;simp[look]at hx
 have hfun:∀x q q',RobF pi pj x q->RobF pi pj x q'->q=q':=by
  rintro x q q' (⟨rfl,rfl⟩|⟨rfl,rfl⟩) (⟨h5,rfl⟩|⟨h5,rfl⟩)<;>first|rfl|omega
 obtain ⟨p',hp',hci⟩:=memOk_lst h hi
 have:=h.func _ _ _ hpi hp';subst this
 rw[hpa]at hci
 obtain ⟨cs,fz,k1,k2,k3⟩:=hci
 obtain ⟨hfz,_,_⟩:=k3 rfl
 refine⟨BelowX.refl _ _ _ h.below.gok (fun x hx h=>hgl x hx h),hfun,?_,?_,?_,fun _ _ h _ _=>h,?_,?_⟩
 ·intro x y q q' b hq hq' ha hb hne blk hblk hown blk' hblk'
  rcases hmem x blk hblk with⟨rfl,rfl⟩|⟨rfl,rfl⟩
  ·rcases hmem y blk' hblk' with⟨rfl,rfl⟩|⟨rfl,rfl⟩
   ·exact absurd rfl hne
   ·have e1:=hfun _ _ _ hq (.inl ⟨rfl,rfl⟩)
    have e2:=hfun _ _ _ hq' (.inr ⟨rfl,rfl⟩)
    subst e1 e2
    exact⟨rfl,(h.inj _ _ _ _ _ hpi hpj ha hb hij _ hi rfl _ hj).2⟩
  ·simp at hown
 ·intro x blk hx
  rcases hmem x blk hx with⟨rfl,rfl⟩|⟨rfl,rfl⟩
  ·refine⟨pi,.inl ⟨rfl,rfl⟩,?_⟩
   rw[hpa]
   refine⟨cs,fz,k1,?_,fun _=>⟨hfz,.inl rfl,fun h=>by simp[loose]at h⟩⟩
      -- its cells
   have k2:LR (V0 R) (.slice (some ⟨j,0,none⟩) m c::rest) ((cs.toList.drop pi.d).take (rest.length+1)):=k2
   show LR (V0 (RobF pi pj)) (.slice (some ⟨1500000,0,none⟩) m m::rest) ((cs.toList.drop pi.d).take (rest.length+1))
   revert k2
   generalize (cs.toList.drop pi.d).take (rest.length+1)=us
   intro k2
   match us,k2 with
   | u::us,k2=>
    obtain ⟨q,hq,hsl⟩:∃q,R j q∧SlOk ⟨j,0,none⟩ m c q u:=k2.1
    have:=h.func _ _ _ hpj hq;subst this
    obtain ⟨_,hcc,hcase⟩:=SlOk_loose hlj hsl
    refine⟨⟨pj,.inr ⟨rfl,rfl⟩,?_⟩,(LR_plain (r:=V0 (RobF pi pj)) (pl:=pl0) (fun _ _ hv=>V0_plain hv) hr).2 ((LR_plain (r:=V0 R) (pl:=pl0) (fun _ _ hv=>V0_plain hv) hr).1 k2.2)⟩
    unfold SlOk
    rw[if_pos (show loose 1500000=true by decide)]
    refine⟨rfl,rfl,by omega,?_⟩
    rcases hcase with⟨b,hqa,hv'⟩|⟨hqa,hm0,hc0,hv'⟩
    ·rw[hqa];exact hv'
    ·rw[hqa];exact⟨hm0,hc0,hv'⟩
   | [],k2=>exact k2.elim
  ·obtain ⟨p',hp',hcj⟩:ContOk w0 R w j ⟨.row ks m g,ej,false⟩:=h.mem j _ hj
   have:=h.func _ _ _ hpj hp';subst this
   refine⟨pj,.inr ⟨rfl,rfl⟩,?_⟩
   cases hqa:pj.a with
   | none=>rw[hqa]at hcj;exact hcj
   | some b=>
    rw[hqa]at hcj
    obtain ⟨cs2,fz2,q1,q2,_⟩:=hcj
    have q2:LP R (rowL ks g 0 m) (cs2.toList.drop pj.d):=q2
    have:=(LR_plain (r:=V0 R) (pl:=pl0) (fun _ _ hv=>V0_plain hv) (rowL_pl ks g m 0)).1 q2
    exact⟨cs2,fz2,q1,LP_plain (rowL_pl _ _ _ _) this,fun ho=>by simp at ho⟩
 ·rintro x q (⟨rfl,rfl⟩|⟨rfl,rfl⟩) _
  ·rw[look_cons,upd_same];rfl
  ·rw[look_cons,upd_ne _ _ (by omega),look_cons,upd_same];rfl
 ·rintro x q b (⟨rfl,rfl⟩|⟨rfl,rfl⟩) hb
  ·rw[hpa]at hb;cases hb;exact .inl ⟨cs,e,_,k1⟩
  ·exact .inl ((h.there _ _ _ hpj hb).loose hlj)
 ·rintro x q (⟨rfl,rfl⟩|⟨rfl,rfl⟩) hge<;>omega
end
section
variable {P:Program} [Laid P]
theorem msum_rd {g:FuncId}{fn:Func}{c:Code}(hf:P.funcs[g]?=some fn) (hname:(fn.name=="runtime.NumGoroutine")=false) (hb:fn.body=some c){fuel next:Nat}
  {w0:Wb (lay P)}{R:Nat->Pl->Prop}{fm:Nat->Option Blk}{w:World}(hm:MRel w0 R fm w){i j:Nat}{vs args':List Value}(hl:LR (V2 R) (.pointer (some ⟨i,0,none⟩)::vs) args') (hvs:vs.all pl2=true){mm:Nat->Option Blk}(hsub:∀b blk,mm b=some blk->fm b=some blk){id:Nat}(hlt:id<60000)
  {e ej:TypeId}{ks:List CK}{m cc:Nat}{gj:Nat->List Value}{rest:List Value}(hr:rest.all pl0=true) (hmc:m<=cc) (hij:i≠j) (hli:loose i=false) (hlj:loose j=true)
  (hi0:mm i=some ⟨.lst (.slice (some ⟨j,0,none⟩) m cc::rest),e,true⟩) (hj0:mm j=some ⟨.row ks m gj,ej,false⟩) (hlen:vs.length+1<=fn.ntmps){v:Value}{l:List (Nat×Blk)}{z:List Value}(hnew:∀p∈l,fm p.1=none)
  (hev:∃C,CfgOk P C c∧C.n=fn.ntmps∧fnR C fuel fn c (.pointer (some ⟨1000000,0,none⟩)::vs) [(1000000,⟨.lst (.slice (some ⟨1500000,0,none⟩) m m::rest),e,true⟩),(1500000,⟨.row ks m gj,ej,false⟩)] next id j m e=some (v,l,z)):
  Invokes P g args'.toArray w fun v' w'=>∃R':Nat->Pl->Prop,(∀i p,R i p->R' i p)∧V2 R' v v'∧MRel w0 R' (memF (upd fm i ⟨.lst (.slice (some ⟨j,0,none⟩) m cc::z),e,true⟩) l) w':=by
 have hne:fn.name≠"runtime.NumGoroutine":=by simpa using hname
 have hrun:(callFunc g args'.toArray).run P w=.ok (.enter g args'.toArray) w:=by simp[callFunc,hf,hne,hb]
 unfold Invokes
 rw[hrun]
 have hi:=hsub _ _ hi0
 have hj:=hsub _ _ hj0
 match args',hl with
 | [],hl=>exact hl.elim
 | v0'::args1',hl=>
 have hvs':args1'=vs:=(LR_plain (r:=V2 R) (pl:=pl2) (fun _ _ hv=>V2_plain hv) hvs).1 hl.2
 subst hvs'
 obtain ⟨pi,b',hpi,hpa,rfl⟩:=V2_ptr hl.1
 obtain ⟨pj,hpj⟩:∃pj,R j pj:=by
  obtain ⟨pj,hpj,_⟩:ContOk w0 R w j ⟨.row ks m gj,ej,false⟩:=hm.mem j _ hj
  exact⟨pj,hpj⟩
 have hown:w0.X b'∨w0.w.heap.size<=b':=hm.ownX hpi hpa hi rfl
 have hgl:∀x∈lay P,pi.a≠some x.1:=by
  intro x hx e1
  obtain ⟨fz1,k1⟩:=hm.below.glob.1 x hx
  have k2:=hm.below.glob.2 x hx
  rw[hpa]at e1
  cases e1
  rcases hown with h5|h5
  ·exact k2 h5
  ·have:=heap_lt k1;omega
 have hmC:=rd_rel hm hpi hpj hij hpa hlj hr hmc hi hj hgl
 obtain ⟨C,hC,hn,hev⟩:=hev
 unfold fnR at hev
 rw[evK_eq,oK_some]at hev
 obtain ⟨⟨ex,s'⟩,he1,he2⟩:=hev
 obtain ⟨vC,he3,he4⟩:∃vC,endK C.T fn ex s' some none=some vC∧objK (look s'.mem) m e (fun z=>expR (look s'.mem) id j vC (fun u l=>some (u,l,z)) none) none=some (v,l,z):=by
  have key:endK C.T fn ex s' (fun v=>objK (look s'.mem) m e (fun z=>expR (look s'.mem) id j v (fun u l=>some (u,l,z)) none) none) none=oK (endK C.T fn ex s' some none) (fun v=>objK (look s'.mem) m e (fun z=>expR (look s'.mem) id j v (fun u l=>some (u,l,z)) none) none) none:=by
   unfold endK
   have key:∀lr:List ResultVar,resK C.T s' lr (fun vs=>oneK vs fun v=>objK (look s'.mem) m e (fun z=>expR (look s'.mem) id j v (fun u l=>some (u,l,z)) none) none) none=oK (resK C.T s' lr (fun vs=>oneK vs some) none) (fun v=>objK (look s'.mem) m e (fun z=>expR (look s'.mem) id j v (fun u l=>some (u,l,z)) none) none) none:=by
    intro lr
    rw[resK_nat (fun o:Option Value=>oK o (fun v=>objK (look s'.mem) m e (fun z=>expR (look s'.mem) id j v (fun u l=>some (u,l,z)) none) none) none)]
    congr 1;funext vs
    exact(oneK_nat (fun o:Option Value=>oK o (fun v=>objK (look s'.mem) m e (fun z=>expR (look s'.mem) id j v (fun u l=>some (u,l,z)) none) none) none) vs some).symm
   cases ex<;>first|exact key _|rfl
  simp only at he2
  rw[key]at he2
  exact oK_some.1 he2
 have hv0:V2 (RobF pi pj) (.pointer (some ⟨1000000,0,none⟩)) (.pointer (some ⟨b',pi.d+0,none⟩)):=⟨pi,b',.inl ⟨rfl,rfl⟩,hpa,rfl⟩
 refine Calls.mono (fn_mem hC hf hb hn hmC (args:=.pointer (some ⟨1000000,0,none⟩)::args1') (args':=.pointer (some ⟨b',pi.d+0,none⟩)::args1') (And.intro hv0 ((LR_plain (r:=V2 (RobF pi pj)) (pl:=pl2) (fun _ _ hv=>V2_plain hv) hvs).2 rfl)) (by rw[List.length_cons];exact hlen) he1 he3) ?_
 rintro ex2 w' ⟨R',v',rfl,hvv,hvt,hm'⟩
 show ∃R2:Nat->Pl->Prop,_∧_∧_
 obtain ⟨z0,hob,hz,he5⟩:=objK_some he4
 have anc:∀x q,R' x q->1000000<=x->x<1000000000->RobF pi pj x q:=fun x q h1 h2 h3=>hm'.anc x q h1 h2 h3
 obtain ⟨p1,hp1,hc1⟩:=memOk_lst hm' hob
 have e1:p1=pi:=by rcases anc _ _ hp1 (by omega) (by omega) with⟨_,h⟩|⟨h,_⟩;exact h;omega
 subst e1
 rw[hpa]at hc1
 obtain ⟨cs',fz',k1,k2,k3⟩:=hc1
 obtain ⟨hfz',_,_⟩:=k3 rfl
  -- the caller's struct
 obtain ⟨p2,hp2,hci⟩:=memOk_lst hm hi
 have:=hm.func _ _ _ hpi hp2;subst this
 rw[hpa]at hci
 obtain ⟨cs,fz,g1,g2,g3⟩:=hci
 have hcells:LP R (.slice (some ⟨j,0,none⟩) m cc::z0) (cs'.toList.drop p1.d):=by
  have k2:LR (V0 R') (.slice (some ⟨1500000,0,none⟩) m m::z0) ((cs'.toList.drop p1.d).take (z0.length+1)):=k2
  have g2:LR (V0 R) (.slice (some ⟨j,0,none⟩) m cc::rest) ((cs.toList.drop p1.d).take (rest.length+1)):=g2
  show LR (V0 R) (.slice (some ⟨j,0,none⟩) m cc::z0) ((cs'.toList.drop p1.d).take (z0.length+1))
  revert k2 g2
  generalize (cs'.toList.drop p1.d).take (z0.length+1)=us
  generalize (cs.toList.drop p1.d).take (rest.length+1)=us0
  intro k2 g2
  match us,us0,k2,g2 with
  | u::us,u0::us0,k2,g2=>
   obtain ⟨q0,hq0,hsl0⟩:∃q,R j q∧SlOk ⟨j,0,none⟩ m cc q u0:=g2.1
   have:=hm.func _ _ _ hpj hq0;subst this
   obtain ⟨_,hcc0,_⟩:=SlOk_loose hlj hsl0
   obtain ⟨q,hq,hsl⟩:∃q,R' 1500000 q∧SlOk ⟨1500000,0,none⟩ m m q u:=k2.1
   have e2:q=pj:=by rcases anc _ _ hq (by omega) (by omega) with⟨h,_⟩|⟨_,h⟩;omega;exact h
   subst e2
   obtain ⟨_,_,hcase⟩:=SlOk_loose (by decide) hsl
   refine⟨⟨q,hpj,?_⟩,(LR_plain (r:=V0 R) (pl:=pl0) (fun _ _ hv=>V0_plain hv) hz).2 ((LR_plain (r:=V0 R') (pl:=pl0) (fun _ _ hv=>V0_plain hv) hz).1 k2.2)⟩
   unfold SlOk
   rw[if_pos hlj]
   refine⟨rfl,rfl,hcc0,?_⟩
   rcases hcase with⟨b,hqa,hv'⟩|⟨hqa,hm0,hc0,hv'⟩
   ·rw[hqa];exact hv'
   ·rw[hqa];exact⟨hm0,hc0,hv'⟩
  | [],_,k2,_=>exact k2.elim
  | _::_,[],_,g2=>exact g2.elim
 have hw:=hm.write hi hpi hpa rfl g1 hown (c:=.lst (.slice (some ⟨j,0,none⟩) m cc::z0)) (cs:=cs') nofun nofun nofun hcells (fun h=>by rw[hli]at h;simp at h) hfz'
 have hbl:=hm'.below
 have hm2:MRel w0 R (upd fm i ⟨.lst (.slice (some ⟨j,0,none⟩) m cc::z0),e,true⟩) w':=by
  refine hw.world ⟨hbl.os,hbl.tape,hbl.output,by simpa [setBlk] using hbl.size,fun k hk=>?_⟩
  have hk2:k<w.heap.size:=by simpa [setBlk] using hk
  by_cases hkb:k=b'
  ·subst hkb
   rw[k1]
   exact(setBlk_same (w:=w) (o:=.cells cs' e fz') hk2).symm
  ·rw[hbl.block k hk2 (fun h=>by rw[hpa]at h;exact hkb (Option.some.inj h).symm)]
   simp only[setBlk];rw[Array.getElem?_setIfInBounds_ne (fun h=>hkb h.symm)]
 have hlt0:∀x p b,R x p->p.a=some b->b<w.heap.size:=fun x p b h1 h2=>hm.lt h1 h2
 have hX:∀x p b blk,R' x p->p.a=some b->look s'.mem x=some blk->blk.own=true->x<1000000->¬(⟨w,fun k=>p1.a=some k,RobF p1 pj⟩:Wb (lay P)).X b:=by
  intro x p b blk h1 h2 h3 h4 h5 h6
  have h6:p1.a=some b:=h6
  have:=(hm'.inj _ _ _ _ _ hp1 h1 h6 h2 (by omega) _ hob rfl blk h3).1
  rw[h4]at this;simp at this
 have hfree2:∀p∈l,upd fm i ⟨.lst (.slice (some ⟨j,0,none⟩) m cc::z0),e,true⟩ p.1=none:=by
  intro p hp
  have h1:=hnew p hp
  have:i≠p.1:=fun e=>by rw[<-e,hi]at h1;simp at h1
  rw[upd_ne _ _ this];exact h1
  -- the answer
 have std:∀u l2,l2=l->(∀vs,vC=.tuple vs->vs.toList.all notTup=true)->expX (look s'.mem) id vC (fun a b=>some (a,b)) none=some (u,l2)->∃R2:Nat->Pl->Prop,(∀i p,R i p->R2 i p)∧V2 R2 u v'∧MRel w0 R2 (memF (upd fm i ⟨.lst (.slice (some ⟨j,0,none⟩) m cc::z0),e,true⟩) l2) w':=by
  intro u l2 hl2 hnt hx
  subst hl2
  exact expX_ok2 hm2 hlt0 hm.below.size hm' rfl hX hlt hvv hvt hnt hx hfree2
 have expX3:∀{vC:Value},expX (look s'.mem) id vC (fun u l=>some (u,l,z0)) none=some (v,l,z)->z0=z∧expX (look s'.mem) id vC (fun a b=>some (a,b)) none=some (v,l):=by
  intro vC hx
  have:expX (look s'.mem) id vC (fun u l=>some (u,l,z0)) none=oK (expX (look s'.mem) id vC (fun a b=>some (a,b)) none) (fun q=>some (q.1,q.2,z0)) none:=(expX_nat (fun o:Option (Value×List (Nat×Blk))=>oK o (fun q=>some (q.1,q.2,z0)) none) (look s'.mem) id vC (fun a b=>some (a,b)) none).symm
  rw[this]at hx
  obtain ⟨q,h1,h2⟩:=oK_some.1 hx
  simp only[Option.some.injEq,Prod.mk.injEq]at h2
  obtain ⟨rfl,rfl,rfl⟩:=h2
  exact⟨rfl,h1⟩
 unfold expR at he5
 split at he5
 ·rename_i x off n c1
  have h1:=oK_some.1 he5
  clear he5
  obtain ⟨blk,hbx,he5⟩:=h1
  obtain ⟨cells,ex1,ownx⟩:=blk
  dsimp only at he5
  split at he5
  ·rename_i b l0 cnt sz
   have h1:=cond_some.1 he5
   clear he5
   obtain ⟨hc,he5⟩:=h1
   simp only[Bool.and_eq_true]at hc
   obtain ⟨⟨h1,h2⟩,h3⟩:=hc
   have h1:=nbeq.1 h1
   have h2:=nbeq.1 h2
   simp only[Option.some.injEq,Prod.mk.injEq]at he5
   obtain ⟨rfl,rfl,rfl⟩:=he5
   rw[h1]at hbx
   rw[h2]at hvv
   have hnid:=hfree2 _ (List.mem_singleton.2 rfl)
   obtain ⟨q,hq,hsl⟩:=V2_slice (hvv nofun)
   obtain ⟨pb,q',hpb,hq',hcase,_⟩:∃p q,R' 1500000 p∧R' x q∧(cnt=0∨(q.a=p.a∧q.d=p.d+l0*sz∧q.c+l0<=p.c))∧ownx=false:=hm'.mem x _ hbx
   have:=hm'.func _ _ _ hq hq';subst this
   have e2:pb=pj:=by rcases anc _ _ hpb (by omega) (by omega) with⟨h,_⟩|⟨_,h⟩;omega;exact h
   subst e2
   obtain ⟨_,hcc2,hcaseq⟩:=SlOk_loose h3 hsl
   refine⟨fun i2 q2=>R i2 q2∨(i2=nid id 0∧q2=q),fun _ _=>.inl,?_,?_⟩
   ·refine⟨q,.inr ⟨rfl,rfl⟩,?_⟩
    unfold SlOk
    rw[if_pos (nid_loose hlt (by omega))]
    refine⟨rfl,rfl,hcc2,?_⟩
    rcases hcaseq with⟨b,hqa,hv'⟩|⟨hqa,hm0,hc0,hv'⟩
    ·rw[hqa];exact hv'
    ·rw[hqa];exact⟨hm0,hc0,hv'⟩
   ·refine hm2.view (q:=q) hnid (nid_lt hlt (by omega)) (.inl ⟨rfl,rfl⟩) (fun b hb=>(hm'.there _ _ _ hq hb).loose h3) ?_
    intro R3 hR3 hR
    exact⟨pb,q,hR3 _ _ hpj,hR,hcase,rfl⟩
  ·obtain ⟨rfl,he6⟩:=expX3 he5
   exact std v l rfl nofun he6
 ·have h1:=cond_some.1 he5
  obtain ⟨h2,h3⟩:=h1
  obtain ⟨rfl,he6⟩:=expX3 h3
  refine std v l rfl ?_ he6
  rintro vs rfl
  exact h2
end
end Go.W
