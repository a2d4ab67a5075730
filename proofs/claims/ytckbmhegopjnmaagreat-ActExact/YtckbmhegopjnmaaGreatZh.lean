/-
  Several texts in one: M108 M109 W44 M123 M124 Yh Ba Bb Vb M86 Vc W45 M127 Yo M125.
-/
import Derived.Test.YtckbmhegopjnmaaGreatZg
namespace Go.W
open Go
section
variable {m:Nat} {g:Nat->List Value} (hg:okY m g=true)
include hg
theorem s1_back {q0:Int×Bool} (hq:inQ m q0):∀{n:Nat} {r:List Nat},stO (lsB m g) (q1I m q0 n)=some r->stO (lsB m g) q0=some (syS (sVl m g q0) n++r)
 | 0,_,h=>h
 | n+1,r,h=>by
  have h1:=(rn_some hg (inQ_1I hq n) h).1
  have:=s1_back hq h1
  rw[this,syS,List.append_assoc];rfl
theorem s1_to {q0:Int×Bool} (hq:inQ m q0) {S:Nat->Nat}:∀{n:Nat} {r:List Nat},(∀j,j<n->S j<2^256)->stO (lsB m g) q0=some (syS S n++r)->stO (lsB m g) (q1I m q0 n)=some r∧∀j,j<n->sVl m g q0 j=S j
 | 0,_,_,h=>⟨h,fun j hj=>absurd hj (Nat.not_lt_zero _)⟩
 | n+1,r,hS,h=>by
  rw[syS,List.append_assoc] at h
  obtain ⟨h1,h2⟩:=s1_to hq (fun j hj=>hS j (by omega)) h
  obtain ⟨h3,h4⟩:=rn_back hg (inQ_1I hq n) (hS n (by omega)) h1
  refine⟨h3,fun j hj=>?_⟩
  by_cases e:j=n
  ·rw[e];exact h4
  ·exact h2 j (by omega)
end
theorem stO_ok {L:List Nat} {q:Int×Bool} {r:List Nat} (h:stO L q=some r):q.2=false:=by
 unfold stO at h
 cases hz:q.2 with
 | false=>rfl
 | true=>rw[hz,if_pos rfl] at h;cases h
theorem src_bs (t32 tP n c:Nat) (F G:Nat->List Value):srcB (look [bsR t32 n F,bcR tP c G]) k32 (bsS n)=(true,n,sg32 n F)∧srcB (look [bsR t32 n F,bcR tP c G]) kP9 (bsC c)=(true,c,sg9 c G):=by
 have e1:srcB (look [bsR t32 n F,bcR tP c G]) k32 (bsS n)=(Nat.beq 0 0&&Nat.ble n n&&ksEq k32 k32&&Nat.ble n n,n,sg32 n F):=rfl
 have e2:srcB (look [bsR t32 n F,bcR tP c G]) kP9 (bsC c)=(Nat.beq 0 0&&Nat.ble c c&&ksEq kP9 kP9&&Nat.ble c c,c,sg9 c G):=rfl
 rw[e1,e2,Nat.ble_eq_true_of_le (Nat.le_refl n),Nat.ble_eq_true_of_le (Nat.le_refl c)]
 exact⟨rfl,rfl⟩
section
variable {m:Nat} {g:Nat->List Value} (hg:okY m g=true)
include hg
end
end Go.W

namespace Go.W
open Go
def rdV2 (id:Nat) (A:AR) (b:Value):Value:=.tuple #[acV A.k A.K A.l (nSk id 0 A.n) (nSk id 1 A.m) A.g A.X,b]
noncomputable def raR (t32 tP id:Nat) (L:List Nat):List (Nat×Blk):=rwA t32 tP id (raA L).n (slF (raA L).S) (raA L).m (ptF (raA L).V)
noncomputable def raE (L:List Nat):Int:=hide (if raB L=true then 0 else 7)
noncomputable def RacF (t32 tP:Nat):List Value->(Nat->Option Blk)->Nat->List (Bool×Value×List (Nat×Blk))
 | [v],mm,id=>[((srcB mm kB v).1&&Nat.ble (srcB mm kB v).2.1 1000000&&okY (srcB mm kB v).2.1 (srcB mm kB v).2.2,rdV2 id (raA (lsB (srcB mm kB v).2.1 (srcB mm kB v).2.2)) (i64 (raE (lsB (srcB mm kB v).2.1 (srcB mm kB v).2.2))),raR t32 tP id (lsB (srcB mm kB v).2.1 (srcB mm kB v).2.2))]
 | _,_,_=>[]
section
open Go.RowKit (Below)
variable {GL:Glob} {w0:Wb GL} {R:Nat->Pl->Prop} {fm:Nat->Option Blk} {w:World}
theorem rd_nil2 {k:Int} {K:RP} {l:ByteArray} {g:Int} {X:Nat×Nat} {b v':Value} (h2:V2 R (.tuple #[acV k K l nilS nilS g X,b]) v') (h3:MRel w0 R fm w) {id:Nat} (hid:id<60000) (f0:fm (nid id 0)=none) (f1:fm (nid id 1)=none) (t32 tP:Nat) (f h:Nat->List Value) :
  ∃R':Nat->Pl->Prop,(∀i p,R i p->R' i p)∧V2 R' (.tuple #[acV k K l (nSk id 0 0) (nSk id 1 0) g X,b]) v'∧MRel w0 R' (memF fm (rwA t32 tP id 0 f 0 h)) w:=by
 obtain ⟨R1,a1,a2,a3⟩:=nil_step h3 hid (k:=0) (by decide) f0 k32 t32 f
 have hne:nid id 0≠nid id 1:=by unfold nid;omega
 obtain ⟨R2,b1,b2,b3⟩:=nil_step a3 hid (k:=1) (by decide) (by rw[upd_ne _ _ hne];exact f1) kP9 tP h
 refine⟨R2,fun i p hp=>b1 _ _ (a1 _ _ hp),?_,b3⟩
 obtain ⟨vs',rfl,hl⟩:=h2
 refine⟨vs',rfl,?_⟩
 have hl:LR (V1 R) [acV k K l nilS nilS g X,b] vs'.toList:=hl
 show LR (V1 R2) [acV k K l (nSk id 0 0) (nSk id 1 0) g X,b] vs'.toList
 revert hl
 generalize vs'.toList=us
 intro hl
 match us,hl with
 | [],h=>exact h.elim
 | [_],h=>exact h.2.elim
 | u::v::us,h =>
  obtain ⟨⟨cs',e1,e2⟩,hb,ht⟩:=h
  refine⟨⟨cs',e1,?_⟩,V1_mono (fun i p hp=>b1 _ _ (a1 _ _ hp)) hb,?_⟩
  ·have c0:LR (V0 R1) ((i64 k::(ptC K++[.string l]))++nilS::(nilS::i64 g::prL X)) cs'.toList:=LR_mono (fun _ _=>V0_mono a1) e2
   have c1:LR (V0 R1) ((i64 k::(ptC K++[.string l]))++nSk id 0 0::(nilS::i64 g::prL X)) cs'.toList:=LR_put a2 c0
   have c2:LR (V0 R2) ((i64 k::(ptC K++[.string l,nSk id 0 0]))++nilS::(i64 g::prL X)) cs'.toList:=LR_mono (fun _ _=>V0_mono b1) c1
   have c3:LR (V0 R2) ((i64 k::(ptC K++[.string l,nSk id 0 0]))++nSk id 1 0::(i64 g::prL X)) cs'.toList:=LR_put b2 c2
   exact c3
  ·cases us with
   | nil=>trivial
   | cons _ _=>exact ht.elim
theorem rd_same {A B:AR} (h:Sam A B) {id:Nat} {b v':Value} (h2:V2 R (rdV2 id A b) v'):V2 R (rdV2 id B b) v':=by
 obtain ⟨e1,e2,e3,e4,e5,e6,e7,e8,e9⟩:=h
 unfold rdV2 at h2 ⊢
 rw[e1,e2,e3,e4,e6,e8,e9] at h2;exact h2
theorem rd_rows {A B:AR} (h:Sam A B) {t32 tP id:Nat} (h3:MRel w0 R (memF fm (rwA t32 tP id A.n (slF A.S) A.m (ptF A.V))) w):MRel w0 R (memF fm (rwA t32 tP id B.n (slF B.S) B.m (ptF B.V))) w:=by
 obtain ⟨e1,e2,e3,e4,e5,e6,e7,e8,e9⟩:=h
 have hne:nid id 1≠nid id 0:=by unfold nid;omega
 unfold rwA at h3 ⊢
 rw[<-e4,<-e6]
 exact h3.recell2 hne (ptF_congr e7) (fun j hj=>by show nrmK k32 (slC (A.S j))=nrmK k32 (slC (B.S j));rw[e5 j hj])
end
section
variable {P:Program} [Laid P]
end
end Go.W

namespace Go.W
open Go.RowKit (Below)
def dedupN:List Nat->List Nat
 | []=>[]
 | x::l=>bif nmem x l then dedupN l else x::dedupN l
def memOf (mm:Nat->Option Blk):List Nat->List (Nat×Blk)
 | []=>[]
 | b::l=>oK (mm b) (fun blk=>(b,blk)::memOf mm l) (memOf mm l)
def inB (blk:Blk):Bool :=
 match blk.cells with
 | .itr _ _=>false
 | .fam _ _ _ _=>!blk.own
 | _=>true
def inOk (mm:Nat->Option Blk) (ds:List Nat) (b:Nat):Bool:=Nat.blt b 1000000000&&oK (mm b) (fun blk=>inB blk&&(idsC blk.cells).all fun x=>nmem x ds) false
def idsT (v:Value):List Nat :=
 match v with
 | .tuple vs=>vs.toList.flatMap idsV
 | v=>idsV v
def numN (id:Nat):Nat->List Nat->Ren
 | _,[]=>[]
 | q,x::r=>(nid id q,x)::numN id (q+1) r
def isOwn (mm:Nat->Option Blk) (b:Nat):Bool:=oK (mm b) (fun blk=>blk.own) false
def ownL (mm:Nat->Option Blk):List Nat->List Nat
 | []=>[]
 | b::l=>bif isOwn mm b then b::ownL mm l else ownL mm l
def isLR:Cells->Bool
 | .lst _=>true
 | .row _ _ _=>true
 | _=>false
def outD (mm:Nat->Option Blk) (mem:Nat->Option Blk) (b:Nat):Bool:=oK (mem b) (fun blk=>oK (mm b) (fun blk0=>Nat.beq blk.elem blk0.elem&&isLR blk.cells) false) false
def outN (mem:Nat->Option Blk) (b:Nat):Bool:=oK (mem b) (fun blk=>match blk.cells with
 | .lst l=>blk.own||l.isEmpty
 | .row _ _ _=>blk.own
 | .tail _ _ _ _=>true
 | _=>false) false
def newN (mem:Nat->Option Blk) (ds:List Nat) (v:Value) (os:List Nat):List Nat:=dedupN ((reach mem (idsT v++os)).filter fun b=>!(nmem b ds))
section
variable {R:Type}
def expN (mm:Nat->Option Blk) (ds os nw:List Nat) (id:Nat) (v:Value) (s:St) (k:Value->List (Nat×Blk)->R) (f:R):R :=
 bif nw.all (outN (look s.mem))&&os.all (outD mm (look s.mem))&&Nat.ble nw.length 8&&renOk (numN id 0 nw++idR ds) then
  oK (ren2 (swapR (numN id 0 nw++idR ds)) v) (fun u=>oK (getMem s (swapR (numN id 0 nw++idR ds)) (numN id 0 nw++idR os)) (fun me=>k u me) f) f else f
def inG (T:Tab) (G:Sums) (n:Nat) (L:List (List Nat×(St->List (Bool×Exit×St)))) (kb:Nat->Bool) (fn:Func) (c:Code) (fuel:Nat) (vs:List Value) (mm:Nat->Option Blk) (ds:List Nat) (id:Nat) (k:Value->List (Nat×Blk)->R) (f:R):R :=
 bif ds.all (inOk mm ds)&&(vs.flatMap idsV).all (fun b=>nmem b ds)&&ds.all kb&&Nat.ble vs.length n&&vs.all notTup then
  evK ⟨T,G,n,L⟩ fuel [] c ⟨argSlots 0 vs,memOf mm ds,id+1⟩ (fun e s=>endK T fn e s (fun v=>bif noTT v then expN mm ds (ownL mm ds) (newN (look s.mem) ds v (ownL mm ds)) id v s k f else f) f) f else f
end
def inF (T:Tab) (G:Sums) (n:Nat) (L:List (List Nat×(St->List (Bool×Exit×St)))) (kb:Nat->Bool) (fn:Func) (c:Code) (fuel:Nat) (R:Type) (vs:List Value) (mm:Nat->Option Blk) (rd:List Nat) (id:Nat) (k:Value->List (Nat×Blk)->R) (f:R):R :=
 inG T G n L kb fn c fuel vs mm (dedupN rd) id k f
theorem endK_nat {R R':Type} (h:R->R') (T:Tab) (fn:Func) (e:Exit) (s:St) (k:Value->R) (f:R):h (endK T fn e s k f)=endK T fn e s (fun v=>h (k v)) (h f):=by
 cases e<;>simp only[endK,resK_nat h,oneK_nat h]
theorem expN_nat {R R':Type} (h:R->R') (mm:Nat->Option Blk) (ds os nw:List Nat) (id:Nat) (v:Value) (s:St) (k:Value->List (Nat×Blk)->R) (f:R):h (expN mm ds os nw id v s k f)=expN mm ds os nw id v s (fun a b=>h (k a b)) (h f):=by
 simp only[expN,cond_nat h,oK_nat h]
theorem inF_nat (T:Tab) (G:Sums) (n:Nat) (L:List (List Nat×(St->List (Bool×Exit×St)))) (kb:Nat->Bool) (fn:Func) (c:Code) (fuel:Nat) (R R':Type) (h:R->R') (vs:List Value) (mm:Nat->Option Blk) (rd:List Nat) (id:Nat) (k:Value->List (Nat×Blk)->R) (f:R) :
  h (inF T G n L kb fn c fuel R vs mm rd id k f)=inF T G n L kb fn c fuel R' vs mm rd id (fun v l=>h (k v l)) (h f):=by
 simp only[inF,inG,cond_nat h,evK_nat h,endK_nat h,expN_nat h]
def inlL (T:Tab) (G:Sums) (n:Nat) (L:List (List Nat×(St->List (Bool×Exit×St)))) (kb:Nat->Bool) (fn:Func) (c:Code) (fuel:Nat):Ent:=.il (inF T G n L kb fn c fuel) (inF_nat T G n L kb fn c fuel)
def inl (T:Tab) (G:Sums) (n:Nat) (fn:Func) (c:Code):Ent:=inlL T G n [] (fun _=>true) fn c 80
section
variable {R R':Nat->Pl->Prop}
theorem V00_ids {v v':Value} (h:∀b∈idsV00 v,∀p,R b p->R' b p) (hv:V00 R v v'):V00 R' v v':=by
 unfold V00 at hv ⊢
 split at hv
 ·obtain ⟨p,b,h1,h2,h3⟩:=hv;exact⟨p,b,h _ (by simp[idsV00]) _ h1,h2,h3⟩
 ·obtain ⟨p,h1,h2⟩:=hv;exact⟨p,h _ (by simp[idsV00]) _ h1,h2⟩
 ·exact hv
 ·exact hv
 ·exact hv
 ·exact hv
theorem LR_ids {r r':Value->Value->Prop} {ids:Value->List Nat} (hr:∀v v',(∀b∈ids v,∀p,R b p->R' b p)->r v v'->r' v v'):∀{l l':List Value},(∀b∈l.flatMap ids,∀p,R b p->R' b p)->LR r l l'->LR r' l l'
 | [],[],_,_=>trivial
 | v::l,v'::l',h,hl=>⟨hr v v' (fun b hb=>h b (by rw[List.flatMap_cons];exact List.mem_append_left _ hb)) hl.1,LR_ids hr (fun b hb=>h b (by rw[List.flatMap_cons];exact List.mem_append_right _ hb)) hl.2⟩
 | [],_::_,_,hl=>hl.elim
 | _::_,[],_,hl=>hl.elim
theorem cells_one {v:Value} (h:∀cs,v≠.agg cs):v.cells=#[v]:=by
 unfold Value.cells;split
 ·exact absurd rfl (h _)
 ·rfl
theorem VI_ids {v v':Value} (h:∀b∈v.cells.toList.flatMap idsV00,∀p,R b p->R' b p) (hv:VI R v v'):VI R' v v':=by
 by_cases hag:∃cs,v=.agg cs
 ·obtain ⟨cs,rfl⟩:=hag
  obtain ⟨cs',rfl,hl⟩:=hv
  exact⟨cs',rfl,LR_ids (r:=V00 R) (r':=V00 R') (fun _ _=>V00_ids) h hl⟩
 ·have hne:∀cs,v≠.agg cs:=fun cs e=>hag ⟨cs,e⟩
  have e:∀Q,VI Q v v'=V00 Q v v':=by
   intro Q;unfold VI;split
   ·exact absurd rfl (hne _)
   ·rfl
  rw[e] at hv ⊢
  refine V00_ids (fun b hb=>h b ?_) hv
  rw[cells_one hne]
  simpa using hb
theorem V0_ids {v v':Value} (h:∀b∈idsV0 v,∀p,R b p->R' b p) (hv:V0 R v v'):V0 R' v v':=by
 unfold V0 at hv ⊢
 split at hv
 ·obtain ⟨p,b,h1,h2,h3⟩:=hv;exact⟨p,b,h _ (by simp[idsV0]) _ h1,h2,h3⟩
 ·obtain ⟨p,h1,h2⟩:=hv;exact⟨p,h _ (by simp[idsV0]) _ h1,h2⟩
 ·exact hv
 ·exact hv
 ·obtain ⟨x',rfl,hx⟩:=hv;exact⟨x',rfl,VI_ids h hx⟩
 ·exact hv
theorem V1_ids {v v':Value} (h:∀b∈idsV v,∀p,R b p->R' b p) (hv:V1 R v v'):V1 R' v v':=by
 by_cases hag:∃cs,v=.agg cs
 ·obtain ⟨cs,rfl⟩:=hag
  obtain ⟨cs',rfl,hl⟩:=hv
  exact⟨cs',rfl,LR_ids (r:=V0 R) (r':=V0 R') (fun _ _=>V0_ids) h hl⟩
 ·have hne:∀cs,v≠.agg cs:=fun cs e=>hag ⟨cs,e⟩
  have e:∀Q,V1 Q v v'=V0 Q v v':=by
   intro Q;unfold V1;split
   ·exact absurd rfl (hne _)
   ·rfl
  have e2:idsV v=idsV0 v:=by
   unfold idsV;split
   ·exact absurd rfl (hne _)
   ·rfl
  rw[e] at hv ⊢
  rw[e2] at h
  exact V0_ids h hv
theorem V2_ids {v v':Value} (ht:notTup v=true) (h:∀b∈idsV v,∀p,R b p->R' b p) (hv:V2 R v v'):V2 R' v v':=V2_of_V1 (V1_ids h (V1_of_V2 hv ht))
end
theorem memOf_look {mm:Nat->Option Blk}:∀{ds:List Nat} {i:Nat},look (memOf mm ds) i=if i∈ds then mm i else none
 | [],i=>by simp[memOf,look]
 | b::l,i=>by
  unfold memOf
  cases hb:mm b with
  | none =>
   show look (memOf mm l) i=_
   rw[memOf_look]
   by_cases h:b=i
   ·subst h;simp[hb]
   ·simp[Ne.symm h]
  | some blk =>
   show look ((b,blk)::memOf mm l) i=_
   rw[look_cons]
   by_cases h:b=i
   ·subst h;rw[upd_same];simp[hb]
   ·rw[upd_ne _ _ h,memOf_look];simp[Ne.symm h]
section
variable {GL:Glob} {w0:Wb GL} {R:Nat->Pl->Prop} {fm:Nat->Option Blk} {w:World}
def XIn (R:Nat->Pl->Prop) (mm:Nat->Option Blk) (ds:List Nat) (b:Nat):Prop:=∃i p blk,R i p∧i∈ds∧p.a=some b∧mm i=some blk∧blk.own=true
def wIn (GL:Glob) (R:Nat->Pl->Prop) (mm:Nat->Option Blk) (ds:List Nat) (w:World):Wb GL:=⟨w,XIn R mm ds,R⟩
def RIn (R:Nat->Pl->Prop) (ds:List Nat) (i:Nat) (p:Pl):Prop:=R i p∧(i∈ds∨1000000000<=i)
theorem inOk_some {mm:Nat->Option Blk} {ds:List Nat} {b:Nat} (h:inOk mm ds b=true):b<1000000000∧∃blk,mm b=some blk∧inB blk=true∧∀x∈idsC blk.cells,x∈ds:=by
 unfold inOk at h
 rw[Bool.and_eq_true,Nat.blt_eq] at h
 obtain ⟨h0,h⟩:=h
 refine⟨h0,?_⟩
 cases hb:mm b with
 | none=>rw[hb] at h;cases h
 | some blk =>
  rw[hb] at h
  have h:(inB blk&&(idsC blk.cells).all fun x=>nmem x ds)=true:=h
  rw[Bool.and_eq_true,List.all_eq_true] at h
  exact⟨blk,rfl,h.1,fun x hx=>nmem_iff.1 (h.2 x hx)⟩
theorem in_rel (h:MRel w0 R fm w) {mm:Nat->Option Blk} (hsub:∀b blk,mm b=some blk->fm b=some blk) {ds:List Nat} (hds:ds.all (inOk mm ds)=true):MRel (wIn GL R mm ds w) (RIn R ds) (look (memOf mm ds)) w:=by
 have hok:∀b∈ds,b<1000000000∧∃blk,mm b=some blk∧inB blk=true∧∀x∈idsC blk.cells,x∈ds:=fun b hb=>inOk_some (List.all_eq_true.1 hds b hb)
 have hlk:∀i blk,look (memOf mm ds) i=some blk->i∈ds∧mm i=some blk∧fm i=some blk∧inB blk=true∧∀x∈idsC blk.cells,x∈ds:=by
  intro i blk hi
  rw[memOf_look] at hi
  split at hi
  ·rename_i hm
   obtain ⟨_,blk2,h2,h3,h4⟩:=hok i hm
   rw[hi] at h2;cases h2
   exact⟨hm,hi,hsub _ _ hi,h3,h4⟩
  ·cases hi
 refine⟨BelowX.refl _ _ _ h.below.gok ?_,fun i p p' h1 h2=>h.func i p p' h1.1 h2.1,?_,?_,?_,fun i p h1 _ _=>h1.1,?_,?_⟩
 ·rintro x hx ⟨i,p,blk,h1,h2,h3,h4,h5⟩
  obtain ⟨fz1,k1⟩:=h.below.glob.1 x hx
  have k2:=h.below.glob.2 x hx
  rcases h.ownX h1 h3 (hsub _ _ h4) h5 with h6 | h6
  ·exact k2 h6
  ·have:=heap_lt k1;omega
 ·intro i j p q b h1 h2 ha hb hne blk hblk hown blk' hblk'
  exact h.inj i j p q b h1.1 h2.1 ha hb hne blk (hlk _ _ hblk).2.2.1 hown blk' (hlk _ _ hblk').2.2.1
 ·intro i blk hi
  obtain ⟨hm,hmi,hfi,hib,hcl⟩:=hlk i blk hi
  have hmo:=h.mem i blk hfi
  obtain ⟨cells,elem,own⟩:=blk
  have cont:ContOk w0 R w i ⟨cells,elem,own⟩->(∀l',LP R cells.list l'->LP (RIn R ds) cells.list l')->ContOk (wIn GL R mm ds w) (RIn R ds) w i ⟨cells,elem,own⟩:=by
   rintro ⟨p,k1,k2⟩ hl
   refine⟨p,⟨k1,.inl hm⟩,?_⟩
   cases hpa:p.a with
   | none=>rw[hpa] at k2;exact k2
   | some b =>
    rw[hpa] at k2
    obtain ⟨cs,fz,k3,k4,k5⟩:=k2
    refine⟨cs,fz,k3,hl _ k4,fun ho=>⟨(k5 ho).1,.inl ⟨i,p,_,k1,hm,hpa,hmi,ho⟩,(k5 ho).2.2⟩⟩
  cases cells with
  | lst l =>
   refine cont hmo fun l' hl'=>?_
   exact LR_ids (R:=R) (R':=RIn R ds) (r:=V0 R) (r':=V0 (RIn R ds)) (fun _ _=>V0_ids) (fun b hb p hp=>⟨hp,.inl (hcl b hb)⟩) hl'
  | row ks n f =>
   refine cont hmo fun l' hl'=>?_
   exact LP_plain (rowL_pl _ _ _ _) ((LR_plain (r:=V0 R) (pl:=pl0) (fun _ _ hv=>V0_plain hv) (rowL_pl ks f n 0)).1 hl')
  | elt j k sz =>
   obtain ⟨p,q,b,k1,k2,k3⟩:=hmo
   exact⟨p,q,b,⟨k1,.inl (hcl j (List.mem_singleton.2 rfl))⟩,⟨k2,.inl hm⟩,k3⟩
  | tail j l cnt sz =>
   obtain ⟨p,q,k1,k2,k3⟩:=hmo
   exact⟨p,q,⟨k1,.inl (hcl j (List.mem_singleton.2 rfl))⟩,⟨k2,.inl hm⟩,k3⟩
  | fam ks n es g =>
   have hown:own=false:=by simpa [inB] using hib
   subst hown
   obtain ⟨p,k1,k2⟩:=hmo
   refine⟨p,⟨k1,.inl hm⟩,?_⟩
   cases hpa:p.a with
   | none=>rw[hpa] at k2;exact k2
   | some b =>
    rw[hpa] at k2
    obtain ⟨cs,fz,k3,k4,k5,k6⟩:=k2
    refine⟨cs,fz,k3,fun j hj=>?_,fun hf=>⟨k5 hf,.inr (Nat.le_add_right _ _)⟩,fun ho=>by cases ho⟩
    obtain ⟨v,h5,h6⟩:=k4 j hj
    refine⟨v,h5,?_⟩
    rcases h6 with h6 | ⟨b2,d,c,cs2,fz2,o1,o2,o3,o4⟩
    ·exact .inl h6
    ·exact .inr ⟨b2,d,c,cs2,fz2,o1,o2,⟨o3,.inr (Nat.le_add_right _ _)⟩,o4⟩
  | itr s pos=>simp[inB] at hib
 ·rintro i p ⟨h1,h2⟩ hlt
  rcases h2 with h2 | h2
  ·obtain ⟨_,blk,h3,_⟩:=hok i h2
   rw[memOf_look,if_pos h2,h3];rfl
  ·omega
 ·rintro i p b ⟨h1,h2⟩ hb
  rcases h.there i p b h1 hb with hc | ⟨s,pos,h3,h4,h5⟩
  ·exact .inl hc
  ·rcases h2 with h2 | h2
   ·obtain ⟨_,blk,h6,h7,_⟩:=hok i h2
    have:=hsub _ _ h6
    rw[h4] at this;cases this
    simp[inB] at h7
   ·have:loose i=true:=by
     unfold loose
     rw[show Nat.ble 1500000 i=true from by rw[Nat.ble_eq];omega]
     simp
    rw[this] at h3;cases h3
 ·rintro i p ⟨h1,_⟩ hge
  obtain ⟨h3,h4⟩:=h.fro i p h1 hge
  exact⟨h3,fun j q hj hq blk hblk=>h4 j q hj.1 hq blk (hlk _ _ hblk).2.2.1⟩
end
theorem look_app {α:Type} {b:List (Nat×α)}:∀{a:List (Nat×α)} {i:Nat},look (a++b) i=(match look a i with
  | some x=>some x
  | none=>look b i)
 | [],i=>rfl
 | (x,y)::a,i=>by
  rw[List.cons_append,look_cons,look_cons]
  by_cases h:x=i
  ·subst h;rw[upd_same,upd_same]
  ·rw[upd_ne _ _ h,upd_ne _ _ h,look_app]
theorem memF_look {fm:Nat->Option Blk}:∀{l:List (Nat×Blk)} {i:Nat},memF fm l i=(match look l i with
  | some b=>some b
  | none=>fm i)
 | [],i=>rfl
 | (x,y)::l,i=>by
  rw[memF,look_cons]
  show upd (memF fm l) x y i=_
  by_cases h:x=i
  ·subst h;rw[upd_same,upd_same]
  ·rw[upd_ne _ _ h,upd_ne _ _ h,memF_look]
theorem look_memB {α:Type}:∀{l:List (Nat×α)} {i:Nat} {b:α},look l i=some b->(i,b)∈l
 | [],i,b,h=>by simp[look] at h
 | (x,y)::l,i,b,h=>by
  rw[look_cons] at h
  by_cases hx:x=i
  ·subst hx;rw[upd_same] at h;cases h;exact List.mem_cons_self ..
  ·rw[upd_ne _ _ hx] at h;exact List.mem_cons_of_mem _ (look_memB h)
theorem look_idR:∀{l:List Nat} {i o:Nat},look (idR l) i=some o->o=i∧i∈l
 | [],i,o,h=>by simp[idR,look] at h
 | x::l,i,o,h=>by
  have h:look ((x,x)::idR l) i=some o:=h
  rw[look_cons] at h
  by_cases hx:x=i
  ·subst hx;rw[upd_same] at h;cases h;exact⟨rfl,List.mem_cons_self ..⟩
  ·rw[upd_ne _ _ hx] at h
   obtain ⟨h1,h2⟩:=look_idR h
   exact⟨h1,List.mem_cons_of_mem _ h2⟩
theorem look_idR_of:∀{l:List Nat} {i:Nat},i∈l->look (idR l) i=some i
 | x::l,i,h=>by
  show look ((x,x)::idR l) i=some i
  rw[look_cons]
  by_cases hx:x=i
  ·subst hx;rw[upd_same]
  ·rw[upd_ne _ _ hx]
   exact look_idR_of ((List.mem_cons.1 h).resolve_left (Ne.symm hx))
theorem look_numN {id:Nat}:∀{l:List Nat} {q i x:Nat},look (numN id q l) i=some x->x∈l∧nid id q<=i∧i<nid id (q+l.length)
 | [],q,i,x,h=>by simp[numN,look] at h
 | y::l,q,i,x,h=>by
  rw[numN,look_cons] at h
  by_cases hx:nid id q=i
  ·subst hx;rw[upd_same] at h;cases h
   refine⟨List.mem_cons_self ..,Nat.le_refl _,?_⟩
   unfold nid;rw[List.length_cons];omega
  ·rw[upd_ne _ _ hx] at h
   obtain ⟨h1,h2,h3⟩:=look_numN h
   refine⟨List.mem_cons_of_mem _ h1,?_,?_⟩
   ·unfold nid at *;omega
   ·rw[List.length_cons];unfold nid at *;omega
theorem ownL_mem {mm:Nat->Option Blk} {b:Nat}:∀{l:List Nat},b∈ownL mm l↔b∈l∧isOwn mm b=true
 | []=>by simp[ownL]
 | x::l=>by
  unfold ownL
  cases h:isOwn mm x with
  | true =>
   rw[cond_true,List.mem_cons,List.mem_cons,ownL_mem]
   constructor
   ·rintro (rfl | ⟨h1,h2⟩)
    ·exact⟨.inl rfl,h⟩
    ·exact⟨.inr h1,h2⟩
   ·rintro ⟨rfl | h1,h2⟩
    ·exact .inl rfl
    ·exact .inr ⟨h1,h2⟩
  | false =>
   rw[cond_false,ownL_mem,List.mem_cons]
   constructor
   ·rintro ⟨h1,h2⟩;exact⟨.inr h1,h2⟩
   ·rintro ⟨rfl | h1,h2⟩
    ·rw[h] at h2;cases h2
    ·exact⟨h1,h2⟩
theorem isOwn_some {mm:Nat->Option Blk} {b:Nat} (h:isOwn mm b=true):∃blk,mm b=some blk∧blk.own=true:=by
 unfold isOwn at h
 cases hb:mm b with
 | none=>rw[hb] at h;cases h
 | some blk=>rw[hb] at h;exact⟨blk,rfl,h⟩
theorem isOwn_of {mm:Nat->Option Blk} {b:Nat} {blk:Blk} (h:mm b=some blk) (ho:blk.own=true):isOwn mm b=true:=by
 unfold isOwn;rw[h];exact ho
theorem outD_some {mm mem:Nat->Option Blk} {b:Nat} {blk0:Blk} (h0:mm b=some blk0) (h:outD mm mem b=true):∃c o,mem b=some ⟨c,blk0.elem,o⟩∧((∃l,c=.lst l)∨∃ks n f,c=.row ks n f):=by
 unfold outD at h
 cases hb:mem b with
 | none=>rw[hb] at h;cases h
 | some blk =>
  rw[hb,h0] at h
  obtain ⟨c,e,o⟩:=blk
  have h:(Nat.beq e blk0.elem&&isLR c)=true:=h
  rw[Bool.and_eq_true] at h
  have:=nbeq.1 h.1;subst this
  refine⟨c,o,rfl,?_⟩
  cases c with
  | lst l=>exact .inl ⟨l,rfl⟩
  | row ks n f=>exact .inr ⟨ks,n,f,rfl⟩
  | _=>simp[isLR] at h
theorem outN_some {mem:Nat->Option Blk} {b:Nat} (h:outN mem b=true):∃c e o,mem b=some ⟨c,e,o⟩∧((∃l,c=.lst l∧(o=true∨l=[]))∨(∃ks n f,c=.row ks n f∧o=true)∨∃j l n z,c=.tail j l n z):=by
 unfold outN at h
 cases hb:mem b with
 | none=>rw[hb] at h;cases h
 | some blk =>
  rw[hb] at h
  obtain ⟨c,e,o⟩:=blk
  refine⟨c,e,o,rfl,?_⟩
  cases c with
  | lst l =>
   have h:(o||l.isEmpty)=true:=h
   rw[Bool.or_eq_true,List.isEmpty_iff] at h
   exact .inl ⟨l,rfl,h⟩
  | row ks n f=>exact .inr (.inl ⟨ks,n,f,rfl,h⟩)
  | tail j l n z=>exact .inr (.inr ⟨j,l,n,z,rfl⟩)
  | _=>cases h
section
variable {GL:Glob} {w0:Wb GL} {R:Nat->Pl->Prop} {fm:Nat->Option Blk} {w:World}
theorem MRel.pl (h:MRel w0 R fm w) {i:Nat} {blk:Blk} (hi:fm i=some blk):∃p,R i p:=by
 have hm:=h.mem i blk hi
 unfold MemOk at hm
 split at hm
 ·obtain ⟨_,q,_,_,h2,_⟩:=hm;exact⟨q,h2⟩
 ·obtain ⟨_,q,_,h2,_⟩:=hm;exact⟨q,h2⟩
 ·obtain ⟨p,h2,_⟩:=hm;exact⟨p,h2⟩
 ·obtain ⟨b,h2,_⟩:=hm;exact⟨_,h2⟩
 ·obtain ⟨p,h2,_⟩:=hm;exact⟨p,h2⟩
def ROut (R R':Nat->Pl->Prop) (id:Nat) (nw:List Nat) (i:Nat) (p:Pl):Prop:=R i p∨∃x,look (numN id 0 nw) i=some x∧R' x p
theorem renC_nil {ρ:Ren} {c c':Cells} (h:renC ρ c=some c') (hl:c.list=[]):c'.list=[]:=by
 unfold renC at h
 split at h
 ·rename_i l
  obtain ⟨m,h1,h2⟩:=oK_some.1 h
  have hl:l=[]:=hl
  rw[hl] at h1
  simp only[renL,Option.some.injEq] at h1
  subst h1
  rw[<-Option.some.inj h2];rfl
 ·rw[<-Option.some.inj h];exact hl
 ·obtain ⟨_,_,h⟩:=oK_some.1 h;rw[<-Option.some.inj h];rfl
 ·obtain ⟨_,_,h⟩:=oK_some.1 h;rw[<-Option.some.inj h];rfl
 ·rw[<-Option.some.inj h];rfl
 ·rw[<-Option.some.inj h];rfl
theorem out_rel (h:MRel w0 R fm w) {mm:Nat->Option Blk} (hsub:∀b blk,mm b=some blk->fm b=some blk) {ds:List Nat} (hds:ds.all (inOk mm ds)=true) {R':Nat->Pl->Prop} {s:St} {w':World}
  (hc:MRel (wIn GL R mm ds w) R' (look s.mem) w') (hmono:∀i p,RIn R ds i p->R' i p) {id:Nat} (hlt:id<60000) {nw:List Nat} (hnw:nw.all (outN (look s.mem))=true) (hod:(ownL mm ds).all (outD mm (look s.mem))=true) (hlen:nw.length<=8)
  (hren:renOk (numN id 0 nw++idR ds)=true) {me:List (Nat×Blk)} (hme:getMem s (swapR (numN id 0 nw++idR ds)) (numN id 0 nw++idR (ownL mm ds))=some me) (hfree:∀i x,look (numN id 0 nw) i=some x->fm i=none) :
  MRel w0 (ROut R R' id nw) (memF fm me) w':=by
 have hok:∀b∈ds,b<1000000000∧∃blk,mm b=some blk∧inB blk=true∧∀x∈idsC blk.cells,x∈ds:=fun b hb=>inOk_some (List.all_eq_true.1 hds b hb)
 obtain ⟨g1,g2⟩:=getMem_look hme
 have hnum:∀i x,look (numN id 0 nw) i=some x->x∈nw∧i<1000000:=by
  intro i x hx
  obtain ⟨h1,h2,h3⟩:=look_numN hx
  refine⟨h1,?_⟩
  unfold nid at h3;omega
 have hk2:=hren
 unfold renOk at hk2
 simp only[Bool.and_eq_true] at hk2
 have hn1:=hk2.1.2
 have hn2:=hk2.2
 have hisnew:∀i x,look (numN id 0 nw) i=some x->look (numN id 0 nw++idR ds) i=some x:=by
  intro i x hx;rw[look_app,hx]
 have hisds:∀i,i∈ds->look (numN id 0 nw) i=none∧look (numN id 0 nw++idR ds) i=some i:=by
  intro i hi
  have:look (numN id 0 nw) i=none:=by
   cases hx:look (numN id 0 nw) i with
   | none=>rfl
   | some x =>
    obtain ⟨_,blk,h2,_⟩:=hok i hi
    exact absurd (hfree i x hx) (by rw[hsub _ _ h2];simp)
  exact⟨this,by rw[look_app,this];exact look_idR_of hi⟩
 have hisinv:∀i o,look (numN id 0 nw++idR ds) i=some o->look (numN id 0 nw) i=some o∨(i=o∧i∈ds∧look (numN id 0 nw) i=none):=by
  intro i o hx
  rw[look_app] at hx
  cases hy:look (numN id 0 nw) i with
  | some x=>rw[hy] at hx;exact .inl hx
  | none =>
   rw[hy] at hx
   obtain ⟨h1,h2⟩:=look_idR hx
   exact .inr ⟨h1.symm,h2,rfl⟩
  -- places of old numbers
 have hold:∀i,i∈ds->∀p,R' i p->R i p:=by
  intro i hi p hp
  obtain ⟨_,blk,h2,_⟩:=hok i hi
  obtain ⟨p0,hp0⟩:=h.pl (hsub _ _ h2)
  have:=hc.func _ _ _ hp (hmono i p0 ⟨hp0,.inl hi⟩)
  rw[this];exact hp0
 have hR2:∀i o p,look (numN id 0 nw++idR ds) i=some o->R' o p->ROut R R' id nw i p:=by
  intro i o p hx hp
  rcases hisinv i o hx with h1 | ⟨rfl,h2,_⟩
  ·exact .inr ⟨o,h1,hp⟩
  ·exact .inl (hold i h2 p hp)
  -- what the blocks are
 have hcl:∀i blk,memF fm me i=some blk->(∃o b0,look (numN id 0 nw) i=some o∧fm i=none∧look s.mem o=some b0∧renC (swapR (numN id 0 nw++idR ds)) b0.cells=some blk.cells∧blk.elem=b0.elem∧blk.own=b0.own∧outN (look s.mem) o=true)
   ∨ (∃b0 b1,i∈ds∧mm i=some b1∧b1.own=true∧look s.mem i=some b0∧renC (swapR (numN id 0 nw++idR ds)) b0.cells=some blk.cells∧blk.elem=b0.elem∧blk.own=b0.own∧∃c o,look s.mem i=some ⟨c,b1.elem,o⟩∧((∃l,c=.lst l)∨∃ks n f,c=.row ks n f))
   ∨ (fm i=some blk∧look (numN id 0 nw) i=none∧∀b1,i∈ds->mm i=some b1->b1.own=false):=by
  intro i blk hi
  rw[memF_look] at hi
  cases hl:look me i with
  | some b =>
   rw[hl] at hi;cases hi
   obtain ⟨o,b0,k1,k2,k3,k4,k5⟩:=g2 _ _ hl
   rw[look_app] at k1
   cases hy:look (numN id 0 nw) i with
   | some x =>
    rw[hy] at k1;cases k1
    exact .inl ⟨o,b0,rfl,hfree i o hy,k2,k3,k4,k5,List.all_eq_true.1 hnw o (hnum i o hy).1⟩
   | none =>
    rw[hy] at k1
    obtain ⟨h1,h2⟩:=look_idR k1
    subst h1
    have hos:=List.all_eq_true.1 hod o h2
    obtain ⟨h3,h4⟩:=ownL_mem.1 h2
    obtain ⟨b1,h5,h6⟩:=isOwn_some h4
    exact .inr (.inl ⟨b0,b1,h3,h5,h6,k2,k3,k4,k5,outD_some h5 hos⟩)
  | none =>
   rw[hl] at hi
   have hj:=(g1 i).1 hl
   rw[look_app] at hj
   cases hy:look (numN id 0 nw) i with
   | some x=>rw[hy] at hj;cases hj
   | none =>
    rw[hy] at hj
    refine .inr (.inr ⟨hi,rfl,fun b1 h1 h2=>?_⟩)
    cases ho:b1.own with
    | false=>rfl
    | true =>
     have:look (idR (ownL mm ds)) i=some i:=look_idR_of (ownL_mem.2 ⟨h1,isOwn_of h2 ho⟩)
     rw[this] at hj;cases hj
 have hRold:∀i p,ROut R R' id nw i p->look (numN id 0 nw) i=none->R i p:=by
  rintro i p (h1 | ⟨x,h1,_⟩) h2
  ·exact h1
  ·rw[h2] at h1;cases h1
 have hRnew:∀i o p,ROut R R' id nw i p->look (numN id 0 nw) i=some o->R' o p:=by
  rintro i o p (h1 | ⟨x,h1,h3⟩) h2
  ·have h5:=hfree i o h2
   have h6:=h.dom i p h1 (by have:=(hnum i o h2).2;omega)
   rw[h5] at h6;cases h6
  ·rw[h2] at h1;cases h1;exact h3
  -- the world
 have hsame:∀b,b<w.heap.size->¬XIn R mm ds b->w'.heap[b]?=w.heap[b]?:=fun b hb hx=>hc.below.block b hb hx
 have hX:∀b,XIn R mm ds b->∃i0 p0 b0,R i0 p0∧i0∈ds∧p0.a=some b∧mm i0=some b0∧b0.own=true∧(∃cs fz,w.heap[b]?=some (.cells cs b0.elem fz))∧∃cs fz,w'.heap[b]?=some (.cells cs b0.elem fz):=by
  rintro b ⟨i0,p0,b0,k1,k2,k3,k4,k5⟩
  refine⟨i0,p0,b0,k1,k2,k3,k4,k5,?_,?_⟩
  ·have hm:=h.mem i0 b0 (hsub _ _ k4)
   obtain ⟨_,b2,e1,e2,_⟩:=hok i0 k2
   rw[k4] at e1;cases e1
   unfold MemOk at hm
   split at hm
   ·obtain ⟨_,_,_,_,_,_,_,_,hf⟩:=hm;rw[hf] at k5;cases k5
   ·obtain ⟨_,_,_,_,_,hf⟩:=hm;rw[hf] at k5;cases k5
   ·rename_i hcc;unfold inB at e2;rw[hcc] at e2;rw[k5] at e2;cases e2
   ·rename_i hcc;unfold inB at e2;rw[hcc] at e2;cases e2
   ·obtain ⟨p,m1,m2⟩:=hm
    have:=h.func _ _ _ m1 k1;subst this
    rw[k3] at m2
    obtain ⟨cs,fz,m3,_⟩:=m2
    exact⟨cs,fz,m3⟩
  ·obtain ⟨c,o,e1,e2⟩:=outD_some k4 (List.all_eq_true.1 hod i0 (ownL_mem.2 ⟨k2,isOwn_of k4 k5⟩))
   have hco:ContOk (wIn GL R mm ds w) R' w' i0 ⟨c,b0.elem,o⟩:=by
    have:=hc.mem i0 _ e1
    rcases e2 with⟨l,rfl⟩ | ⟨ks,n,f,rfl⟩<;>exact this
   obtain ⟨p,m1,m2⟩:=hco
   have:=h.func _ _ _ (hold i0 k2 p m1) k1;subst this
   rw[k3] at m2
   obtain ⟨cs,fz,m3,_⟩:=m2
   exact⟨cs,fz,m3⟩
 have hXown:∀b,XIn R mm ds b->w0.X b∨w0.w.heap.size<=b:=by
  rintro b ⟨i0,p0,b0,k1,k2,k3,k4,k5⟩
  exact h.ownX k1 k3 (hsub _ _ k4) k5
 have hXn:∀b,(wIn GL R mm ds w).X b∨(wIn GL R mm ds w).w.heap.size<=b->w0.X b∨w0.w.heap.size<=b:=by
  rintro b (h1 | h1)
  ·exact hXown b h1
  ·exact .inr (Nat.le_trans h.below.size h1)
  -- an own block of the call's that lies where an old one lies
 have hmeet:∀i p b blk,R i p->p.a=some b->fm i=some blk->(∀b1,i∈ds->mm i=some b1->b1.own=false)->((wIn GL R mm ds w).X b∨(wIn GL R mm ds w).w.heap.size<=b)->weak blk:=by
  intro i p b blk h1 h2 h3 h4 h5
  rcases h5 with h5 | h5
  ·obtain ⟨i0,p0,b0,k1,k2,k3,k4,k5⟩:=h5
   refine h.inj i0 i p0 p b k1 h1 k3 h2 ?_ b0 (hsub _ _ k4) k5 blk h3
   rintro rfl
   rw[h4 b0 k2 k4] at k5;cases k5
  ·have h6:=h.lt h1 h2
   have h5:w.heap.size<=b:=h5
   omega
 refine⟨⟨hc.below.os.trans h.below.os,hc.below.tape.trans h.below.tape,hc.below.output.trans h.below.output,Nat.le_trans h.below.size hc.below.size,fun k hk hx=>?_,h.below.glob⟩,?_,?_,?_,?_,?_,?_,?_⟩
 ·rw[hsame k (Nat.lt_of_lt_of_le hk h.below.size) (fun hxi=>by
   rcases hXown k hxi with h1 | h1
   ·exact hx h1
   ·omega)]
  exact h.below.block k hk hx
 ·intro i p p' h1 h2
  cases hy:look (numN id 0 nw) i with
  | none=>exact h.func i p p' (hRold i p h1 hy) (hRold i p' h2 hy)
  | some o=>exact hc.func o p p' (hRnew i o p h1 hy) (hRnew i o p' h2 hy)
 ·intro i j p q b h1 h2 ha hb hne blk hblk hown blk' hblk'
    -- of the callee's two
  have both:∀o o' b0 b0',R' o p->R' o' q->o≠o'->look s.mem o=some b0->look s.mem o'=some b0'->blk.own=b0.own->renC (swapR (numN id 0 nw++idR ds)) b0'.cells=some blk'.cells->blk'.own=b0'.own->weak blk':=by
   intro o o' b0 b0' e1 e2 e3 e4 e5 e6 e7 e8
   obtain ⟨k1,k2⟩:=hc.inj o o' p q b e1 e2 ha hb e3 b0 e4 (by rw[<-e6];exact hown) b0' e5
   exact⟨by rw[e8];exact k1,renC_nil e7 k2⟩
  have hij:∀o,look (numN id 0 nw++idR ds) i=some o->look (numN id 0 nw++idR ds) j=some o->False:=fun o e1 e2=>hne (look_inj hn2 e1 e2)
  rcases hcl i blk hblk with⟨o,b0,y1,_,y2,y3,y4,y5,_⟩ | ⟨b0,b1,y1,y2,y3,y4,y5,y6,y7,_⟩ | ⟨y1,y2,y3⟩
  ·have hp:=hRnew i o p h1 y1
   rcases hcl j blk' hblk' with⟨o',b0',z1,_,z2,z3,z4,z5,_⟩ | ⟨b0',b1',z1,z2,z3,z4,z5,z6,z7,_⟩ | ⟨z1,z2,z3⟩
   ·exact both o o' b0 b0' hp (hRnew j o' q h2 z1) (fun e=>hij o (hisnew i o y1) (by rw[e];exact hisnew j o' z1)) y2 z2 y5 z3 z5
   ·have hq:=hRold j q h2 (hisds j z1).1
    exact both o j b0 b0' hp (hmono j q ⟨hq,.inl z1⟩) (fun e=>hij o (hisnew i o y1) (by rw[e];exact(hisds j z1).2)) y2 z4 y5 z5 z7
   ·exact hmeet j q b blk' (hRold j q h2 z2) hb z1 z3 (hc.ownX hp ha y2 (by rw[<-y5];exact hown))
  ·have hp:=hRold i p h1 (hisds i y1).1
   have hp':=hmono i p ⟨hp,.inl y1⟩
   rcases hcl j blk' hblk' with⟨o',b0',z1,_,z2,z3,z4,z5,_⟩ | ⟨b0',b1',z1,z2,z3,z4,z5,z6,z7,_⟩ | ⟨z1,z2,z3⟩
   ·exact both i o' b0 b0' hp' (hRnew j o' q h2 z1) (fun e=>hij i (hisds i y1).2 (by rw[e];exact hisnew j o' z1)) y4 z2 y7 z3 z5
   ·have hq:=hRold j q h2 (hisds j z1).1
    exact both i j b0 b0' hp' (hmono j q ⟨hq,.inl z1⟩) hne y4 z4 y7 z5 z7
   ·exact h.inj i j p q b hp (hRold j q h2 z2) ha hb hne b1 (hsub _ _ y2) y3 blk' z1
  ·have hp:=hRold i p h1 y2
   rcases hcl j blk' hblk' with⟨o',b0',z1,_,z2,z3,z4,z5,z6⟩ | ⟨b0',b1',z1,z2,z3,z4,z5,z6,z7,_⟩ | ⟨z1,z2,z3⟩
   ·have hq:=hRnew j o' q h2 z1
    obtain ⟨c,e,ow,e1,e2⟩:=outN_some z6
    rw[z2] at e1;cases e1
    cases how:ow with
    | true =>
     subst how
     have:=hmeet i p b blk hp ha y1 y3 (hc.ownX hq hb z2 rfl)
     rw[this.1] at hown;cases hown
    | false =>
     subst how
     refine⟨z5,renC_nil z3 ?_⟩
     rcases e2 with⟨l,rfl,hl⟩ | ⟨ks,n,f,rfl,ho⟩ | ⟨j2,l,n,z,rfl⟩
     ·rcases hl with hl | hl
      ·cases hl
      ·subst hl;rfl
     ·cases ho
     ·rfl
   ·have hq:=hRold j q h2 (hisds j z1).1
    have:=h.inj i j p q b hp hq ha hb hne blk y1 hown b1' (hsub _ _ z2)
    rw[this.1] at z3;cases z3
   ·exact h.inj i j p q b hp (hRold j q h2 z2) ha hb hne blk y1 hown blk' z1
 ·intro i blk hi
    -- cells that the call left
  have left:∀o b0,look s.mem o=some b0->(∀p,R' o p->ROut R R' id nw i p)->(loose i=loose o)->renC (swapR (numN id 0 nw++idR ds)) b0.cells=some blk.cells->blk.elem=b0.elem->blk.own=b0.own->((∃l,b0.cells=.lst l)∨(∃ks n f,b0.cells=.row ks n f)∨∃j l n z,b0.cells=.tail j l n z)->MemOk w0 (ROut R R' id nw) w' i blk:=by
   intro o b0 k1 k2 klo k3 k4 k5 k6
   have hmo:=hc.mem o b0 k1
   obtain ⟨c0,e0,o0⟩:=b0
   obtain ⟨c,e,ow⟩:=blk
   simp only at k3 k4 k5 k6
   subst k4 k5
   have cont:ContOk (wIn GL R mm ds w) R' w' o ⟨c0,e,ow⟩->(∀l',LP R' c0.list l'->LP (ROut R R' id nw) c.list l')->(c0.list=[]->c.list=[])->(∀p size,roomOk o c0 p size->roomOk i c p size)->ContOk w0 (ROut R R' id nw) w' i ⟨c,e,ow⟩:=by
    rintro ⟨p,m1,m2⟩ hlp hnil hroom
    refine⟨p,k2 p m1,?_⟩
    cases hpa:p.a with
    | none=>rw[hpa] at m2;exact hnil m2
    | some b =>
     rw[hpa] at m2
     obtain ⟨cs,fz,n1,n2,n3⟩:=m2
     exact⟨cs,fz,n1,hlp _ n2,fun ho=>⟨(n3 ho).1,hXn b (n3 ho).2.1,hroom _ _ (n3 ho).2.2⟩⟩
   rcases k6 with⟨l,rfl⟩ | ⟨ks,n,f,rfl⟩ | ⟨j,l,n,z,rfl⟩
   ·obtain ⟨m,hm2,k3⟩:=oK_some.1 k3
    have k3:=(Option.some.inj k3).symm;subst k3
    refine cont hmo (fun l' hl'=>?_) (fun h0=>?_) (fun p size hr=>by show loose i=true->_;rw[klo];exact hr)
    ·have hl':LR (V0 R') l (l'.take l.length):=hl'
     show LR (V0 _) m (l'.take m.length)
     rw[renL_len hm2]
     exact LR_ren (r:=V0 R') (fun _ _ _ h1 h2=>V0_ren2 hren hR2 h1 h2) hl' hm2
    ·have h0:l=[]:=h0
     rw[h0] at hm2
     simp only[renL,Option.some.injEq] at hm2
     exact hm2.symm
   ·have k3:=(Option.some.inj k3).symm;subst k3
    refine cont hmo (fun l' hl'=>?_) (fun h0=>h0) (fun p size hr=>by show loose i=true->_;rw[klo];exact hr)
    exact LP_plain (rowL_pl _ _ _ _) ((LR_plain (r:=V0 R') (pl:=pl0) (fun _ _ hv=>V0_plain hv) (rowL_pl ks f n 0)).1 hl')
   ·obtain ⟨j',hj,k3⟩:=oK_some.1 k3
    have k3:=(Option.some.inj k3).symm;subst k3
    obtain ⟨p,q,m1,m2,m3⟩:=hmo
    exact⟨p,q,hR2 j' j p (look_swap hn1 hj) m1,k2 q m2,m3⟩
  rcases hcl i blk hi with⟨o,b0,y1,_,y2,y3,y4,y5,y6⟩ | ⟨b0,b1,y1,y2,y3,y4,y5,y6,y7,c,ow,y8,y9⟩ | ⟨y1,y2,y3⟩
  ·refine left o b0 y2 (fun p hp=>.inr ⟨o,y1,hp⟩) (renOk_loose hren (hisnew i o y1)).1 y3 y4 y5 ?_
   obtain ⟨c,e,ow,e1,e2⟩:=outN_some y6
   rw[y2] at e1;cases e1
   rcases e2 with⟨l,e2,_⟩ | ⟨ks,n,f,e2,_⟩ | e2
   ·exact .inl ⟨l,e2⟩
   ·exact .inr (.inl ⟨ks,n,f,e2⟩)
   ·exact .inr (.inr e2)
  ·refine left i b0 y4 (fun p hp=>.inl (hold i y1 p hp)) rfl y5 y6 y7 ?_
   rw[y4] at y8;cases y8
   rcases y9 with y9 | y9
   ·exact .inl y9
   ·exact .inr (.inl y9)
  ·have hm:=h.mem i blk y1
   have nox:∀p b,R i p->p.a=some b->blk.own=true->¬XIn R mm ds b:=by
    intro p b h1 h2 h3 h4
    have:=hmeet i p b blk h1 h2 y1 y3 (.inl h4)
    rw[this.1] at h3;cases h3
   unfold MemOk at hm ⊢
   split at hm
   ·obtain ⟨p,q,b,k1,k2,k3⟩:=hm;exact⟨p,q,b,.inl k1,.inl k2,k3⟩
   ·obtain ⟨p,q,k1,k2,k3⟩:=hm;exact⟨p,q,.inl k1,.inl k2,k3⟩
   ·refine hm.mono (fun _ _ h1=>.inl h1) (fun b hb=>hsame b (h.frz_lt hb) ?_) (fun ho p b hp hpa=>hsame b (h.lt hp hpa) (nox p b hp hpa ho))
    rintro ⟨i0,p0,b0,k1,k2,k3,k4,k5⟩
    rw[h.frz_own hb k1 k3 (hsub _ _ k4)] at k5;cases k5
   ·obtain ⟨b,k1,k2,k3,k4⟩:=hm
    exact⟨b,.inl k1,by rw[hsame b (h.lt k1 rfl) (nox _ b k1 rfl k4)];exact k2,k3,k4⟩
   ·obtain ⟨p,k1,k2⟩:=hm
    refine⟨p,.inl k1,?_⟩
    cases hpa:p.a with
    | none=>rw[hpa] at k2;exact k2
    | some b =>
     rw[hpa] at k2
     obtain ⟨cs,fz,k3,k4,k5⟩:=k2
     by_cases hxb:XIn R mm ds b
     ·have hwk:=hmeet i p b blk k1 hpa y1 y3 (.inl hxb)
      obtain ⟨i0,p0,b0,m1,m2,m3,m4,m5,⟨cs1,fz1,m6⟩,cs2,fz2,m7⟩:=hX b hxb
      rw[k3] at m6
      simp only[Option.some.injEq,Obj.cells.injEq] at m6
      exact⟨cs2,fz2,by rw[m6.2.1];exact m7,by rw[hwk.2];exact LP_nil,fun ho=>by rw[hwk.1] at ho;cases ho⟩
     ·refine⟨cs,fz,by rw[hsame b (h.lt k1 hpa) hxb];exact k3,LP_mono (fun _ _ h1=>.inl h1) k4,k5⟩
 ·intro i p hp hlt9
  rw[memF_look]
  cases hl:look me i with
  | some b=>rfl
  | none =>
   have hj:=(g1 i).1 hl
   rw[look_app] at hj
   cases hy:look (numN id 0 nw) i with
   | some x=>rw[hy] at hj;cases hj
   | none=>exact h.dom i p (hRold i p hp hy) hlt9
 ·intro i p hp h1 h2
  cases hy:look (numN id 0 nw) i with
  | some x=>have:=(hnum i x hy).2;omega
  | none=>exact h.anc i p (hRold i p hp hy) h1 h2
 ·intro i p b hp hpa
  cases hy:look (numN id 0 nw) i with
  | some o =>
   refine .inl ((hc.there o p b (hRnew i o p hp hy) hpa).loose ?_)
   rw[<-(renOk_loose hren (hisnew i o hy)).1]
   obtain ⟨_,h2,h3⟩:=look_numN hy
   unfold loose
   rw[show Nat.ble 500000 i=true from by rw[Nat.ble_eq];unfold nid at h2;omega,show Nat.blt i 1000000=true from by rw[Nat.blt_eq];exact(hnum i o hy).2]
   rfl
  | none =>
   have hp:=hRold i p hp hy
   by_cases hxb:XIn R mm ds b
   ·obtain ⟨_,_,b0,_,_,_,_,_,_,cs2,fz2,m7⟩:=hX b hxb
    exact .inl ⟨cs2,_,fz2,m7⟩
   ·refine(h.there i p b hp hpa).mono (fun s2 pos hi=>?_) (hsame b (h.lt hp hpa) hxb)
    rw[memF_look]
    cases hl:look me i with
    | none=>rfl
    | some b2 =>
     exfalso
     obtain ⟨o,b0,k1,_⟩:=g2 _ _ hl
     rw[look_app,hy] at k1
     obtain ⟨_,h2⟩:=look_idR k1
     obtain ⟨h3,_⟩:=ownL_mem.1 h2
     obtain ⟨_,b3,h5,h6,_⟩:=hok i h3
     have:=hsub _ _ h5
     rw[hi] at this;cases this
     simp[inB] at h6
 ·intro i p hp hge
  have hy:look (numN id 0 nw) i=none:=by
   cases hy:look (numN id 0 nw) i with
   | none=>rfl
   | some x=>have:=(hnum i x hy).2;omega
  have hp:=hRold i p hp hy
  obtain ⟨h1,h2⟩:=h.fro i p hp hge
  refine⟨h1,fun j q hj hq blk hblk=>?_⟩
  rcases hcl j blk hblk with⟨o',b0',z1,_,z2,z3,z4,z5,_⟩ | ⟨b0',b1',z1,z2,z3,z4,z5,z6,z7,_⟩ | ⟨z1,z2,z3⟩
  ·rw[z5]
   exact(hc.fro i p (hmono i p ⟨hp,.inr hge⟩) hge).2 o' q (hRnew j o' q hj z1) hq b0' z2
  ·have:=h2 j q (hRold j q hj (hisds j z1).1) hq b1' (hsub _ _ z2)
   rw[this] at z3;cases z3
  ·exact h2 j q (hRold j q hj z2) hq blk z1
end
section
variable {P:Program} [Laid P]
theorem fn_memK {C:Cfg} {c:Code} (hC:CfgOk P C c) {K:Nat->Prop} (hLK:∀p F,lookP C.L p=some F->LoopOkK P C.n (loopAt p c) K F) {g:FuncId} {fn:Func} (hf:P.funcs[g]?=some fn) (hb:fn.body=some c) (hn:C.n=fn.ntmps) {w0:Wb (lay P)} {R:Nat->Pl->Prop} {w:World} {args args':List Value} {mem0:List (Nat×Blk)} {next:Nat}
  (hm:MRel w0 R (look mem0) w) (hargs:LR (V2 R) args args') (hlen:args.length<=fn.ntmps) {fuel:Nat} {e:Exit} {s':St} (h1:evS C fuel [] c ⟨argSlots 0 args,mem0,next⟩=some (e,s')) {v:Value} (h2:endK C.T fn e s' some none=some v) :
  Calls P g args'.toArray w fun ex w'=>∃R' v',ex=.returned v'∧MonoK K R R'∧((∀vs,v≠.tuple vs)->V2 R' v v')∧(∀vs,v=.tuple vs->∃vs',v'=.tuple vs'∧LR (V2 R') vs.toList vs'.toList)∧MRel w0 R' (look s'.mem) w':=by
 refine calls_of_wp hf hb ?_
 have hla:=LR_len hargs
 have hrel:Rel w0 C.n R (St.f ⟨argSlots 0 args,mem0,next⟩) { tmps:=args'.toArray++Array.replicate (fn.ntmps - args'.toArray.size) undef,defers:=[] } w:=by
  refine MRel.toR hm rfl (by simp;omega) ?_
  intro t u hu
  obtain ⟨j,rfl,hj⟩:=argSlots_look args 0 t u hu
  obtain ⟨u',h3,h4⟩:=LR_get hargs hj
  refine⟨u',?_,h4⟩
  have hlt:j<args'.length:=by
   rcases Nat.lt_or_ge j args'.length with h | h
   ·exact h
   ·rw[List.getElem?_eq_none h] at h3;simp at h3
  rw[Nat.zero_add,Array.getElem?_append_left (by simpa using hlt)]
  simpa using h3
 refine wp_mono (ev_soundK hC hLK (p:=[]) rfl h1 hrel) ?_
 rintro e' a' w' ⟨rfl,R',hmo,hr'⟩
 have fin:endK C.T fn e' s' some none=some v->(e'=.normal∨e'=.ret)->a'.defers=[]∧∃v',(results fn a'.tmps).run P w'=.ok v' w'∧((∀vs,v≠.tuple vs)->V2 R' v v')∧(∀vs,v=.tuple vs->∃vs',v'=.tuple vs'∧LR (V2 R') vs.toList vs'.toList):=by
  intro h3 h4
  refine⟨hr'.defers,?_⟩
  have h3:resK C.T s' fn.results.toList (fun vs=>oneK vs some) none=some v:=by
   rcases h4 with rfl | rfl<;>exact h3
  obtain ⟨vs,vs',h5,h6,h7⟩:=res_run hC hr' _ h3
  have hrun:(results fn a'.tmps).run P w'=.ok (if h:vs'.toArray.size=1 then vs'.toArray[0] else .tuple vs'.toArray) w':=by
   rw[results_eq,Array.mapM_eq_mapM_toList]
   simp only[Sem.run_bind,Sem.run_map,h7,Result.andThen_ok,Sem.run_pure]
  refine⟨_,hrun,?_⟩
  rcases oneK_some h5 with rfl | ⟨hl,rfl⟩
  ·match vs',h6 with
   | [u],h6 =>
    refine⟨fun _=>by simpa using h6.1,fun ws hw=>?_⟩
    subst hw
    have h6:=h6.1
    obtain ⟨ws',e1,e2⟩:=V2_tuple h6
    exact⟨ws',by simpa using e1,LR_mono (fun _ _=>V2_of_V1) e2⟩
  ·have hl':vs'.length≠1:=by rw[<-LR_len h6];exact hl
   rw[dif_neg (by simpa using hl')]
   exact⟨fun hne=>absurd rfl (hne _),fun ws hw=>by cases hw;exact⟨vs'.toArray,rfl,h6⟩⟩
 cases e' with
 | normal=>obtain ⟨k1,v',k2,k3,k4⟩:=fin h2 (.inl rfl);exact⟨k1,v',k2,R',v',rfl,hmo,k3,k4,hr'.m⟩
 | ret=>obtain ⟨k1,v',k2,k3,k4⟩:=fin h2 (.inr rfl);exact⟨k1,v',k2,R',v',rfl,hmo,k3,k4,hr'.m⟩
 | _=>simp[endK] at h2
theorem endK_some {T:Tab} {fn:Func} {e:Exit} {s:St} {β:Type} {k:Value->Option β} {r:β} (h:endK T fn e s k none=some r):∃v,endK T fn e s some none=some v∧k v=some r:=by
 have:endK T fn e s k none=oK (endK T fn e s some none) k none:=(endK_nat (fun o:Option Value=>oK o k none) T fn e s some none).symm
 rw[this,oK_some] at h
 exact h
theorem inlL_sum {T:Tab} {G:Sums} {n:Nat} {L:List (List Nat×(St->List (Bool×Exit×St)))} {kb:Nat->Bool} {fn:Func} {c:Code} {fuel:Nat} (hC:CfgOk P ⟨T,G,n,L⟩ c)
  (hLK:∀p F,lookP L p=some F->LoopOkK P n (loopAt p c) (fun i=>kb i=true∨1000000000<=i) F) {g:FuncId} (hf:P.funcs[g]?=some fn) (hname:(fn.name=="runtime.NumGoroutine")=false) (hb:fn.body=some c) (hn:n=fn.ntmps) :
  EntOk P g (inlL T G n L kb fn c fuel):=by
 intro w0 R fm w hm vs args' hl mm hsub rd id hlt v l hil hnew
 have hne:fn.name≠"runtime.NumGoroutine":=by simpa using hname
 have hrun:(callFunc g args'.toArray).run P w=.ok (.enter g args'.toArray) w:=by simp[callFunc,hf,hne,hb]
 unfold Invokes
 rw[hrun]
 unfold ilS inF inG at hil
 generalize dedupN rd=ds at hil
 obtain ⟨hcond,hil⟩:=cond_some.1 hil
 simp only[Bool.and_eq_true] at hcond
 obtain ⟨⟨⟨⟨hds,hvs⟩,hkb⟩,hlen⟩,hvt⟩:=hcond
 have hlen:=Nat.le_of_ble_eq_true hlen
 rw[evK_eq,oK_some] at hil
 obtain ⟨⟨e,s⟩,he,hil⟩:=hil
 obtain ⟨vC,hvC,hil⟩:=endK_some hil
 obtain ⟨hnt,hil⟩:=cond_some.1 hil
 unfold expN at hil
 obtain ⟨hcond,hil⟩:=cond_some.1 hil
 simp only[Bool.and_eq_true] at hcond
 obtain ⟨⟨⟨hnw,hod⟩,hle⟩,hren⟩:=hcond
 have hle:=Nat.le_of_ble_eq_true hle
 obtain ⟨u,hu,hil⟩:=oK_some.1 hil
 obtain ⟨me,hme,hil⟩:=oK_some.1 hil
 simp only[Option.some.injEq,Prod.mk.injEq] at hil
 obtain ⟨rfl,rfl⟩:=hil
 have hin:=in_rel hm hsub hds
 have hargs:LR (V2 (RIn R ds)) vs args':=by
  have key:∀(vs args':List Value),(∀v∈vs,notTup v=true∧∀b∈idsV v,b∈ds)->LR (V2 R) vs args'->LR (V2 (RIn R ds)) vs args':=by
   intro vs
   induction vs with
   | nil=>intro a _ h;cases a with
    | nil=>trivial
    | cons _ _=>exact h.elim
   | cons x vs ih =>
    intro a h1 h2
    match a,h2 with
    | x'::a,h2 =>
     refine⟨?_,ih a (fun v hv=>h1 v (List.mem_cons_of_mem _ hv)) h2.2⟩
     exact V2_ids (h1 x (List.mem_cons_self ..)).1 (fun b hb p hp=>⟨hp,.inl ((h1 x (List.mem_cons_self ..)).2 b hb)⟩) h2.1
    | [],h2=>exact h2.elim
  refine key vs args' (fun v hv=>⟨List.all_eq_true.1 hvt v hv,fun b hb=>?_⟩) hl
  exact nmem_iff.1 (List.all_eq_true.1 hvs b (List.mem_flatMap.2 ⟨v,hv,hb⟩))
 refine Calls.mono (fn_memK hC hLK hf hb hn hin hargs (by rw[<-hn];exact hlen) he hvC) ?_
 rintro ex w' ⟨R',v',rfl,hmo,hv1,hv2,hm'⟩
 have hmono:∀i p,RIn R ds i p->R' i p:=by
  intro i p hp
  refine hmo i p ?_ hp
  rcases hp.2 with h1 | h1
  ·exact .inl (List.all_eq_true.1 hkb i h1)
  ·exact .inr h1
 have hfree:∀i x,look (numN id 0 (newN (look s.mem) ds vC (ownL mm ds))) i=some x->fm i=none:=by
  intro i x hx
  obtain ⟨h1,h2,h3⟩:=look_numN hx
  have hi8:i<nid id 8:=by unfold nid at *;omega
  have:∃b,look me i=some b:=by
   cases hl:look me i with
   | some b=>exact⟨b,rfl⟩
   | none =>
    have:=((getMem_look hme).1 i).1 hl
    rw[look_app,hx] at this;cases this
  obtain ⟨b,hb⟩:=this
  exact(hnew (i,b) (look_memB hb)).1 ⟨h2,hi8⟩
 have hout:=out_rel hm hsub hds hm' hmono hlt hnw hod hle hren hme hfree
 refine⟨_,fun _ _=>.inl,?_,hout⟩
 have hR2:∀i o p,look (numN id 0 (newN (look s.mem) ds vC (ownL mm ds))++idR ds) i=some o->R' o p->ROut R R' id (newN (look s.mem) ds vC (ownL mm ds)) i p:=by
  intro i o p hx hp
  rw[look_app] at hx
  cases hy:look (numN id 0 (newN (look s.mem) ds vC (ownL mm ds))) i with
  | some x=>rw[hy] at hx;cases hx;exact .inr ⟨o,hy,hp⟩
  | none =>
   rw[hy] at hx
   obtain ⟨rfl,h2⟩:=look_idR hx
   obtain ⟨_,blk,h3,_⟩:=inOk_some (List.all_eq_true.1 hds o h2)
   obtain ⟨p0,hp0⟩:=hm.pl (hsub _ _ h3)
   have:=hm'.func _ _ _ hp (hmono o p0 ⟨hp0,.inl h2⟩)
   rw[this];exact .inl hp0
 by_cases htup:∃ws,vC=.tuple ws
 ·obtain ⟨ws,rfl⟩:=htup
  obtain ⟨vs',rfl,hl2⟩:=hv2 ws rfl
  unfold ren2 at hu
  obtain ⟨m,hm1,hm2⟩:=oK_some.1 hu
  cases hm2
  have hnt:ws.toList.all notTup=true:=hnt
  refine⟨vs',rfl,?_⟩
  have h1:LR (V1 R') ws.toList vs'.toList:=by
   have key:∀(l l':List Value),l.all notTup=true->LR (V2 R') l l'->LR (V1 R') l l':=by
    intro l
    induction l with
    | nil=>intro l' _ h;cases l' with
     | nil=>trivial
     | cons _ _=>exact h.elim
    | cons x l ih =>
     intro l' h1 h2
     match l',h2 with
     | x'::l',h2 =>
      simp only[List.all_cons,Bool.and_eq_true] at h1
      exact⟨V1_of_V2 h2.1 h1.1,ih l' h1.2 h2.2⟩
     | [],h2=>exact h2.elim
   exact key _ _ hnt hl2
  exact LR_ren (r:=V1 R') (fun _ _ _ h1 h2=>V1_ren2 hren hR2 h1 h2) h1 hm1
 ·exact V2_ren2 hren hR2 (hv1 fun ws e=>htup ⟨ws,e⟩) hu
theorem inl_sum {T:Tab} {G:Sums} {n:Nat} {fn:Func} {c:Code} (hT:TabOk P T) (hG:SumsOk P G) (hmix:P.follows .mixedOrders=true) {g:FuncId} (hf:P.funcs[g]?=some fn) (hname:(fn.name=="runtime.NumGoroutine")=false) (hb:fn.body=some c) (hn:n=fn.ntmps) :
  EntOk P g (inl T G n fn c):=inlL_sum ⟨hmix,hT,hG,fun p F h=>by simp[lookP] at h⟩ (fun p F h=>by simp[lookP] at h) hf hname hb hn
theorem sums_consI {G:Sums} {g:FuncId} {E:Ent} (h:EntOk P g E) (hG:SumsOk P G):SumsOk P ((g,E)::G):=by
 intro g' F' hF
 rw[look_cons] at hF
 by_cases hg:g=g'
 ·subst hg;rw[upd_same] at hF;cases hF;exact h
 ·rw[upd_ne _ _ hg] at hF;exact hG g' F' hF
end
end Go.W

namespace Go.W
open Go
def aggL:Value->List Value
 | .agg cs=>cs.toList
 | _=>[]
noncomputable def isPo (mm:Nat->Option Blk) (v:Value):Bool :=
 aggK v (fun l=>Nat.beq l.length 2&&((srcB mm k32 (nV 0 l)).1&&((srcB mm kP9 (nV 1 l)).1&&okP (srcB mm kP9 (nV 1 l)).2.1 (srcB mm kP9 (nV 1 l)).2.2))) false
theorem isPo_some {mm:Nat->Option Blk} {v:Value} (h:isPo mm v=true):∃s c n f m g,v=.agg #[s,c]∧srcB mm k32 s=(true,n,f)∧srcB mm kP9 c=(true,m,g)∧okP m g=true:=by
 unfold isPo aggK at h
 split at h
 ·rename_i cs
  obtain ⟨l,hc⟩:∃l,cs=List.toArray l:=⟨cs.toList,by simp⟩
  subst hc
  rw[List.toList_toArray] at h
  simp only[Bool.and_eq_true] at h
  obtain ⟨hl,h1,h2,h3⟩:=h
  have hl:l.length=2:=nbeq.1 hl
  match l,hl with
  | [s,c],_ =>
   have h1:(srcB mm k32 s).1=true:=h1
   have h2:(srcB mm kP9 c).1=true:=h2
   refine⟨s,c,(srcB mm k32 s).2.1,(srcB mm k32 s).2.2,(srcB mm kP9 c).2.1,(srcB mm kP9 c).2.2,rfl,?_,?_,h3⟩
   ·rw[<-h1]
   ·rw[<-h2]
 ·cases h
noncomputable def poE (n m:Nat) (V:Nat->RP):Int:=if 8<n∨m<1∨64<m then 4 else if (V 0).1=true then 3 else if alP V m=false then 3 else 0
noncomputable def PofF:List Value->(Nat->Option Blk)->Nat->List (Bool×Value×List (Nat×Blk))
 | [a],mm,_=>[(isPo mm a,i64 (poE (srcB mm k32 (nV 0 (aggL a))).2.1 (srcB mm kP9 (nV 1 (aggL a))).2.1 (pA (srcB mm kP9 (nV 1 (aggL a))).2.2)),[])]
 | _,_,_=>[]
def poT {α:Type} (n m:Nat) (K F:α):α:=bif decide ((n:Int) > 8) then F else bif decide ((m:Int)<1) then F else bif decide ((m:Int) > 64) then F else K
theorem poT_eq {α:Type} (n m:Nat) (K F:α):poT n m K F=if 8<n∨m<1∨64<m then F else K:=by
 unfold poT
 by_cases e1:8<n
 ·rw[decide_eq_true (by omega),if_pos (.inl e1)];rfl
 ·rw[decide_eq_false (by omega),cond_false]
  by_cases e2:m<1
  ·rw[decide_eq_true (by omega),if_pos (.inr (.inl e2))];rfl
  ·rw[decide_eq_false (by omega),cond_false]
   by_cases e3:64<m
   ·rw[decide_eq_true (by omega),if_pos (.inr (.inr e3))];rfl
   ·rw[decide_eq_false (by omega),cond_false,if_neg (by omega)]
end Go.W

namespace Go.W
open Go
def aK (b:Bool) (O:OR):OR:=bif b then O else cE 1
def aFk (i:Bool) (x y:Nat) (O:OR):OR:=bif !i then req (isPt (ptV (i,x,y))) (bif !(errP (ckR (unPt (ptV (i,x,y))))==0) then cE 3 else O) else cE 3
def aLo (a:Nat) (O:OR):OR:=req (isNum (num a)&&isNum (num (primeN 1))) (bif !decide (cmpI (unnum (num a)) (unnum (num (primeN 1)))<0) then cE 2 else O)
def aPz (X Y:Nat×Nat) (O:OR):OR:=bif !eqL (prL X) (prL Y) then cE 1 else O
noncomputable def ackT (k:Int) (i:Bool) (x y:Nat) (lab:ByteArray) (n:Nat) (m:Nat) (h:Nat->List Value) (g:Int) (c r:Nat):OR:=match k with
 | .negSucc _=>cE 19
 | .ofNat 0=>cE 19
 | .ofNat 1=>aK (eqV (ptV (i,x,y)) (ptV (i,x,y))) (aK (lab==lab) (aK ((n:Int)==((0:Nat):Int)) (aK ((m:Int)==((0:Nat):Int)) (aK (g==0) (aPz (c,r) (0,0) (aFk i x y (req (Nat.ble lab.size 1000000) (cE (lbE lab)))))))))
 | .ofNat 2=>aK (eqV (ptV (i,x,y)) (ptV zR)) (aK (lab==⟨#[]⟩) (aK ((n:Int)==(n:Int)) (aK ((m:Int)==(m:Int)) (aK (g==0) (aPz (c,r) (0,0) (req (whN n&&(whN m&&okP m (sg9 m h))) (cE (poE n m (pA (sg9 m h))))))))))
 | .ofNat 3=>aK (eqV (ptV (i,x,y)) (ptV (i,x,y))) (aK (lab==⟨#[]⟩) (aK ((n:Int)==((0:Nat):Int)) (aK ((m:Int)==((0:Nat):Int)) (aK (g==g) (aPz (c,r) (c,r) (bif decide (g<1) then cE 1 else bif decide (g > 8) then cE 1 else aFk i x y (aLo c (aLo r (cE 0)))))))))
 | .ofNat 4=>aK (eqV (ptV (i,x,y)) (ptV (i,x,y))) (aK (lab==⟨#[]⟩) (aK ((n:Int)==((0:Nat):Int)) (aK ((m:Int)==((0:Nat):Int)) (aK (g==0) (aPz (c,r) (c,r) (aFk i x y (aLo c (aLo r (cE 0)))))))))
 | .ofNat 5=>aK (eqV (ptV (i,x,y)) (ptV zR)) (aK (lab==⟨#[]⟩) (aK ((n:Int)==((0:Nat):Int)) (aK ((m:Int)==((0:Nat):Int)) (aK (g==0) (aPz (c,r) (0,0) (cE 0))))))
 | .ofNat (_+6)=>cE 19
theorem aK_eq (b:Bool) (O:OR):aK b O=if b=true then O else cE 1:=by cases b<;>rfl
theorem aFk_eq {i:Bool} {x y:Nat} (h:okR (i,x,y)) (O:OR):aFk i x y O=if fulB (i,x,y)=false then cE 3 else O:=by
 unfold aFk fulB;rw[isPt_ptV,req_true rfl,unPt_ptV h]
 cases i<;>cases ckR (_,x,y)<;>rfl
theorem aLo_eq {a:Nat} (h:a<2^256) (O:OR):aLo a O=if a<pN then O else cE 2:=by
 unfold aLo
 have hp:primeN 1=pN:=rfl
 rw[isNum_num,isNum_num,req_true (b:=true&&true) rfl,unnum_lt h,hp,unnum_lt (by decide)]
 by_cases e:a<pN
 ·rw[if_pos e,show cmpI a pN=-1 from if_pos e];rfl
 ·rw[if_neg e]
  unfold cmpI;rw[if_neg e]
  split<;>rfl
theorem eqL_prL {X Y:Nat×Nat} (h1:X.1<2^256) (h2:X.2<2^256) (h3:Y.1<2^256) (h4:Y.2<2^256):eqL (prL X) (prL Y)=decide (X=Y):=by
 rw[Bool.eq_iff_iff,eqL_iff (ks:=[.i .u64,.i .u64,.i .u64,.i .u64,.i .u64,.i .u64,.i .u64,.i .u64]) rfl rfl,decide_eq_true_eq]
 refine⟨fun h=>?_,fun h=>by rw[h]⟩
 have e:unPrf (prV X.1 X.2)=unPrf (prV Y.1 Y.2):=congrArg (fun l:List Value=>unPrf (.agg l.toArray)) h
 rw[unPrf_prV h1 h2,unPrf_prV h3 h4] at e;exact e
theorem aPz_eq {X Y:Nat×Nat} (h1:X.1<2^256) (h2:X.2<2^256) (h3:Y.1<2^256) (h4:Y.2<2^256) (O:OR):aPz X Y O=if X=Y then O else cE 1:=by
 unfold aPz;rw[eqL_prL h1 h2 h3 h4]
 by_cases e:X=Y
 ·rw[decide_eq_true e,if_pos e];rfl
 ·rw[decide_eq_false e,if_neg e];rfl
theorem aPz0_eq {X:Nat×Nat} (h1:X.1<2^256) (h2:X.2<2^256) (O:OR):aPz X (0,0) O=if X=(0,0) then O else cE 1:=aPz_eq h1 h2 (show(0:Nat)<2^256 by decide) (show(0:Nat)<2^256 by decide) O
theorem aPzS_eq {X:Nat×Nat} (h1:X.1<2^256) (h2:X.2<2^256) (O:OR):aPz X X O=O:=by rw[aPz_eq h1 h2 h1 h2,if_pos rfl]
theorem lab_self (s:ByteArray):(s==s)=true:=by rw[txt_eq];exact decide_eq_true rfl
theorem lab_nil (s:ByteArray):((s==⟨#[]⟩)=true)=(s=⟨#[]⟩):=by rw[txt_eq];exact propext decide_eq_true_iff
theorem int_nat (n:Nat):(((n:Int)==((0:Nat):Int))=true)=(n=0):=by
 rw[beq_iff_eq];exact propext ⟨fun h=>by omega,fun h=>by omega⟩
section
variable {K:RP} {lab:ByteArray} {n m:Nat} {S:Nat->Nat} {h:Nat->List Value} {g:Int} {X:Nat×Nat}
theorem ackT_eq (oK:okR K) (hc:X.1<2^256) (hr:X.2<2^256) (ho:okP m h=true) (hl:lab.size<=1000000):∀k:Int,ackT k K.1 K.2.1 K.2.2 lab n m h g X.1 X.2=cE (ckE ⟨k,K,lab,n,S,m,pA h,g,X⟩):=by
 obtain ⟨i,x,y⟩:=K
 obtain ⟨c,r⟩:=X
 have out:∀k:Int,(k<1∨5<k)->cE (ckE ⟨k,(i,x,y),lab,n,S,m,pA h,g,(c,r)⟩)=cE 19:=by
  intro k hk;unfold ckE;rw[if_pos hk]
 have eg:∀a:Int,((a==a)=true)=True:=fun a=>by simp
 have eb:((g==0)=true)=(g=0):=by simp
 intro k
 match k with
 | .negSucc j=>rw[out _ (.inl (by omega))];rfl
 | .ofNat 0=>rw[out _ (.inl (by decide))];rfl
 | .ofNat (j+6)=>rw[out _ (.inr (by show((j+6:Nat):Int) > 5;omega))];rfl
 | .ofNat 1 =>
  unfold ackT;simp only[aK_eq,aPz0_eq hc hr,aFk_eq oK,eqV_pt oK oK,decide_true,lab_self,int_nat,eb,if_true,Nat.ble_eq_true_of_le hl,req,cond_true,cE_if]
  congr 1
  unfold lbE;rw[hide_eq]
  by_cases p3:n=0<;>by_cases p3b:m=0<;>by_cases p4:g=0<;>by_cases p5:(c,r)=((0,0):Nat×Nat)<;>simp[ckE,bare,keyd,prfd,p3,p3b,p4,p5]<;>cases lblB lab<;>rfl
 | .ofNat 2 =>
  unfold ackT;simp only[aK_eq,aPz0_eq hc hr,eqV_pt oK okR_z,decide_eq_true_eq,lab_nil,eg,eb,if_true,whN_true,okP_sg,ho,req,Bool.and_true,cond_true,pA_sg,cE_if]
  congr 1
  unfold poE
  by_cases p1:(i,x,y)=zR<;>by_cases p2:lab=⟨#[]⟩<;>by_cases p4:g=0<;>by_cases p5:(c,r)=((0,0):Nat×Nat)<;>simp[ckE,bare,keyd,prfd,p1,p2,p4,p5]
  cases alP (pA h) m<;>cases (pA h 0).1<;>rfl
 | .ofNat 3 =>
  have e:∀a:OR,(bif decide (g<1) then cE 1 else bif decide (g > 8) then cE 1 else a)=if g<1∨8<g then cE 1 else a:=by
   intro a
   by_cases e1:g<1
   ·rw[decide_eq_true e1,if_pos (.inl e1)];rfl
   ·by_cases e2:8<g
    ·rw[decide_eq_false e1,decide_eq_true e2,if_pos (.inr e2)];rfl
    ·rw[decide_eq_false e1,decide_eq_false e2,if_neg (by omega)];rfl
  unfold ackT;simp only[aK_eq,aPzS_eq hc hr,aFk_eq oK,eqV_pt oK oK,decide_true,lab_nil,int_nat,eg,if_true,e,aLo_eq hc,aLo_eq hr,cE_if]
  congr 1
  by_cases p2:lab=⟨#[]⟩<;>by_cases p3:n=0<;>by_cases p3b:m=0<;>by_cases q1:c<pN<;>by_cases q2:r<pN<;>simp[ckE,bare,keyd,prfd,p2,p3,p3b,q1,q2]
 | .ofNat 4 =>
  unfold ackT;simp only[aK_eq,aPzS_eq hc hr,aFk_eq oK,eqV_pt oK oK,decide_true,lab_nil,int_nat,eb,if_true,aLo_eq hc,aLo_eq hr,cE_if]
  congr 1
  by_cases p2:lab=⟨#[]⟩<;>by_cases p3:n=0<;>by_cases p3b:m=0<;>by_cases p4:g=0<;>by_cases q1:c<pN<;>by_cases q2:r<pN<;>simp[ckE,bare,keyd,prfd,p2,p3,p3b,p4,q1,q2]
 | .ofNat 5 =>
  unfold ackT;simp only[aK_eq,aPz0_eq hc hr,eqV_pt oK okR_z,decide_eq_true_eq,lab_nil,int_nat,eb,cE_if]
  congr 1
  by_cases p1:(i,x,y)=zR<;>by_cases p2:lab=⟨#[]⟩<;>by_cases p3:n=0<;>by_cases p3b:m=0<;>by_cases p4:g=0<;>by_cases p5:(c,r)=((0,0):Nat×Nat)<;>simp[ckE,bare,keyd,prfd,p1,p2,p3,p3b,p4,p5]
end
end Go.W

namespace Go.Proofs.YtckbmhegopjnmaaGreat
set_option maxRecDepth 100000
open Go.W
noncomputable def pofS:Sums:=[(71,CChkF)]
theorem pofS_ok:SumsOk Tryz.prog pofS:=sums_cons cchk_sum sums_nil
noncomputable def pofC0:Cfg:=⟨tab,pofS,40,[([1,1,1,0,1,0],fun _=>[])]⟩
theorem pofC0_ok:CfgOk Tryz.prog pofC0 (bodyOf Tryz.f50):=⟨mixed,tabOk,pofS_ok,noneL2⟩
theorem pof_at:codeAt [1,1,1,0,1,0] (bodyOf Tryz.f50)=some (.loop (loopAt [1,1,1,0,1,0] (bodyOf Tryz.f50))):=by kernel_rfl
def pofN:List Nat:=[2,28,29,30]
def pofI:Ren:=[(agId 0 1,agId 0 1)]
def pofSt (m:Nat) (f:Nat->List Value) (e0:Nat) (r i:Int):St:=⟨[(2,i64 r),(28,.slice (some ⟨agId 0 1,0,none⟩) m m),(29,i64 (m:Int)),(30,i64 i)],[(agId 0 1,⟨.row kP9 m f,e0,false⟩)],27⟩
theorem pof_r (n:Nat) (V:Nat->RP) (e0 k:Nat):roundS pofC0 60 [1,1,1,0,1,0,0] (loopAt [1,1,1,0,1,0] (bodyOf Tryz.f50)) pofN pofI 27 pofN pofI 27 (pofSt n (ptF V) e0 0 (k:Int)) =
  bif decide ((k:Int)<(n:Int)) then rdR k n (req (isPt (ptV (V (0+k)))) (bif errP (ckR (unPt (ptV (V (0+k))))) != 0 then some (.ret,pofSt n (ptF V) e0 (errP (ckR (unPt (ptV (V (0+k)))))) (k:Int)) else some (.normal,pofSt n (ptF V) e0 0 (IntKind.i64.wrap ((k:Int)+1)))))
  else some (.exit 0,pofSt n (ptF V) e0 0 (k:Int)):=by kernel_rfl
theorem pof_step {n:Nat} {V:Nat->RP} {e0 k:Nat} (hn:n<=1000) (hV:∀j,j<n->okR (V j)) (hk:k<n):roundS pofC0 60 [1,1,1,0,1,0,0] (loopAt [1,1,1,0,1,0] (bodyOf Tryz.f50)) pofN pofI 27 pofN pofI 27 (pofSt n (ptF V) e0 0 (k:Int)) =
  bif ckR (V k) then some (.normal,pofSt n (ptF V) e0 0 ((k+1:Nat):Int)) else some (.ret,pofSt n (ptF V) e0 3 (k:Int)):=by
 refine(pof_r n V e0 k).trans ?_
 rw[decide_eq_true (by omega),cond_true,rdR_eq hk,isPt_ptV,req_true rfl,Nat.zero_add,unPt_ptV (hV k hk),wrap_i64 (by omega)]
 cases ckR (V k)<;>rfl
theorem pof_ok {n:Nat} {V:Nat->RP} {e0:Nat} (hn:n<=1000) (hV:∀j,j<n->okR (V j)) (hb:∀i,i<n->ckR (V i)=true):LoopOk Tryz.prog 40 (loopAt [1,1,1,0,1,0] (bodyOf Tryz.f50)) (atSt pofN pofI 27 (pofSt n (ptF V) e0 0 0) (.exit 0) (pofSt n (ptF V) e0 0 (n:Int))):=by
 refine loopE (fun _=>pofC0) n (fun _ _=>pofC0_ok) (fun _=>rfl) pof_at (m:=60) (nt:=pofN) (ni:=pofI) (et:=pofN) (ei:=pofI) (nx:=27) (ex:=27) (fun k=>pofSt n (ptF V) e0 0 (k:Int)) rfl (by intro h;cases h) ?_ ?_
 ·intro k hk
  exact⟨_,(pof_step hn hV hk).trans (by rw[hb k hk,cond_true]),stEq_refl rfl⟩
 ·refine⟨_,?_,stEq_refl rfl⟩
  refine(pof_r n V e0 n).trans ?_
  rw[decide_eq_false (by omega),cond_false]
theorem pof_bad {n:Nat} {V:Nat->RP} {e0 k:Nat} (hn:n<=1000) (hV:∀j,j<n->okR (V j)) (hk:k<n) (hc:ckR (V k)=false) (hb:∀i,i<k->ckR (V i)=true):LoopOk Tryz.prog 40 (loopAt [1,1,1,0,1,0] (bodyOf Tryz.f50)) (atSt pofN pofI 27 (pofSt n (ptF V) e0 0 0) .ret (pofSt n (ptF V) e0 3 (k:Int))):=by
 refine loopE (fun _=>pofC0) k (fun _ _=>pofC0_ok) (fun _=>rfl) pof_at (m:=60) (nt:=pofN) (ni:=pofI) (et:=pofN) (ei:=pofI) (nx:=27) (ex:=27) (fun k=>pofSt n (ptF V) e0 0 (k:Int)) rfl (by intro h;cases h) ?_ ?_
 ·intro i hi
  exact⟨_,(pof_step hn hV (by omega)).trans (by rw[hb i hi,cond_true]),stEq_refl rfl⟩
 ·exact⟨_,(pof_step hn hV hk).trans (by rw[hc,cond_false]),stEq_refl rfl⟩
noncomputable def pofC (n:Nat) (V:Nat->RP) (e0:Nat) (e:Exit) (r:Int) (k:Nat):Cfg:=⟨tab,pofS,40,[([1,1,1,0,1,0],atSt pofN pofI 27 (pofSt n (ptF V) e0 0 0) e (pofSt n (ptF V) e0 r (k:Int)))]⟩
theorem pof_ev0 (n:Nat) (f:Nat->List Value) (m:Nat) (h:Nat->List Value) (V:Nat->RP) (k:Nat) (es:Nat->TypeId) (er:Nat->Nat->TypeId) (id:Nat):fnX (pofC m V (es (agId 0 1)) (.exit 0) 0 k) 60 Tryz.f50 (bodyOf Tryz.f50) (cArgsX [.ag [.sl k32 n f,.sl kP9 m h]] 0) (cMemX es er [.ag [.sl k32 n f,.sl kP9 m h]]) 0 id =
  poT n m (rdR 0 m (bif toB ((h (0+0)).headD (.bool false)) then some (i64 3,[]) else req (stEq (pofSt m h (es (agId 0 1)) 0 0) (pofSt m (ptF V) (es (agId 0 1)) 0 0)) (some (i64 0,[])))) (some (i64 4,[])):=by kernel_rfl
theorem pof_ev1 (n:Nat) (f:Nat->List Value) (m:Nat) (h:Nat->List Value) (V:Nat->RP) (k:Nat) (es:Nat->TypeId) (er:Nat->Nat->TypeId) (id:Nat):fnX (pofC m V (es (agId 0 1)) .ret 3 k) 60 Tryz.f50 (bodyOf Tryz.f50) (cArgsX [.ag [.sl k32 n f,.sl kP9 m h]] 0) (cMemX es er [.ag [.sl k32 n f,.sl kP9 m h]]) 0 id =
  poT n m (rdR 0 m (bif toB ((h (0+0)).headD (.bool false)) then some (i64 3,[]) else req (stEq (pofSt m h (es (agId 0 1)) 0 0) (pofSt m (ptF V) (es (agId 0 1)) 0 0)) (some (i64 3,[])))) (some (i64 4,[])):=by kernel_rfl
theorem pof_ev2 (n:Nat) (f:Nat->List Value) (m:Nat) (h:Nat->List Value) (es:Nat->TypeId) (er:Nat->Nat->TypeId) (id:Nat):fnX pofC0 60 Tryz.f50 (bodyOf Tryz.f50) (cArgsX [.ag [.sl k32 n f,.sl kP9 m h]] 0) (cMemX es er [.ag [.sl k32 n f,.sl kP9 m h]]) 0 id =
  poT n m (rdR 0 m (bif toB ((h (0+0)).headD (.bool false)) then some (i64 3,[]) else none)) (some (i64 4,[])):=by kernel_rfl
theorem pof_msum:MSum Tryz.prog 50 PofF:=by
 intro w0 R fm w hm vs args' hl mm hsub id hlt v l hpick hnew
 match vs,hl,hpick with
 | [a],hl,hpick =>
  obtain ⟨hc,rfl,rfl⟩:=pick_one hpick
  obtain ⟨s,c,n,f,m,h,ea,hs,hq,ho⟩:=isPo_some hc
  subst ea
  have e1:srcB mm k32 (nV 0 (aggL (.agg #[s,c])))=(true,n,f):=hs
  have e2:srcB mm kP9 (nV 1 (aggL (.agg #[s,c])))=(true,m,h):=hq
  rw[e1,e2]
  have hm1:=(okP_iff.1 ho).1
  have hV:∀j,j<m->okR (pA h j):=fun j hj=>(el_pt ho hj).2
  refine msum_atX (c:=bodyOf Tryz.f50) (fuel:=60) (next:=0) Tryz.func50 (by kernel_rfl) (by kernel_rfl) hm hl hsub hlt
   (A:=[.ag [.sl k32 n f,.sl kP9 m h]]) ⟨⟨_,rfl,⟨⟨hs,nofun⟩,⟨hq,nofun⟩,trivial⟩⟩,trivial⟩ (by kernel_rfl) (by show 1<=Tryz.f50.ntmps;decide +kernel) (by intro p hp;cases hp) (fun es er=>?_)
  by_cases hb:8<n∨m<1∨64<m
  ·refine⟨pofC0,pofC0_ok,rfl,?_⟩
   refine(pof_ev2 n f m h es er id).trans ?_
   rw[poT_eq,if_pos hb];unfold poE;rw[if_pos hb]
  ·have hm0:0<m:=by omega
   cases hi:(pA h 0).1 with
   | true =>
    refine⟨pofC0,pofC0_ok,rfl,?_⟩
    refine(pof_ev2 n f m h es er id).trans ?_
    rw[poT_eq,if_neg hb,rdR_eq hm0,toB_pt ho (by omega),Nat.zero_add,hi];unfold poE;rw[if_neg hb,if_pos hi];rfl
   | false =>
    cases hal:alP (pA h) m with
    | true =>
     refine⟨pofC m (pA h) (es (agId 0 1)) (.exit 0) 0 m,⟨mixed,tabOk,pofS_ok,oneL (pof_ok hm1 hV (alP_iff.1 hal))⟩,rfl,?_⟩
     refine(pof_ev0 n f m h _ m es er id).trans ?_
     rw[poT_eq,if_neg hb,rdR_eq hm0,toB_pt ho (by omega),Nat.zero_add,hi,cond_false]
     refine(req_true (stEq_mk rfl (mRow (row_pt ho) mNil))).trans ?_
     unfold poE;rw[if_neg hb,hi,if_neg (by simp),hal,if_neg (by simp)]
    | false =>
     obtain ⟨k,hk,hck,hbk⟩:=first_no hal
     refine⟨pofC m (pA h) (es (agId 0 1)) .ret 3 k,⟨mixed,tabOk,pofS_ok,oneL (pof_bad hm1 hV hk hck hbk)⟩,rfl,?_⟩
     refine(pof_ev1 n f m h _ k es er id).trans ?_
     rw[poT_eq,if_neg hb,rdR_eq hm0,toB_pt ho (by omega),Nat.zero_add,hi,cond_false]
     refine(req_true (stEq_mk rfl (mRow (row_pt ho) mNil))).trans ?_
     unfold poE;rw[if_neg hb,hi,if_neg (by simp),hal,if_pos rfl]
 | [],_,h=>simp[PofF,pickM] at h
 | _::_::_,_,h=>simp[PofF,pickM] at h
noncomputable def akyS:Sums:=[(71,CChkF)]
theorem akyS_ok:SumsOk Tryz.prog akyS:=sums_cons cchk_sum sums_nil
noncomputable def akyE:Ent:=inl tab akyS 11 Tryz.f69 (bodyOf Tryz.f69)
theorem akyE_ok:EntOk Tryz.prog 69 akyE:=inl_sum tabOk akyS_ok mixed Tryz.func69 (by kernel_rfl) (by kernel_rfl) rfl
noncomputable def alwS:Sums:=[(93,PrimeF),(92,CmpF)]
theorem alwS_ok:SumsOk Tryz.prog alwS:=sums_cons Prime_sum (sums_cons Cmp_sum sums_nil)
noncomputable def alwE:Ent:=inl tab alwS 7 Tryz.f72 (bodyOf Tryz.f72)
theorem alwE_ok:EntOk Tryz.prog 72 alwE:=inl_sum tabOk alwS_ok mixed Tryz.func72 (by kernel_rfl) (by kernel_rfl) rfl
noncomputable def arfS:Sums:=[(69,akyE),(70,lChF)]
theorem arfS_ok:SumsOk Tryz.prog arfS:=sums_consI akyE_ok (sums_cons lck_sum sums_nil)
noncomputable def arfE:Ent:=inl tab arfS 10 Tryz.f49 (bodyOf Tryz.f49)
theorem arfE_ok:EntOk Tryz.prog 49 arfE:=inl_sum tabOk arfS_ok mixed Tryz.func49 (by kernel_rfl) (by kernel_rfl) rfl
noncomputable def avfS:Sums:=[(69,akyE),(72,alwE)]
theorem avfS_ok:SumsOk Tryz.prog avfS:=sums_consI akyE_ok (sums_consI alwE_ok sums_nil)
noncomputable def avfE:Ent:=inl tab avfS 19 Tryz.f52 (bodyOf Tryz.f52)
theorem avfE_ok:EntOk Tryz.prog 52 avfE:=inl_sum tabOk avfS_ok mixed Tryz.func52 (by kernel_rfl) (by kernel_rfl) rfl
noncomputable def adfS:Sums:=[(52,avfE)]
theorem adfS_ok:SumsOk Tryz.prog adfS:=sums_consI avfE_ok sums_nil
noncomputable def adfE:Ent:=inl tab adfS 14 Tryz.f51 (bodyOf Tryz.f51)
theorem adfE_ok:EntOk Tryz.prog 51 adfE:=inl_sum tabOk adfS_ok mixed Tryz.func51 (by kernel_rfl) (by kernel_rfl) rfl
noncomputable def aftS:Sums:=[(49,arfE),(50,.me PofF),(51,adfE),(52,avfE)]
theorem aftS_ok:SumsOk Tryz.prog aftS:=sums_consI arfE_ok (sums_consM pof_msum (sums_consI adfE_ok (sums_consI avfE_ok sums_nil)))
noncomputable def aftE:Ent:=inl tab aftS 44 Tryz.f28 (bodyOf Tryz.f28)
theorem aftE_ok:EntOk Tryz.prog 28 aftE:=inl_sum tabOk aftS_ok mixed Tryz.func28 (by kernel_rfl) (by kernel_rfl) rfl
noncomputable def awhS:Sums:=[]
theorem awhS_ok:SumsOk Tryz.prog awhS:=sums_nil
noncomputable def awhE:Ent:=inl tab awhS 62 Tryz.f38 (bodyOf Tryz.f38)
theorem awhE_ok:EntOk Tryz.prog 38 awhE:=inl_sum tabOk awhS_ok mixed Tryz.func38 (by kernel_rfl) (by kernel_rfl) rfl
noncomputable def afoS:Sums:=[]
theorem afoS_ok:SumsOk Tryz.prog afoS:=sums_nil
noncomputable def afoE:Ent:=inl tab afoS 45 Tryz.f26 (bodyOf Tryz.f26)
theorem afoE_ok:EntOk Tryz.prog 26 afoE:=inl_sum tabOk afoS_ok mixed Tryz.func26 (by kernel_rfl) (by kernel_rfl) rfl
noncomputable def abrS:Sums:=[(38,awhE)]
theorem abrS_ok:SumsOk Tryz.prog abrS:=sums_consI awhE_ok sums_nil
noncomputable def abrE:Ent:=inl tab abrS 52 Tryz.f27 (bodyOf Tryz.f27)
theorem abrE_ok:EntOk Tryz.prog 27 abrE:=inl_sum tabOk abrS_ok mixed Tryz.func27 (by kernel_rfl) (by kernel_rfl) rfl
noncomputable def ackS:Sums:=[(26,afoE),(27,abrE),(28,aftE)]
theorem ackS_ok:SumsOk Tryz.prog ackS:=sums_consI afoE_ok (sums_consI abrE_ok (sums_consI aftE_ok sums_nil))
noncomputable def ackC:Cfg:=⟨tab,ackS,14,[]⟩
theorem ack_ev (i:Bool) (x y:Nat) (lab:ByteArray) (n:Nat) (f:Nat->List Value) (m:Nat) (h:Nat->List Value) (g:Int) (c r:Nat) (es:Nat->TypeId) (er:Nat->Nat->TypeId) (id:Nat) :
  ∀k:Int,fnX ackC 60 Tryz.f9 (bodyOf Tryz.f9) (cArgsX [.ag (acA k (i,x,y) lab n f m h g (c,r))] 0) (cMemX es er [.ag (acA k (i,x,y) lab n f m h g (c,r))]) 0 id =
  ackT k i x y lab n m h g c r
 | .negSucc j=>by kernel_rfl
 | .ofNat 0=>by kernel_rfl
 | .ofNat 1=>by kernel_rfl
 | .ofNat 2=>by kernel_rfl
 | .ofNat 3=>by kernel_rfl
 | .ofNat 4=>by kernel_rfl
 | .ofNat 5=>by kernel_rfl
 | .ofNat (j+6)=>by kernel_rfl
theorem ack_msum:MSum Tryz.prog 9 CkeF:=by
 intro w0 R fm w hm vs args' hl mm hsub id hlt v l hpick hnew
 match vs,hl,hpick with
 | [a],hl,hpick =>
  obtain ⟨hc,rfl,rfl⟩:=pick_one hpick
  simp only[Bool.and_eq_true] at hc
  obtain ⟨hc,hz⟩:=hc
  obtain ⟨k,K,lab,s,c,g,X,n,f,m,q,ea,oK,oX,oX',hs,o1,hq,o2,eA⟩:=isA_some hc
  rw[eA] at hz ⊢
  clear eA hc
  subst ea
  refine msum_atX (c:=bodyOf Tryz.f9) (fuel:=60) (next:=0) Tryz.func9 (by kernel_rfl) (by kernel_rfl) hm hl hsub hlt
   (A:=[.ag (acA k K lab n f m q g X)]) ⟨⟨_,rfl,acA_ok hs hq⟩,trivial⟩ (by kernel_rfl) (by show 1<=Tryz.f9.ntmps;decide +kernel) (by intro p hp;cases hp) (fun es er=>?_)
  refine⟨ackC,⟨mixed,tabOk,ackS_ok,noL⟩,rfl,?_⟩
  exact(ack_ev K.1 K.2.1 K.2.2 lab n f m q g X.1 X.2 es er id k).trans (ackT_eq oK oX oX' o2 (Nat.le_of_ble_eq_true hz) k)
 | [],_,h=>simp[CkeF,pickM] at h
 | _::_::_,_,h=>simp[CkeF,pickM] at h
end Go.Proofs.YtckbmhegopjnmaaGreat

namespace Go.Proofs.YtckbmhegopjnmaaGreat
set_option maxRecDepth 100000
open Go.W
open Go.RowKit (Below)
def kbNt:List Nat:=[0,1,4,5]
def kbNi:List Nat:=[1500000,1500001]
def kbSt (n:Nat) (f:Nat->List Value) (m:Nat) (g:Nat->List Value) (e0 e1:Nat) (i:Int):St :=
 ⟨[(0,aSl 0 n),(1,aSl 1 m),(4,.bool false),(5,i64 i)],[(1500000,⟨.row kB n f,e0,false⟩),(1500001,⟨.row kB m g,e1,false⟩)],20⟩
def kbC0:Cfg:=⟨tab,[],26,[]⟩
theorem kbOk0:CfgOk Tryz.prog kbC0 (bodyOf Tryz.f12):=⟨mixed,tabOk,sums_nil,noL⟩
theorem kb_at:codeAt [1,1,0,1,0] (bodyOf Tryz.f12)=some (.loop (loopAt [1,1,0,1,0] (bodyOf Tryz.f12))):=by kernel_rfl
theorem kb_r (n:Nat) (f:Nat->List Value) (m:Nat) (g:Nat->List Value) (e0 e1:Nat) (i:Int):roundS kbC0 60 [1,1,0,1,0,0] (loopAt [1,1,0,1,0] (bodyOf Tryz.f12)) kbNt kbNi 20 kbNt kbNi 20 (kbSt n f m g e0 e1 i) =
  kbR n f m g i (some (.normal,kbSt n f m g e0 e1 (IntKind.i64.wrap (i+1)))) (some (.ret,kbSt n f m g e0 e1 i)) (some (.exit 0,kbSt n f m g e0 e1 i)):=by kernel_rfl
noncomputable def kbC (n:Nat) (f:Nat->List Value) (m:Nat) (g:Nat->List Value) (e0 e1:Nat) (e:Exit) (i:Int):Cfg:=⟨tab,[],26,[([1,1,0,1,0],atSt kbNt kbNi 20 (kbSt n f m g e0 e1 0) e (kbSt n f m g e0 e1 i))]⟩
theorem kb_ev0 (n:Nat) (f:Nat->List Value) (m:Nat) (g:Nat->List Value) (es:Nat->Nat) (i:Int) (id:Nat):fnMS (kbC n f m g (es 0) (es 1) (.exit 0) i) 60 Tryz.f12 (bodyOf Tryz.f12) (cArgs [.sl kB n f,.sl kB m g] 0) (cMem es [.sl kB n f,.sl kB m g] 0) 0 id =
  bif ((n:Nat):Int) != ((m:Nat):Int) then some (.bool false,[]) else req (stEq (kbSt n f m g (es 0) (es 1) 0) (kbSt n f m g (es 0) (es 1) 0)) (some (.bool true,[])):=by kernel_rfl
theorem kb_ev1 (n:Nat) (f:Nat->List Value) (m:Nat) (g:Nat->List Value) (es:Nat->Nat) (i:Int) (id:Nat):fnMS (kbC n f m g (es 0) (es 1) .ret i) 60 Tryz.f12 (bodyOf Tryz.f12) (cArgs [.sl kB n f,.sl kB m g] 0) (cMem es [.sl kB n f,.sl kB m g] 0) 0 id =
  bif ((n:Nat):Int) != ((m:Nat):Int) then some (.bool false,[]) else req (stEq (kbSt n f m g (es 0) (es 1) 0) (kbSt n f m g (es 0) (es 1) 0)) (some (.bool false,[])):=by kernel_rfl
theorem kb_ev2 (n:Nat) (f:Nat->List Value) (m:Nat) (g:Nat->List Value) (es:Nat->Nat) (id:Nat):fnMS ⟨tab,[],26,[([1,1,0,1,0],fun _=>[])]⟩ 60 Tryz.f12 (bodyOf Tryz.f12) (cArgs [.sl kB n f,.sl kB m g] 0) (cMem es [.sl kB n f,.sl kB m g] 0) 0 id =
  bif ((n:Nat):Int) != ((m:Nat):Int) then some (.bool false,[]) else none:=by kernel_rfl
theorem kb_msum:MSum Tryz.prog 12 KbF:=by
 intro w0 R fm w hm vs args' hl mm hsub id hlt v l hpick hnew
 match vs,hl,hpick with
 | [a,b],hl,hpick =>
  obtain ⟨hc,rfl,rfl⟩:=pick_one hpick
  simp only[Bool.and_eq_true] at hc
  obtain ⟨⟨ha,hb⟩,hn⟩:=hc
  generalize hqa:srcB mm kB a=qa at ha hn ⊢
  generalize hqb:srcB mm kB b=qb at hb ⊢
  obtain ⟨ok1,n,f⟩:=qa
  obtain ⟨ok2,m,g⟩:=qb
  simp only at ha hb hn ⊢
  subst ha hb
  have hn:=Nat.le_of_ble_eq_true hn
  have hA:AOk mm [a,b] [.sl kB n f,.sl kB m g]:=⟨hqa,hqb,trivial⟩
  refine msum_at (c:=bodyOf Tryz.f12) (fuel:=60) (next:=0) Tryz.func12 (by kernel_rfl) (by kernel_rfl) hm hl hsub hlt hA (by show 2<=Tryz.f12.ntmps;decide +kernel) (.inl rfl) hnew (fun es=>?_)
  have rounds:∀(k:Nat) (e:Exit) (i:Int),n=m->k<=n->(∀j,j<k->bI f j=bI g j)->e≠.normal->kbR n f m g (k:Int) (some (.normal,kbSt n f m g (es 0) (es 1) (IntKind.i64.wrap ((k:Int)+1)))) (some (.ret,kbSt n f m g (es 0) (es 1) (k:Int))) (some (.exit 0,kbSt n f m g (es 0) (es 1) (k:Int)))=some (e,kbSt n f m g (es 0) (es 1) i) ->
    LoopOk Tryz.prog 26 (loopAt [1,1,0,1,0] (bodyOf Tryz.f12)) (atSt kbNt kbNi 20 (kbSt n f m g (es 0) (es 1) 0) e (kbSt n f m g (es 0) (es 1) i)):=by
   intro k e i hnm hk hj he hlast
   subst hnm
   refine atSt_ok fun w0 R a W hrel=>?_
   refine loop_rounds (R:=R) (C:=kbC0) kbOk0 kb_at (m:=60) (nt:=kbNt) (ni:=kbNi) (et:=kbNt) (ei:=kbNi) (nx:=20) (ex:=20) (e:=e) (sf:=kbSt n f n g (es 0) (es 1) i)
    (fun j=>kbSt n f n g (es 0) (es 1) (j:Int)) k he ?_ ?_ hrel
   ·intro j hjk
    refine(kb_r _ _ _ _ _ _ _).trans ?_
    rw[kbR_eq (by omega),if_pos (hj j hjk),wrap_i64 (by omega)];rfl
   ·exact(kb_r _ _ _ _ _ _ _).trans hlast
  by_cases hnm:n=m
  ·subst hnm
   have hne:((((n:Nat):Int) != ((n:Nat):Int)):Bool)=false:=bne_self_eq_false _
   by_cases hall:∀j,j<n->bI f j=bI g j
   ·refine⟨kbC n f n g (es 0) (es 1) (.exit 0) (n:Int),⟨mixed,tabOk,sums_nil,oneL (rounds n (.exit 0) (n:Int) rfl (Nat.le_refl _) hall (by intro h;cases h) (kbR_out _ _ _))⟩,rfl,?_⟩
    refine(kb_ev0 n f n g es _ id).trans ?_
    rw[hne,cond_false,req_true (stEq_refl rfl),eqR_iff.2 ⟨rfl,hall⟩]
   ·obtain ⟨k,h1,h2,h3⟩:=first_diff hall
    refine⟨kbC n f n g (es 0) (es 1) .ret (k:Int),⟨mixed,tabOk,sums_nil,oneL (rounds k .ret (k:Int) rfl (by omega) h3 (by intro h;cases h) (by rw[kbR_eq h1,if_neg h2]))⟩,rfl,?_⟩
    refine(kb_ev1 n f n g es _ id).trans ?_
    have:eqR n f n g=false:=by rw[Bool.eq_false_iff,ne_eq,eqR_iff];exact fun h=>hall h.2
    rw[hne,cond_false,req_true (stEq_refl rfl),this]
  ·refine⟨⟨tab,[],26,[([1,1,0,1,0],fun _=>[])]⟩,⟨mixed,tabOk,sums_nil,noneL2⟩,rfl,?_⟩
   refine(kb_ev2 n f m g es id).trans ?_
   have:eqR n f m g=false:=by rw[Bool.eq_false_iff,ne_eq,eqR_iff];exact fun h=>hnm h.1
   rw[show((((n:Nat):Int) != ((m:Nat):Int)):Bool)=true from by rw[bne_iff_ne];omega,cond_true,this]
 | [],_,h=>simp[KbF,pickM] at h
 | [_],_,h=>simp[KbF,pickM] at h
 | _::_::_::_,_,h=>simp[KbF,pickM] at h
def twnC:Cfg:=⟨tab,[],7,[]⟩
theorem twnOk:CfgOk Tryz.prog twnC (bodyOf Tryz.f15):=⟨mixed,tabOk,sums_nil,noL⟩
theorem twn_ev (n:Nat) (f:Nat->List Value) (es:Nat->Nat) (id:Nat):fnMS twnC 60 Tryz.f15 (bodyOf Tryz.f15) (cArgs [.sl kB n f] 0) (cMem es [.sl kB n f] 0) 0 id =
  req (Nat.ble n n&&true) (req (szOk n 1) (req (Nat.ble n n) (some (.slice (some ⟨nid id 0,0,none⟩) n n,[(nid id 0,⟨.row kB n (twF f),5,true⟩)])))):=by kernel_rfl
theorem twn_msum:MSum Tryz.prog 15 (TwnF 5):=by
 refine msum_of (fuel:=60) (next:=0) twnOk Tryz.func15 (by kernel_rfl) (by kernel_rfl) rfl fun vs mm id v l hpick hlt=>?_
 match vs,hpick with
 | [a],hpick =>
  obtain ⟨hc,rfl,rfl⟩:=pick_one hpick
  simp only[Bool.and_eq_true] at hc
  obtain ⟨ha,hs⟩:=hc
  generalize hqa:srcB mm kB a=qa at ha hs ⊢
  obtain ⟨ok1,n,f⟩:=qa
  simp only at ha hs ⊢
  subst ha
  refine⟨[.sl kB n f],⟨hqa,trivial⟩,by show 1<=Tryz.f15.ntmps;decide +kernel,.inr ⟨_,rfl⟩,fun es=>?_⟩
  have hnn:Nat.ble n n=true:=by rw[Nat.ble_eq];exact Nat.le_refl _
  exact(twn_ev n f es id).trans (by rw[hnn,hs];rfl)
 | [],h=>simp[TwnF,pickM] at h
 | _::_::_,h=>simp[TwnF,pickM] at h
end Go.Proofs.YtckbmhegopjnmaaGreat

namespace Go.Proofs.YtckbmhegopjnmaaGreat
set_option maxRecDepth 100000
open Go.W
open Go.RowKit (Below)
def cbyC:Cfg:=⟨tab,[(91,CkF),(68,BytesF),(106,BitF)],22,[]⟩
theorem cbyOk:CfgOk Tryz.prog cbyC (bodyOf Tryz.f89):=⟨mixed,tabOk,sums_cons cis_sum (sums_cons Bytes_sum (sums_cons Bit_sum sums_nil)),noL⟩
theorem cby_ev (i:Bool) (X Y:Nat) (es:Nat->Nat) (id:Nat):fnMS cbyC 60 Tryz.f89 (bodyOf Tryz.f89) (cArgs [.pl (ptV (i,X,Y))] 0) (cMem es [.pl (ptV (i,X,Y))] 0) 0 id=cBytT 5 id i (num X) (num Y):=by kernel_rfl
theorem cby_msum:MSum Tryz.prog 89 (CBytF 5):=by
 refine msum_of (fuel:=60) (next:=0) cbyOk Tryz.func89 (by kernel_rfl) (by kernel_rfl) rfl fun vs mm id v l hpick hlt=>?_
 match vs,hpick with
 | [a],hpick =>
  obtain ⟨r,hr,rfl⟩:∃r,okR r∧a=ptV r:=by
   cases hc:isPt a with
   | true=>exact isPt_some hc
   | false=>rw[CBytF_eq,hc] at hpick;simp[pickM] at hpick
  obtain ⟨i,X,Y⟩:=r
  refine⟨[.pl (ptV (i,X,Y))],⟨rfl,rfl,trivial⟩,by show 1<=Tryz.f89.ntmps;decide +kernel,CBytF_one hpick,fun es=>?_⟩
  exact(cby_ev i X Y es id).trans ((cBytT_eq hr.1 hr.2).trans hpick)
 | [],h=>simp[CBytF,pickM] at h
 | _::_::_,h=>simp[CBytF,pickM] at h
def BytesRC:Cfg:=⟨tab,[],24,[]⟩
theorem BytesROk:CfgOk Tryz.prog BytesRC (bodyOf Tryz.f33):=⟨mixed,tabOk,sums_nil,noL⟩
theorem BytesR_ev (a b c d:Nat):fnS BytesRC 100 Tryz.f33 (bodyOf Tryz.f33) [numd a b c d]=BytesT a b c d:=by kernel_rfl
theorem BytesR_sum:Sum Tryz.prog 33 BytesF:=by
 refine sum_of BytesROk Tryz.func33 (by kernel_rfl) (by kernel_rfl) rfl (fuel:=100) fun args v h _=>?_
 obtain ⟨X,hX,rfl,rfl⟩:=arg1 (f:=fun x=>bytesV (unnum x)) h
 refine⟨by show 1<=Tryz.f33.ntmps;decide +kernel,?_,by kernel_rfl⟩
 obtain ⟨a,b,c,d,h0,h1,h2,h3,e1,e2⟩:=digits hX
 rw[unnum_lt hX,e2,BytesR_ev,BytesT_eq h0 h1 h2,e1]
def rbyC:Cfg:=⟨tab,[(33,BytesF)],21,[]⟩
theorem rbyOk:CfgOk Tryz.prog rbyC (bodyOf Tryz.f34):=⟨mixed,tabOk,sums_cons BytesR_sum sums_nil,noL⟩
theorem rby_ev (i:Bool) (X Y:Nat) (es:Nat->Nat) (id:Nat):fnMS rbyC 60 Tryz.f34 (bodyOf Tryz.f34) (cArgs [.pl (ptV (i,X,Y))] 0) (cMem es [.pl (ptV (i,X,Y))] 0) 0 id=rBytT 5 id i (num X) (dig Y 0):=by kernel_rfl
theorem rby_msum:MSum Tryz.prog 34 (RBytF 5):=by
 refine msum_of (fuel:=60) (next:=0) rbyOk Tryz.func34 (by kernel_rfl) (by kernel_rfl) rfl fun vs mm id v l hpick hlt=>?_
 match vs,hpick with
 | [a],hpick =>
  obtain ⟨r,hr,rfl⟩:∃r,okR r∧a=ptV r:=by
   cases hc:isPt a with
   | true=>exact isPt_some hc
   | false=>rw[RBytF_eq,hc] at hpick;simp[pickM] at hpick
  obtain ⟨i,X,Y⟩:=r
  refine⟨[.pl (ptV (i,X,Y))],⟨rfl,rfl,trivial⟩,by show 1<=Tryz.f34.ntmps;decide +kernel,RBytF_one hpick,fun es=>?_⟩
  exact(rby_ev i X Y es id).trans ((rBytT_eq hr.1 hr.2).trans hpick)
 | [],h=>simp[RBytF,pickM] at h
 | _::_::_,h=>simp[RBytF,pickM] at h
def crdC:Cfg:=⟨tab,[(95,ReadF),(97,SqAF),(96,RootF),(98,TrnF)],64,[]⟩
theorem crdOk:CfgOk Tryz.prog crdC (bodyOf Tryz.f75):=⟨mixed,tabOk,(sums_cons Read_sum (sums_cons csq_sum (sums_cons Root_sum (sums_cons ctrn_sum sums_nil)))),noL⟩
theorem crd_33 (f:Nat->List Value) (es:Nat->Nat) (id:Nat):fnMS crdC 60 Tryz.f75 (bodyOf Tryz.f75) (cArgs [.sl kB 33 f] 0) (cMem es [.sl kB 33 f] 0) 0 id=rd33 (bI f 0) (rdK (b32V f) (bI f 0)):=by kernel_rfl
theorem crd_1 (f:Nat->List Value) (es:Nat->Nat) (id:Nat):fnMS crdC 60 Tryz.f75 (bodyOf Tryz.f75) (cArgs [.sl kB 1 f] 0) (cMem es [.sl kB 1 f] 0) 0 id=rd1 (bI f 0):=by kernel_rfl
theorem crd_more (k:Nat) (f:Nat->List Value) (es:Nat->Nat) (id:Nat):fnMS crdC 60 Tryz.f75 (bodyOf Tryz.f75) (cArgs [.sl kB (k+34) f] 0) (cMem es [.sl kB (k+34) f] 0) 0 id=eT 7:=by kernel_rfl
theorem crd_less (f:Nat->List Value) (es:Nat->Nat) (id:Nat):∀n,n<33->n≠1->fnMS crdC 60 Tryz.f75 (bodyOf Tryz.f75) (cArgs [.sl kB n f] 0) (cMem es [.sl kB n f] 0) 0 id=eT 7
 | 0,_,_=>by kernel_rfl
 | 1,_,h=>absurd rfl h
 | 2,_,_=>by kernel_rfl
 | 3,_,_=>by kernel_rfl
 | 4,_,_=>by kernel_rfl
 | 5,_,_=>by kernel_rfl
 | 6,_,_=>by kernel_rfl
 | 7,_,_=>by kernel_rfl
 | 8,_,_=>by kernel_rfl
 | 9,_,_=>by kernel_rfl
 | 10,_,_=>by kernel_rfl
 | 11,_,_=>by kernel_rfl
 | 12,_,_=>by kernel_rfl
 | 13,_,_=>by kernel_rfl
 | 14,_,_=>by kernel_rfl
 | 15,_,_=>by kernel_rfl
 | 16,_,_=>by kernel_rfl
 | 17,_,_=>by kernel_rfl
 | 18,_,_=>by kernel_rfl
 | 19,_,_=>by kernel_rfl
 | 20,_,_=>by kernel_rfl
 | 21,_,_=>by kernel_rfl
 | 22,_,_=>by kernel_rfl
 | 23,_,_=>by kernel_rfl
 | 24,_,_=>by kernel_rfl
 | 25,_,_=>by kernel_rfl
 | 26,_,_=>by kernel_rfl
 | 27,_,_=>by kernel_rfl
 | 28,_,_=>by kernel_rfl
 | 29,_,_=>by kernel_rfl
 | 30,_,_=>by kernel_rfl
 | 31,_,_=>by kernel_rfl
 | 32,_,_=>by kernel_rfl
 | n+33,h,_=>absurd h (by omega)
theorem crd_msum:MSum Tryz.prog 75 RdF:=by
 refine msum_of (fuel:=60) (next:=0) crdOk Tryz.func75 (by kernel_rfl) (by kernel_rfl) rfl fun vs mm id v l hpick hlt=>?_
 match vs,hpick with
 | [a],hpick =>
  obtain ⟨hc,rfl,rfl⟩:=pick_one hpick
  simp only[Bool.and_eq_true] at hc
  obtain ⟨ha,hs⟩:=hc
  generalize hqa:srcB mm kB a=qa at ha hs ⊢
  obtain ⟨ok1,n,f⟩:=qa
  simp only at ha hs ⊢
  subst ha
  refine⟨[.sl kB n f],⟨hqa,trivial⟩,by show 1<=Tryz.f75.ntmps;decide +kernel,.inl trivial,fun es=>?_⟩
  exact rd_all (fun n=>fnMS crdC 60 Tryz.f75 (bodyOf Tryz.f75) (cArgs [.sl kB n f] 0) (cMem es [.sl kB n f] 0) 0 id) hs (crd_1 f es id) (crd_33 f es id) (fun h=>rdK_eq h) (crd_less f es id) (fun k=>crd_more k f es id)
 | [],h=>simp[RdF,pickM] at h
 | _::_::_,h=>simp[RdF,pickM] at h
end Go.Proofs.YtckbmhegopjnmaaGreat

namespace Go.Proofs.YtckbmhegopjnmaaGreat
set_option maxRecDepth 100000
open Go.W
noncomputable def rpuS:Sums:=[(15,TwnF 5)]
theorem rpuS_ok:SumsOk Tryz.prog rpuS:=sums_consM twn_msum sums_nil
noncomputable def rpuC0:Cfg:=⟨tab,rpuS,46,[]⟩
theorem rpu_at:codeAt [1,1,1,0,1,0] (bodyOf Tryz.f53)=some (.loop (loopAt [1,1,1,0,1,0] (bodyOf Tryz.f53))):=by kernel_rfl
def rpuB:Nat:=nid 21 0
def rpuNt:List Nat:=[1,8,9]
def rpuNi:Ren:=[(rpuB,nid 36 0)]
def rpuEi:Ren:=[(rpuB,rpuB)]
def rpuSt (n:Int) (L:Nat) (F:Nat->List Value) (i:Int):St:=⟨[(1,i64 n),(8,.slice (some ⟨rpuB,0,none⟩) L L),(9,i64 i)],[(rpuB,⟨.row kB L F,5,true⟩)],26⟩
theorem rpu_r (n:Int) (L:Nat) (F:Nat->List Value) (i:Int):roundS rpuC0 60 [1,1,1,0,1,0,0] (loopAt [1,1,1,0,1,0] (bodyOf Tryz.f53)) rpuNt rpuNi 26 rpuNt rpuEi 26 (rpuSt n L F i) =
  bif decide (i>=0) then bif decide (IntKind.u64.wrap (IntKind.i64.wrap (8*i))<0) then none else apB L (some (.normal,rpuSt n (L+1) (appF L F (lstF [.int .u8 (IntKind.u8.wrap (iShr .i64 n (IntKind.u64.wrap (IntKind.i64.wrap (8*i)))))] 0 1)) (IntKind.i64.wrap (i - 1))))
  else some (.exit 0,rpuSt n L F i):=by kernel_rfl
theorem rpu_loop {m:Nat} {g:Nat->List Value} {n s:Int} (hm:m<=900000) (hok:pkOk n s):LoopOk Tryz.prog 46 (loopAt [1,1,1,0,1,0] (bodyOf Tryz.f53)) (atSt rpuNt rpuEi 26 (rpuSt n m (pkR m g n s) (s - 1)) (.exit 0) (rpuSt n (m+s.toNat) (pkR m g n s) (-1))):=by
 obtain ⟨h1,h7,hn,_⟩:=hok
 refine loopE (fun _=>rpuC0) s.toNat (fun _ _=>⟨mixed,tabOk,rpuS_ok,noL⟩) (fun _=>rfl) rpu_at (m:=60) (nt:=rpuNt) (ni:=rpuNi) (et:=rpuNt) (ei:=rpuEi) (nx:=26) (ex:=26) (fun k=>rpuSt n (m+k) (pkR m g n s) (s - 1 - (k:Int))) (by show rpuSt _ _ _ _=rpuSt _ _ _ _;rw[Nat.add_zero,Int.natCast_zero,Int.sub_zero]) (by intro h;cases h) ?_ ?_
 ·intro k hk
  have hi:s - 1 - (k:Int)=((s.toNat - 1 - k:Nat):Int):=by omega
  refine⟨_,?_,stEq_mk (sl:=[(1,i64 n),(8,.slice (some ⟨rpuB,0,none⟩) (m+k+1) (m+k+1)),(9,i64 (s - 1 - ((k+1:Nat):Int)))]) rfl (mRow (pk_step m g n s k) mNil)⟩
  refine(rpu_r n (m+k) _ _).trans ?_
  rw[decide_eq_true (by omega),cond_true,hi,sh8 (by omega),decide_eq_false (by omega),cond_false,apB_eq (by omega),<-sh8 (show s.toNat - 1 - k<=7 by omega),byt_n hn (by omega),wrap_i64 (by omega),show((s.toNat - 1 - k:Nat):Int) - 1=s - 1 - ((k+1:Nat):Int) from by omega];rfl
 ·refine⟨_,?_,stEq_refl rfl⟩
  refine(rpu_r n (m+s.toNat) _ _).trans ?_
  rw[show s - 1 - ((s.toNat:Nat):Int)=-1 from by omega,decide_eq_false (by omega),cond_false]
noncomputable def rpuC (n:Int) (m:Nat) (F:Nat->List Value) (s:Int) (L:Nat):Cfg:=⟨tab,rpuS,46,[([1,1,1,0,1,0],atSt rpuNt rpuEi 26 (rpuSt n m F (s - 1)) (.exit 0) (rpuSt n L F (-1)))]⟩
theorem rpu_ev (m:Nat) (g:Nat->List Value) (n s:Int) (F:Nat->List Value) (L:Nat) (es:Nat->Nat) (id:Nat):fnMS (rpuC n m F s L) 60 Tryz.f53 (bodyOf Tryz.f53) (cArgs [.sl kB m g,.pl (i64 n),.pl (i64 s)] 0) (cMem es [.sl kB m g,.pl (i64 n),.pl (i64 s)] 0) 0 id =
  bif decide (s<1) then pkErr else bif decide (s > 7) then pkErr else bif decide (n<0) then pkErr else bif decide (IntKind.u64.wrap (IntKind.i64.wrap (8*s))<0) then none else bif iShr .i64 n (IntKind.u64.wrap (IntKind.i64.wrap (8*s))) != 0 then pkErr else
   req (kb4 m&&szOk m 1) (req (stEq (rpuSt n m (twF (sgF m g)) (IntKind.i64.wrap (s - 1))) (rpuSt n m F (s - 1))) (req (Nat.ble L L) (some (.tuple #[nSl id L,i64 0],rw1 5 id L F)))):=by kernel_rfl
theorem rpu_evN (m:Nat) (g:Nat->List Value) (n s:Int) (es:Nat->Nat) (id:Nat):fnMS ⟨tab,rpuS,46,[([1,1,1,0,1,0],fun _=>[])]⟩ 60 Tryz.f53 (bodyOf Tryz.f53) (cArgs [.sl kB m g,.pl (i64 n),.pl (i64 s)] 0) (cMem es [.sl kB m g,.pl (i64 n),.pl (i64 s)] 0) 0 id =
  bif decide (s<1) then pkErr else bif decide (s > 7) then pkErr else bif decide (n<0) then pkErr else bif decide (IntKind.u64.wrap (IntKind.i64.wrap (8*s))<0) then none else bif iShr .i64 n (IntKind.u64.wrap (IntKind.i64.wrap (8*s))) != 0 then pkErr else
   req (kb4 m&&szOk m 1) none:=by kernel_rfl
theorem rpu_msum:MSum Tryz.prog 53 (PutF 5):=by
 intro w0 R fm w hm vs args' hl mm hsub id hlt v l hpick hnew
 unfold PutF at hpick
 split at hpick
 ·rename_i a n s
  obtain ⟨hc,rfl,rfl⟩:=pick_one hpick
  simp only[Bool.and_eq_true] at hc
  obtain ⟨ha,hle⟩:=hc
  generalize hqa:srcB mm kB a=qa at ha hle hnew ⊢
  obtain ⟨ok1,m,g⟩:=qa
  simp only at ha hle hnew ⊢
  subst ha
  have hle:=Nat.le_of_ble_eq_true hle
  have hA:AOk mm [a,i64 n,i64 s] [.sl kB m g,.pl (i64 n),.pl (i64 s)]:=⟨hqa,rfl,rfl,rfl,rfl,trivial⟩
  by_cases hok:pkOk n s
  ·rw[pkL_ok hok] at hnew ⊢
   rw[pkE_ok hok]
   refine msum_at (c:=bodyOf Tryz.f53) (fuel:=60) (next:=0) Tryz.func53 (by kernel_rfl) (by kernel_rfl) hm hl hsub hlt hA (by show 3<=Tryz.f53.ntmps;decide +kernel) (.inr ⟨_,rfl⟩) hnew (fun es=>?_)
   refine⟨rpuC n m (pkR m g n s) s (m+s.toNat),⟨mixed,tabOk,rpuS_ok,oneL (rpu_loop hle hok)⟩,rfl,?_⟩
   refine(rpu_ev m g n s _ _ es id).trans ?_
   rw[pk_tree hok,kb4_true,szOk_small (by omega),req_true (b:=true&&true) rfl,wrap_i64 (by have:=hok.1;have:=hok.2.1;omega)]
   refine(req_true (stEq_mk (sl:=[(1,i64 n),(8,.slice (some ⟨rpuB,0,none⟩) m m),(9,i64 (s - 1))]) rfl (mRow (pk_twn m g n s) mNil))).trans ?_
   rw[ble_of (Nat.le_refl _),req_true rfl]
  ·rw[pkL_no hok] at hnew ⊢
   rw[pkE_no hok]
   refine invokes_nilT (rest:=[i64 1]) hlt (new_free hnew) (msum_at (v:=.tuple #[.slice none 0 0,i64 1]) (l:=[]) (c:=bodyOf Tryz.f53) (fuel:=60) (next:=0) Tryz.func53 (by kernel_rfl) (by kernel_rfl) hm hl hsub hlt hA (by show 3<=Tryz.f53.ntmps;decide +kernel) (.inl rfl) nofun (fun es=>?_))
   refine⟨⟨tab,rpuS,46,[([1,1,1,0,1,0],fun _=>[])]⟩,⟨mixed,tabOk,rpuS_ok,noneL2⟩,rfl,?_⟩
   exact(rpu_evN m g n s es id).trans (pk_treeN hok _)
 ·simp[pickM] at hpick
noncomputable def rppS:Sums:=[(53,PutF 5)]
theorem rppS_ok:SumsOk Tryz.prog rppS:=sums_consM rpu_msum sums_nil
noncomputable def rppC:Cfg:=⟨tab,rppS,21,[]⟩
theorem rppOk:CfgOk Tryz.prog rppC (bodyOf Tryz.f35):=⟨mixed,tabOk,rppS_ok,noL⟩
theorem rpp_ev (m:Nat) (g:Nat->List Value) (k:Nat) (p:Nat->List Value) (es:Nat->Nat) (id:Nat):fnMS rppC 60 Tryz.f35 (bodyOf Tryz.f35) (cArgs [.sl kB m g,.sl kB k p] 0) (cMem es [.sl kB m g,.sl kB k p] 0) 0 id =
  bif decide ((k:Int) > 16384) then ppErr else req (kb4 m&&Nat.ble m 900000) (apK (pkL m (k:Nat) 4) k (req (Nat.ble (pkL m (k:Nat) 4+k) (pkL m (k:Nat) 4+k))
   (some (.tuple #[nSl id (pkL m (k:Nat) 4+k),i64 0],rw1 5 id (pkL m (k:Nat) 4+k) (appF (pkL m (k:Nat) 4) (pkR m (sgF m g) (k:Nat) 4) (sgF k p)))))):=by kernel_rfl
theorem rpp_msum:MSum Tryz.prog 35 (PtpF 5):=by
 intro w0 R fm w hm vs args' hl mm hsub id hlt v l hpick hnew
 match vs,hl,hpick with
 | [a,b],hl,hpick =>
  obtain ⟨hc,rfl,rfl⟩:=pick_one hpick
  simp only[Bool.and_eq_true] at hc
  obtain ⟨⟨ha,hb⟩,hle⟩:=hc
  generalize hqa:srcB mm kB a=qa at ha hle hnew ⊢
  generalize hqb:srcB mm kB b=qb at hb hnew ⊢
  obtain ⟨ok1,m,g⟩:=qa
  obtain ⟨ok2,k,p⟩:=qb
  simp only at ha hb hle hnew ⊢
  subst ha hb
  have hle:=Nat.le_of_ble_eq_true hle
  have hA:AOk mm [a,b] [.sl kB m g,.sl kB k p]:=⟨hqa,hqb,trivial⟩
  unfold ppL at hnew ⊢
  unfold ppE
  rw[hide_eq] at hnew ⊢
  rw[hide_eq]
  by_cases hok:k<=16384
  ·rw[if_pos hok] at hnew ⊢
   rw[if_pos hok]
   refine invokes_eqv (pp_row m g k p) ?_
   refine msum_at (c:=bodyOf Tryz.f35) (fuel:=60) (next:=0) Tryz.func35 (by kernel_rfl) (by kernel_rfl) hm hl hsub hlt hA (by show 2<=Tryz.f35.ntmps;decide +kernel) (.inr ⟨_,rfl⟩) (new_any hnew) (fun es=>?_)
   refine⟨rppC,rppOk,rfl,?_⟩
   refine(rpp_ev m g k p es id).trans ?_
   rw[decide_eq_false (by omega),cond_false,kb4_true,bE hle,req_true (b:=true&&true) rfl,pkL_ok (pk_len k hok),show((4:Int).toNat)=4 from rfl,apK_eq (by omega),bE (Nat.le_refl _),req_true rfl];rfl
  ·rw[if_neg hok] at hnew ⊢
   rw[if_neg hok]
   refine invokes_nilT (rest:=[i64 4]) hlt (new_free hnew) (msum_at (v:=.tuple #[.slice none 0 0,i64 4]) (l:=[]) (c:=bodyOf Tryz.f35) (fuel:=60) (next:=0) Tryz.func35 (by kernel_rfl) (by kernel_rfl) hm hl hsub hlt hA (by show 2<=Tryz.f35.ntmps;decide +kernel) (.inl rfl) nofun (fun es=>?_))
   refine⟨rppC,rppOk,rfl,?_⟩
   refine(rpp_ev m g k p es id).trans ?_
   rw[decide_eq_true (by omega),cond_true];rfl
 | [],_,h=>simp[PtpF,pickM] at h
 | [_],_,h=>simp[PtpF,pickM] at h
 | _::_::_::_,_,h=>simp[PtpF,pickM] at h
end Go.Proofs.YtckbmhegopjnmaaGreat

namespace Go.W
def IszF:List Value->Option (Bool×Value)
 | [.int .i64 s]=>some (true,.bool (bif decide (1<=s) then decide (s<=7) else false))
 | _=>none
def mkC (a b:Int):Bool:=decide (a<=b)&&decide (0<=a)&&szOk b.toNat 1&&true&&true&&true&&true&&true
theorem mkC_true {a:Nat} {k:Int} (hk:0<=k) (h:a+k<=2000000):mkC (a:Int) (IntKind.i64.wrap ((a:Int)+k))=true:=by
 unfold mkC
 rw[wrap_i64 (by omega),decide_eq_true (by omega),decide_eq_true (by omega),szOk_small (by omega)];rfl
def cpR (m:Nat) (g:Nat->List Value):Nat->List Value:=cpyF (fun _=>[z8]) 0 (min m m) (sgF m g)
theorem bI_cp {m:Nat} {g:Nat->List Value} {j:Nat} (h:j<m):bI (cpR m g) j=bI g j:=by
 unfold cpR
 rw[bI_cpy,Nat.min_self,if_pos h,bI_sg]
def CopF (e:Nat):List Value->(Nat->Option Blk)->Nat->List (Bool×Value×List (Nat×Blk))
 | [b,.int .i64 k],mm,id=>[((srcB mm kB b).1&&(Nat.ble (srcB mm kB b).2.1 1000000&&(decide (0<=k)&&decide (k<=1000000))),nSl id (srcB mm kB b).2.1,rw1 e id (srcB mm kB b).2.1 (cpR (srcB mm kB b).2.1 (srcB mm kB b).2.2))]
 | _,_,_=>[]
noncomputable def pkB (n s:Int):Bool:=hide (decide (pkOk n s))
theorem pkB_iff {n s:Int}:pkB n s=true↔pkOk n s:=by unfold pkB;rw[hide_eq,decide_eq_true_eq]
noncomputable def LaiF (e:Nat):List Value->(Nat->Option Blk)->Nat->List (Bool×Value×List (Nat×Blk))
 | [b,.int .i64 n,.int .i64 s],mm,id=>[((srcW mm kB e b).1&&(Nat.ble (srcW mm kB e b).2.2.1 900000&&pkB n s),nSl id ((srcW mm kB e b).2.2.1+s.toNat),
   [(nid id 0,⟨.row kB ((srcW mm kB e b).2.2.1+s.toNat) (pkR (srcW mm kB e b).2.2.1 (srcW mm kB e b).2.2.2 n s),e,true⟩),((srcW mm kB e b).2.1,⟨.lst [],e,false⟩)])]
 | _,_,_=>[]
theorem sh8i {i:Nat} (h:i<=7):IntKind.i64.wrap (8*(i:Int))=((8*i:Nat):Int):=by rw[wrap_i64 (by omega)];omega
theorem byt_i {n:Int} (hn:0<=n) {i:Nat} (hi:i<=7):IntKind.u8.wrap (iShr .i64 n (IntKind.i64.wrap (8*(i:Int))))=((n.toNat / 2^(8*i) % 256:Nat):Int):=by
 rw[sh8i hi,shr_n hn (by omega),wrap_u8];omega
theorem pk_id (m:Nat) (g:Nat->List Value) (n s:Int):∀j,j<m->nrmK kB (g j)=nrmK kB (pkR m g n s j):=fun j hj=>by
 rw[nrm_pk,nrm_kB]
 unfold pkJ
 rw[if_pos hj]
def iszB (s:Int):Bool:=bif decide (1<=s) then decide (s<=7) else false
theorem iszB_iff {s:Int}:iszB s=true↔1<=s∧s<=7:=by
 unfold iszB
 by_cases h:1<=s
 ·rw[decide_eq_true h,cond_true,decide_eq_true_eq];omega
 ·rw[decide_eq_false h,cond_false]
  exact⟨fun h=>by simp at h,fun h2=>absurd h2.1 h⟩
def kw (m:Nat):Bool:=true&&Nat.beq m m&&true&&Nat.ble m m
theorem kw_true (m:Nat):kw m=true:=by unfold kw;rw[Nat.beq_refl,bE (Nat.le_refl _)];rfl
theorem pk_cp (m:Nat) (g:Nat->List Value) (n s:Int) (L:Nat):∀j,j<L->nrmK kB (pkR m (cpR m (sgF m g)) n s j)=nrmK kB (pkR m g n s j):=fun j _=>by
 rw[nrm_pk,nrm_pk]
 unfold pkJ
 by_cases h:j<m
 ·rw[if_pos h,if_pos h,bI_cp h,bI_sg]
 ·rw[if_neg h,if_neg h]
def gtT2 (m:Nat) (a s:Int) (x:Option (Value×List (Nat×Blk))):Option (Value×List (Nat×Blk)) :=
 bif !(iszB s) then gtErr 1 else bif decide (a<0) then gtErr 1 else bif decide (a > (m:Int)) then gtErr 1 else bif decide (s > IntKind.i64.wrap ((m:Int) - a)) then gtErr 7 else x
theorem gtT2_eq {m:Nat} (hm:m<=1000000) (a s:Int) (x:Option (Value×List (Nat×Blk))):gtT2 m a s x=if gtE0 m a s=0 then x else gtErr (gtE0 m a s):=by
 rw[<-gtT_eq hm a s x]
 unfold gtT2 gtT
 by_cases h1:s<1
 ·rw[show iszB s=false from by rw[Bool.eq_false_iff,ne_eq,iszB_iff];omega,decide_eq_true h1];rfl
 by_cases h2:s > 7
 ·rw[show iszB s=false from by rw[Bool.eq_false_iff,ne_eq,iszB_iff];omega,decide_eq_false h1,decide_eq_true h2];rfl
 rw[iszB_iff.2 (by omega),decide_eq_false h1,decide_eq_false h2];rfl
def paT {α:Type} (m:Nat) (X Y:Int) (x:Option α):Option α :=
 req (decide (0<=Y)&&decide (Y<=(m:Int))) (req (decide (0<=X)&&decide (X<=((Y.toNat:Nat):Int))) (req (Nat.ble Y.toNat m) x))
theorem paT_eq {α:Type} {m:Nat} {X Y:Int} (h0:0<=X) (h1:X<=Y) (h2:Y<=(m:Int)) (x:Option α):paT m X Y x=x:=by
 unfold paT
 rw[decide_eq_true (by omega),decide_eq_true (by omega),req_true (b:=true&&true) rfl,decide_eq_true (by omega),decide_eq_true (by omega),req_true (b:=true&&true) rfl,bE (by omega),req_true rfl]
def bdT {α:Type} (i:Int) (l c m:Nat) (x:Option α):Option α:=req (inR i c) (req (true&&Nat.ble (l+c) m) (req (Nat.blt i.toNat c&&true) x))
theorem bdT_eq {α:Type} {k l c m:Nat} (h:k<c) (h2:l+c<=m) (x:Option α):bdT (k:Int) l c m x=x:=by
 have:=bdI_eq h x
 unfold bdI at this
 unfold bdT
 rw[bE h2,req_true (b:=true&&true) rfl];exact this
theorem pp_cp (m:Nat) (g:Nat->List Value) (k:Nat) (p:Nat->List Value):∀j,j<m+4+k->nrmK kB (appF (m+4) (pkR m (cpR m (sgF m g)) (k:Nat) 4) (sgF k p) j)=nrmK kB (ppR m g k p j):=fun j hj=>by
 rw[<-pp_row m g k p j hj]
 unfold appF
 by_cases h:j<m+4
 ·rw[bL h,cond_true,cond_true,pk_cp m g _ _ (m+4) j h,nrm_pk,nrm_pk]
  unfold pkJ
  rw[bI_sg]
 ·rw[show Nat.blt j (m+4)=false from by rw[Bool.eq_false_iff,ne_eq,Nat.blt_eq];omega,cond_false,cond_false]
def gpC (e m:Nat) (g:Nat->List Value) (X N:Int) (id:Nat):Option (Value×List (Nat×Blk)) :=
 paT m X (IntKind.i64.wrap (X+N))
  (req (kbT X.toNat ((IntKind.i64.wrap (X+N)).toNat - X.toNat) m&&(Nat.ble ((IntKind.i64.wrap (X+N)).toNat - X.toNat) 1000000&&(decide ((0:Int)<=0)&&decide ((0:Int)<=1000000)))) (req (Nat.ble ((IntKind.i64.wrap (X+N)).toNat - X.toNat) ((IntKind.i64.wrap (X+N)).toNat - X.toNat))
   (some (.tuple #[nSl id ((IntKind.i64.wrap (X+N)).toNat - X.toNat),i64 (IntKind.i64.wrap (X+N)),i64 0],rw1 e id ((IntKind.i64.wrap (X+N)).toNat - X.toNat) (cpR ((IntKind.i64.wrap (X+N)).toNat - X.toNat) (sgA X.toNat ((IntKind.i64.wrap (X+N)).toNat - X.toNat) m g))))))
theorem gpC_eq {e m:Nat} {g:Nat->List Value} {x n id:Nat} (hm:m<=1000000) (h:x+n<=m):gpC e m g (x:Int) (n:Int) id=some (.tuple #[nSl id n,i64 ((x:Int)+(n:Int)),i64 0],rw1 e id n (cpR n (sgA x n m g))):=by
 unfold gpC
 rw[wrap_i64 (by omega),paT_eq (by omega) (by omega) (by omega),show((x:Int)+(n:Int)).toNat=x+n from by omega,Int.toNat_natCast,show x+n - x=n from by omega,kbT_true h,bE (show n<=1000000 by omega),req_true (b:=true&&(true&&(decide ((0:Int)<=0)&&decide ((0:Int)<=1000000)))) rfl,bE (Nat.le_refl _),req_true rfl]
theorem gp_cp (m:Nat) (g:Nat->List Value) (a:Int) (n:Nat):∀j,j<n->nrmK kB (cpR n (sgA (a.toNat+4) n m g) j)=nrmK kB (gpR g a j):=fun j h=>by
 rw[nrm_kB,nrm_kB,bI_cp h,bI_sgA,bI_gp]
noncomputable def gpT (e m:Nat) (g:Nat->List Value) (a:Int) (id:Nat):Option (Value×List (Nat×Blk)) :=
 bif gtE m a 4 != 0 then gpErr (gtE m a 4) else bif decide (gtN m (sgF m g) a 4 > 16384) then gpErr 7 else bif decide (gtN m (sgF m g) a 4 > IntKind.i64.wrap ((m:Int) - gtX m a 4)) then gpErr 7 else gpC e m g (gtX m a 4) (gtN m (sgF m g) a 4) id
theorem gpT_good {e m:Nat} {g:Nat->List Value} {a:Int} (hm:m<=1000000) (hok:gpE0 m g a=0) (id:Nat) :
  gpT e m g a id=some (.tuple #[nSl id (gtV g a.toNat 4),i64 (a+4+((gtV g a.toNat 4:Nat):Int)),i64 0],[(nid id 0,⟨.row kB (gtV g a.toNat 4) (cpR (gtV g a.toNat 4) (sgA (a.toNat+4) (gtV g a.toNat 4) m g)),e,true⟩)]):=by
 obtain ⟨h0,⟨h4,h5⟩,hn,hv⟩:=gpE0_ok hok
 obtain ⟨e1,e2,e3⟩:=gt_hid (g:=sgF m g) h0
 rw[gtV_sg,show((4:Int).toNat)=4 from rfl] at e3
 unfold gpT
 rw[e1,e2,e3,decide_eq_false (by omega),wrap_i64 (by omega),decide_eq_false (by omega),show a+4=((a.toNat+4:Nat):Int) from by omega]
 show gpC e m g ((a.toNat+4:Nat):Int) ((gtV g a.toNat 4:Nat):Int) id=_
 rw[gpC_eq hm hv];rfl
theorem gpT_bad {e m:Nat} {g:Nat->List Value} {a:Int} (hm:m<=1000000) (hok:¬gpE0 m g a=0) (id:Nat):gpT e m g a id=some (.tuple #[.slice none 0 0,i64 0,i64 (gpE0 m g a)],[]):=by
 rw[<-gp_bad (e:=e) hm hok id]
 unfold gpT
 by_cases h0:gtE0 m a 4=0
 ·obtain ⟨e1,e2,e3⟩:=gt_hid (g:=sgF m g) h0
  rw[gtV_sg,show((4:Int).toNat)=4 from rfl] at e3
  obtain ⟨_,_,h4,h5⟩:=gtE0_ok h0
  have hx:(16384:Int)<(gtV g a.toNat 4:Nat)∨(m:Int) - (a+4)<(gtV g a.toNat 4:Nat):=by
   refine Decidable.byContradiction fun hx=>hok ?_
   unfold gpE0
   rw[if_neg (fun h=>h h0),if_neg hx]
  rw[e1,e2,e3,wrap_i64 (show -9223372036854775808<=(m:Int) - (a+4)∧(m:Int) - (a+4)<9223372036854775808 by omega)]
  by_cases h6:(16384:Int)<(gtV g a.toNat 4:Nat)
  ·rw[decide_eq_true (show((gtV g a.toNat 4:Nat):Int) > 16384 from h6)];rfl
  ·have h7:(m:Int) - (a+4)<(gtV g a.toNat 4:Nat):=hx.resolve_left h6
   rw[decide_eq_true (show((gtV g a.toNat 4:Nat):Int) > (m:Int) - (a+4) from h7)];rfl
 ·have e1:gtE m a 4=gtE0 m a 4:=by unfold gtE;rw[hide_eq]
  rw[e1,show(gtE0 m a 4 != 0)=true from by rw[bne_iff_ne];exact h0];rfl
end Go.W

namespace Go.Proofs.YtckbmhegopjnmaaGreat
set_option maxRecDepth 100000
open Go.W
def iszC:Cfg:=⟨tab,[],9,[]⟩
theorem iszOk:CfgOk Tryz.prog iszC (bodyOf Tryz.f94):=⟨mixed,tabOk,sums_nil,noL⟩
theorem isz_ev (s:Int):fnS iszC 60 Tryz.f94 (bodyOf Tryz.f94) [i64 s]=bif decide (1<=s) then some (.bool (decide (s<=7))) else some (.bool false):=by kernel_rfl
theorem isz_sum:Sum Tryz.prog 94 IszF:=by
 refine sum_of iszOk Tryz.func94 (by kernel_rfl) (by kernel_rfl) rfl (fuel:=60) fun args v h hpl=>?_
 unfold IszF at h
 split at h
 ·simp only[Option.some.injEq,Prod.mk.injEq] at h
  rename_i s
  obtain ⟨_,rfl⟩:=h
  refine⟨by show 1<=Tryz.f94.ntmps;decide +kernel,(isz_ev s).trans ?_,rfl⟩
  cases decide (1<=s)<;>rfl
 ·simp at h
def copC:Cfg:=⟨tab,[],17,[]⟩
theorem copOk:CfgOk Tryz.prog copC (bodyOf Tryz.f88):=⟨mixed,tabOk,sums_nil,noL⟩
theorem cop_ev (m:Nat) (g:Nat->List Value) (k:Int) (es:Nat->Nat) (id:Nat):fnMS copC 60 Tryz.f88 (bodyOf Tryz.f88) (cArgs [.sl kB m g,.pl (i64 k)] 0) (cMem es [.sl kB m g,.pl (i64 k)] 0) 0 id =
  req (mkC (m:Int) (IntKind.i64.wrap ((m:Int)+k))) (req (kb3 m) (req (kb3 m) (req (Nat.ble m m) (some (nSl id m,rw1 5 id m (cpR m g)))))):=by kernel_rfl
theorem cop_msum:MSum Tryz.prog 88 (CopF 5):=by
 refine msum_of copOk Tryz.func88 (by kernel_rfl) (by kernel_rfl) rfl (fuel:=60) (next:=0) fun vs mm id v l hpick hlt=>?_
 unfold CopF at hpick
 split at hpick
 ·rename_i b k
  obtain ⟨hc,rfl,rfl⟩:=pick_one hpick
  simp only[Bool.and_eq_true,decide_eq_true_eq] at hc
  obtain ⟨ha,hm,h0,h1⟩:=hc
  generalize hqa:srcB mm kB b=qa at ha hm ⊢
  obtain ⟨ok1,m,g⟩:=qa
  simp only at ha hm ⊢
  subst ha
  have hm:=Nat.le_of_ble_eq_true hm
  refine⟨[.sl kB m g,.pl (i64 k)],⟨hqa,rfl,rfl,trivial⟩,by show 2<=Tryz.f88.ntmps;decide +kernel,.inr ⟨_,rfl⟩,fun es=>?_⟩
  refine(cop_ev m g k es id).trans ?_
  rw[mkC_true h0 (by omega),req_true rfl,kb3_true,req_true rfl,req_true rfl,bE (Nat.le_refl _),req_true rfl]
 ·simp[pickM] at hpick
def laiC0:Cfg:=⟨tab,[],23,[]⟩
theorem laiOk0:CfgOk Tryz.prog laiC0 (bodyOf Tryz.f87):=⟨mixed,tabOk,sums_nil,noL⟩
theorem lai_at:codeAt [1,0,1,0] (bodyOf Tryz.f87)=some (.loop (loopAt [1,0,1,0] (bodyOf Tryz.f87))):=by kernel_rfl
def laiNt:List Nat:=[0,1,7]
def laiNi:Ren:=[(999999,nid 13 0),(1400000,1400000)]
def laiEi:Ren:=[(999999,999999),(1400000,1400000)]
def laiSt (n:Int) (L:Nat) (F:Nat->List Value) (i:Int):St:=⟨[(0,.slice (some ⟨999999,0,none⟩) L L),(1,i64 n),(7,i64 i)],[(999999,⟨.row kB L F,5,true⟩),(1400000,⟨.lst [],5,false⟩)],4⟩
theorem lai_r (n:Int) (L:Nat) (F:Nat->List Value) (i:Int):roundS laiC0 60 [1,0,1,0,0] (loopAt [1,0,1,0] (bodyOf Tryz.f87)) laiNt laiNi 4 laiNt laiEi 4 (laiSt n L F i) =
  bif decide (i>=0) then bif decide (IntKind.i64.wrap (8*i)<0) then none else apB L (some (.normal,laiSt n (L+1) (appF L F (lstF [.int .u8 (IntKind.u8.wrap (iShr .i64 n (IntKind.i64.wrap (8*i))))] 0 1)) (IntKind.i64.wrap (i - 1))))
  else some (.exit 0,laiSt n L F i):=by kernel_rfl
theorem lai_loop {m:Nat} {g:Nat->List Value} {n s:Int} (hm:m<=900000) (hok:pkOk n s):LoopOk Tryz.prog 23 (loopAt [1,0,1,0] (bodyOf Tryz.f87)) (atSt laiNt laiEi 4 (laiSt n m (pkR m g n s) (s - 1)) (.exit 0) (laiSt n (m+s.toNat) (pkR m g n s) (-1))):=by
 obtain ⟨h1,h7,hn,_⟩:=hok
 refine loopE (fun _=>laiC0) s.toNat (fun _ _=>laiOk0) (fun _=>rfl) lai_at (m:=60) (nt:=laiNt) (ni:=laiNi) (et:=laiNt) (ei:=laiEi) (nx:=4) (ex:=4) (fun k=>laiSt n (m+k) (pkR m g n s) (s - 1 - (k:Int))) (by show laiSt _ _ _ _=laiSt _ _ _ _;rw[Nat.add_zero,Int.natCast_zero,Int.sub_zero]) (by intro h;cases h) ?_ ?_
 ·intro k hk
  have hi:s - 1 - (k:Int)=((s.toNat - 1 - k:Nat):Int):=by omega
  refine⟨_,?_,stEq_mk (sl:=[(0,.slice (some ⟨999999,0,none⟩) (m+k+1) (m+k+1)),(1,i64 n),(7,i64 (s - 1 - ((k+1:Nat):Int)))]) rfl (mRow (pk_step m g n s k) (mSame rfl mNil))⟩
  refine(lai_r n (m+k) _ _).trans ?_
  rw[decide_eq_true (by omega),cond_true,hi,sh8i (by omega),decide_eq_false (by omega),cond_false,apB_eq (by omega),<-sh8i (show s.toNat - 1 - k<=7 by omega),byt_i hn (by omega),wrap_i64 (by omega),show((s.toNat - 1 - k:Nat):Int) - 1=s - 1 - ((k+1:Nat):Int) from by omega];rfl
 ·refine⟨_,?_,stEq_refl rfl⟩
  refine(lai_r n (m+s.toNat) _ _).trans ?_
  rw[show s - 1 - ((s.toNat:Nat):Int)=-1 from by omega,decide_eq_false (by omega),cond_false]
noncomputable def laiC (n:Int) (m:Nat) (F:Nat->List Value) (s:Int) (L:Nat):Cfg:=⟨tab,[],23,[([1,0,1,0],atSt laiNt laiEi 4 (laiSt n m F (s - 1)) (.exit 0) (laiSt n L F (-1)))]⟩
theorem lai_ev (m:Nat) (g:Nat->List Value) (n s:Int) (F:Nat->List Value) (L:Nat) (es:Nat->Nat):fnT (laiC n m F s L) 60 Tryz.f87 (bodyOf Tryz.f87) (.slice (some ⟨999999,0,none⟩) m m::cArgs [.pl (i64 n),.pl (i64 s)] 1) ((999999,⟨.row kB m g,5,true⟩)::(1400000,⟨.lst [],5,false⟩)::cMem es [.pl (i64 n),.pl (i64 s)] 1) 0 5 =
  req (stEq (laiSt n m g (IntKind.i64.wrap (s - 1))) (laiSt n m F (s - 1))) (req (Nat.ble L L&&Nat.beq L L&&true) (some (L,⟨.row kB L F,5,true⟩))):=by kernel_rfl
theorem lai_msum:MSum Tryz.prog 87 (LaiF 5):=by
 intro w0 R fm w hm vs args' hl mm hsub id hlt v l hpick hnew
 unfold LaiF at hpick
 split at hpick
 ·rename_i b n s
  obtain ⟨hc,rfl,rfl⟩:=pick_one hpick
  simp only[Bool.and_eq_true] at hc
  obtain ⟨ha,hle,hok⟩:=hc
  generalize hqa:srcW mm kB 5 b=qa at ha hle hnew ⊢
  obtain ⟨ok1,i,m,g⟩:=qa
  simp only at ha hle hnew ⊢
  subst ha
  have hle:=Nat.le_of_ble_eq_true hle
  have hok:=pkB_iff.1 hok
  refine msum_take (c:=bodyOf Tryz.f87) (fuel:=60) (next:=0) Tryz.func87 (by kernel_rfl) (by kernel_rfl) hm hl hsub hlt hqa (A:=[.pl (i64 n),.pl (i64 s)]) ⟨rfl,rfl,rfl,rfl,trivial⟩ rfl (by show 3<=Tryz.f87.ntmps;decide +kernel) (new_free hnew) (fun es=>?_)
  refine⟨laiC n m (pkR m g n s) s (m+s.toNat),⟨mixed,tabOk,sums_nil,oneL (lai_loop hle hok)⟩,rfl,?_⟩
  refine(lai_ev m g n s _ _ es).trans ?_
  rw[wrap_i64 (by have:=hok.1;have:=hok.2.1;omega)]
  refine(req_true (stEq_mk (sl:=[(0,.slice (some ⟨999999,0,none⟩) m m),(1,i64 n),(7,i64 (s - 1))]) rfl (mRow (pk_id m g n s) (mSame rfl mNil)))).trans ?_
  rw[bE (Nat.le_refl _),Nat.beq_refl,req_true (b:=true&&true&&true) rfl]
 ·simp[pickM] at hpick
noncomputable def gbtS:Sums:=[(94,IszF)]
theorem gbtS_ok:SumsOk Tryz.prog gbtS:=sums_cons isz_sum sums_nil
noncomputable def gbtC0:Cfg:=⟨tab,gbtS,50,[]⟩
theorem gbtOk0:CfgOk Tryz.prog gbtC0 (bodyOf Tryz.f73):=⟨mixed,tabOk,gbtS_ok,noL⟩
theorem gbt_at:codeAt [1,1,1,1,0,1,0] (bodyOf Tryz.f73)=some (.loop (loopAt [1,1,1,1,0,1,0] (bodyOf Tryz.f73))):=by kernel_rfl
def gbtNt:List Nat:=[6,7,36,37,38]
def gbtNi:Ren:=[(1500000,1500000),(nid 29 0,nid 29 0)]
def gbtSt (m:Nat) (g:Nat->List Value) (e0 l c:Nat) (q x i:Int):St:=⟨[(6,i64 x),(7,i64 q),(36,.slice (some ⟨nid 29 0,0,none⟩) c (m - l)),(37,i64 ((c:Nat):Int)),(38,i64 i)],[(1500000,⟨.row kB m g,e0,false⟩),(nid 29 0,⟨.tail 1500000 l c 1,5,false⟩)],32⟩
theorem gbt_r (m:Nat) (g:Nat->List Value) (e0 l c:Nat) (q x i:Int):roundS gbtC0 60 [1,1,1,1,0,1,0,0] (loopAt [1,1,1,1,0,1,0] (bodyOf Tryz.f73)) gbtNt gbtNi 32 gbtNt gbtNi 32 (gbtSt m g e0 l c q x i) =
  bif decide (i<((c:Nat):Int)) then bdT i l c m (some (.normal,gbtSt m g e0 l c q (iOr .i64 (iShl .i64 x 8) (IntKind.i64.wrap (bI g (l+i.toNat)))) (IntKind.i64.wrap (i+1)))) else some (.exit 0,gbtSt m g e0 l c q x i):=by kernel_rfl
theorem gbt_loop {m:Nat} {g:Nat->List Value} {e0:Nat} {a s:Int} (hg:∀j,j<m->0<=bI g j∧bI g j<256) (hok:gtE0 m a s=0):LoopOk Tryz.prog 50 (loopAt [1,1,1,1,0,1,0] (bodyOf Tryz.f73)) (atSt gbtNt gbtNi 32 (gbtSt m g e0 a.toNat s.toNat (a+s) 0 0) (.exit 0) (gbtSt m g e0 a.toNat s.toNat (a+s) ((gtV g a.toNat s.toNat:Nat):Int) s)):=by
 obtain ⟨h1,h7,ha,hs⟩:=gtE0_ok hok
 refine loopE (fun _=>gbtC0) s.toNat (fun _ _=>gbtOk0) (fun _=>rfl) gbt_at (m:=60) (nt:=gbtNt) (ni:=gbtNi) (et:=gbtNt) (ei:=gbtNi) (nx:=32) (ex:=32) (fun k=>gbtSt m g e0 a.toNat s.toNat (a+s) ((gtV g a.toNat k:Nat):Int) (k:Int)) rfl (by intro h;cases h) ?_ ?_
 ·intro k hk
  refine⟨_,?_,stEq_refl rfl⟩
  refine(gbt_r m g e0 a.toNat s.toNat (a+s) _ _).trans ?_
  have hx:gtV g a.toNat k<2^(8*k):=gtV_lt hg (a:=a.toNat) k (by omega)
  have hx:gtV g a.toNat k<281474976710656:=Nat.lt_of_lt_of_le hx (Nat.le_trans (Nat.pow_le_pow_right (by decide) (show 8*k<=48 by omega)) (by decide))
  have hb:=hg (a.toNat+k) (by omega)
  have hc:bI g (a.toNat+k)=(((bI g (a.toNat+k)).toNat:Nat):Int):=by omega
  rw[decide_eq_true (by omega),cond_true,bdT_eq hk (by omega),Int.toNat_natCast,hc,get8 hx (by omega),wrap_i64 (by omega)];rfl
 ·refine⟨_,?_,stEq_refl rfl⟩
  refine(gbt_r m g e0 a.toNat s.toNat (a+s) _ _).trans ?_
  rw[decide_eq_false (by omega),cond_false,show((s.toNat:Nat):Int)=s from by omega]
noncomputable def gbtC (m:Nat) (g:Nat->List Value) (e0 l c:Nat) (q x s:Int):Cfg:=⟨tab,gbtS,50,[([1,1,1,1,0,1,0],atSt gbtNt gbtNi 32 (gbtSt m g e0 l c q 0 0) (.exit 0) (gbtSt m g e0 l c q x s))]⟩
theorem gbt_ev (m:Nat) (g:Nat->List Value) (a s:Int) (l c:Nat) (q x:Int) (es:Nat->Nat) (id:Nat):fnMS (gbtC m g (es 0) l c q x s) 60 Tryz.f73 (bodyOf Tryz.f73) (cArgs [.sl kB m g,.pl (i64 a),.pl (i64 s)] 0) (cMem es [.sl kB m g,.pl (i64 a),.pl (i64 s)] 0) 0 id =
  gtT2 m a s (paT m a (IntKind.i64.wrap (a+s)) (req (stEq (gbtSt m g (es 0) a.toNat ((IntKind.i64.wrap (a+s)).toNat - a.toNat) (IntKind.i64.wrap (a+s)) 0 0) (gbtSt m g (es 0) l c q 0 0)) (some (.tuple #[i64 x,i64 q,i64 0],[])))):=by kernel_rfl
theorem gbt_evN (m:Nat) (g:Nat->List Value) (a s:Int) (es:Nat->Nat) (id:Nat):fnMS ⟨tab,gbtS,50,[([1,1,1,1,0,1,0],fun _=>[])]⟩ 60 Tryz.f73 (bodyOf Tryz.f73) (cArgs [.sl kB m g,.pl (i64 a),.pl (i64 s)] 0) (cMem es [.sl kB m g,.pl (i64 a),.pl (i64 s)] 0) 0 id =
  gtT2 m a s (paT m a (IntKind.i64.wrap (a+s)) none):=by kernel_rfl
theorem get_msum:MSum Tryz.prog 73 GetF:=by
 intro w0 R fm w hm vs args' hl mm hsub id hlt v l hpick hnew
 unfold GetF at hpick
 split at hpick
 ·rename_i b a s
  obtain ⟨hc,rfl,rfl⟩:=pick_one hpick
  simp only[Bool.and_eq_true] at hc
  obtain ⟨ha,hy,hle⟩:=hc
  generalize hqa:srcB mm kB b=qa at ha hy hle ⊢
  obtain ⟨ok1,m,g⟩:=qa
  simp only at ha hy hle ⊢
  subst ha
  have hle:=Nat.le_of_ble_eq_true hle
  have hy:=okY_iff.1 hy
  have hA:AOk mm [b,i64 a,i64 s] [.sl kB m g,.pl (i64 a),.pl (i64 s)]:=⟨hqa,rfl,rfl,rfl,rfl,trivial⟩
  refine msum_at (c:=bodyOf Tryz.f73) (fuel:=60) (next:=0) Tryz.func73 (by kernel_rfl) (by kernel_rfl) hm hl hsub hlt hA (by show 3<=Tryz.f73.ntmps;decide +kernel) (.inl rfl) nofun (fun es=>?_)
  unfold gtN gtX gtE
  rw[hide_eq,hide_eq,hide_eq]
  by_cases hok:gtE0 m a s=0
  ·refine⟨gbtC m g (es 0) a.toNat s.toNat (a+s) _ s,⟨mixed,tabOk,gbtS_ok,oneL (gbt_loop hy hok)⟩,rfl,?_⟩
   refine(gbt_ev m g a s a.toNat s.toNat (a+s) _ es id).trans ?_
   obtain ⟨h1,h7,h0,hs⟩:=gtE0_ok hok
   rw[gtT2_eq hle,if_pos hok,if_pos hok,if_pos hok,hok,wrap_i64 (by omega),paT_eq (by omega) (by omega) (by omega),show(a+s).toNat - a.toNat=s.toNat from by omega,req_true (stEq_refl rfl)]
  ·refine⟨⟨tab,gbtS,50,[([1,1,1,1,0,1,0],fun _=>[])]⟩,⟨mixed,tabOk,gbtS_ok,noneL2⟩,rfl,?_⟩
   refine(gbt_evN m g a s es id).trans ?_
   rw[gtT2_eq hle,if_neg hok,if_neg hok,if_neg hok];rfl
 ·simp[pickM] at hpick
noncomputable def pbpS:Sums:=[(88,CopF 5),(87,LaiF 5)]
theorem pbpS_ok:SumsOk Tryz.prog pbpS:=sums_consM cop_msum (sums_consM lai_msum sums_nil)
noncomputable def pbpC:Cfg:=⟨tab,pbpS,21,[]⟩
theorem pbpOk:CfgOk Tryz.prog pbpC (bodyOf Tryz.f66):=⟨mixed,tabOk,pbpS_ok,noL⟩
theorem pbp_ev (m:Nat) (g:Nat->List Value) (k:Nat) (p:Nat->List Value) (es:Nat->Nat) (id:Nat):fnMS pbpC 60 Tryz.f66 (bodyOf Tryz.f66) (cArgs [.sl kB m g,.sl kB k p] 0) (cMem es [.sl kB m g,.sl kB k p] 0) 0 id =
  bif decide ((k:Int) > 16384) then ppErr else req (kb4 m&&(Nat.ble m 1000000&&(decide (0<=IntKind.i64.wrap (4+(k:Int)))&&decide (IntKind.i64.wrap (4+(k:Int))<=1000000)))) (req (kw m&&(Nat.ble m 900000&&pkB (k:Nat) 4)) (apK (m+4) k (req (Nat.ble (m+4+k) (m+4+k))
   (some (.tuple #[nSl id (m+4+k),i64 0],rw1 5 id (m+4+k) (appF (m+4) (pkR m (cpR m (sgF m g)) (k:Nat) 4) (sgF k p))))))):=by kernel_rfl
theorem ptp_msum:MSum Tryz.prog 66 (PtpF 5):=by
 intro w0 R fm w hm vs args' hl mm hsub id hlt v l hpick hnew
 match vs,hl,hpick with
 | [a,b],hl,hpick =>
  obtain ⟨hc,rfl,rfl⟩:=pick_one hpick
  simp only[Bool.and_eq_true] at hc
  obtain ⟨⟨ha,hb⟩,hle⟩:=hc
  generalize hqa:srcB mm kB a=qa at ha hle hnew ⊢
  generalize hqb:srcB mm kB b=qb at hb hnew ⊢
  obtain ⟨ok1,m,g⟩:=qa
  obtain ⟨ok2,k,p⟩:=qb
  simp only at ha hb hle hnew ⊢
  subst ha hb
  have hle:=Nat.le_of_ble_eq_true hle
  have hA:AOk mm [a,b] [.sl kB m g,.sl kB k p]:=⟨hqa,hqb,trivial⟩
  unfold ppL at hnew ⊢
  unfold ppE
  rw[hide_eq] at hnew ⊢
  rw[hide_eq]
  by_cases hok:k<=16384
  ·rw[if_pos hok] at hnew ⊢
   rw[if_pos hok]
   refine invokes_eqv (pp_cp m g k p) ?_
   refine msum_at (c:=bodyOf Tryz.f66) (fuel:=60) (next:=0) Tryz.func66 (by kernel_rfl) (by kernel_rfl) hm hl hsub hlt hA (by show 2<=Tryz.f66.ntmps;decide +kernel) (.inr ⟨_,rfl⟩) (new_any hnew) (fun es=>?_)
   refine⟨pbpC,pbpOk,rfl,?_⟩
   refine(pbp_ev m g k p es id).trans ?_
   rw[decide_eq_false (by omega),cond_false,kb4_true,bE (show m<=1000000 by omega),wrap_i64 (by omega),decide_eq_true (by omega),decide_eq_true (by omega),req_true (b:=true&&(true&&(true&&true))) rfl,kw_true,bE hle,pkB_iff.2 (pk_len k hok),req_true (b:=true&&(true&&true)) rfl,apK_eq (by omega),bE (Nat.le_refl _),req_true rfl];rfl
  ·rw[if_neg hok] at hnew ⊢
   rw[if_neg hok]
   refine invokes_nilT (rest:=[i64 4]) hlt (new_free hnew) (msum_at (v:=.tuple #[.slice none 0 0,i64 4]) (l:=[]) (c:=bodyOf Tryz.f66) (fuel:=60) (next:=0) Tryz.func66 (by kernel_rfl) (by kernel_rfl) hm hl hsub hlt hA (by show 2<=Tryz.f66.ntmps;decide +kernel) (.inl rfl) nofun (fun es=>?_))
   refine⟨pbpC,pbpOk,rfl,?_⟩
   refine(pbp_ev m g k p es id).trans ?_
   rw[decide_eq_true (by omega),cond_true];rfl
 | [],_,h=>simp[PtpF,pickM] at h
 | [_],_,h=>simp[PtpF,pickM] at h
 | _::_::_::_,_,h=>simp[PtpF,pickM] at h
noncomputable def gbpS:Sums:=[(88,CopF 5),(73,GetF)]
theorem gbpS_ok:SumsOk Tryz.prog gbpS:=sums_consM cop_msum (sums_consM get_msum sums_nil)
noncomputable def gbpC:Cfg:=⟨tab,gbpS,38,[]⟩
theorem gbpOk:CfgOk Tryz.prog gbpC (bodyOf Tryz.f77):=⟨mixed,tabOk,gbpS_ok,noL⟩
theorem gbp_ev (m:Nat) (g:Nat->List Value) (a:Int) (es:Nat->Nat) (id:Nat):fnMS gbpC 60 Tryz.f77 (bodyOf Tryz.f77) (cArgs [.sl kB m g,.pl (i64 a)] 0) (cMem es [.sl kB m g,.pl (i64 a)] 0) 0 id =
  req (gtk m g) (gpT 5 m g a id):=by kernel_rfl
theorem gtp_msum:MSum Tryz.prog 77 (GtpF 5):=by
 intro w0 R fm w hm vs args' hl mm hsub id hlt v l hpick hnew
 unfold GtpF at hpick
 split at hpick
 ·rename_i b a
  obtain ⟨hc,rfl,rfl⟩:=pick_one hpick
  simp only[Bool.and_eq_true] at hc
  obtain ⟨ha,hy,hle⟩:=hc
  generalize hqa:srcB mm kB b=qa at ha hy hle hnew ⊢
  obtain ⟨ok1,m,g⟩:=qa
  simp only at ha hy hle hnew ⊢
  subst ha
  have hle:=Nat.le_of_ble_eq_true hle
  have hy:=okY_iff.1 hy
  have hA:AOk mm [b,i64 a] [.sl kB m g,.pl (i64 a)]:=⟨hqa,rfl,rfl,trivial⟩
  unfold gpL at hnew ⊢
  unfold gpX gpE
  rw[hide_eq] at hnew ⊢
  rw[hide_eq,hide_eq]
  by_cases hok:gpE0 m g a=0
  ·rw[if_pos hok] at hnew ⊢
   rw[if_pos hok,hok]
   refine invokes_eqv (gp_cp m g a _) ?_
   refine msum_at (c:=bodyOf Tryz.f77) (fuel:=60) (next:=0) Tryz.func77 (by kernel_rfl) (by kernel_rfl) hm hl hsub hlt hA (by show 2<=Tryz.f77.ntmps;decide +kernel) (.inr ⟨_,rfl⟩) (new_any hnew) (fun es=>?_)
   refine⟨gbpC,gbpOk,rfl,?_⟩
   refine(gbp_ev m g a es id).trans ?_
   rw[gtk_true hle hy,req_true rfl]
   exact gpT_good hle hok id
  ·rw[if_neg hok] at hnew ⊢
   rw[if_neg hok]
   refine invokes_nilT (rest:=[i64 0,i64 (gpE0 m g a)]) hlt (new_free hnew) (msum_at (v:=.tuple #[.slice none 0 0,i64 0,i64 (gpE0 m g a)]) (l:=[]) (c:=bodyOf Tryz.f77) (fuel:=60) (next:=0) Tryz.func77 (by kernel_rfl) (by kernel_rfl) hm hl hsub hlt hA (by show 2<=Tryz.f77.ntmps;decide +kernel) (.inl rfl) nofun (fun es=>?_))
   refine⟨gbpC,gbpOk,rfl,?_⟩
   refine(gbp_ev m g a es id).trans ?_
   rw[gtk_true hle hy,req_true rfl]
   exact gpT_bad hle hok id
 ·simp[pickM] at hpick
end Go.Proofs.YtckbmhegopjnmaaGreat

namespace Go.W
def keptB (ks:List Nat) (is:Ren):Bool:=ks.all fun k=>oK (look is k) (fun o=>Nat.beq o k) false
def inK (ks:List Nat) (i:Nat):Prop:=nmem i ks=true∨1000000000<=i
theorem kept_mono {ks:List Nat} {is:Ren} (h:keptB ks is=true) (R:Nat->Pl->Prop):MonoK (inK ks) R (renR is R):=by
 rintro i p (hi | hi) hp
 ·have h1:=List.all_eq_true.1 h i (nmem_iff.1 hi)
  cases h2:look is i with
  | none=>rw[h2] at h1;cases h1
  | some o =>
   rw[h2] at h1
   have:o=i:=nbeq.1 h1
   subst this
   exact .inl ⟨o,h2,hp⟩
 ·exact .inr ⟨hi,hp⟩
section
variable {GL:Glob} {w0:Wb GL} {w:World} {n:Nat} {R:Nat->Pl->Prop} {a:Act} {is:Ren}
theorem Rel.restK {ts:List Nat} {nx:Nat} {s s':St} {ks:List Nat} (hks:keptB ks is=true) (hr:restS ts is nx s=some s') (h:Rel w0 n R s.f a w):∃R',MonoK (inK ks) R R'∧Rel w0 n R' s'.f a w:=by
 unfold restS at hr
 obtain ⟨hk,hr⟩:=cond_some.1 hr
 obtain ⟨sl,h1,hr⟩:=oK_some.1 hr
 obtain ⟨me,h2,h3⟩:=oK_some.1 hr
 cases h3
 refine⟨renR is R,kept_mono hks R,h.defers,h.size,?_,MRel.ren hk h2 h.m⟩
 intro t u hu
 obtain ⟨v,h3,h4⟩:=getSlots_look h1 t u hu
 obtain ⟨v',h5,h6⟩:=h.slot t v h3
 exact⟨v',h5,V2_ren hk h6 h4⟩
end
section
variable {P:Program} [Laid P] {C:Cfg} {code body:Code}
theorem round_soundK (hC:CfgOk P C code) {ks:List Nat} (hLK:∀p F,lookP C.L p=some F->LoopOkK P C.n (loopAt p code) (inK ks) F) {p:List Nat} (hp:codeAt p code=some body) {m:Nat} {nt et:List Nat} {ni ei:Ren} {nx ex:Nat} (hn:keptB ks ni=true) (he:keptB ks ei=true) {s s':St} {e:Exit} (h:roundS C m p body nt ni nx et ei ex s=some (e,s'))
  {w0:Wb (lay P)} {R:Nat->Pl->Prop} {a:Act} {w:World} (hrel:Rel w0 C.n R s.f a w):body.wp P (fun e' a' w'=>e'=e∧∃R',MonoK (inK ks) R R'∧Rel w0 C.n R' s'.f a' w') a w:=by
 unfold roundS at h
 rw[evK_eq,oK_some] at h
 obtain ⟨⟨e1,s1⟩,h1,h2⟩:=h
 refine wp_mono (ev_soundK hC hLK hp h1 hrel) ?_
 rintro e' a' w' ⟨rfl,R',hmo,hr'⟩
 cases e'<;>simp only[cutK,oK_some] at h2 <;>
  (obtain ⟨s2,h3,h4⟩:=h2;cases h4
   first
   | (obtain ⟨R2,k1,k2⟩:=Rel.restK hn h3 hr';exact⟨rfl,R2,hmo.trans k1,k2⟩)
   | (obtain ⟨R2,k1,k2⟩:=Rel.restK he h3 hr';exact⟨rfl,R2,hmo.trans k1,k2⟩))
theorem atSt_okK {n:Nat} {body:Code} {ks:List Nat} {ts:List Nat} {is:Ren} {nx:Nat} {s0:St} {e:Exit} {sf:St} (hks:keptB ks is=true)
  (h:∀(w0:Wb (lay P)) (R:Nat->Pl->Prop) (a:Act) (w:World),Rel w0 n R s0.f a w->(Code.loop body).wp P (fun e' a' w'=>e'=e∧∃R',MonoK (inK ks) R R'∧Rel w0 n R' sf.f a' w') a w):LoopOkK P n body (inK ks) (atSt ts is nx s0 e sf):=by
 intro w0 R s a w hrel e' s' hp
 unfold atSt at hp
 cases hr:restS ts is nx s with
 | none=>rw[hr] at hp;simp[oK,pickL] at hp
 | some s1 =>
  rw[hr] at hp
  simp only[oK,pickL,cond_some] at hp
  obtain ⟨h1,h2⟩:=hp
  cases h2
  obtain ⟨R',k1,hr'⟩:=Rel.restK hks hr hrel
  refine wp_mono (h w0 R' a w (hr'.eqv h1)) ?_
  rintro e' a' w' ⟨rfl,R2,k2,k3⟩
  exact⟨rfl,R2,k1.trans k2,k3⟩
theorem loopK {code:Code} {n:Nat} (C:Nat->Cfg) (N:Nat) {ks:List Nat} (hC:∀k,k<=N->CfgOk P (C k) code) (hLK:∀k,k<=N->∀p F,lookP (C k).L p=some F->LoopOkK P n (loopAt p code) (inK ks) F) (hn:∀k,(C k).n=n) {p:List Nat} (hp:codeAt p code=some (.loop (loopAt p code))) {m:Nat} {ts:List Nat} {is:Ren} {tx:Nat} {nt et:Nat->List Nat} {ni ei:Nat->Ren} {nx ex:Nat} (st:Nat->St) {e:Exit} {s0 sf:St}
  (his:keptB ks is=true) (hni:∀k,keptB ks (ni k)=true) (hei:∀k,keptB ks (ei k)=true)
  (h0:∀(w0:Wb (lay P)) (R:Nat->Pl->Prop) (a:Act) (w:World),Rel w0 n R s0.f a w->∃R',MonoK (inK ks) R R'∧Rel w0 n R' (st 0).f a w) (he:e≠.normal)
  (step:∀k,k<N->∃s,roundS (C k) m (p++[0]) (loopAt p code) (nt k) (ni k) nx (et k) (ei k) ex (st k)=some (.normal,s)∧stEq s (st (k+1))=true)
  (last:∃s,roundS (C N) m (p++[0]) (loopAt p code) (nt N) (ni N) nx (et N) (ei N) ex (st N)=some (e,s)∧stEq s sf=true) :
  LoopOkK P n (loopAt p code) (inK ks) (atSt ts is tx s0 e sf):=by
 refine atSt_okK his fun w0 R a w hrel=>?_
 obtain ⟨R0,m0,hrel⟩:=h0 w0 R a w hrel
 have hx:codeAt (p++[0]) code=some (loopAt p code):=by rw[codeAt_app,hp];rfl
 have key:∀j,j<=N->∀(R:Nat->Pl->Prop) (a:Act) (w:World),Rel w0 n R (st (N - j)).f a w->Code.rounds P (loopAt p code) (fun e' a' w'=>e'=e∧∃R',MonoK (inK ks) R R'∧Rel w0 n R' sf.f a' w') (j+1) a w:=by
  intro j
  induction j with
  | zero =>
   intro _ R a w hr
   rw[rounds_succ]
   obtain ⟨s,h1,h2⟩:=last
   have hs:=round_soundK (hC N (Nat.le_refl _)) (fun p F hF=>by rw[hn];exact hLK N (Nat.le_refl _) p F hF) hx (hni N) (hei N) h1 (w0:=w0) (R:=R) (a:=a) (w:=w) (by rw[hn];exact hr)
   rw[hn] at hs
   refine wp_mono hs ?_
   rintro e' a' w' ⟨rfl,R',k1,hr'⟩
   cases e' with
   | normal=>exact absurd rfl he
   | _=>exact⟨rfl,R',k1,hr'.eqv h2⟩
  | succ j ih =>
   intro hj R a w hr
   rw[rounds_succ]
   obtain ⟨s,h1,h2⟩:=step (N - (j+1)) (by omega)
   have hs:=round_soundK (hC (N - (j+1)) (by omega)) (fun p F hF=>by rw[hn];exact hLK (N - (j+1)) (by omega) p F hF) hx (hni _) (hei _) h1 (w0:=w0) (R:=R) (a:=a) (w:=w) (by rw[hn];exact hr)
   rw[hn] at hs
   refine wp_mono hs ?_
   rintro e' a' w' ⟨rfl,R',k1,hr'⟩
   have:=ih (by omega) R' a' w' (by
    rw[show N - j=N - (j+1)+1 from by omega]
    exact hr'.eqv h2)
   exact rounds_monoQ (by rintro e2 a2 w2 ⟨rfl,R2,k2,k3⟩;exact⟨rfl,R2,k1.trans k2,k3⟩) this
 have:=wp_loop_rounds (N+1) (key N (Nat.le_refl N) R0 a w (by rw[Nat.sub_self];exact hrel))
 refine wp_mono this ?_
 rintro e' a' w' ⟨rfl,R',k1,k2⟩
 exact⟨rfl,R',m0.trans k1,k2⟩
theorem loopKE {code:Code} {n:Nat} (C:Nat->Cfg) (N:Nat) {ks:List Nat} (hC:∀k,k<=N->CfgOk P (C k) code) (hLK:∀k,k<=N->∀p F,lookP (C k).L p=some F->LoopOkK P n (loopAt p code) (inK ks) F) (hn:∀k,(C k).n=n) {p:List Nat} (hp:codeAt p code=some (.loop (loopAt p code))) {m:Nat} {ts:List Nat} {is:Ren} {tx:Nat} {nt et:List Nat} {ni ei:Ren} {nx ex:Nat} (st:Nat->St) {e:Exit} {s0 sf:St} (h0:s0=st 0)
  (his:keptB ks is=true) (hni:keptB ks ni=true) (hei:keptB ks ei=true) (he:e≠.normal)
  (step:∀k,k<N->∃s,roundS (C k) m (p++[0]) (loopAt p code) nt ni nx et ei ex (st k)=some (.normal,s)∧stEq s (st (k+1))=true)
  (last:∃s,roundS (C N) m (p++[0]) (loopAt p code) nt ni nx et ei ex (st N)=some (e,s)∧stEq s sf=true) :
  LoopOkK P n (loopAt p code) (inK ks) (atSt ts is tx s0 e sf) :=
 loopK C N hC hLK hn hp (nt:=fun _=>nt) (et:=fun _=>et) (ni:=fun _=>ni) (ei:=fun _=>ei) st his (fun _=>hni) (fun _=>hei) (fun w0 R a w hr=>⟨R,MonoK.refl,by rw[<-h0];exact hr⟩) he step last
theorem LoopOkK.ok {n:Nat} {body:Code} {K:Nat->Prop} {F:St->List (Bool×Exit×St)} (h:LoopOkK P n body K F):LoopOk P n body F:=by
 intro w0 R s a w hr e s' hp
 refine wp_mono (h w0 R s a w hr e s' hp) ?_
 rintro e' a' w' ⟨rfl,R',_,k⟩
 exact⟨rfl,R',k⟩
theorem consLK {n:Nat} {c:Code} {K:Nat->Prop} {p:List Nat} {F:St->List (Bool×Exit×St)} {L:List (List Nat×(St->List (Bool×Exit×St)))} (h:LoopOkK P n (loopAt p c) K F)
  (hL:∀q F',lookP L q=some F'->LoopOkK P n (loopAt q c) K F'):∀q F',lookP ((p,F)::L) q=some F'->LoopOkK P n (loopAt q c) K F':=by
 intro q F' hq
 simp only[lookP] at hq
 cases he:nlEq p q with
 | false=>rw[he] at hq;exact hL q F' hq
 | true=>rw[he] at hq;simp at hq;subst hq;rw[<-nlEq_iff he];exact h
theorem noneLK {n:Nat} {body:Code} {K:Nat->Prop}:LoopOkK P n body K (fun _=>[]):=fun w0 R s a w hr e s' hp=>by simp[pickL] at hp
theorem nilLK {n:Nat} {c:Code} {K:Nat->Prop}:∀q F',lookP ([]:List (List Nat×(St->List (Bool×Exit×St)))) q=some F'->LoopOkK P n (loopAt q c) K F':=fun q F' h=>by simp[lookP] at h
theorem okLK {n:Nat} {c:Code} {K:Nat->Prop} {L:List (List Nat×(St->List (Bool×Exit×St)))} (h:∀q F',lookP L q=some F'->LoopOkK P n (loopAt q c) K F'):∀q F',lookP L q=some F'->LoopOk P n (loopAt q c) F':=fun q F' hq=>(h q F' hq).ok
def inlK (T:Tab) (G:Sums) (n:Nat) (L:List (List Nat×(St->List (Bool×Exit×St)))) (ks:List Nat) (fn:Func) (c:Code) (fuel:Nat):Ent:=inlL T G n L (fun i=>nmem i ks) fn c fuel
theorem inlK_sum {T:Tab} {G:Sums} {n:Nat} {L:List (List Nat×(St->List (Bool×Exit×St)))} {ks:List Nat} {fn:Func} {c:Code} {fuel:Nat} (hT:TabOk P T) (hG:SumsOk P G) (hmix:P.follows .mixedOrders=true)
  (hLK:∀p F,lookP L p=some F->LoopOkK P n (loopAt p c) (inK ks) F) {g:FuncId} (hf:P.funcs[g]?=some fn) (hname:(fn.name=="runtime.NumGoroutine")=false) (hb:fn.body=some c) (hn:n=fn.ntmps) :
  EntOk P g (inlK T G n L ks fn c fuel):=inlL_sum ⟨hmix,hT,hG,okLK hLK⟩ hLK hf hname hb hn
end
end Go.W

namespace Go.W
open Go
def aSl11 (n:Nat):Value:=.slice (some ⟨agId 0 11,0,none⟩) n n
def aSl12 (m:Nat):Value:=.slice (some ⟨agId 0 12,0,none⟩) m m
def aM (e0 e1 n:Nat) (f:Nat->List Value) (m:Nat) (h:Nat->List Value):Nat->Option Blk:=look [(agId 0 11,⟨.row k32 n f,e0,false⟩),(agId 0 12,⟨.row kP9 m h,e1,false⟩)]
noncomputable def byT (e0 e1:Nat) (k:Int) (K:RP) (lab:ByteArray) (n:Nat) (f:Nat->List Value) (m:Nat) (h:Nat->List Value) (g:Int) (X:Nat×Nat) (O:OR):OR :=
 req (isA (aM e0 e1 n f m h) (acV k K lab (aSl11 n) (aSl12 m) g X)&&Nat.ble (unA (aM e0 e1 n f m h) (acV k K lab (aSl11 n) (aSl12 m) g X)).l.size 1000000)
  (bif ckE (unA (aM e0 e1 n f m h) (acV k K lab (aSl11 n) (aSl12 m) g X)) != 0 then some (.tuple #[.slice none 0 0,i64 (ckE (unA (aM e0 e1 n f m h) (acV k K lab (aSl11 n) (aSl12 m) g X)))],[]) else O)
def lqP (i:Bool) (x y:Nat) (K:Nat->(Nat->List Value)->OR):OR :=
 req (isPt (ptV (i,x,y))&&ckR (unPt (ptV (i,x,y)))) (req (Nat.ble (pbL (unPt (ptV (i,x,y)))) (pbL (unPt (ptV (i,x,y))))&&true) (K (pbL (unPt (ptV (i,x,y)))) (pbR (unPt (ptV (i,x,y))))))
def ouP (e id L:Nat) (F:Nat->List Value):OR:=req (Nat.ble L L) (some (.tuple #[nSl id L,i64 0],rw1 e id L F))
def lpf (e id:Nat) (L:Nat) (F:Nat->List Value) (c r:Nat):OR :=
 apN L 32 (apN (L+32) 32 (ouP e id (L+32+32) (appF (L+32) (appF L F (lstF (bytesL 32 (unnum (num c))) 0 1)) (lstF (bytesL 32 (unnum (num r))) 0 1))))
def lbT5 (e id:Nat) (k:Int):OR:=some (.tuple #[nSl id 1,i64 0],rw1 e id 1 (b1 k))
def lbT4 (e id:Nat) (i:Bool) (x y c r:Nat):OR:=qN2 c r (lqP i x y fun L B=>req (szOk (1+L) 1) (lpf e id (1+L) (appF 1 (b1 4) (sgF L B)) c r))
def lbT3 (e id:Nat) (g:Int) (i:Bool) (x y c r:Nat):OR:=qN2 c r (lqP i x y fun L B=>req (szOk (1+1+L) 1) (lpf e id (1+1+L) (appF (1+1) (appF 1 (b1 3) (b1 g)) (sgF L B)) c r))
noncomputable def lbT1 (e id:Nat) (i:Bool) (x y:Nat) (lab:ByteArray):OR:=lqP i x y fun L B=>req (szOk (1+L) 1) (req (whN (1+L)&&whN lab.size&&Nat.ble (1+L) 900000)
 (ouP e id (ppL (1+L) lab.size) (ppR (1+L) (sgF (1+L) (appF 1 (b1 1) (sgF L B))) lab.size (sgF lab.size (strF lab)))))
def ls1 (tO t8 n m:Nat) (f h:Nat->List Value) (e0 e1 L:Nat) (F:Nat->List Value) (j:Int):St :=
 ⟨[(0,.slice (some ⟨nid 35 0,0,none⟩) L L),(3,.pointer (some ⟨27,0,none⟩)),(17,aSl11 n),(18,i64 (n:Int)),(19,i64 j)],
  [(11,⟨.lst [],t8,false⟩),(27,⟨.lst [aSl11 n,aSl12 m],tO,true⟩),(nid 35 0,⟨.row kB L F,t8,true⟩),(agId 0 11,⟨.row k32 n f,e0,false⟩),(agId 0 12,⟨.row kP9 m h,e1,false⟩)],41⟩
def ls2 (t8 n m:Nat) (f h:Nat->List Value) (e0 e1 L:Nat) (F:Nat->List Value) (j:Int):St :=
 ⟨[(0,.slice (some ⟨nid 47 0,0,none⟩) L L),(35,aSl12 m),(36,i64 (m:Int)),(37,i64 j)],
  [(11,⟨.lst [],t8,false⟩),(nid 47 0,⟨.row kB L F,t8,true⟩),(agId 0 11,⟨.row k32 n f,e0,false⟩),(agId 0 12,⟨.row kP9 m h,e1,false⟩)],53⟩
theorem ls1_eq {tO t8 n m:Nat} {f h f' h':Nat->List Value} {e0 e1 L:Nat} {F F':Nat->List Value} {j:Int} (hf:∀j,j<n->nrmK k32 (f j)=nrmK k32 (f' j)) (hh:∀j,j<m->nrmK kP9 (h j)=nrmK kP9 (h' j)) (hF:∀j,j<L->nrmK kB (F j)=nrmK kB (F' j)) :
  stEq (ls1 tO t8 n m f h e0 e1 L F j) (ls1 tO t8 n m f' h' e0 e1 L F' j)=true :=
 stEq_mk rfl (mSame rfl (mSame rfl (mRow hF (mRow hf (mRow hh mNil)))))
theorem ls2_eq {t8 n m:Nat} {f h f' h':Nat->List Value} {e0 e1 L:Nat} {F F':Nat->List Value} {j:Int} (hf:∀j,j<n->nrmK k32 (f j)=nrmK k32 (f' j)) (hh:∀j,j<m->nrmK kP9 (h j)=nrmK kP9 (h' j)) (hF:∀j,j<L->nrmK kB (F j)=nrmK kB (F' j)) :
  stEq (ls2 t8 n m f h e0 e1 L F j) (ls2 t8 n m f' h' e0 e1 L F' j)=true :=
 stEq_mk rfl (mSame rfl (mRow hF (mRow hf (mRow hh mNil))))
theorem lqP_eq {i:Bool} {x y:Nat} (h:ckR (i,x,y)=true) (K:Nat->(Nat->List Value)->OR):lqP i x y K=K (pbL (i,x,y)) (pbR (i,x,y)):=by
 unfold lqP;rw[isPt_ptV,unPt_ptV (ck_okR h),h,req_true (b:=true&&true) rfl,Nat.ble_eq_true_of_le (Nat.le_refl _),req_true (b:=true&&true) rfl]
theorem ouP_eq {e id L:Nat} {F:Nat->List Value}:ouP e id L F=some (.tuple #[nSl id L,i64 0],rw1 e id L F):=by unfold ouP;rw[Nat.ble_eq_true_of_le (Nat.le_refl L),req_true rfl]
theorem lpf_eq {e id L:Nat} (F:Nat->List Value) (c r:Nat) (h:L<=1000000):lpf e id L F c r=some (.tuple #[nSl id (L+32+32),i64 0],rw1 e id (L+32+32) (appF (L+32) (appF L F (lstF (bytesL 32 (unnum (num c))) 0 1)) (lstF (bytesL 32 (unnum (num r))) 0 1))):=by
 unfold lpf;rw[apN_eq (by omega),apN_eq (by omega),ouP_eq]
theorem lbT4_eq {i:Bool} {x y:Nat} (h:ckR (i,x,y)=true) (e id:Nat) (c r:Nat):lbT4 e id i x y c r=some (.tuple #[nSl id (1+pbL (i,x,y)+32+32),i64 0],rw1 e id (1+pbL (i,x,y)+32+32) (appF (1+pbL (i,x,y)+32) (appF (1+pbL (i,x,y)) (appF 1 (b1 4) (sgF (pbL (i,x,y)) (pbR (i,x,y)))) (lstF (bytesL 32 (unnum (num c))) 0 1)) (lstF (bytesL 32 (unnum (num r))) 0 1))):=by
 have:=pbL_le (i,x,y)
 unfold lbT4;rw[qN2_eq,lqP_eq h,szOk_small (by omega),req_true rfl,lpf_eq _ _ _ (by omega)]
theorem lbT3_eq {i:Bool} {x y:Nat} (h:ckR (i,x,y)=true) (e id:Nat) (g:Int) (c r:Nat):lbT3 e id g i x y c r=some (.tuple #[nSl id (1+1+pbL (i,x,y)+32+32),i64 0],rw1 e id (1+1+pbL (i,x,y)+32+32) (appF (1+1+pbL (i,x,y)+32) (appF (1+1+pbL (i,x,y)) (appF (1+1) (appF 1 (b1 3) (b1 g)) (sgF (pbL (i,x,y)) (pbR (i,x,y)))) (lstF (bytesL 32 (unnum (num c))) 0 1)) (lstF (bytesL 32 (unnum (num r))) 0 1))):=by
 have:=pbL_le (i,x,y)
 unfold lbT3;rw[qN2_eq,lqP_eq h,szOk_small (by omega),req_true rfl,lpf_eq _ _ _ (by omega)]
theorem lbT1_eq {i:Bool} {x y:Nat} (h:ckR (i,x,y)=true) (e id:Nat) (lab:ByteArray):lbT1 e id i x y lab=some (.tuple #[nSl id (ppL (1+pbL (i,x,y)) lab.size),i64 0],rw1 e id (ppL (1+pbL (i,x,y)) lab.size) (ppR (1+pbL (i,x,y)) (sgF (1+pbL (i,x,y)) (appF 1 (b1 1) (sgF (pbL (i,x,y)) (pbR (i,x,y))))) lab.size (sgF lab.size (strF lab)))):=by
 have:=pbL_le (i,x,y)
 unfold lbT1;rw[lqP_eq h,szOk_small (by omega),req_true rfl,whN_true,whN_true,Nat.ble_eq_true_of_le (show 1+pbL (i,x,y)<=900000 by omega),req_true (b:=true&&true&&true) rfl,ouP_eq]
section
variable {e0 e1:Nat} {k:Int} {K:RP} {lab:ByteArray} {n:Nat} {f:Nat->List Value} {m:Nat} {h:Nat->List Value} {g:Int} {X:Nat×Nat}
theorem src_11 (e0 e1 n:Nat) (f:Nat->List Value) (m:Nat) (h:Nat->List Value):srcB (aM e0 e1 n f m h) k32 (aSl11 n)=(true,n,sg32 n f)∧srcB (aM e0 e1 n f m h) kP9 (aSl12 m)=(true,m,sg9 m h):=by
 have h1:srcB (aM e0 e1 n f m h) k32 (aSl11 n)=(Nat.beq 0 0&&Nat.ble n n&&ksEq k32 k32&&Nat.ble n n,n,sg32 n f):=rfl
 have h2:srcB (aM e0 e1 n f m h) kP9 (aSl12 m)=(Nat.beq 0 0&&Nat.ble m m&&ksEq kP9 kP9&&Nat.ble m m,m,sg9 m h):=rfl
 rw[h1,h2,Nat.ble_eq_true_of_le (Nat.le_refl n),Nat.ble_eq_true_of_le (Nat.le_refl m)]
 exact⟨rfl,rfl⟩
theorem byT_eq (oK:okR K) (hc:X.1<2^256) (hr:X.2<2^256) (o1:okSl n f=true) (o2:okP m h=true) (hl:lab.size<=1000000) (O:OR) :
  byT e0 e1 k K lab n f m h g X O=if ckE ⟨k,K,lab,n,slA f,m,pA h,g,X⟩=0 then O else some (.tuple #[.slice none 0 0,i64 (ckE ⟨k,K,lab,n,slA f,m,pA h,g,X⟩)],[]):=by
 obtain ⟨s1,s2⟩:=src_11 e0 e1 n f m h
 have p1:okSl n (sg32 n f)=true:=by rw[okSl_sg];exact o1
 have p2:okP m (sg9 m h)=true:=by rw[okP_sg];exact o2
 unfold byT
 rw[isA_ac s1 p1 s2 p2,unA_ac oK hc hr s1 s2,slA_sg,pA_sg,Nat.ble_eq_true_of_le hl,req_true (b:=true&&true) rfl]
 by_cases e:ckE ⟨k,K,lab,n,slA f,m,pA h,g,X⟩=0
 ·rw[if_pos e,e];rfl
 ·rw[if_neg e,bne_iff_ne.2 e];rfl
end
end Go.W

namespace Go.Proofs.YtckbmhegopjnmaaGreat
set_option maxRecDepth 100000
open Go.W
theorem cpb_msum:MSum Tryz.prog 89 (CPbF 5):=MSum_sub cby_msum (CPbF_sub _)
noncomputable def alpS:Sums:=[(89,CPbF 5)]
theorem alpS_ok:SumsOk Tryz.prog alpS:=sums_consM cpb_msum sums_nil
noncomputable def alpE:Ent:=inl tab alpS 15 Tryz.f67 (bodyOf Tryz.f67)
theorem alpE_ok:EntOk Tryz.prog 67 alpE:=inl_sum tabOk alpS_ok mixed Tryz.func67 (by kernel_rfl) (by kernel_rfl) rfl
noncomputable def alrS:Sums:=[(67,alpE),(66,.me (PtpF 5))]
theorem alrS_ok:SumsOk Tryz.prog alrS:=sums_consI alpE_ok (sums_consM ptp_msum sums_nil)
noncomputable def alrE:Ent:=inl tab alrS 17 Tryz.f46 (bodyOf Tryz.f46)
theorem alrE_ok:EntOk Tryz.prog 46 alrE:=inl_sum tabOk alrS_ok mixed Tryz.func46 (by kernel_rfl) (by kernel_rfl) rfl
noncomputable def alvS:Sums:=[(67,alpE),(68,.pl BytesF)]
theorem alvS_ok:SumsOk Tryz.prog alvS:=sums_consI alpE_ok (sums_cons Bytes_sum sums_nil)
noncomputable def alvE:Ent:=inl tab alvS 25 Tryz.f48 (bodyOf Tryz.f48)
theorem alvE_ok:EntOk Tryz.prog 48 alvE:=inl_sum tabOk alvS_ok mixed Tryz.func48 (by kernel_rfl) (by kernel_rfl) rfl
noncomputable def alsS:Sums:=[(67,alpE)]
theorem alsS_ok:SumsOk Tryz.prog alsS:=sums_consI alpE_ok sums_nil
noncomputable def alsC0:Cfg:=⟨tab,alsS,46,[]⟩
def alsP1:List Nat:=[1,1,0,1,0]
def alsP2:List Nat:=[1,1,1,1,0,1,0]
def alsK:List Nat:=[11,agId 0 11,agId 0 12]
def alsN1:List Nat:=[0,3,17,18,19]
def alsN2:List Nat:=[0,35,36,37]
def alsI1:Ren:=[(11,11),(27,27),(nid 35 0,nid 48 0),(agId 0 11,agId 0 11),(agId 0 12,agId 0 12)]
def alsX1:Ren:=[(11,11),(27,27),(nid 35 0,nid 35 0),(agId 0 11,agId 0 11),(agId 0 12,agId 0 12)]
def alsI2:Ren:=[(11,11),(nid 47 0,nid 60 0),(agId 0 11,agId 0 11),(agId 0 12,agId 0 12)]
def alsX2:Ren:=[(11,11),(nid 47 0,nid 47 0),(agId 0 11,agId 0 11),(agId 0 12,agId 0 12)]
theorem als_at1:codeAt alsP1 (bodyOf Tryz.f47)=some (.loop (loopAt alsP1 (bodyOf Tryz.f47))):=by kernel_rfl
theorem als_at2:codeAt alsP2 (bodyOf Tryz.f47)=some (.loop (loopAt alsP2 (bodyOf Tryz.f47))):=by kernel_rfl
theorem als_r1 (n m:Nat) (S:Nat->Nat) (V:Nat->RP) (e0 e1 L:Nat) (F:Nat->List Value) (j:Nat) :
  roundS alsC0 60 (alsP1++[0]) (loopAt alsP1 (bodyOf Tryz.f47)) alsN1 alsI1 41 alsN1 alsX1 41 (ls1 88 5 n m (slF S) (ptF V) e0 e1 L F (j:Int)) =
  bif decide ((j:Int)<(n:Int)) then rdR j n (apN L 32 (some (.normal,ls1 88 5 n m (slF S) (ptF V) e0 e1 (L+32) (appF L F (lstF (slC (S (0+j))) 0 1)) (IntKind.i64.wrap ((j:Int)+1)))))
  else some (.exit 0,ls1 88 5 n m (slF S) (ptF V) e0 e1 L F (j:Int)):=by kernel_rfl
theorem als_r2 (n m:Nat) (S:Nat->Nat) (V:Nat->RP) (e0 e1 L:Nat) (F:Nat->List Value) (j:Nat) :
  roundS alsC0 60 (alsP2++[0]) (loopAt alsP2 (bodyOf Tryz.f47)) alsN2 alsI2 53 alsN2 alsX2 53 (ls2 5 n m (slF S) (ptF V) e0 e1 L F (j:Int)) =
  bif decide ((j:Int)<(m:Int)) then rdR j m (req (isPt (ptV (V (0+j)))&&ckR (unPt (ptV (V (0+j))))) (req (Nat.ble (pbL (unPt (ptV (V (0+j))))) (pbL (unPt (ptV (V (0+j)))))&&true) (apN L (pbL (unPt (ptV (V (0+j))))) (some (.normal,ls2 5 n m (slF S) (ptF V) e0 e1 (L+pbL (unPt (ptV (V (0+j))))) (appF L F (sgF (pbL (unPt (ptV (V (0+j))))) (pbR (unPt (ptV (V (0+j))))))) (IntKind.i64.wrap ((j:Int)+1)))))))
  else some (.exit 2,ls2 5 n m (slF S) (ptF V) e0 e1 L F (j:Int)):=by kernel_rfl
theorem als_l1 {n m:Nat} {S:Nat->Nat} {V:Nat->RP} {e0 e1:Nat} (hn:n<=8) :
  LoopOkK Tryz.prog 46 (loopAt alsP1 (bodyOf Tryz.f47)) (inK alsK) (atSt alsN1 alsX1 41 (ls1 88 5 n m (slF S) (ptF V) e0 e1 (1+1) (liF (l0A n)) 0) (.exit 0) (ls1 88 5 n m (slF S) (ptF V) e0 e1 (2+32*n) (liF (l0A n++syS S n)) (n:Int))):=by
 refine loopKE (fun _=>alsC0) n (fun _ _=>⟨mixed,tabOk,alsS_ok,noL⟩) (fun _ _=>nilLK) (fun _=>rfl) als_at1 (m:=60) (nt:=alsN1) (ni:=alsI1) (et:=alsN1) (ei:=alsX1) (nx:=41) (ex:=41) (fun k=>ls1 88 5 n m (slF S) (ptF V) e0 e1 (2+32*k) (liF (l0A n++syS S k)) (k:Int)) (by show ls1 _ _ _ _ _ _ _ _ _ _ _=ls1 _ _ _ _ _ _ _ _ _ _ _;rw[show syS S 0=[] from rfl,List.append_nil];rfl) (by kernel_rfl) (by kernel_rfl) (by kernel_rfl) (by intro h;cases h) ?_ ?_
 ·intro k hk
  refine⟨ls1 88 5 n m (slF S) (ptF V) e0 e1 (2+32*k+32) (appF (2+32*k) (liF (l0A n++syS S k)) (lstF (slC (S k)) 0 1)) ((k+1:Nat):Int),?_,?_⟩
  ·refine(als_r1 n m S V e0 e1 _ _ k).trans ?_
   rw[decide_eq_true (by omega),cond_true,rdR_eq hk,apN_eq (by omega),Nat.zero_add,wrap_i64 (by omega)];rfl
  ·refine ls1_eq (fun _ _=>rfl) (fun _ _=>rfl) ?_
   have h1:Holds (2+32*k) (liF (l0A n++syS S k)) (l0A n++syS S k):=by
    have:=rep_li (l0A n++syS S k)
    rw[List.length_append,syS_len,show(l0A n).length=2 from rfl] at this;exact this
   have h2:=rep_app h1 (holds_sl (S k))
   rw[List.append_assoc] at h2
   exact rep_row h2
 ·refine⟨_,?_,stEq_refl rfl⟩
  refine(als_r1 n m S V e0 e1 _ _ n).trans ?_
  rw[decide_eq_false (by omega),cond_false]
theorem als_l2 {n m:Nat} {S:Nat->Nat} {V:Nat->RP} {e0 e1:Nat} (hn:n<=8) (hm:m<=64) (hV:∀j,j<m->ckR (V j)=true) :
  LoopOkK Tryz.prog 46 (loopAt alsP2 (bodyOf Tryz.f47)) (inK alsK) (atSt alsN2 alsX2 53 (ls2 5 n m (slF S) (ptF V) e0 e1 (2+32*n+1) (liF (l1A n S m)) 0) (.exit 2) (ls2 5 n m (slF S) (ptF V) e0 e1 (2+32*n+1+pyL V m) (liF (l1A n S m++pyS V m)) (m:Int))):=by
 refine loopKE (fun _=>alsC0) m (fun _ _=>⟨mixed,tabOk,alsS_ok,noL⟩) (fun _ _=>nilLK) (fun _=>rfl) als_at2 (m:=60) (nt:=alsN2) (ni:=alsI2) (et:=alsN2) (ei:=alsX2) (nx:=53) (ex:=53) (fun k=>ls2 5 n m (slF S) (ptF V) e0 e1 (2+32*n+1+pyL V k) (liF (l1A n S m++pyS V k)) (k:Int)) (by show ls2 _ _ _ _ _ _ _ _ _ _=ls2 _ _ _ _ _ _ _ _ _ _;rw[show pyS V 0=[] from rfl,List.append_nil];rfl) (by kernel_rfl) (by kernel_rfl) (by kernel_rfl) (by intro h;cases h) ?_ ?_
 ·intro k hk
  have hl:=pyL_le V k
  have hp:=pbL_le (V k)
  refine⟨ls2 5 n m (slF S) (ptF V) e0 e1 (2+32*n+1+pyL V k+pbL (V k)) (appF (2+32*n+1+pyL V k) (liF (l1A n S m++pyS V k)) (sgF (pbL (V k)) (pbR (V k)))) ((k+1:Nat):Int),?_,?_⟩
  ·refine(als_r2 n m S V e0 e1 _ _ k).trans ?_
   rw[decide_eq_true (by omega),cond_true,rdR_eq hk,Nat.zero_add,isPt_ptV,unPt_ptV (ck_okR (hV k hk)),hV k hk,req_true (b:=true&&true) rfl,Nat.ble_eq_true_of_le (Nat.le_refl _),req_true (b:=true&&true) rfl,apN_eq (by omega),wrap_i64 (by omega)];rfl
  ·rw[show 2+32*n+1+pyL V (k+1)=2+32*n+1+pyL V k+pbL (V k) from by rw[pyL];omega]
   refine ls2_eq (fun _ _=>rfl) (fun _ _=>rfl) ?_
   have h1:Holds (2+32*n+1+pyL V k) (liF (l1A n S m++pyS V k)) (l1A n S m++pyS V k):=by
    have:=rep_li (l1A n S m++pyS V k)
    rw[List.length_append,pyS_len,l1A_len] at this;exact this
   have h2:=rep_app h1 (rep_sg (pbL (V k)) (rep_pb (V k)))
   rw[List.append_assoc] at h2
   exact rep_row h2
 ·refine⟨_,?_,stEq_refl rfl⟩
  refine(als_r2 n m S V e0 e1 _ _ m).trans ?_
  rw[decide_eq_false (by omega),cond_false]
noncomputable def alsL (n m:Nat) (S:Nat->Nat) (V:Nat->RP) (e0 e1:Nat) (L1:Nat) (F0 F1:Nat->List Value) (L2:Nat) (F2:Nat->List Value) (L3:Nat) (F3:Nat->List Value):List (List Nat×(St->List (Bool×Exit×St))) :=
 [(alsP1,atSt alsN1 alsX1 41 (ls1 88 5 n m (slF S) (ptF V) e0 e1 (1+1) F0 0) (.exit 0) (ls1 88 5 n m (slF S) (ptF V) e0 e1 L1 F1 (n:Int))),
  (alsP2,atSt alsN2 alsX2 53 (ls2 5 n m (slF S) (ptF V) e0 e1 L2 F2 0) (.exit 2) (ls2 5 n m (slF S) (ptF V) e0 e1 L3 F3 (m:Int)))]
noncomputable def alsE (L:List (List Nat×(St->List (Bool×Exit×St)))):Ent:=inlK tab alsS 46 L alsK Tryz.f47 (bodyOf Tryz.f47) 60
theorem alsE_ok {L:List (List Nat×(St->List (Bool×Exit×St)))} (h:∀q F',lookP L q=some F'->LoopOkK Tryz.prog 46 (loopAt q (bodyOf Tryz.f47)) (inK alsK) F'):EntOk Tryz.prog 47 (alsE L):=inlK_sum tabOk alsS_ok mixed h Tryz.func47 (by kernel_rfl) (by kernel_rfl) rfl
noncomputable def alaS (E:Ent):Sums:=[(46,alrE),(47,E),(48,alvE)]
theorem alaS_ok {E:Ent} (h:EntOk Tryz.prog 47 E):SumsOk Tryz.prog (alaS E):=sums_consI alrE_ok (sums_consI h (sums_consI alvE_ok sums_nil))
noncomputable def alaE (E:Ent):Ent:=inl tab (alaS E) 42 Tryz.f25 (bodyOf Tryz.f25)
theorem alaE_ok {E:Ent} (h:EntOk Tryz.prog 47 E):EntOk Tryz.prog 25 (alaE E):=inl_sum tabOk (alaS_ok h) mixed Tryz.func25 (by kernel_rfl) (by kernel_rfl) rfl
noncomputable def abyS (E:Ent):Sums:=[(9,.me CkeF),(26,afoE),(25,alaE E)]
theorem abyS_ok {E:Ent} (h:EntOk Tryz.prog 47 E):SumsOk Tryz.prog (abyS E):=sums_consM ack_msum (sums_consI afoE_ok (sums_consI (alaE_ok h) sums_nil))
noncomputable def abyC (E:Ent):Cfg:=⟨tab,abyS E,19,[]⟩
noncomputable def abyC0:Cfg:=abyC (alsE [(alsP1,fun _=>[])])
theorem abyC0_ok:CfgOk Tryz.prog abyC0 (bodyOf Tryz.f8):=⟨mixed,tabOk,abyS_ok (alsE_ok (consLK noneLK nilLK)),noL⟩
theorem aby_ev5 (i:Bool) (x y n m c r:Nat) (g:Int) (lab:ByteArray) (f h:Nat->List Value) (es:Nat->TypeId) (er:Nat->Nat->TypeId) (id:Nat) :
  fnMS abyC0 60 Tryz.f8 (bodyOf Tryz.f8) (cArgsX [.ag (acA 5 (i,x,y) lab n f m h g (c,r))] 0) (cMemX es er [.ag (acA 5 (i,x,y) lab n f m h g (c,r))]) 0 id =
  byT (es (agId 0 11)) (es (agId 0 12)) 5 (i,x,y) lab n f m h g (c,r) (lbT5 5 id 5):=by kernel_rfl
theorem aby_ev1 (i:Bool) (x y n m c r:Nat) (g:Int) (lab:ByteArray) (f h:Nat->List Value) (es:Nat->TypeId) (er:Nat->Nat->TypeId) (id:Nat) :
  fnMS abyC0 60 Tryz.f8 (bodyOf Tryz.f8) (cArgsX [.ag (acA 1 (i,x,y) lab n f m h g (c,r))] 0) (cMemX es er [.ag (acA 1 (i,x,y) lab n f m h g (c,r))]) 0 id =
  byT (es (agId 0 11)) (es (agId 0 12)) 1 (i,x,y) lab n f m h g (c,r) (lbT1 5 id i x y lab):=by kernel_rfl
theorem aby_ev4 (i:Bool) (x y n m c r:Nat) (g:Int) (lab:ByteArray) (f h:Nat->List Value) (es:Nat->TypeId) (er:Nat->Nat->TypeId) (id:Nat) :
  fnMS abyC0 60 Tryz.f8 (bodyOf Tryz.f8) (cArgsX [.ag (acA 4 (i,x,y) lab n f m h g (c,r))] 0) (cMemX es er [.ag (acA 4 (i,x,y) lab n f m h g (c,r))]) 0 id =
  byT (es (agId 0 11)) (es (agId 0 12)) 4 (i,x,y) lab n f m h g (c,r) (lbT4 5 id i x y c r):=by kernel_rfl
theorem aby_ev3 (i:Bool) (x y n m c r:Nat) (g:Int) (lab:ByteArray) (f h:Nat->List Value) (es:Nat->TypeId) (er:Nat->Nat->TypeId) (id:Nat) :
  fnMS abyC0 60 Tryz.f8 (bodyOf Tryz.f8) (cArgsX [.ag (acA 3 (i,x,y) lab n f m h g (c,r))] 0) (cMemX es er [.ag (acA 3 (i,x,y) lab n f m h g (c,r))]) 0 id =
  byT (es (agId 0 11)) (es (agId 0 12)) 3 (i,x,y) lab n f m h g (c,r) (lbT3 5 id g i x y c r):=by kernel_rfl
theorem aby_evN (i:Bool) (x y n m c r:Nat) (g:Int) (lab:ByteArray) (f h:Nat->List Value) (es:Nat->TypeId) (er:Nat->Nat->TypeId) (id j:Nat) :
  fnMS abyC0 60 Tryz.f8 (bodyOf Tryz.f8) (cArgsX [.ag (acA (Int.negSucc j) (i,x,y) lab n f m h g (c,r))] 0) (cMemX es er [.ag (acA (Int.negSucc j) (i,x,y) lab n f m h g (c,r))]) 0 id =
  byT (es (agId 0 11)) (es (agId 0 12)) (Int.negSucc j) (i,x,y) lab n f m h g (c,r) (lbT5 5 id (Int.negSucc j)):=by kernel_rfl
theorem aby_ev0 (i:Bool) (x y n m c r:Nat) (g:Int) (lab:ByteArray) (f h:Nat->List Value) (es:Nat->TypeId) (er:Nat->Nat->TypeId) (id:Nat) :
  fnMS abyC0 60 Tryz.f8 (bodyOf Tryz.f8) (cArgsX [.ag (acA (0) (i,x,y) lab n f m h g (c,r))] 0) (cMemX es er [.ag (acA (0) (i,x,y) lab n f m h g (c,r))]) 0 id =
  byT (es (agId 0 11)) (es (agId 0 12)) (0) (i,x,y) lab n f m h g (c,r) (lbT5 5 id 0):=by kernel_rfl
theorem aby_ev6 (i:Bool) (x y n m c r:Nat) (g:Int) (lab:ByteArray) (f h:Nat->List Value) (es:Nat->TypeId) (er:Nat->Nat->TypeId) (id j:Nat) :
  fnMS abyC0 60 Tryz.f8 (bodyOf Tryz.f8) (cArgsX [.ag (acA (Int.ofNat (j+6)) (i,x,y) lab n f m h g (c,r))] 0) (cMemX es er [.ag (acA (Int.ofNat (j+6)) (i,x,y) lab n f m h g (c,r))]) 0 id =
  byT (es (agId 0 11)) (es (agId 0 12)) (Int.ofNat (j+6)) (i,x,y) lab n f m h g (c,r) (lbT5 5 id (Int.ofNat (j+6))):=by kernel_rfl
theorem aby_ev2n (i:Bool) (x y n m c r:Nat) (g:Int) (lab:ByteArray) (f h:Nat->List Value) (es:Nat->TypeId) (er:Nat->Nat->TypeId) (id:Nat) :
  fnMS abyC0 60 Tryz.f8 (bodyOf Tryz.f8) (cArgsX [.ag (acA (2) (i,x,y) lab n f m h g (c,r))] 0) (cMemX es er [.ag (acA (2) (i,x,y) lab n f m h g (c,r))]) 0 id =
  byT (es (agId 0 11)) (es (agId 0 12)) (2) (i,x,y) lab n f m h g (c,r) none:=by kernel_rfl
theorem aby_ev2 (i:Bool) (x y n m c r:Nat) (g:Int) (lab:ByteArray) (f h:Nat->List Value) (S:Nat->Nat) (V:Nat->RP) (L1:Nat) (F0 F1:Nat->List Value) (L2:Nat) (F2:Nat->List Value) (L3:Nat) (F3:Nat->List Value) (es:Nat->TypeId) (er:Nat->Nat->TypeId) (id:Nat) :
  fnMS (abyC (alsE (alsL n m S V (es (agId 0 11)) (es (agId 0 12)) L1 F0 F1 L2 F2 L3 F3))) 60 Tryz.f8 (bodyOf Tryz.f8) (cArgsX [.ag (acA 2 (i,x,y) lab n f m h g (c,r))] 0) (cMemX es er [.ag (acA 2 (i,x,y) lab n f m h g (c,r))]) 0 id =
  byT (es (agId 0 11)) (es (agId 0 12)) 2 (i,x,y) lab n f m h g (c,r)
   (req (stEq (ls1 88 5 n m f h (es (agId 0 11)) (es (agId 0 12)) (1+1) (appF 1 (b1 2) (b1 (n:Int))) 0) (ls1 88 5 n m (slF S) (ptF V) (es (agId 0 11)) (es (agId 0 12)) (1+1) F0 0))
    (apN L1 1 (req (stEq (ls2 5 n m (slF S) (ptF V) (es (agId 0 11)) (es (agId 0 12)) (L1+1) (appF L1 F1 (b1 (m:Int))) 0) (ls2 5 n m (slF S) (ptF V) (es (agId 0 11)) (es (agId 0 12)) L2 F2 0)) (ouP 5 id L3 F3)))):=by kernel_rfl
theorem aby_any (i:Bool) (x y n m c r:Nat) (g:Int) (lab:ByteArray) (f h:Nat->List Value) (es:Nat->TypeId) (er:Nat->Nat->TypeId) (id:Nat):∀k:Int,
  ∃O,fnMS abyC0 60 Tryz.f8 (bodyOf Tryz.f8) (cArgsX [.ag (acA k (i,x,y) lab n f m h g (c,r))] 0) (cMemX es er [.ag (acA k (i,x,y) lab n f m h g (c,r))]) 0 id =
  byT (es (agId 0 11)) (es (agId 0 12)) k (i,x,y) lab n f m h g (c,r) O
 | .negSucc j=>⟨_,aby_evN i x y n m c r g lab f h es er id j⟩
 | .ofNat 0=>⟨_,aby_ev0 i x y n m c r g lab f h es er id⟩
 | .ofNat 1=>⟨_,aby_ev1 i x y n m c r g lab f h es er id⟩
 | .ofNat 2=>⟨_,aby_ev2n i x y n m c r g lab f h es er id⟩
 | .ofNat 3=>⟨_,aby_ev3 i x y n m c r g lab f h es er id⟩
 | .ofNat 4=>⟨_,aby_ev4 i x y n m c r g lab f h es er id⟩
 | .ofNat 5=>⟨_,aby_ev5 i x y n m c r g lab f h es er id⟩
 | .ofNat (j+6)=>⟨_,aby_ev6 i x y n m c r g lab f h es er id j⟩
theorem aby_msum:MSum Tryz.prog 8 (BabF 5):=by
 intro w0 R fm w hm vs args' hl mm hsub id hlt v l hpick hnew
 match vs,hl,hpick with
 | [a],hl,hpick =>
  obtain ⟨hc,rfl,rfl⟩:=pick_one hpick
  simp only[Bool.and_eq_true] at hc
  obtain ⟨hc,hz⟩:=hc
  obtain ⟨k,K,lab,s,c,g,X,n,f,m,q,ea,oK,oX,oX',hs,o1,hq,o2,eA⟩:=isA_some hc
  rw[eA] at hz hnew ⊢
  have hz:=Nat.le_of_ble_eq_true hz
  clear eA hc hpick
  subst ea
  obtain ⟨i,x,y⟩:=K
  obtain ⟨c,r⟩:=X
  have h9:=hnew (nid id 0,_) (List.mem_cons_self ..)
  have run:∀(v:Value) (l:List (Nat×Blk)),(l=[]∨∃blk,l=[(nid id 0,blk)])->(∀es er,∃C,CfgOk Tryz.prog C (bodyOf Tryz.f8)∧C.n=Tryz.f8.ntmps∧fnMS C 60 Tryz.f8 (bodyOf Tryz.f8) (cArgsX [.ag (acA k (i,x,y) lab n f m q g (c,r))] 0) (cMemX es er [.ag (acA k (i,x,y) lab n f m q g (c,r))]) 0 id=some (v,l)) ->
    Invokes Tryz.prog 8 args'.toArray w fun v' w'=>∃R':Nat->Pl->Prop,(∀i p,R i p->R' i p)∧V2 R' v v'∧MRel w0 R' (memF fm l) w':=by
   intro v l hl1 hev
   refine msum_atV (c:=bodyOf Tryz.f8) (fuel:=60) (next:=0) Tryz.func8 (by kernel_rfl) (by kernel_rfl) hm hl hsub hlt
    (A:=[.ag (acA k (i,x,y) lab n f m q g (c,r))]) ⟨⟨_,rfl,acA_ok hs hq⟩,trivial⟩ (by kernel_rfl) (by show 1<=Tryz.f8.ntmps;decide +kernel) hl1 (fun p hp=>?_) hev
   rcases hl1 with rfl | ⟨blk,rfl⟩
   ·cases hp
   ·rw[List.mem_singleton.1 hp];exact h9
  have hb:=fun(e0 e1:Nat)=>byT_eq (e0:=e0) (e1:=e1) (k:=k) (K:=(i,x,y)) (lab:=lab) (g:=g) (X:=(c,r)) oK oX oX' o1 o2 hz
  by_cases h0:ckE ⟨k,(i,x,y),lab,n,slA f,m,pA q,g,(c,r)⟩=0
  ·have fin:∀(L:Nat) (F:Nat->List Value),Holds L F (wr0 ⟨k,(i,x,y),lab,n,slA f,m,pA q,g,(c,r)⟩)->(∀es er,∃C,CfgOk Tryz.prog C (bodyOf Tryz.f8)∧C.n=Tryz.f8.ntmps∧fnMS C 60 Tryz.f8 (bodyOf Tryz.f8) (cArgsX [.ag (acA k (i,x,y) lab n f m q g (c,r))] 0) (cMemX es er [.ag (acA k (i,x,y) lab n f m q g (c,r))]) 0 id=some (.tuple #[nSl id L,i64 0],rw1 5 id L F)) ->
     Invokes Tryz.prog 8 args'.toArray w fun v' w'=>∃R':Nat->Pl->Prop,(∀i p,R i p->R' i p)∧V2 R' (.tuple #[nSl id (wrL ⟨k,(i,x,y),lab,n,slA f,m,pA q,g,(c,r)⟩),i64 (ckE ⟨k,(i,x,y),lab,n,slA f,m,pA q,g,(c,r)⟩)]) v'∧MRel w0 R' (memF fm (rw1 5 id (wrL ⟨k,(i,x,y),lab,n,slA f,m,pA q,g,(c,r)⟩) (liF (wrA ⟨k,(i,x,y),lab,n,slA f,m,pA q,g,(c,r)⟩)))) w':=by
    intro L F hH hev
    have eL:wrL ⟨k,(i,x,y),lab,n,slA f,m,pA q,g,(c,r)⟩=L:=by rw[wrL_eq,wrA_ok h0,<-hH.1]
    rw[eL,wrA_ok h0,h0]
    exact invokes_eqv (f:=F) (rep_row hH) (run _ _ (.inr ⟨_,rfl⟩) hev)
   have hR:=ckE_iff.1 h0
   rcases hR with⟨hk,hK,hl1,hn,hm',hg,hX⟩ | ⟨hk,hK,hl1,hg,hX,hn,hm1,hm2,hV,hI⟩ | ⟨hk,hl1,hn,hm',hg1,hg2,hK,hX1,hX2⟩ | ⟨hk,hl1,hn,hm',hg,hK,hX1,hX2⟩ | ⟨hk,hK,hl1,hn,hm',hg,hX⟩
   ·simp only at hk hl1
    subst hk
    refine fin _ _ ?_ fun es er=>⟨abyC0,abyC0_ok,rfl,(aby_ev1 i x y n m c r g lab f q es er id).trans ((hb _ _ _).trans ((if_pos h0).trans (lbT1_eq (ful_ck hK) _ _ _)))⟩
    rw[wr0_1 rfl]
    have:=lbl_size hl1
    exact holds_pp (rep_sg _ (holds_pt1 (i,x,y) (holds_b1 (k:=1) (by decide)))) (rep_sg _ (rep_str lab)) (by omega)
   ·simp only at hk hn hm1 hm2 hV
    subst hk
    refine fin (2+32*n+1+pyL (pA q) m) (liF (l1A n (slA f) m++pyS (pA q) m)) ?_ fun es er=>⟨abyC (alsE (alsL n m (slA f) (pA q) (es (agId 0 11)) (es (agId 0 12)) (2+32*n) (liF (l0A n)) (liF (l0A n++syS (slA f) n)) (2+32*n+1) (liF (l1A n (slA f) m)) (2+32*n+1+pyL (pA q) m) (liF (l1A n (slA f) m++pyS (pA q) m)))),⟨mixed,tabOk,abyS_ok (alsE_ok (consLK (als_l1 hn) (consLK (als_l2 hn hm2 (alP_iff.1 hV)) nilLK))),noL⟩,rfl,?_⟩
    ·rw[wr0_2 rfl]
     have:=rep_li (l1A n (slA f) m++pyS (pA q) m)
     rw[List.length_append,pyS_len,l1A_len] at this;exact this
    ·refine(aby_ev2 i x y n m c r g lab f q (slA f) (pA q) _ _ _ _ _ _ _ es er id).trans ((hb _ _ _).trans ((if_pos h0).trans ?_))
     refine(req_true (ls1_eq (row_sl o1) (row_pt o2) (rep_row (rep_app (holds_b1 (k:=2) (by decide)) (holds_b1 (k:=n) (by omega)))))).trans ?_
     rw[apN_eq (by omega)]
     refine(req_true (ls2_eq (fun _ _=>rfl) (fun _ _=>rfl) ?_)).trans (by rw[ouP_eq])
     have h1:Holds (2+32*n) (liF (l0A n++syS (slA f) n)) (l0A n++syS (slA f) n):=by
      have:=rep_li (l0A n++syS (slA f) n)
      rw[List.length_append,syS_len,show(l0A n).length=2 from rfl] at this;exact this
     exact rep_row (rep_app h1 (holds_b1 (k:=m) (by omega)))
   ·simp only at hk hg1 hg2
    subst hk
    refine fin _ _ ?_ fun es er=>⟨abyC0,abyC0_ok,rfl,(aby_ev3 i x y n m c r g lab f q es er id).trans ((hb _ _ _).trans ((if_pos h0).trans (lbT3_eq (ful_ck hK) _ _ _ _ _)))⟩
    rw[wr0_3 rfl]
    obtain ⟨g',rfl⟩:=Int.eq_ofNat_of_zero_le (show 0<=g by omega)
    exact holds_pf (holds_pt1 (i,x,y) (rep_app (holds_b1 (k:=3) (by decide)) (holds_b1 (k:=g') (by omega)))) oX oX'
   ·simp only at hk
    subst hk
    refine fin _ _ ?_ fun es er=>⟨abyC0,abyC0_ok,rfl,(aby_ev4 i x y n m c r g lab f q es er id).trans ((hb _ _ _).trans ((if_pos h0).trans (lbT4_eq (ful_ck hK) _ _ _ _)))⟩
    rw[wr0_4 rfl]
    exact holds_pf (holds_pt1 (i,x,y) (holds_b1 (k:=4) (by decide))) oX oX'
   ·simp only at hk
    subst hk
    exact fin _ _ (holds_5 _ rfl) fun es er=>⟨abyC0,abyC0_ok,rfl,(aby_ev5 i x y n m c r g lab f q es er id).trans ((hb _ _ _).trans (if_pos h0))⟩
  ·have eL:wrL ⟨k,(i,x,y),lab,n,slA f,m,pA q,g,(c,r)⟩=0:=by rw[wrL_eq,wrA_no h0];rfl
   rw[eL] at h9 ⊢
   refine invokes_nilT (rest:=[i64 (ckE ⟨k,(i,x,y),lab,n,slA f,m,pA q,g,(c,r)⟩)]) hlt (h9.1 ⟨Nat.le_refl _,by show nid id 0<nid id 8;unfold nid;omega⟩) (run _ _ (.inl rfl) fun es er=>?_)
   obtain ⟨O,hO⟩:=aby_any i x y n m c r g lab f q es er id k
   exact⟨abyC0,abyC0_ok,rfl,hO.trans ((hb _ _ O).trans (if_neg h0))⟩
 | [],_,h=>simp[BabF,pickM] at h
 | _::_::_,_,h=>simp[BabF,pickM] at h
end Go.Proofs.YtckbmhegopjnmaaGreat

namespace Go.W
open Go
theorem rune_uniq {b b':Nat->Nat} {i i' r w w':Nat} (h:runeAt b i r w) (h':runeAt b' i' r w'):w=w'∧∀k,k<w->b (i+k)=b' (i'+k):=by
 have two:∀{p:Nat->Prop} {n:Nat},n=2->p 0->p 1->∀k,k<n->p k:=by
  intro p n hn h0 h1 k hk
  have:k=0∨k=1:=by omega
  rcases this with rfl | rfl
  ·exact h0
  ·exact h1
 have three:∀{p:Nat->Prop} {n:Nat},n=3->p 0->p 1->p 2->∀k,k<n->p k:=by
  intro p n hn h0 h1 h2 k hk
  have:k=0∨k=1∨k=2:=by omega
  rcases this with rfl | rfl | rfl
  ·exact h0
  ·exact h1
  ·exact h2
 have four:∀{p:Nat->Prop} {n:Nat},n=4->p 0->p 1->p 2->p 3->∀k,k<n->p k:=by
  intro p n hn h0 h1 h2 h3 k hk
  have:k=0∨k=1∨k=2∨k=3:=by omega
  rcases this with rfl | rfl | rfl | rfl
  ·exact h0
  ·exact h1
  ·exact h2
  ·exact h3
 rcases h with⟨e,a1,a2⟩ | ⟨e,a1,a2,a3,a4⟩ | ⟨e,a1,a2,a3,a4,a5,_⟩ | ⟨e,a1,a2,a3,a4,a5,a6,_⟩ <;>
  rcases h' with⟨e',b1,b2⟩ | ⟨e',b1,b2,b3,b4⟩ | ⟨e',b1,b2,b3,b4,b5,_⟩ | ⟨e',b1,b2,b3,b4,b5,b6,_⟩
 ·refine⟨by omega,fun k hk=>?_⟩
  have:k=0:=by omega
  subst this
  show b (i+0)=b' (i'+0)
  rw[Nat.add_zero,Nat.add_zero];omega
 ·omega
 ·omega
 ·omega
 ·omega
 ·exact⟨by omega,two (p:=fun k=>b (i+k)=b' (i'+k)) e (by show b i=b' i';omega) (by show b (i+1)=b' (i'+1);omega)⟩
 ·omega
 ·omega
 ·omega
 ·omega
 ·exact⟨by omega,three (p:=fun k=>b (i+k)=b' (i'+k)) e (by show b i=b' i';omega) (by show b (i+1)=b' (i'+1);omega) (by show b (i+2)=b' (i'+2);omega)⟩
 ·omega
 ·omega
 ·omega
 ·omega
 ·exact⟨by omega,four (p:=fun k=>b (i+k)=b' (i'+k)) e (by show b i=b' i';omega) (by show b (i+1)=b' (i'+1);omega) (by show b (i+2)=b' (i'+2);omega) (by show b (i+3)=b' (i'+3);omega)⟩
theorem rune_vld {b:Nat->Nat} {i r w:Nat} (h:runeAt b i r w):vld (r:Int):=by
 rcases h with⟨_,a1,a2⟩ | ⟨_,a1,a2,a3,a4⟩ | ⟨_,a1,a2,a3,a4,a5,a6⟩ | ⟨_,a1,a2,a3,a4,a5,a6,a7⟩
 ·unfold vld;omega
 ·unfold vld;omega
 ·exact valid_vld.1 a6
 ·exact valid_vld.1 a7
theorem enc_at {s:ByteArray} {p r w:Nat} (h:runeAt (byt s) p r w) (hp:p+w<=s.size):s.extract p (p+w)=Utf8.encode (r:Int):=by
 have h2:=enc_rune (rune_vld h)
 rw[Int.toNat_natCast] at h2
 obtain ⟨e1,e2⟩:=rune_uniq h h2
 have hs:(s.extract p (p+w)).size=w:=by rw[size_cut hp];omega
 refine txt_ext (by rw[hs];exact e1) fun j hj=>?_
 rw[hs] at hj
 rw[byt_cut _ _ _ _ (by omega),e2 j hj,Nat.zero_add]
theorem cut_two (s:ByteArray) {p q:Nat} (h:p<=q) (hq:q<=s.size):s.extract 0 p++s.extract p q=s.extract 0 q:=by
 have h1:(s.extract 0 p).size=p:=by rw[size_cut (by omega)];omega
 have h2:(s.extract p q).size=q - p:=by rw[size_cut hq]
 have h3:(s.extract 0 q).size=q:=by rw[size_cut hq];omega
 refine txt_ext (by rw[size_app,h1,h2,h3];omega) fun j hj=>?_
 rw[size_app,h1,h2] at hj
 rw[byt_app,h1,byt_cut s 0 q j (by omega)]
 by_cases e:j<p
 ·rw[if_pos e,byt_cut s 0 p j (by omega)]
 ·rw[if_neg e,byt_cut s p q (j - p) (by omega),show p+(j - p)=0+j by omega]
theorem vld_rc {s:ByteArray} {k:Nat} (h:k<rN s):vld ((rc s k:Nat):Int):=by
 have hp:=lt_rN.2 h
 unfold rc dC
 rcases decB_cases (b:=byt s) hp with⟨e,_⟩ | ⟨r,w,e,h1,_⟩
 ·rw[e];show vld ((65533:Nat):Int);unfold vld;omega
 ·rw[e];exact rune_vld h1
def rcI (s:ByteArray) (j:Nat):Int:=((rc s j:Nat):Int)
theorem encs_rc {s:ByteArray} (h:right s):∀k,k<=rN s->encs (rcI s) k=s.extract 0 (ps s k)
 | 0,_=>by
  show(⟨#[]⟩:ByteArray)=s.extract 0 (ps s 0)
  rw[ps_zero]
  refine txt_ext ?_ fun j hj=>absurd hj (Nat.not_lt_zero _)
  rw[size_cut (Nat.zero_le _)];rfl
 | k+1,hk=>by
  have hp:=lt_rN.2 (show k<rN s by omega)
  obtain ⟨_,e1⟩:=ps_lt hp
  have e0:=encs_rc h k (by omega)
  show encs (rcI s) k++Utf8.encode (rcI s k)=_
  rcases decB_cases (b:=byt s) hp with⟨e,_⟩ | ⟨r,w,e,h1,h2⟩
  ·exact absurd e (h k (by omega))
  ·have ew:dW s (ps s k)=w:=by unfold dW;rw[e]
   have er:rcI s k=(r:Int):=by unfold rcI rc dC;rw[e]
   rw[e0,er,<-enc_at h1 h2,e1,ew,cut_two s (by omega) h2]
noncomputable def tx25 (s:ByteArray):ByteArray:=hide (encs (rcI s) (min 25 (rN s)))
theorem tx25_eq (s:ByteArray):tx25 s=encs (rcI s) (min 25 (rN s)):=hide_eq _
theorem tx25_size (s:ByteArray):(tx25 s).size<=100:=by
 rw[tx25_eq]
 have:=(encs_all (l:=rcI s) (n:=min 25 (rN s)) fun k hk=>vld_rc (by omega)).2.2.2
 omega
theorem lbl_tx (s:ByteArray):lbl (tx25 s)↔lbl s:=by
 rw[tx25_eq,lbl_encs (l:=rcI s) (fun k hk=>vld_rc (by omega))]
 have e:∀k,(rcI s k).toNat=rc s k:=fun k=>Int.toNat_natCast _
 simp only[e]
 unfold lbl
 constructor
 ·rintro ⟨a1,a2,a3,a4,a5⟩
  have em:min 25 (rN s)=rN s:=by omega
  rw[em] at a1 a2 a3 a5
  exact⟨a1,a2,a3,a4,a5⟩
 ·rintro ⟨a1,a2,a3,a4,a5⟩
  have em:min 25 (rN s)=rN s:=by omega
  rw[em]
  exact⟨a1,a2,a3,a4,a5⟩
theorem tx_lbl {s:ByteArray} (h:lbl s):tx25 s=s:=by
 rw[tx25_eq,show min 25 (rN s)=rN s by have:=h.2.1;omega,encs_rc (lbl_right h.2.2.1) _ (Nat.le_refl _),ps_rN (Nat.le_refl _)]
 exact cut_all s
theorem lblB_tx (s:ByteArray):lblB (tx25 s)=lblB s:=by
 rw[Bool.eq_iff_iff,lblB_iff,lblB_iff];exact lbl_tx s
theorem nsL_snoc (g:Nat->List Value):∀n lo,nsL g lo (n+1)=nsL g lo n++[toI ((g (lo+n)).headD (.bool false))]
 | 0,lo=>rfl
 | n+1,lo=>by
  rw[nsL,nsL_snoc g n (lo+1),nsL,show lo+1+n=lo+(n+1) by omega];rfl
theorem rowRn_encs (g:Nat->List Value):∀n,rowRn n g=encs (fun j=>toI ((g j).headD (.bool false))) n
 | 0=>rfl
 | n+1=>by
  have ih:=rowRn_encs g n
  unfold rowRn at ih ⊢
  rw[nsL_snoc,List.foldl_append,ih,Nat.zero_add];rfl
theorem encs_congr {l k:Nat->Int}:∀{n:Nat},(∀j,j<n->l j=k j)->encs l n=encs k n
 | 0,_=>rfl
 | n+1,h=>by
  show encs l n++_=encs k n++_
  rw[encs_congr (n:=n) fun j hj=>h j (by omega),h n (by omega)]
end Go.W
