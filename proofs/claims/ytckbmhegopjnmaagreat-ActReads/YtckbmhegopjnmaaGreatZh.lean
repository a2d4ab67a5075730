/-
  Several texts in one: M34 M101 M102 W39 M103 M104 M105 M106 M107 M108 M109 W44 M123 M124 Yh Ba Bb Va M86.
-/
import Derived.Test.YtckbmhegopjnmaaGreatZg
namespace Go.W
theorem rowL_inj {f g:Nat->List Value}:∀(n lo:Nat),rowL kB f lo n=rowL kB g lo n->∀j,j<n->bI f (lo+j)=bI g (lo+j)
 | 0,_,_,j,hj=>absurd hj (by omega)
 | n+1,lo,h,j,hj=>by
  rw[rowL,rowL,nrm_kB,nrm_kB]at h
  simp only[List.cons_append,List.nil_append,List.cons.injEq,Value.int.injEq,true_and]at h
  cases j with
  | zero=>exact h.1
  | succ j=>
   have:=rowL_inj n (lo+1) h.2 j (by omega)
   rw[show lo+1+j=lo+(j+1) from by omega]at this;exact this
theorem rowL_u8 {f:Nat->List Value}(h:∀j,0<=bI f j∧bI f j<256):∀(n lo:Nat),(rowL kB f lo n).all isU8=true
 | 0,_=>rfl
 | n+1,lo=>by
  rw[rowL,nrm_kB,List.all_append,rowL_u8 h n (lo+1),Bool.and_true]
  have:=h lo
  simp only[List.all_cons,List.all_nil,Bool.and_true,isU8,Bool.and_eq_true,decide_eq_true_eq,Nat.ble_eq]
  omega
theorem b32_ok {f:Nat->List Value}(h:∀j,0<=bI f j∧bI f j<256):isB32 (b32V f)=true:=isB32_of (by rw[rowL_len];rfl) (rowL_u8 h 32 1)
theorem rd_self {r:RP}(h:ckR r=true) (hi:r.1=false):rdX r.2.1 ((2+r.2.2%2:Nat):Int)=(r,0):=by
 obtain ⟨i,X,Y⟩:=r
 have hi:i=false:=hi
 subst hi
 obtain ⟨_,hX0,hY0⟩:=ck_aff h rfl
 have hX:X<pP:=hX0
 have hY:Y<pP:=hY0
 have h1:mp Y Y=sqN X:=by
  unfold ckR at h
  rw[if_neg Bool.false_ne_true]at h
  exact(of_decide_eq_true h).2.2
 have hr:rootIs (sqN X)=true:=root_of_sq (b:=Y) (by rw[<-h1,mp_eq,Nat.mod_mod])
 obtain ⟨_,c2,c3⟩:=root_pt hX hr
 obtain ⟨k1,_,k3⟩:=root_sq hr
 have hodd:=pP_facts.2.2.2
 have hsq:rootNum (sqN X)*rootNum (sqN X)%pP=Y*Y%pP:=by
  rw[k1,<-h1,mp_eq,Nat.mod_mod]
 have hs:sp 0 (rootNum (sqN X))=(pP-rootNum (sqN X))%pP:=by rw[sp_eq,Nat.mod_eq_of_lt k3,Nat.zero_add]
 show rdX X ((2+Y%2:Nat):Int)=((false,X,Y),0)
 unfold rdX
 rw[if_pos hX,if_pos hr]
 have key:(if ((2+Y%2:Nat):Int)=3 then sp 0 (rootNum (sqN X)) else rootNum (sqN X))=Y:=by
  rw[hs]at c3 ⊢
  have alt:rootNum (sqN X)=Y∨(rootNum (sqN X)+Y)%pP=0:=by
   rcases genP.sq_eq hsq with e|e
   ·rw[Nat.mod_eq_of_lt k3,Nat.mod_eq_of_lt hY]at e;exact .inl e
   ·exact .inr e
  clear hs k1 hsq h1 hr h hX0 hY0 hX
  generalize rootNum (sqN X)=q at *
  generalize pP=p at *
  have hq0:q≠0:=by
   intro e
   rw[e,Nat.sub_zero,Nat.mod_self]at c3
   omega
  have hpq:(p-q)%p=p-q:=Nat.mod_eq_of_lt (by omega)
  rw[hpq]at c3 ⊢
  have alt2:q=Y∨q+Y=p:=by
   rcases alt with e|e
   ·exact .inl e
   ·right
    by_cases hl:q+Y<p
    ·rw[Nat.mod_eq_of_lt hl]at e;omega
    ·rw[Nat.mod_eq_sub_mod (by omega),Nat.mod_eq_of_lt (by omega)]at e;omega
  by_cases h3:((2+Y%2:Nat):Int)=3
  ·rw[if_pos h3];omega
  ·rw[if_neg h3];omega
 rw[key]
theorem rd_back {n:Nat}{f:Nat->List Value}(hu:∀j,0<=bI f j∧bI f j<256) (h:(rdS n f).2=0):
  ckR (rdS n f).1=true∧(((rdS n f).1.1=true∧n=1∧bI f 0=0)∨((rdS n f).1.1=false∧n=33∧∀j,j<33->bI (ptyF (ptV (rdS n f).1)) j=bI f j)):=by
 unfold rdS at h ⊢
 rw[hide_eq]at h ⊢
 by_cases h1:n=1∧bI f 0=0
 ·rw[if_pos h1]
  exact⟨rfl,.inl ⟨rfl,h1⟩⟩
 ·rw[if_neg h1]at h ⊢
  by_cases h2:n=33∧(bI f 0=2∨bI f 0=3)
  ·rw[if_pos h2]at h ⊢
   obtain ⟨X,hX,e1,e2⟩:=isB32_some (b32_ok hu)
   rw[e2]at h ⊢
   unfold rdX at h ⊢
   by_cases hlt:X<pP
   ·rw[if_pos hlt]at h ⊢
    by_cases hr:rootIs (sqN X)=true
    ·rw[if_pos hr]at h ⊢
     obtain ⟨c1,c2,c3⟩:=root_pt hlt hr
     have c4:ckR (false,X,sp 0 (rootNum (sqN X)))=true:=by
      have:=ck_neg c1
      rw[negS_ok c1]at this;exact this
     have fin:∀Y,ckR (false,X,Y)=true->((2+Y%2:Nat):Int)=bI f 0->∀j,j<33->bI (ptyF (ptV (false,X,Y))) j=bI f j:=by
      intro Y hc h0 j hj
      unfold ptyF
      rw[unPt_ptV (ck_okR hc)]
      cases j with
      | zero=>rw[bI_hd];exact h0
      | succ j=>
       have e3:rowL kB (pbF (hdY Y) (bytesL 32 X)) 1 32=rowL kB f 1 32:=by
        have a1:=hdF_b ((2+Y%2:Nat):Int) X
        rw[<-e1]at a1
        unfold b32V at a1
        have a1:=Value.agg.inj a1
        have:=congrArg Array.toList a1
        rw[List.toList_toArray,List.toList_toArray]at this
        exact this
       have:=rowL_inj 32 1 e3 j (by omega)
       rw[Nat.add_comm 1 j]at this;exact this
     rcases h2.2 with hb|hb
     ·rw[if_neg (by rw[hb];decide)]
      exact⟨c1,.inr ⟨rfl,h2.1,fin _ c1 (by rw[c2,hb];rfl)⟩⟩
     ·rw[if_pos hb]
      exact⟨c4,.inr ⟨rfl,h2.1,fin _ c4 (by rw[c3,hb];rfl)⟩⟩
    ·rw[if_neg hr]at h;exact absurd h (by decide)
   ·rw[if_neg hlt]at h;exact absurd h (by decide)
  ·rw[if_neg h2]at h;exact absurd h (by decide)
theorem okR_rd (n:Nat) (f:Nat->List Value):okR (rdS n f).1:=by
 unfold rdS
 rw[hide_eq]
 have z:okR zR:=⟨lt6_0,lt6_0⟩
 split
 ·exact⟨lt6_0,lt6_0⟩
 ·split
  ·unfold rdX
   split
   ·rename_i hlt
    split
    ·refine⟨Nat.lt_trans hlt pP_facts.2.1,?_⟩
     show lt6 (if _ then _ else _)
     split
     ·exact sp_l _ _
     ·exact rootNum_lt _
    ·exact z
   ·exact z
  ·exact z
end Go.W

namespace Go.W
open Go
theorem app_two {s t a b:List Nat}(h:a++s=b++t) (hl:a.length=b.length):a=b∧s=t:=List.append_inj h hl
theorem beL_uni {n X Y:Nat}(hX:X<256^n) (hY:Y<256^n){s t:List Nat}(h:beL n X++s=beL n Y++t):X=Y∧s=t:=by
 obtain ⟨h1,h2⟩:=app_two h (by rw[beL_len,beL_len])
 have:=congrArg deL h1
 rw[deL_be n X hX,deL_be n Y hY]at this
 exact⟨this,h2⟩
theorem p25632:(256:Nat)^32=2^256:=by decide
theorem ck_infR {K:RP}(h:ckR K=true) (hi:K.1=true):K=infR:=by
 obtain ⟨i,X,Y⟩:=K
 have hi:i=true:=hi
 subst hi
 have:X=0∧Y=0:=by unfold ckR at h;rw[if_pos rfl]at h;exact of_decide_eq_true h
 rw[this.1,this.2];rfl
theorem pyB_uni {K J:RP}(hK:ckR K=true) (hJ:ckR J=true){s t:List Nat}(h:pyB K++s=pyB J++t):K=J∧s=t:=by
 unfold pyB at h
 by_cases k:K.1=true
 ·by_cases j:J.1=true
  ·rw[if_pos k,if_pos j]at h
   exact⟨(ck_infR hK k).trans (ck_infR hJ j).symm,(List.cons.inj h).2⟩
  ·rw[if_pos k,if_neg j]at h
   have:=(List.cons.inj h).1;omega
 ·by_cases j:J.1=true
  ·rw[if_neg k,if_pos j]at h
   have:=(List.cons.inj h).1;omega
  ·rw[if_neg k,if_neg j]at h
   obtain ⟨h1,h2⟩:=List.cons.inj h
   obtain ⟨h3,h4⟩:=beL_uni (by rw[p25632];exact(ck_okR hK).1) (by rw[p25632];exact(ck_okR hJ).1) h2
   have a:=rd_self hK (by simpa using k)
   have b:=rd_self hJ (by simpa using j)
   rw[<-h3,<-h1,a]at b
   exact⟨(Prod.mk.inj b).1,h4⟩
theorem syS_uni {S Z:Nat->Nat}:∀{n:Nat}{s t:List Nat},(∀j,j<n->S j<2^256)->(∀j,j<n->Z j<2^256)->syS S n++s=syS Z n++t->(∀j,j<n->S j=Z j)∧s=t
 | 0,_,_,_,_,h=>⟨fun j hj=>absurd hj (Nat.not_lt_zero _),h⟩
 | n+1,s,t,h1,h2,h=>by
  rw[syS,syS,List.append_assoc,List.append_assoc]at h
  obtain ⟨h3,h4⟩:=syS_uni (fun j hj=>h1 j (by omega)) (fun j hj=>h2 j (by omega)) h
  obtain ⟨h5,h6⟩:=beL_uni (by rw[p25632];exact h1 n (by omega)) (by rw[p25632];exact h2 n (by omega)) h4
  refine⟨fun j hj=>?_,h6⟩
  by_cases e:j=n
  ·rw[e];exact h5
  ·exact h3 j (by omega)
theorem pyS_uni {V W:Nat->RP}:∀{n:Nat}{s t:List Nat},(∀j,j<n->ckR (V j)=true)->(∀j,j<n->ckR (W j)=true)->pyS V n++s=pyS W n++t->(∀j,j<n->V j=W j)∧s=t
 | 0,_,_,_,_,h=>⟨fun j hj=>absurd hj (Nat.not_lt_zero _),h⟩
 | n+1,s,t,h1,h2,h=>by
  rw[pyS,pyS,List.append_assoc,List.append_assoc]at h
  obtain ⟨h3,h4⟩:=pyS_uni (fun j hj=>h1 j (by omega)) (fun j hj=>h2 j (by omega)) h
  obtain ⟨h5,h6⟩:=pyB_uni (h1 n (by omega)) (h2 n (by omega)) h4
  refine⟨fun j hj=>?_,h6⟩
  by_cases e:j=n
  ·rw[e];exact h5
  ·exact h3 j (by omega)
theorem txB_inj {a b:ByteArray}(h:txB a=txB b):a=b:=by
 have hs:a.size=b.size:=by rw[<-txB_len,<-txB_len,h]
 refine txt_ext hs fun j hj=>?_
 have h1:=(rep_str a).2 j hj
 have h2:=(rep_str b).2 j (by omega)
 rw[h,<-h2]at h1
 exact Int.ofNat_inj.1 h1
theorem txB_uni {a b:ByteArray}(hs:a.size=b.size){s t:List Nat}(h:txB a++s=txB b++t):a=b∧s=t:=by
 obtain ⟨h1,h2⟩:=app_two h (by rw[txB_len,txB_len,hs])
 exact⟨txB_inj h1,h2⟩
def Wsl (a:AR):Prop:=∀j,j<a.n->a.S j<2^256
def Sam (a b:AR):Prop:=a.k=b.k∧a.K=b.K∧a.l=b.l∧a.n=b.n∧(∀j,j<a.n->a.S j=b.S j)∧a.m=b.m∧(∀j,j<a.m->a.V j=b.V j)∧a.g=b.g∧a.X=b.X
theorem smA_iff {a b:AR}:smA a b=true↔Sam a b:=by
 unfold smA Sam
 simp only[Bool.and_eq_true,decide_eq_true_eq,eqN_iff]
 constructor
 ·rintro ⟨⟨⟨⟨⟨⟨h1,h2⟩,h3⟩,h4,h5⟩,h6,h7⟩,h8⟩,h9⟩;exact⟨h1,h2,h3,h4,h5,h6,h7,h8,h9⟩
 ·rintro ⟨h1,h2,h3,h4,h5,h6,h7,h8,h9⟩;exact⟨⟨⟨⟨⟨⟨h1,h2⟩,h3⟩,h4,h5⟩,h6,h7⟩,h8⟩,h9⟩
theorem Sam.refl (a:AR):Sam a a:=⟨rfl,rfl,rfl,rfl,fun _ _=>rfl,rfl,fun _ _=>rfl,rfl,rfl⟩
theorem Sam.symm {a b:AR}(h:Sam a b):Sam b a:=by
 obtain ⟨h1,h2,h3,h4,h5,h6,h7,h8,h9⟩:=h
 exact⟨h1.symm,h2.symm,h3.symm,h4.symm,fun j hj=>(h5 j (by omega)).symm,h6.symm,fun j hj=>(h7 j (by omega)).symm,h8.symm,h9.symm⟩
theorem Sam.trans {a b c:AR}(h:Sam a b) (h':Sam b c):Sam a c:=by
 obtain ⟨h1,h2,h3,h4,h5,h6,h7,h8,h9⟩:=h
 obtain ⟨g1,g2,g3,g4,g5,g6,g7,g8,g9⟩:=h'
 exact⟨h1.trans g1,h2.trans g2,h3.trans g3,h4.trans g4,fun j hj=>(h5 j hj).trans (g5 j (by omega)),h6.trans g6,fun j hj=>(h7 j hj).trans (g7 j (by omega)),h8.trans g8,h9.trans g9⟩
theorem ful_ck {K:RP}(h:fulB K=true):ckR K=true:=by unfold fulB at h;exact(Bool.and_eq_true ..▸h).2
theorem pN_256:pN<2^256:=by decide +kernel
theorem wr0_hd {a:AR}(h:Right a):∃r,wr0 a=a.k.toNat::r∧1<=a.k∧a.k<=5:=by
 unfold wr0
 rcases h with h|h|h|h|h<;>(obtain ⟨h,_⟩:=h;rw[h];exact⟨_,rfl,by decide,by decide⟩)
theorem wr0_uni {a b:AR}(ha:Right a) (hb:Right b) (wa:Wsl a) (wb:Wsl b){s t:List Nat}(h:wr0 a++s=wr0 b++t):Sam a b∧s=t:=by
 obtain ⟨r1,e1,l1,u1⟩:=wr0_hd ha
 obtain ⟨r2,e2,l2,u2⟩:=wr0_hd hb
 have hk:a.k=b.k:=by
  rw[e1,e2]at h
  have:=(List.cons.inj h).1
  omega
 clear e1 e2 r1 r2
 rcases ha with⟨k1,c⟩|⟨k1,c⟩|⟨k1,c⟩|⟨k1,c⟩|⟨k1,c⟩<;>rcases hb with⟨k2,d⟩|⟨k2,d⟩|⟨k2,d⟩|⟨k2,d⟩|⟨k2,d⟩<;>(first|(rw[k1,k2]at hk;exact absurd hk (by decide))|skip)
 ·rw[wr0_1 k1,wr0_1 k2,List.append_assoc,List.append_assoc,List.append_assoc,List.append_assoc,List.append_assoc,List.append_assoc]at h
  obtain ⟨c1,c2,c3,c4,c5,c6⟩:=c
  obtain ⟨d1,d2,d3,d4,d5,d6⟩:=d
  obtain ⟨_,h⟩:=app_two h rfl
  obtain ⟨q1,h⟩:=pyB_uni (ful_ck c1) (ful_ck d1) h
  have s1:=lbl_size c2
  have s2:=lbl_size d2
  obtain ⟨q2,h⟩:=beL_uni (n:=4) (by rw[show(256:Nat)^4=4294967296 from by decide];omega) (by rw[show(256:Nat)^4=4294967296 from by decide];omega) h
  obtain ⟨q3,h⟩:=txB_uni q2 h
  exact⟨⟨hk,q1,q3,by rw[c3,d3],fun j hj=>by omega,by rw[c4,d4],fun j hj=>by omega,by rw[c5,d5],by rw[c6,d6]⟩,h⟩
 ·rw[wr0_2 k1,wr0_2 k2]at h
  obtain ⟨c1,c2,c3,c4,c5,c6,c7,c8,c9⟩:=c
  obtain ⟨d1,d2,d3,d4,d5,d6,d7,d8,d9⟩:=d
  unfold l1A l0A at h
  simp only[List.append_assoc]at h
  have h:2::a.n::(syS a.S a.n++(a.m::(pyS a.V a.m++s)))=2::b.n::(syS b.S b.n++(b.m::(pyS b.V b.m++t))):=h
  obtain ⟨q1,h⟩:=List.cons.inj (List.cons.inj h).2
  unfold Wsl at wb
  rw[<-q1]at h wb
  obtain ⟨q2,h⟩:=syS_uni wa wb h
  obtain ⟨q3,h⟩:=List.cons.inj h
  have d8:=alP_iff.1 d8
  rw[<-q3]at h d8
  obtain ⟨q4,h⟩:=pyS_uni (alP_iff.1 c8) d8 h
  exact⟨⟨hk,by rw[c1,d1],by rw[c2,d2],q1,q2,q3,q4,by rw[c3,d3],by rw[c4,d4]⟩,h⟩
 ·rw[wr0_3 k1,wr0_3 k2]at h
  obtain ⟨c1,c2,c3,c4,c5,c6,c7,c8⟩:=c
  obtain ⟨d1,d2,d3,d4,d5,d6,d7,d8⟩:=d
  simp only[List.append_assoc]at h
  have h:3::a.g.toNat::(pyB a.K++(beL 32 a.X.1++(beL 32 a.X.2++s)))=3::b.g.toNat::(pyB b.K++(beL 32 b.X.1++(beL 32 b.X.2++t))):=h
  obtain ⟨q1,h⟩:=List.cons.inj (List.cons.inj h).2
  obtain ⟨q2,h⟩:=pyB_uni (ful_ck c6) (ful_ck d6) h
  have:=pN_256
  obtain ⟨q3,h⟩:=beL_uni (by rw[p25632];omega) (by rw[p25632];omega) h
  obtain ⟨q4,h⟩:=beL_uni (by rw[p25632];omega) (by rw[p25632];omega) h
  exact⟨⟨hk,q2,by rw[c1,d1],by rw[c2,d2],fun j hj=>by omega,by rw[c3,d3],fun j hj=>by omega,by omega,Prod.ext q3 q4⟩,h⟩
 ·rw[wr0_4 k1,wr0_4 k2]at h
  obtain ⟨c1,c2,c3,c4,c6,c7,c8⟩:=c
  obtain ⟨d1,d2,d3,d4,d6,d7,d8⟩:=d
  simp only[List.append_assoc]at h
  have h:4::(pyB a.K++(beL 32 a.X.1++(beL 32 a.X.2++s)))=4::(pyB b.K++(beL 32 b.X.1++(beL 32 b.X.2++t))):=h
  obtain ⟨_,h⟩:=List.cons.inj h
  obtain ⟨q2,h⟩:=pyB_uni (ful_ck c6) (ful_ck d6) h
  have:=pN_256
  obtain ⟨q3,h⟩:=beL_uni (by rw[p25632];omega) (by rw[p25632];omega) h
  obtain ⟨q4,h⟩:=beL_uni (by rw[p25632];omega) (by rw[p25632];omega) h
  exact⟨⟨hk,q2,by rw[c1,d1],by rw[c2,d2],fun j hj=>by omega,by rw[c3,d3],fun j hj=>by omega,by rw[c4,d4],Prod.ext q3 q4⟩,h⟩
 ·have e:∀x:AR,x.k=5->wr0 x=[5]:=fun x hx=>by unfold wr0;rw[hx];rfl
  rw[e a k1,e b k2]at h
  obtain ⟨c1,c2,c3,c4,c6,c7⟩:=c
  obtain ⟨d1,d2,d3,d4,d6,d7⟩:=d
  exact⟨⟨hk,by rw[c1,d1],by rw[c2,d2],by rw[c3,d3],fun j hj=>by omega,by rw[c4,d4],fun j hj=>by omega,by rw[c6,d6],by rw[c7,d7]⟩,(List.cons.inj h).2⟩
end Go.W

namespace Go.W
open Go
def stO (L:List Nat) (q:Int×Bool):Option (List Nat):=if q.2=true then none else some (L.drop q.1.toNat)
def aftO (n:Nat):Option (List Nat)->Option (List Nat)
 | some r=>if n<=r.length then some (r.drop n) else none
 | none=>none
def byO:Option (List Nat)->Nat
 | some (b::_)=>b
 | _=>0
noncomputable def tkS (m:Nat) (q:Int×Bool) (n:Int):Int×Bool:=(tkA m q.1 q.2 n,tkZ m q.1 q.2 n)
def inQ (m:Nat) (q:Int×Bool):Prop:=0<=q.1∧q.1<=m
theorem inQ_tk {m:Nat}{q:Int×Bool}(h:inQ m q){n:Int}(hn:0<=n):inQ m (tkS m q n):=tkA_le h.1 h.2 hn
theorem st_tk {m:Nat}{g:Nat->List Value}{q:Int×Bool}(h:inQ m q) (n:Nat):stO (lsB m g) (tkS m q (n:Int))=aftO n (stO (lsB m g) q):=by
 obtain ⟨a,bad⟩:=q
 obtain ⟨h0,h1⟩:=h
 have h0:0<=a:=h0
 have h1:a<=m:=h1
 unfold stO tkS
 simp only
 cases bad with
 | true=>
  have:tkZ m a true n=true:=by unfold tkZ tkB;rw[hide_eq];rfl
  rw[this,if_pos rfl,if_pos rfl];rfl
 | false=>
  by_cases hn:(n:Int)<=(m:Int)-a
  ·have e1:tkZ m a false n=false:=by unfold tkZ tkB;rw[hide_eq,decide_eq_true hn];rfl
   have e2:tkA m a false n=a+n:=by unfold tkA tkB;rw[hide_eq,if_pos (by rw[decide_eq_true hn];rfl)]
   rw[e1,e2,if_neg (by decide),if_neg (by decide)]
   unfold aftO
   simp only
   rw[if_pos (by rw[List.length_drop,lsB_len];omega),List.drop_drop,show(a+(n:Int)).toNat=a.toNat+n by omega]
  ·have e1:tkZ m a false n=true:=by unfold tkZ tkB;rw[hide_eq,decide_eq_false hn];rfl
   rw[e1,if_pos rfl,if_neg (by decide)]
   unfold aftO
   simp only
   rw[if_neg (by rw[List.length_drop,lsB_len];omega)]
theorem lsB_get {m:Nat}{g:Nat->List Value}(hg:okY m g=true){j:Nat}(hj:j<m):bI g j=(((lsB m g).getD j 0:Nat):Int):=(rep_ls hg).2 j hj
theorem holds_tk {m:Nat}{g:Nat->List Value}(hg:okY m g=true){q:Int×Bool}(h:inQ m q){n:Nat}{r:List Nat}(hs:stO (lsB m g) q=some r) (hn:n<=r.length):Holds n (tkF m g q.1 q.2 (n:Int)) (r.take n):=by
 obtain ⟨a,bad⟩:=q
 obtain ⟨h0,h1⟩:=h
 have h0:0<=a:=h0
 have h1:a<=m:=h1
 unfold stO at hs
 simp only at hs
 cases bad with
 | true=>rw[if_pos rfl]at hs;cases hs
 | false=>
  rw[if_neg (by decide)]at hs
  cases hs
  rw[List.length_drop,lsB_len]at hn
  refine⟨by rw[List.length_take,List.length_drop,lsB_len];omega,fun j hj=>?_⟩
  rw[bI_tk,if_pos (by unfold tkB;rw[decide_eq_true (by simp only;omega)];rfl)]
  simp only
  rw[lsB_get hg (by omega),List.getD_eq_getElem?_getD,List.getD_eq_getElem?_getD,List.getElem?_take_of_lt hj,List.getElem?_drop]
theorem by_tk {m:Nat}{g:Nat->List Value}(hg:okY m g=true){q:Int×Bool}(h:inQ m q):bI (tkF m g q.1 q.2 1) 0=((byO (stO (lsB m g) q):Nat):Int):=by
 cases hs:stO (lsB m g) q with
 | none=>
  unfold stO at hs
  have hb:q.2=true:=by
   cases hq:q.2 with
   | true=>rfl
   | false=>rw[hq,if_neg (by decide)]at hs;cases hs
  rw[bI_tk,hb];rfl
 | some r=>
  cases r with
  | nil=>
   have hb:tkB m q.1 q.2 1=false:=by
    unfold stO at hs
    cases hq:q.2 with
    | true=>rfl
    | false=>
     rw[hq,if_neg (by decide)]at hs
     have hl:=congrArg List.length (Option.some.inj hs)
     rw[List.length_drop,lsB_len]at hl
     obtain ⟨h0,h1⟩:=h
     have hl:m-q.1.toNat=0:=hl
     unfold tkB;rw[decide_eq_false (by omega)];rfl
   rw[bI_tk,hb];rfl
  | cons b r=>
   have:=(holds_tk hg h (n:=1) hs (by simp)).2 0 (by decide)
   exact this
theorem lt_of_mem {m:Nat}{g:Nat->List Value}(hg:okY m g=true){q:Int×Bool}{r:List Nat}(hs:stO (lsB m g) q=some r):∀b∈r,b<256:=by
 unfold stO at hs
 cases hq:q.2 with
 | true=>rw[hq,if_pos rfl]at hs;cases hs
 | false=>
  rw[hq,if_neg (by decide)]at hs
  cases hs
  exact fun b hb=>lsB_byte hg b (List.mem_of_mem_drop hb)
theorem byO_lt {m:Nat}{g:Nat->List Value}(hg:okY m g=true) (q:Int×Bool):byO (stO (lsB m g) q)<256:=by
 cases hs:stO (lsB m g) q with
 | none=>decide
 | some r=>
  cases r with
  | nil=>decide
  | cons b r=>exact lt_of_mem hg hs b (List.mem_cons_self ..)
theorem aft_some {n:Nat}{o:Option (List Nat)}{r:List Nat}(h:aftO n o=some r):∃p,p.length=n∧o=some (p++r):=by
 cases o with
 | none=>cases h
 | some x=>
  unfold aftO at h
  simp only at h
  by_cases e:n<=x.length
  ·rw[if_pos e]at h
   cases h
   exact⟨x.take n,by rw[List.length_take];omega,by rw[List.take_append_drop]⟩
  ·rw[if_neg e]at h;cases h
theorem aft_app {n:Nat}{p r:List Nat}(h:p.length=n):aftO n (some (p++r))=some r:=by
 unfold aftO
 simp only
 rw[if_pos (by rw[List.length_append];omega),List.drop_left' h]
theorem st_32 {m:Nat}{g:Nat->List Value}{q:Int×Bool}(h:inQ m q){p r:List Nat}(hp:p.length=32) (hs:stO (lsB m g) q=some (p++r)):stO (lsB m g) (tkS m q 32)=some r:=
 (st_tk h 32).trans (by rw[hs];exact aft_app hp)
theorem st_1 {m:Nat}{g:Nat->List Value}{q:Int×Bool}(h:inQ m q){b:Nat}{r:List Nat}(hs:stO (lsB m g) q=some (b::r)):stO (lsB m g) (tkS m q 1)=some r:=
 (st_tk h 1).trans (by rw[hs];exact aft_app (p:=[b]) rfl)
theorem st_1b {m:Nat}{g:Nat->List Value}{q:Int×Bool}(h:inQ m q){r:List Nat}(hs:stO (lsB m g) (tkS m q 1)=some r):∃b,stO (lsB m g) q=some (b::r):=by
 obtain ⟨p1,hp1,o2⟩:=aft_some ((st_tk h 1).symm.trans hs)
 match p1,hp1 with
 | [b],_=>exact⟨b,o2⟩
theorem rn_some {m:Nat}{g:Nat->List Value}(hg:okY m g=true){q:Int×Bool}(h:inQ m q){r:List Nat}(hs:stO (lsB m g) (tkS m q 32)=some r):stO (lsB m g) q=some (beL 32 (rnN m g q.1 q.2)++r)∧rnN m g q.1 q.2<2^256:=by
 have hs':=(st_tk h 32).symm.trans hs
 obtain ⟨p,hp,ho⟩:=aft_some hs'
 have hh:=holds_tk hg h (n:=32) ho (by rw[List.length_append];omega)
 rw[List.take_left' hp]at hh
 have e:tkL m g q.1 q.2 32=p:=by
  unfold tkL
  exact rep_uniq (rep_ls (okY_tk hg h.1)) hh rfl
 have hb:=be_deL p 32 hp fun b hb=>lt_of_mem hg ho b (List.mem_append_left _ hb)
 unfold rnN
 rw[hide_eq,e,hb.1,<-p25632]
 exact⟨ho,hb.2⟩
theorem rn_lt {m:Nat}{g:Nat->List Value}(hg:okY m g=true){q:Int×Bool}(h:inQ m q):rnN m g q.1 q.2<2^256:=by
 have hb:=be_deL (tkL m g q.1 q.2 32) 32 (lsB_len _ _) (lsB_byte (okY_tk hg h.1))
 unfold rnN
 rw[hide_eq,<-p25632];exact hb.2
theorem rn_back {m:Nat}{g:Nat->List Value}(hg:okY m g=true){q:Int×Bool}(h:inQ m q){X:Nat}(hX:X<2^256){r:List Nat}(hs:stO (lsB m g) q=some (beL 32 X++r)):stO (lsB m g) (tkS m q 32)=some r∧rnN m g q.1 q.2=X:=by
 have h1:stO (lsB m g) (tkS m q 32)=some r:=by
  rw[show(32:Int)=((32:Nat):Int) from rfl,st_tk h 32,hs,aft_app (beL_len 32 X)]
 refine⟨h1,?_⟩
 obtain ⟨h2,h3⟩:=rn_some hg h h1
 rw[hs]at h2
 exact(beL_uni (by rw[p25632];exact h3) (by rw[p25632];exact hX) (Option.some.inj h2).symm).1
theorem rdS_33 {f f':Nat->List Value}(h:∀j,j<33->bI f j=bI f' j):rdS 33 f=rdS 33 f':=by
 have e:b32V f=b32V f':=by
  unfold b32V
  rw[rowL_congr (f:=f) (g:=f') kB 32 1 fun j h1 h2=>by rw[nrm_kB f j,nrm_kB f' j,h j (by omega)]]
 unfold rdS
 rw[e,h 0 (by decide)]
theorem pbR_b {K:RP}(h:K.1=false):pbR K=pbF (hdY K.2.2) (bytesL 32 K.2.1):=by unfold pbR;rw[h];rfl
theorem pty_pb {K:RP}(hK:okR K) (hi:K.1=false):ptyF (ptV K)=pbR K:=by
 unfold ptyF
 rw[unPt_ptV hK,pbR_b hi]
noncomputable def rpS (m:Nat) (g:Nat->List Value) (q:Int×Bool):Int×Bool:=(rpR m g q.1 q.2).2
theorem inQ_rp {m:Nat}{g:Nat->List Value}{q:Int×Bool}(h:inQ m q):inQ m (rpS m g q):=by
 have h1:=inQ_tk h (n:=1) (by decide)
 have h2:=inQ_tk h1 (n:=32) (by decide)
 unfold rpS rpR
 rw[hide_eq]
 split
 ·exact h2
 ·exact h1
theorem okR_rp (m:Nat) (g:Nat->List Value) (q:Int×Bool):okR (rpR m g q.1 q.2).1:=by
 unfold rpR
 rw[hide_eq]
 split
 ·exact okR_rd _ _
 ·exact okR_rd _ _
theorem p33_holds {m:Nat}{g:Nat->List Value}(hg:okY m g=true){q:Int×Bool}(h:inQ m q){b:Nat}{p r:List Nat}(hp:p.length=32) (hs:stO (lsB m g) q=some (b::(p++r))):Holds 33 (p33 m g q.1 q.2) (b::p):=by
 have hs1:stO (lsB m g) (tkS m q 1)=some (p++r):=by
  rw[show(1:Int)=((1:Nat):Int) from rfl,st_tk h 1,hs]
  exact aft_app (p:=[b]) rfl
 have h1:Holds 1 (p1F m g q.1 q.2) [b]:=by
  refine⟨rfl,fun j hj=>?_⟩
  have:j=0:=by omega
  subst this
  unfold p1F
  rw[bI_lst (x:=bI (tkF m g q.1 q.2 1) (0+0)) rfl]
  exact(by_tk hg h).trans (by rw[hs];rfl)
 have h2:=holds_tk hg (inQ_tk h (n:=1) (by decide)) (n:=32) hs1 (by rw[List.length_append];omega)
 rw[List.take_left' hp]at h2
 exact rep_sg 33 (rep_app h1 (rep_sg 32 h2))
theorem rp_some {m:Nat}{g:Nat->List Value}(hg:okY m g=true){q:Int×Bool}(h:inQ m q){r:List Nat}(hs:stO (lsB m g) (rpS m g q)=some r):stO (lsB m g) q=some (pyB (rpR m g q.1 q.2).1++r)∧ckR (rpR m g q.1 q.2).1=true:=by
 have e0:=by_tk hg h
 unfold rpS at hs
 unfold rpR at hs ⊢
 rw[hide_eq]at hs ⊢
 by_cases hc:bI (tkF m g q.1 q.2 1) 0≠0∨tkZ m q.1 q.2 1=true
 ·rw[if_pos hc]at hs ⊢
  simp only at hs ⊢
  have hz:(rdS 33 (p33 m g q.1 q.2)).2=0∧tkZ m (tkA m q.1 q.2 1) (tkZ m q.1 q.2 1) 32=false:=by
   unfold stO at hs
   simp only at hs
   cases z:tkZ m (tkA m q.1 q.2 1) (tkZ m q.1 q.2 1) 32 with
   | true=>rw[z,Bool.true_or,if_pos rfl]at hs;cases hs
   | false=>
    rw[z,Bool.false_or]at hs
    by_cases e:(rdS 33 (p33 m g q.1 q.2)).2=0
    ·exact⟨e,rfl⟩
    ·rw[bne_iff_ne.2 e,if_pos rfl]at hs;cases hs
  have hs2:stO (lsB m g) (tkS m (tkS m q 1) 32)=some r:=by
   rw[hz.1,hz.2]at hs
   have e:tkS m (tkS m q 1) 32=(tkA m (tkA m q.1 q.2 1) (tkZ m q.1 q.2 1) 32,tkZ m (tkA m q.1 q.2 1) (tkZ m q.1 q.2 1) 32):=rfl
   rw[e,hz.2];exact hs
  have a1:=(st_tk (inQ_tk h (n:=1) (by decide)) 32).symm.trans hs2
  obtain ⟨p,hp,o1⟩:=aft_some a1
  have a2:=(st_tk h 1).symm.trans o1
  obtain ⟨p1,hp1,o2⟩:=aft_some a2
  obtain ⟨b,rfl⟩:∃b,p1=[b]:=by
   match p1,hp1 with
   | [b],_=>exact⟨b,rfl⟩
  have o2:stO (lsB m g) q=some (b::(p++r)):=o2
  have hH:=p33_holds hg h hp o2
  have hl:(b::p).length=33:=by rw[List.length_cons];omega
  have hu:∀j,0<=bI (liF (b::p)) j∧bI (liF (b::p)) j<256:=by
   intro j
   rw[bI_li]
   have hb:=lt_of_mem hg o2
   by_cases hj:j<(b::p).length
   ·have hm:(b::p)[j]∈b::(p++r):=by
     rw[<-List.cons_append]
     exact List.mem_append_left _ (List.getElem_mem hj)
    have:=hb _ hm
    rw[List.getD_eq_getElem?_getD,List.getElem?_eq_getElem hj,Option.getD_some]
    omega
   ·rw[List.getD_eq_getElem?_getD,List.getElem?_eq_none (by omega)]
    exact⟨by decide,by decide⟩
  have er:rdS 33 (p33 m g q.1 q.2)=rdS 33 (liF (b::p)):=rdS_33 fun j hj=>by rw[hH.2 j hj,bI_li]
  rw[er]at hz ⊢
  obtain ⟨hck,hcase⟩:=rd_back hu hz.1
  rcases hcase with⟨_,h33,_⟩|⟨hi,_,heq⟩
  ·exact absurd h33 (by decide)
  ·refine⟨?_,hck⟩
   rw[pty_pb (okR_rd _ _) hi]at heq
   have hpb:=rep_pb (rdS 33 (liF (b::p))).1
   have hpl:pbL (rdS 33 (liF (b::p))).1=33:=by unfold pbL;rw[hi];rfl
   rw[hpl]at hpb
   have:pyB (rdS 33 (liF (b::p))).1=b::p:=by
    refine rep_uniq hpb (rep_congr (n:=33) (f:=liF (b::p)) ⟨hl.symm,fun j hj=>bI_li _ j⟩ fun j hj=>heq j hj) rfl
   rw[this]
   exact o2
 ·rw[if_neg hc]at hs ⊢
  simp only at hs ⊢
  have hc1:bI (tkF m g q.1 q.2 1) 0=0:=Classical.byContradiction fun e=>hc (.inl e)
  have hc2:tkZ m q.1 q.2 1=false:=by
   cases z:tkZ m q.1 q.2 1 with
   | false=>rfl
   | true=>exact absurd (.inr z) hc
  have hb0:bI (p1F m g q.1 q.2) 0=0:=by
   unfold p1F
   rw[bI_lst (x:=bI (tkF m g q.1 q.2 1) (0+0)) rfl];exact hc1
  have er:rdS 1 (p1F m g q.1 q.2)=(infR,0):=by unfold rdS;rw[hide_eq,if_pos ⟨rfl,hb0⟩]
  rw[er]at hs ⊢
  rw[hc2]at hs
  have hs2:stO (lsB m g) (tkS m q 1)=some r:=by
   have e:tkS m q 1=(tkA m q.1 q.2 1,tkZ m q.1 q.2 1):=rfl
   rw[e,hc2];exact hs
  have a1:=(st_tk h 1).symm.trans hs2
  obtain ⟨p1,hp1,o2⟩:=aft_some a1
  obtain ⟨b,rfl⟩:∃b,p1=[b]:=by
   match p1,hp1 with
   | [b],_=>exact⟨b,rfl⟩
  rw[o2]at e0
  have:b=0:=by
   rw[hc1]at e0
   have e0:(0:Int)=((b:Nat):Int):=e0
   omega
  subst this
  exact⟨o2,rfl⟩
theorem rd_pb {K:RP}(hK:ckR K=true) (hi:K.1=false):rdS 33 (pbR K)=(K,0):=by
 rw[<-pty_pb (ck_okR hK) hi]
 unfold ptyF
 rw[unPt_ptV (ck_okR hK)]
 have hc:((2+K.2.2%2:Nat):Int)=2∨((2+K.2.2%2:Nat):Int)=3:=by omega
 exact(rdS_hd (c:=((2+K.2.2%2:Nat):Int)) (ck_okR hK).1 hc).trans (rd_self hK hi)
theorem rp_back {m:Nat}{g:Nat->List Value}(hg:okY m g=true){q:Int×Bool}(h:inQ m q){K:RP}(hK:ckR K=true){r:List Nat}(hs:stO (lsB m g) q=some (pyB K++r)):stO (lsB m g) (rpS m g q)=some r∧(rpR m g q.1 q.2).1=K:=by
 have e0:=by_tk hg h
 rw[hs]at e0
 unfold rpS rpR
 rw[hide_eq]
 by_cases hi:K.1=true
 ·have hp:pyB K=[0]:=by unfold pyB;rw[if_pos hi]
  rw[hp]at hs e0
  have h1:stO (lsB m g) (tkS m q 1)=some r:=by
   rw[show(1:Int)=((1:Nat):Int) from rfl,st_tk h 1,hs];exact aft_app (p:=[0]) rfl
  have hz:tkZ m q.1 q.2 1=false:=by
   unfold stO tkS at h1
   cases z:tkZ m q.1 q.2 1 with
   | false=>rfl
   | true=>rw[z,if_pos rfl]at h1;cases h1
  have e0:bI (tkF m g q.1 q.2 1) 0=0:=e0
  rw[if_neg (by rintro (e|e);exact e e0;rw[hz]at e;cases e)]
  have hb0:bI (p1F m g q.1 q.2) 0=0:=by
   unfold p1F
   rw[bI_lst (x:=bI (tkF m g q.1 q.2 1) (0+0)) rfl];exact e0
  have er:rdS 1 (p1F m g q.1 q.2)=(infR,0):=by unfold rdS;rw[hide_eq,if_pos ⟨rfl,hb0⟩]
  rw[er]
  refine⟨?_,(ck_infR hK hi).symm⟩
  simp only
  unfold tkS at h1
  rw[hz]at h1 ⊢;exact h1
 ·have hi2:K.1=false:=by simpa using hi
  have hp:pyB K=(2+K.2.2%2)::beL 32 K.2.1:=by unfold pyB;rw[if_neg hi]
  rw[hp]at hs e0
  have hs:stO (lsB m g) q=some ((2+K.2.2%2)::(beL 32 K.2.1++r)):=hs
  have e0:bI (tkF m g q.1 q.2 1) 0=((2+K.2.2%2:Nat):Int):=e0
  have h1:stO (lsB m g) (tkS m q 1)=some (beL 32 K.2.1++r):=st_1 h hs
  have h2:stO (lsB m g) (tkS m (tkS m q 1) 32)=some r:=st_32 (inQ_tk h (n:=1) (by decide)) (beL_len 32 K.2.1) h1
  have e9:bI (tkF m g q.1 q.2 1) 0≠0:=by rw[e0];omega
  rw[if_pos (.inl e9)]
  have hH:=p33_holds hg h (beL_len 32 K.2.1) hs
  have hpb:=rep_pb K
  rw[show pbL K=33 from by unfold pbL;rw[hi2];rfl,hp]at hpb
  have er1:rdS 33 (p33 m g q.1 q.2)=rdS 33 (pbR K):=rdS_33 fun j hj=>by rw[hH.2 j hj,hpb.2 j hj]
  have er:rdS 33 (p33 m g q.1 q.2)=(K,0):=er1.trans (rd_pb hK hi2)
  rw[er]
  refine⟨?_,rfl⟩
  have e:tkS m (tkS m q 1) 32=(tkA m (tkA m q.1 q.2 1) (tkZ m q.1 q.2 1) 32,tkZ m (tkA m q.1 q.2 1) (tkZ m q.1 q.2 1) 32):=rfl
  rw[e]at h2
  simp only
  rw[show((0:Int) != 0)=false from rfl,Bool.or_false]
  exact h2
end Go.W

namespace Go.W
open Go.RowKit (Below)
section
variable {GL:Glob}{w0:Wb GL}{R:Nat->Pl->Prop}{fm:Nat->Option Blk}{w:World}
theorem LR_put {r:Value->Value->Prop}{x y:Value}(hxy:∀u,r x u->r y u):∀{l1 l2 us:List Value},LR r (l1++x::l2) us->LR r (l1++y::l2) us
 | [],_,_::_,h=>⟨hxy _ h.1,h.2⟩
 | _::_,_,_::_,h=>⟨h.1,LR_put hxy h.2⟩
 | [],_,[],h=>h.elim
 | _::_,_,[],h=>h.elim
theorem nil_step (h3:MRel w0 R fm w){id k:Nat}(hid:id<60000) (hk:k<8) (hfree:fm (nid id k)=none) (ks:List CK) (e:TypeId) (f:Nat->List Value):
  ∃R':Nat->Pl->Prop,(∀i p,R i p->R' i p)∧(∀u,V0 R' (.slice none 0 0) u->V0 R' (.slice (some ⟨nid id k,0,none⟩) 0 0) u)∧MRel w0 R' (upd fm (nid id k) ⟨.row ks 0 f,e,true⟩) w:=by
 have hlo:=nid_loose (k:=k) hid hk
 refine⟨_,fun _ _ h=>.inl h,?_,MRel.nilRow h3 hfree (by have:=nid_lt (k:=k) hid hk;omega) ks f e⟩
 intro u hu
 have:u=.slice none 0 0:=(V0_plain (v:=.slice none 0 0) rfl).1 hu
 subst this
 refine⟨⟨none,0,0⟩,.inr ⟨rfl,rfl⟩,?_⟩
 unfold SlOk
 rw[if_pos hlo]
 exact⟨rfl,rfl,Nat.le_refl _,rfl,rfl,none,rfl⟩
theorem upd_two (f:Nat->Option Blk) (x:Nat) (A B:Blk):upd (upd f x A) x B=upd f x B:=by
 funext y
 by_cases e2:x=y
 ·subst e2;rw[upd_same,upd_same]
 ·rw[upd_ne _ _ e2,upd_ne _ _ e2,upd_ne _ _ e2]
theorem upd_swap (f:Nat->Option Blk){x y:Nat}(h:x≠y) (A B:Blk):upd (upd f x A) y B=upd (upd f y B) x A:=by
 funext z
 by_cases e1:x=z
 ·subst e1;rw[upd_same,upd_ne _ _ (Ne.symm h),upd_same]
 ·rw[upd_ne _ _ e1]
  by_cases e2:y=z
  ·subst e2;rw[upd_same,upd_same]
  ·rw[upd_ne _ _ e2,upd_ne _ _ e2,upd_ne _ _ e1]
theorem MRel.recell2 {i1 i2:Nat}(hne:i1≠i2){ks1 ks2:List CK}{n1 n2:Nat}{f1 f1' f2 f2':Nat->List Value}{e1 e2:TypeId}{o1 o2:Bool}(h:MRel w0 R (memF fm [(i1,⟨.row ks1 n1 f1,e1,o1⟩),(i2,⟨.row ks2 n2 f2,e2,o2⟩)]) w)
  (hf1:∀j,j<n1->nrmK ks1 (f1 j)=nrmK ks1 (f1' j)) (hf2:∀j,j<n2->nrmK ks2 (f2 j)=nrmK ks2 (f2' j)):MRel w0 R (memF fm [(i1,⟨.row ks1 n1 f1',e1,o1⟩),(i2,⟨.row ks2 n2 f2',e2,o2⟩)]) w:=by
 have h:MRel w0 R (upd (upd fm i2 ⟨.row ks2 n2 f2,e2,o2⟩) i1 ⟨.row ks1 n1 f1,e1,o1⟩) w:=h
 have h1:=h.recell (i:=i1) (f':=f1') (upd_same _ _ _) (rowL_congr ks1 n1 0 fun j _ hj=>hf1 j (by omega))
 rw[upd_two]at h1
 have h2:=h1.recell (i:=i2) (f':=f2') (by rw[upd_ne _ _ hne,upd_same]) (rowL_congr ks2 n2 0 fun j _ hj=>hf2 j (by omega))
 rw[upd_swap _ hne,upd_two]at h2
 exact h2
theorem MRel.relst (h:MRel w0 R fm w){i:Nat}{l l':List Value}{e:TypeId}(hi:fm i=some ⟨.lst l,e,true⟩) (hne:l=[]->l'=[]) (hl:∀vs,LP R l vs->LP R l' vs):MRel w0 R (upd fm i ⟨.lst l',e,true⟩) w:=by
 have hx:∀j blk,upd fm i ⟨.lst l',e,true⟩ j=some blk->i≠j->fm j=some blk:=fun j blk hj hne=>by rw[upd_ne _ _ hne]at hj;exact hj
 refine⟨h.below,h.func,?_,?_,?_,h.anc,fun i1 p1 b1 h1 h2=>(h.there i1 p1 b1 h1 h2).mono (fun s pos hs=>by
  have e1:i≠i1:=by
   rintro rfl
   rw[hi]at hs;cases hs
  rw[upd_ne _ _ e1]) rfl,?_⟩
 ·intro i0 j0 p q b h5 h6 ha hb hne blk hblk ho blk' hblk'
  by_cases e1:i=i0
  ·subst e1
   by_cases e2:i=j0
   ·exact absurd e2 hne
   ·exact h.inj _ _ _ _ _ h5 h6 ha hb hne _ hi rfl _ (hx _ _ hblk' e2)
  ·have hblk:=hx _ _ hblk e1
   by_cases e2:i=j0
   ·subst e2
    have:=(h.inj _ _ _ _ _ h5 h6 ha hb hne _ hblk ho _ hi).1
    cases this
   ·exact h.inj _ _ _ _ _ h5 h6 ha hb hne _ hblk ho _ (hx _ _ hblk' e2)
 ·intro j blk hj
  by_cases e1:i=j
  ·subst e1;rw[upd_same]at hj;cases hj
   obtain ⟨p,hp,hc⟩:=memOk_lst h hi
   refine⟨p,hp,?_⟩
   cases hpa:p.a with
   | none=>
    rw[hpa]at hc
    have hc:l=[]:=hc
    exact hne hc
   | some b=>
    rw[hpa]at hc
    obtain ⟨cs,fz,k1,k2,k3⟩:=hc
    exact⟨cs,fz,k1,hl _ k2,k3⟩
  ·exact h.mem j blk (hx _ _ hj e1)
 ·intro j p hp hlt
  by_cases e1:i=j
  ·subst e1;rw[upd_same];rfl
  ·rw[upd_ne _ _ e1];exact h.dom j p hp hlt
 ·intro j p hp hge
  obtain ⟨h2,h3⟩:=h.fro j p hp hge
  refine⟨h2,fun k q hk hq blk hblk=>?_⟩
  by_cases e1:i=k
  ·subst e1;have:=h3 i q hk hq _ hi;cases this
  ·exact h3 k q hk hq blk (hx _ _ hblk e1)
theorem nilCell_step (h:MRel w0 R fm w){i:Nat}{l1 l2:List Value}{e:TypeId}(hi:fm i=some ⟨.lst (l1++.slice none 0 0::l2),e,true⟩){id k:Nat}(hid:id<60000) (hk:k<8) (hfree:fm (nid id k)=none) (ks:List CK) (e2:TypeId) (f:Nat->List Value):
  ∃R':Nat->Pl->Prop,(∀i p,R i p->R' i p)∧MRel w0 R' (upd (upd fm (nid id k) ⟨.row ks 0 f,e2,true⟩) i ⟨.lst (l1++.slice (some ⟨nid id k,0,none⟩) 0 0::l2),e,true⟩) w:=by
 obtain ⟨R',h1,h2,h3⟩:=nil_step h hid hk hfree ks e2 f
 have hn:nid id k≠i:=fun e=>by rw[e,hi]at hfree;cases hfree
 refine⟨R',h1,h3.relst (l:=l1++.slice none 0 0::l2) (by rw[upd_ne _ _ hn];exact hi) (fun e=>by simp at e) fun vs hv=>?_⟩
 unfold LP at hv ⊢
 rw[show(l1++Value.slice (some ⟨nid id k,0,none⟩) 0 0::l2).length=(l1++Value.slice none 0 0::l2).length from by simp]
 exact LR_put h2 hv
end
end Go.W

namespace Go.W
open Go
def nilS:Value:=.slice none 0 0
def zeA:OR:=some (.tuple #[acV 0 zR ⟨#[]⟩ nilS nilS 0 (0,0),.bool false],[])
noncomputable def rdE (m:Nat) (mm:Nat->Option Blk) (a:Int) (z:Bool) (v:Value) (out:OR):OR:=
 bif z then zeA else bif a != (m:Int) then zeA else req (isA mm v&&Nat.ble (unA mm v).l.size 1000000) (bif ckE (unA mm v) != 0 then zeA else out)
noncomputable def rdE0 (m:Nat) (a:Int) (z:Bool) (k:Int) (K:RP) (lab:ByteArray) (g:Int) (X:Nat×Nat):OR:=
 rdE m (fun _=>none) a z (acV k K lab nilS nilS g X) (some (.tuple #[acV k K lab nilS nilS g X,.bool true],[]))
noncomputable def qoC (m:Nat) (g:Nat->List Value) (a:Int):Bool:=Nat.beq m m&&Nat.beq m m&&true&&decide (0<=a)&&decide (a<=(m:Int))&&Nat.ble m 1000000&&okY m g
def tk0 (m:Nat) (a:Int):Bool:=Nat.beq m m&&Nat.beq m m&&true&&decide (0<=a)&&decide (a<=(m:Int))&&Nat.ble m 1000000
def by0 (f:Nat->List Value) (j:Nat):Int:=IntKind.i64.wrap (bI f (0+j))
def sz4 (f:Nat->List Value):Int:=iOr .i64 (iOr .i64 (iOr .i64 (IntKind.i64.wrap (by0 f 0*2^24)) (IntKind.i64.wrap (by0 f 1*2^16))) (IntKind.i64.wrap (by0 f 2*2^8))) (by0 f 3)
noncomputable def rdT5 (m:Nat) (a:Int) (z:Bool) (k:Int):OR:=rdE0 m a z k zR ⟨#[]⟩ 0 (0,0)
noncomputable def rdPf (m:Nat) (g:Nat->List Value) (a:Int) (z:Bool) (k:Int) (K:RP) (ag:Int):OR:=
 req (qoC m g a) (req (qoC m g (tkA m a z 32)) (rdE0 m (tkA m (tkA m a z 32) (tkZ m a z 32) 32) (tkZ m (tkA m a z 32) (tkZ m a z 32) 32) k K ⟨#[]⟩ ag (rnN m g a z,rnN m g (tkA m a z 32) (tkZ m a z 32))))
noncomputable def rdT4 (m:Nat) (g:Nat->List Value) (a:Int) (z:Bool) (k:Int) (ag:Int):OR:=
 req (qoC m g a) (rdPf m g (rpR m g a z).2.1 (rpR m g a z).2.2 k (rpR m g a z).1 ag)
noncomputable def rdT3 (m:Nat) (g:Nat->List Value) (a:Int) (z:Bool) (k:Int):OR:=
 req (tkC m a 1) (rdT4 m g (tkA m a z 1) (tkZ m a z 1) k (by0 (tkF m g a z 1) 0))
noncomputable def rdT1c (m:Nat) (g:Nat->List Value) (a:Int) (z:Bool) (k:Int) (K:RP) (n:Int):OR:=
 bif decide (n > 16384) then zeA else
  bif decide (n=0)&&(!z&&tk0 m a) then req (Nat.ble (a.toNat+0) m) (rdE0 m a false k K (rowS 0 (sgF 0 zB)) 0 (0,0)) else bif decide (n=0)&&(z&&tk0 m a) then rdE0 m a true k K (rowS 0 (sgF 0 zB)) 0 (0,0) else
  req (tkC m a n) (req (kb3 n.toNat) (rdE0 m (tkA m a z n) (tkZ m a z n) k K (rowS n.toNat (sgF n.toNat (tkF m g a z n))) 0 (0,0)))
noncomputable def rdT1b (m:Nat) (g:Nat->List Value) (a:Int) (z:Bool) (k:Int) (K:RP):OR:=
 req (tkC m a 4) (rdT1c m g (tkA m a z 4) (tkZ m a z 4) k K (sz4 (tkF m g a z 4)))
noncomputable def rdT1 (m:Nat) (g:Nat->List Value) (a:Int) (z:Bool) (k:Int):OR:=
 req (qoC m g a) (rdT1b m g (rpR m g a z).2.1 (rpR m g a z).2.2 k (rpR m g a z).1)
noncomputable def rdKb (m:Nat) (g:Nat->List Value):Int:=by0 (tkF m g 0 false 1) 0
noncomputable def rdTr (m:Nat) (g:Nat->List Value) (t2:OR):OR:=
 req (tkC m 0 1) (bif rdKb m g==1 then rdT1 m g (tkA m 0 false 1) (tkZ m 0 false 1) (rdKb m g) else bif rdKb m g==2 then req (tkC m (tkA m 0 false 1) 1) t2 else
  bif rdKb m g==3 then rdT3 m g (tkA m 0 false 1) (tkZ m 0 false 1) (rdKb m g) else bif rdKb m g==4 then rdT4 m g (tkA m 0 false 1) (tkZ m 0 false 1) (rdKb m g) 0 else rdT5 m (tkA m 0 false 1) (tkZ m 0 false 1) (rdKb m g))
end Go.W

namespace Go.W
open Go
def bSl:Nat:=nid 0 0
def bCo:Nat:=nid 0 1
def s1X (tA tR:Nat) (kk:Int) (m:Nat) (g:Nat->List Value) (e0:Nat) (n:Int) (a:Int) (z:Bool) (s c:Value) (L:List (Nat×Blk)) (q:Nat) (j:Int) (nx:Nat):St:=
 ⟨[(0,.slice (some ⟨argId 0,0,none⟩) m m),(2,.pointer (some ⟨0,0,none⟩)),(4,.pointer (some ⟨4,0,none⟩)),(5,.pointer (some ⟨12,0,none⟩)),(8,i64 n),(q,i64 j)],
  (0,⟨.lst (acC 0 zR ⟨#[]⟩ nilS nilS 0 (0,0)),tA,true⟩)::(4,⟨.lst (rdL (argId 0) m a z),tR,true⟩)::(12,⟨.lst (acC kk zR ⟨#[]⟩ s c 0 (0,0)),tA,true⟩)::(argId 0,⟨.row kB m g,e0,false⟩)::L,nx⟩
def s1Y (tA tR:Nat) (kk:Int) (m:Nat) (g:Nat->List Value) (e0:Nat) (a:Int) (z:Bool) (s c:Value) (L:List (Nat×Blk)) (nx:Nat):St:=
 ⟨[(0,.slice (some ⟨argId 0,0,none⟩) m m),(2,.pointer (some ⟨0,0,none⟩)),(4,.pointer (some ⟨4,0,none⟩)),(5,.pointer (some ⟨12,0,none⟩))],
  (0,⟨.lst (acC 0 zR ⟨#[]⟩ nilS nilS 0 (0,0)),tA,true⟩)::(4,⟨.lst (rdL (argId 0) m a z),tR,true⟩)::(12,⟨.lst (acC kk zR ⟨#[]⟩ s c 0 (0,0)),tA,true⟩)::(argId 0,⟨.row kB m g,e0,false⟩)::L,nx⟩
def bsS (j:Nat):Value:=.slice (some ⟨bSl,0,none⟩) j j
def bsC (j:Nat):Value:=.slice (some ⟨bCo,0,none⟩) j j
def bsR (t32 j:Nat) (F:Nat->List Value):Nat×Blk:=(bSl,⟨.row k32 j F,t32,true⟩)
def bcR (tP j:Nat) (F:Nat->List Value):Nat×Blk:=(bCo,⟨.row kP9 j F,tP,true⟩)
noncomputable def wt32 (m:Nat) (g:Nat->List Value) (a:Int) (z:Bool):List Value:=rowL kB (sgF 32 (tkF m g a z 32)) 0 32
section
open Go.RowKit (Below)
variable {GL:Glob}{w0:Wb GL}{n:Nat}{R:Nat->Pl->Prop}{a:Act}{w:World}
theorem nilCell_st {s:St}(h:Rel w0 n R s.f a w){i:Nat}{l1 l2:List Value}{e:TypeId}(hi:look s.mem i=some ⟨.lst (l1++.slice none 0 0::l2),e,true⟩){id k:Nat}(hid:id<60000) (hk:k<8) (hfree:look s.mem (nid id k)=none) (ks:List CK) (e2:TypeId) (f:Nat->List Value){mem':List (Nat×Blk)}
  (hm:look mem'=upd (upd (look s.mem) (nid id k) ⟨.row ks 0 f,e2,true⟩) i ⟨.lst (l1++.slice (some ⟨nid id k,0,none⟩) 0 0::l2),e,true⟩) (nx:Nat):∃R',Rel w0 n R' (St.f ⟨s.slots,mem',nx⟩) a w:=by
 obtain ⟨R',h1,h2⟩:=nilCell_step h.m hi hid hk hfree ks e2 f
 refine⟨R',h.defers,h.size,fun x u hx=>?_,?_⟩
 ·obtain ⟨v',h3,h4⟩:=h.slot x u hx
  exact⟨v',h3,V2_mono h1 h4⟩
 ·show MRel w0 R' (look mem') w
  rw[hm];exact h2
end
theorem look_five (A B C C' D E:Blk){x y:Nat}(hx:x=argId 0) (hy:y=bSl):look [(0,A),(4,B),(12,C'),(x,D),(y,E)]=upd (upd (look [(0,A),(4,B),(12,C),(x,D)]) y E) 12 C':=by
 subst hx hy
 funext i
 simp only[look_cons]
 by_cases h0:0=i
 ·subst h0;rfl
 by_cases h1:4=i
 ·subst h1;rfl
 by_cases h2:12=i
 ·subst h2;rfl
 by_cases h3:argId 0=i
 ·subst h3;rfl
 by_cases h4:bSl=i
 ·subst h4;rfl
 rw[upd_ne _ _ h0,upd_ne _ _ h1,upd_ne _ _ h2,upd_ne _ _ h3,upd_ne _ _ h4,upd_ne _ _ h2,upd_ne _ _ h4,upd_ne _ _ h0,upd_ne _ _ h1,upd_ne _ _ h2,upd_ne _ _ h3]
theorem look_six (A B C C' D E F:Blk){x y z:Nat}(hx:x=argId 0) (hy:y=bSl) (hz:z=bCo):look [(0,A),(4,B),(12,C'),(x,D),(y,E),(z,F)]=upd (upd (look [(0,A),(4,B),(12,C),(x,D),(y,E)]) z F) 12 C':=by
 subst hx hy hz
 funext i
 simp only[look_cons]
 by_cases h0:0=i
 ·subst h0;rfl
 by_cases h1:4=i
 ·subst h1;rfl
 by_cases h2:12=i
 ·subst h2;rfl
 by_cases h3:argId 0=i
 ·subst h3;rfl
 by_cases h4:bSl=i
 ·subst h4;rfl
 by_cases h5:bCo=i
 ·subst h5;rfl
 rw[upd_ne _ _ h0,upd_ne _ _ h1,upd_ne _ _ h2,upd_ne _ _ h3,upd_ne _ _ h4,upd_ne _ _ h5,upd_ne _ _ h2,upd_ne _ _ h5,upd_ne _ _ h0,upd_ne _ _ h1,upd_ne _ _ h2,upd_ne _ _ h3,upd_ne _ _ h4]
noncomputable def q1I (m:Nat) (q0:Int×Bool):Nat->Int×Bool
 | 0=>q0
 | j+1=>tkS m (q1I m q0 j) 32
noncomputable def sVl (m:Nat) (g:Nat->List Value) (q0:Int×Bool) (j:Nat):Nat:=rnN m g (q1I m q0 j).1 (q1I m q0 j).2
noncomputable def q2I (m:Nat) (g:Nat->List Value) (q0:Int×Bool):Nat->Int×Bool
 | 0=>q0
 | j+1=>rpS m g (q2I m g q0 j)
noncomputable def pVl (m:Nat) (g:Nat->List Value) (q0:Int×Bool) (j:Nat):RP:=(rpR m g (q2I m g q0 j).1 (q2I m g q0 j).2).1
theorem inQ_1I {m:Nat}{q0:Int×Bool}(h:inQ m q0):∀j,inQ m (q1I m q0 j)
 | 0=>h
 | j+1=>inQ_tk (inQ_1I h j) (n:=32) (by decide)
theorem inQ_2I {m:Nat}{g:Nat->List Value}{q0:Int×Bool}(h:inQ m q0):∀j,inQ m (q2I m g q0 j)
 | 0=>h
 | j+1=>inQ_rp (inQ_2I h j)
theorem wt32_eq {m:Nat}{g:Nat->List Value}(hg:okY m g=true){q:Int×Bool}(h:inQ m q):wt32 m g q.1 q.2=slC (rnN m g q.1 q.2):=by
 have e:=(v32_eq (okY_tk hg h.1 (bad:=q.2) (n:=32))).1
 unfold v32 bytesV at e
 have e:=congrArg Array.toList (Value.agg.inj e)
 rw[List.toList_toArray,List.toList_toArray]at e
 unfold wt32 slC
 rw[rowL_congr (f:=sgF 32 (tkF m g q.1 q.2 32)) (g:=tkF m g q.1 q.2 32) kB 32 0 fun j _ _=>by rw[nrm_kB (sgF 32 (tkF m g q.1 q.2 32)) j,nrm_kB (tkF m g q.1 q.2 32) j,bI_sg],e]
 unfold rnN
 rw[hide_eq];rfl
theorem tkC_in {m:Nat}{q:Int×Bool}(h:inQ m q) (hm:m<=1000000){n:Int}(h1:1<=n) (h2:n<=100000):tkC m q.1 n=true:=tkC_true h.1 h.2 hm h1 h2
theorem qoC_in {m:Nat}{g:Nat->List Value}(hg:okY m g=true){q:Int×Bool}(h:inQ m q) (hm:m<=1000000):qoC m g q.1=true:=by
 unfold qoC
 rw[Nat.beq_refl,decide_eq_true h.1,decide_eq_true h.2,Nat.ble_eq_true_of_le hm,hg];rfl
theorem row_s1 {m:Nat}{g:Nat->List Value}(hg:okY m g=true){q0:Int×Bool}(h:inQ m q0) (j:Nat):∀x,x<j+1->nrmK k32 (appF j (slF (sVl m g q0)) (lstF (wt32 m g (q1I m q0 j).1 (q1I m q0 j).2) 0 32) x)=nrmK k32 (slF (sVl m g q0) x):=
 app_row (ks:=k32) (fun _ _=>rfl) (by rw[wt32_eq hg (inQ_1I h j)];rfl)
theorem row_s2 {m:Nat}{g:Nat->List Value}(q0:Int×Bool) (j:Nat):∀x,x<j+1->nrmK kP9 (appF j (ptF (pVl m g q0)) (lstF (ptC (rpR m g (q2I m g q0 j).1 (q2I m g q0 j).2).1) 0 9) x)=nrmK kP9 (ptF (pVl m g q0) x):=
 app_row (ks:=kP9) (fun _ _=>rfl) rfl
theorem szOk_mul {n b:Nat}(h:n*b<=1000000):szOk n b=true:=by unfold szOk;rw[Nat.ble_eq];omega
theorem not_cond {α:Type}{z:Bool}(h:z=false) (x y:α):(bif !z then x else y)=x:=by rw[h];rfl
theorem bb3 (j:Nat):(true&&Nat.beq j j&&true&&true)=true:=by rw[Nat.beq_refl];rfl
end Go.W

namespace Go.W
open Go
theorem Right_sam {a b:AR}(h:Sam a b) (hb:Right b):Right a:=by
 obtain ⟨e1,e2,e3,e4,e5,e6,e7,e8,e9⟩:=h
 unfold Right at hb ⊢
 rw[<-e1,<-e2,<-e3,<-e4,<-e6,<-e8,<-e9]at hb
 rcases hb with h|⟨a1,a2,a3,a4,a5,a6,a7,a8,a9,a10⟩|h|h|h
 ·exact .inl h
 ·refine .inr (.inl ⟨a1,a2,a3,a4,a5,a6,a7,a8,?_,?_⟩)
  ·rw[alP_congr e7];exact a9
  ·rw[e7 0 (by omega)];exact a10
 ·exact .inr (.inr (.inl h))
 ·exact .inr (.inr (.inr (.inl h)))
 ·exact .inr (.inr (.inr (.inr h)))
def zeR:AR:=⟨0,zR,⟨#[]⟩,0,fun _=>0,0,fun _=>zR,0,(0,0)⟩
def isRd (L:List Nat):Prop:=∃a,Right a∧Wsl a∧wr0 a=L
noncomputable def raB (L:List Nat):Bool:=hide (@decide (isRd L) (Classical.propDecidable _))
noncomputable def raA (L:List Nat):AR:=hide (@dite AR (isRd L) (Classical.propDecidable _) (fun h=>Classical.choose h) fun _=>zeR)
theorem raB_yes {L:List Nat}(h:isRd L):raB L=true:=by unfold raB;rw[hide_eq];exact @decide_eq_true _ (Classical.propDecidable _) h
theorem raB_no {L:List Nat}(h:¬isRd L):raB L=false:=by unfold raB;rw[hide_eq];exact @decide_eq_false _ (Classical.propDecidable _) h
theorem raA_no {L:List Nat}(h:¬isRd L):raA L=zeR:=by unfold raA;rw[hide_eq];exact dif_neg h
theorem raA_is {L:List Nat}(h:isRd L):Right (raA L)∧Wsl (raA L)∧wr0 (raA L)=L:=by
 have e:raA L=Classical.choose h:=by unfold raA;rw[hide_eq];exact dif_pos h
 rw[e];exact Classical.choose_spec h
theorem raA_of {a:AR}{L:List Nat}(h:Right a) (hw:Wsl a) (e:wr0 a=L):Sam a (raA L):=by
 obtain ⟨h1,h2,h3⟩:=raA_is ⟨a,h,hw,e⟩
 exact(wr0_uni (s:=[]) (t:=[]) h h1 hw h2 (by rw[e,h3])).1
theorem isA_ac {mm:Nat->Option Blk}{k:Int}{K:RP}{lab:ByteArray}{s c:Value}{g:Int}{X:Nat×Nat}{n m:Nat}{f q:Nat->List Value}(hs:srcB mm k32 s=(true,n,f)) (h1:okSl n f=true) (hc:srcB mm kP9 c=(true,m,q)) (h2:okP m q=true):isA mm (acV k K lab s c g X)=true:=by
 have e:isA mm (acV k K lab s c g X)=(Nat.beq 22 22&&(true&&(isPt (ptV K)&&(true&&(true&&(isPrf (prV X.1 X.2)&&((srcB mm k32 s).1&&(okSl (srcB mm k32 s).2.1 (srcB mm k32 s).2.2&&((srcB mm kP9 c).1&&okP (srcB mm kP9 c).2.1 (srcB mm kP9 c).2.2))))))))):=rfl
 rw[e,isPt_ptV,isPrf_prV,hs,hc,h1,h2];rfl
theorem unA_ac {mm:Nat->Option Blk}{k:Int}{K:RP}{lab:ByteArray}{s c:Value}{g:Int}{X:Nat×Nat}{n m:Nat}{f q:Nat->List Value}(hK:okR K) (hX:X.1<2^256) (hX':X.2<2^256) (hs:srcB mm k32 s=(true,n,f)) (hc:srcB mm kP9 c=(true,m,q)):unA mm (acV k K lab s c g X)=⟨k,K,lab,n,slA f,m,pA q,g,X⟩:=by
 have e:unA mm (acV k K lab s c g X)=⟨k,unPt (ptV K),lab,(srcB mm k32 s).2.1,slA (srcB mm k32 s).2.2,(srcB mm kP9 c).2.1,pA (srcB mm kP9 c).2.2,g,unPrf (prV X.1 X.2)⟩:=rfl
 rw[e,unPt_ptV hK,unPrf_prV hX hX',hs,hc]
theorem rdE_eq {m:Nat}{mm:Nat->Option Blk}{q:Int×Bool}{v:Value}{A:AR}{out:OR}(h1:isA mm v=true) (h2:unA mm v=A) (hl:A.l.size<=1000000) (L:List Nat) (hm:L.length=m) (hq:inQ m q):
  (stO L q=some []∧Right A->rdE m mm q.1 q.2 v out=out)∧(¬(stO L q=some []∧Right A)->rdE m mm q.1 q.2 v out=zeA):=by
 have hst:stO L q=some []↔q.2=false∧q.1=(m:Int):=by
  unfold stO
  obtain ⟨h0,h3⟩:=hq
  cases hz:q.2 with
  | true=>rw[if_pos rfl];exact⟨fun h=>(by cases h),fun h=>(by cases h.1)⟩
  | false=>
   rw[if_neg (by decide)]
   constructor
   ·intro h
    have:=congrArg List.length (Option.some.inj h)
    rw[List.length_drop,hm]at this
    have this:m-q.1.toNat=0:=this
    exact⟨rfl,by omega⟩
   ·rintro ⟨_,h⟩
    rw[h,Int.toNat_natCast,<-hm,List.drop_length]
 unfold rdE
 rw[h1,h2,Nat.ble_eq_true_of_le hl,req_true (b:=true&&true) rfl]
 constructor
 ·rintro ⟨h,hR⟩
  obtain ⟨ha,hb⟩:=hst.1 h
  rw[ha,hb,cond_false,bne_self_eq_false,cond_false,ckE_iff.2 hR];rfl
 ·intro h
  cases hz:q.2 with
  | true=>rfl
  | false=>
   rw[cond_false]
   by_cases ha:q.1=(m:Int)
   ·rw[ha,bne_self_eq_false,cond_false]
    have:ckE A≠0:=fun e=>h ⟨hst.2 ⟨hz,ha⟩,ckE_iff.1 e⟩
    rw[bne_iff_ne.2 this,cond_true]
   ·rw[bne_iff_ne.2 ha,cond_true]
def nilF:Nat->List Value:=fun _=>[]
def nlA (k:Int) (K:RP) (lab:ByteArray) (g:Int) (X:Nat×Nat):AR:=⟨k,K,lab,0,slA nilF,0,pA nilF,g,X⟩
def Rd0 (L:List Nat) (r:OR):Prop:=∃A:AR,Sam A (raA L)∧A.n=0∧A.m=0∧r=some (.tuple #[acV A.k A.K A.l nilS nilS A.g A.X,.bool (raB L)],[])
theorem Rd0_no {L:List Nat}(h:¬isRd L):Rd0 L zeA:=⟨zeR,by rw[raA_no h];exact Sam.refl _,rfl,rfl,by rw[raB_no h];rfl⟩
theorem Rd0_end {m:Nat}{q:Int×Bool}{k:Int}{K:RP}{lab:ByteArray}{g:Int}{X:Nat×Nat}(hK:okR K) (hX:X.1<2^256) (hX':X.2<2^256) (hl:lab.size<=1000000){L:List Nat}(hm:L.length=m) (hq:inQ m q)
  (fwd:stO L q=some []->Right (nlA k K lab g X)->wr0 (nlA k K lab g X)=L) (bwd:∀a,Right a->Wsl a->wr0 a=L->stO L q=some []∧Sam (nlA k K lab g X) a):Rd0 L (rdE0 m q.1 q.2 k K lab g X):=by
 have o1:okSl 0 nilF=true:=okSl_iff.2 ⟨by decide,fun j hj=>absurd hj (Nat.not_lt_zero _)⟩
 have o2:okP 0 nilF=true:=okP_iff.2 ⟨by decide,fun j hj=>absurd hj (Nat.not_lt_zero _)⟩
 have hs1:srcB (fun _=>none) k32 nilS=(true,0,nilF):=rfl
 have hs2:srcB (fun _=>none) kP9 nilS=(true,0,nilF):=rfl
 obtain ⟨e1,e2⟩:=rdE_eq (m:=m) (mm:=fun _=>none) (q:=q) (v:=acV k K lab nilS nilS g X) (A:=nlA k K lab g X) (out:=some (.tuple #[acV k K lab nilS nilS g X,.bool true],[])) (isA_ac hs1 o1 hs2 o2) (unA_ac hK hX hX' hs1 hs2) hl L hm hq
 by_cases c:stO L q=some []∧Right (nlA k K lab g X)
 ·have hw:Wsl (nlA k K lab g X):=fun j hj=>absurd hj (Nat.not_lt_zero _)
  have hL:=fwd c.1 c.2
  refine⟨nlA k K lab g X,raA_of c.2 hw hL,rfl,rfl,?_⟩
  rw[raB_yes ⟨_,c.2,hw,hL⟩]
  exact e1 c
 ·have hn:¬isRd L:=by
   rintro ⟨a,h1,h2,h3⟩
   obtain ⟨b1,b2⟩:=bwd a h1 h2 h3
   exact c ⟨b1,Right_sam b2 h1⟩
  have:=Rd0_no hn
  rw[<-e2 c]at this
  exact this
end Go.W

namespace Go.W
open Go
def q00:Int×Bool:=(0,false)
theorem inQ_00 (m:Nat):inQ m q00:=⟨Int.le_refl 0,Int.natCast_nonneg m⟩
theorem stO_00 (L:List Nat):stO L q00=some L:=rfl
theorem by0_by {m:Nat}{g:Nat->List Value}(hg:okY m g=true){q:Int×Bool}(h:inQ m q):by0 (tkF m g q.1 q.2 1) 0=((byO (stO (lsB m g) q):Nat):Int):=by
 have:=byO_lt hg q
 unfold by0
 rw[show(0+0:Nat)=0 from rfl,by_tk hg h,wrap_i64 (by omega)]
section
variable {m:Nat}{g:Nat->List Value}(hm:m<=1000000) (hg:okY m g=true)
include hg
theorem rdKb_eq:rdKb m g=((byO (some (lsB m g)):Nat):Int):=(by0_by hg (inQ_00 m)).trans (by rw[stO_00])
theorem kind_of {a:AR}(h:Right a) (e:wr0 a=lsB m g):a.k=rdKb m g∧∃r,lsB m g=a.k.toNat::r∧stO (lsB m g) (tkS m q00 1)=some r:=by
 obtain ⟨r,h1,h2,h3⟩:=wr0_hd h
 rw[h1]at e
 have h4:stO (lsB m g) q00=some (a.k.toNat::r):=by rw[stO_00,e]
 refine⟨?_,r,e.symm,st_1 (inQ_00 m) h4⟩
 rw[rdKb_eq hg,<-e]
 show a.k=((a.k.toNat:Nat):Int)
 omega
theorem kind_to {r:List Nat}(h:stO (lsB m g) (tkS m q00 1)=some r):lsB m g=(rdKb m g).toNat::r:=by
 obtain ⟨b,hb⟩:=st_1b (inQ_00 m) h
 rw[stO_00]at hb
 have e:=Option.some.inj hb
 rw[rdKb_eq hg,e];rfl
theorem rd_5 (hk:rdKb m g≠1∧rdKb m g≠2∧rdKb m g≠3∧rdKb m g≠4):Rd0 (lsB m g) (rdT5 m (tkA m 0 false 1) (tkZ m 0 false 1) (rdKb m g)):=by
 refine Rd0_end (q:=tkS m q00 1) okR_z (by decide) (by decide) (by decide) (lsB_len m g) (inQ_tk (inQ_00 m) (by decide)) ?_ ?_
 ·intro h hR
  have hL:=kind_to hg h
  have k5:rdKb m g=5:=by
   unfold Right nlA at hR
   simp only at hR
   rcases hR with h|h|h|h|h<;>(have:=h.1;omega)
  rw[hL,k5];rfl
 ·intro a ha hw e
  obtain ⟨e1,r,e2,e3⟩:=kind_of hg ha e
  have k5:a.k=5:=by
   rcases ha with h|h|h|h|h<;>(have:=h.1;omega)
  have e4:wr0 a=[5]:=by unfold wr0;rw[k5];rfl
  rw[e4]at e
  rw[<-e]at e2
  have hr:=(List.cons.inj e2).2
  subst hr
  rcases ha with h|h|h|h|⟨_,c1,c2,c3,c4,c5,c6⟩
  ·exact absurd h.1 (by omega)
  ·exact absurd h.1 (by omega)
  ·exact absurd h.1 (by omega)
  ·exact absurd h.1 (by omega)
  exact⟨e3,e1.symm,c1.symm,c2.symm,c3.symm,fun j hj=>absurd hj (Nat.not_lt_zero _),c4.symm,fun j hj=>absurd hj (Nat.not_lt_zero _),c5.symm,c6.symm⟩
include hm
theorem rd_kp {q:Int×Bool}(hq:inQ m q){k ag:Int}
  (fwd:∀(K:RP) (X:Nat×Nat),stO (lsB m g) q=some (pyB K++(beL 32 X.1++beL 32 X.2))->Right (nlA k K ⟨#[]⟩ ag X)->wr0 (nlA k K ⟨#[]⟩ ag X)=lsB m g)
  (bwd:∀a,Right a->Wsl a->wr0 a=lsB m g->a.k=k∧a.l=⟨#[]⟩∧a.n=0∧a.m=0∧a.g=ag∧ckR a.K=true∧a.X.1<2^256∧a.X.2<2^256∧stO (lsB m g) q=some (pyB a.K++(beL 32 a.X.1++beL 32 a.X.2))):
  Rd0 (lsB m g) (rdT4 m g q.1 q.2 k ag):=by
 unfold rdT4 rdPf
 have h1:=inQ_rp (g:=g) hq
 have h2:=inQ_tk h1 (n:=32) (by decide)
 have h3:=inQ_tk h2 (n:=32) (by decide)
 have c1:qoC m g (rpR m g q.1 q.2).2.1=true:=qoC_in hg h1 hm
 have c2:qoC m g (tkA m (rpR m g q.1 q.2).2.1 (rpR m g q.1 q.2).2.2 32)=true:=qoC_in hg h2 hm
 rw[qoC_in hg hq hm,req_true rfl,c1,req_true rfl,c2,req_true rfl]
 refine Rd0_end (q:=tkS m (tkS m (rpS m g q) 32) 32) (okR_rp m g q) (rn_lt hg h1) (rn_lt hg h2) (by decide) (lsB_len m g) h3 ?_ ?_
 ·intro h hR
  obtain ⟨a1,a2⟩:=rn_some hg h2 h
  obtain ⟨a3,a4⟩:=rn_some hg h1 a1
  obtain ⟨a5,a6⟩:=rp_some hg hq a3
  refine fwd _ (rnN m g (rpS m g q).1 (rpS m g q).2,rnN m g (tkS m (rpS m g q) 32).1 (tkS m (rpS m g q) 32).2) ?_ hR
  rw[a5,List.append_nil]
 ·intro a ha hw e
  obtain ⟨b1,b2,b3,b4,b5,b6,b7,b8,b9⟩:=bwd a ha hw e
  obtain ⟨d1,d2⟩:=rp_back hg hq b6 b9
  obtain ⟨d3,d4⟩:=rn_back hg h1 b7 d1
  rw[<-List.append_nil (beL 32 a.X.2)]at d3
  obtain ⟨d5,d6⟩:=rn_back hg h2 b8 d3
  exact⟨d5,b1.symm,d2,b2.symm,b3.symm,fun j hj=>absurd hj (Nat.not_lt_zero _),b4.symm,fun j hj=>absurd hj (Nat.not_lt_zero _),b5.symm,Prod.ext d4 d6⟩
theorem rd_4 (hk:rdKb m g=4):Rd0 (lsB m g) (rdT4 m g (tkA m 0 false 1) (tkZ m 0 false 1) (rdKb m g) 0):=by
 refine rd_kp hm hg (q:=tkS m q00 1) (inQ_tk (inQ_00 m) (by decide)) ?_ ?_
 ·intro K X h hR
  rw[kind_to hg h,hk,wr0_4 rfl]
  show[4]++pyB K++(beL 32 X.1++beL 32 X.2)=4::(pyB K++(beL 32 X.1++beL 32 X.2))
  rw[List.append_assoc];rfl
 ·intro a ha hw e
  obtain ⟨e1,r,e2,e3⟩:=kind_of hg ha e
  have k4:a.k=4:=e1.trans hk
  rcases ha with h|h|h|⟨_,c1,c2,c3,c4,c5,c6,c7⟩|h
  ·exact absurd h.1 (by omega)
  ·exact absurd h.1 (by omega)
  ·exact absurd h.1 (by omega)
  ·refine⟨e1,c1,c2,c3,c4,ful_ck c5,Nat.lt_trans c6 pN_256,Nat.lt_trans c7 pN_256,?_⟩
   rw[e3]
   rw[<-e,wr0_4 k4,k4,List.append_assoc]at e2
   exact congrArg some (List.cons.inj e2).2.symm
  ·exact absurd h.1 (by omega)
theorem rd_3 (hk:rdKb m g=3):Rd0 (lsB m g) (rdT3 m g (tkA m 0 false 1) (tkZ m 0 false 1) (rdKb m g)):=by
 have h1:=inQ_tk (inQ_00 m) (n:=1) (by decide)
 unfold rdT3
 have c1:tkC m (tkA m 0 false 1) 1=true:=tkC_in h1 hm (by decide) (by decide)
 have eg:by0 (tkF m g (tkA m 0 false 1) (tkZ m 0 false 1) 1) 0=((byO (stO (lsB m g) (tkS m q00 1)):Nat):Int):=by0_by hg h1
 rw[c1,req_true rfl,eg]
 refine rd_kp hm hg (q:=tkS m (tkS m q00 1) 1) (inQ_tk h1 (by decide)) ?_ ?_
 ·intro K X h hR
  obtain ⟨b,hb⟩:=st_1b h1 h
  rw[hb]at hR ⊢
  rw[kind_to hg hb,hk,wr0_3 rfl]
  show[3]++[((byO (some (b::(pyB K++(beL 32 X.1++beL 32 X.2)))):Nat):Int).toNat]++pyB K++(beL 32 X.1++beL 32 X.2)=3::b::(pyB K++(beL 32 X.1++beL 32 X.2))
  rw[List.append_assoc,List.append_assoc];rfl
 ·intro a ha hw e
  obtain ⟨e1,r,e2,e3⟩:=kind_of hg ha e
  have k3:a.k=3:=e1.trans hk
  rcases ha with h|h|⟨_,c1,c2,c3,c4,c5,c6,c7,c8⟩|h|h
  ·exact absurd h.1 (by omega)
  ·exact absurd h.1 (by omega)
  ·rw[<-e,wr0_3 k3,k3,List.append_assoc,List.append_assoc]at e2
   have e4:=(List.cons.inj e2).2
   rw[<-e4]at e3
   have e5:stO (lsB m g) (tkS m (tkS m q00 1) 1)=some (pyB a.K++(beL 32 a.X.1++beL 32 a.X.2)):=st_1 h1 e3
   refine⟨e1,c1,c2,c3,?_,ful_ck c6,Nat.lt_trans c7 pN_256,Nat.lt_trans c8 pN_256,e5⟩
   rw[e3]
   show a.g=((a.g.toNat:Nat):Int)
   omega
  ·exact absurd h.1 (by omega)
  ·exact absurd h.1 (by omega)
end
end Go.W

namespace Go.W
open Go
theorem iOr_n {a b:Nat}(ha:a<2^62) (hb:b<2^62):iOr .i64 (a:Int) (b:Int)=((a ||| b:Nat):Int):=by
 have p:(2:Nat)^62=4611686018427387904:=by decide
 unfold iOr
 have e1:(BitVec.ofInt IntKind.i64.bits (a:Int) ||| BitVec.ofInt IntKind.i64.bits (b:Int)).toNat=a ||| b:=by
  show(BitVec.ofInt 64 (a:Int) ||| BitVec.ofInt 64 (b:Int)).toNat=a ||| b
  rw[BitVec.toNat_or,BitVec.ofInt_natCast,BitVec.ofInt_natCast,BitVec.toNat_ofNat,BitVec.toNat_ofNat,Nat.mod_eq_of_lt (by omega),Nat.mod_eq_of_lt (by omega)]
 have h:=Nat.or_lt_two_pow ha hb
 rw[e1,wrap_i64 (by omega)]
theorem or_sum {x y k:Nat}(h:y<2^k):(x*2^k) ||| y=x*2^k+y:=by
 rw[Nat.mul_comm,Nat.two_pow_add_eq_or_of_lt h]
theorem sz4_eq {f:Nat->List Value}{p:List Nat}(h:Holds 4 f p) (hb:∀b∈p,b<256):sz4 f=((deL p:Nat):Int)∧deL p<4294967296:=by
 obtain ⟨hl,hf⟩:=h
 match p,hl with
 | [b0,b1,b2,b3],_=>
  have l0:=hb b0 (by simp)
  have l1:=hb b1 (by simp)
  have l2:=hb b2 (by simp)
  have l3:=hb b3 (by simp)
  have f0:bI f (0+0)=((b0:Nat):Int):=hf 0 (by decide)
  have f1:bI f (0+1)=((b1:Nat):Int):=hf 1 (by decide)
  have f2:bI f (0+2)=((b2:Nat):Int):=hf 2 (by decide)
  have f3:bI f (0+3)=((b3:Nat):Int):=hf 3 (by decide)
  have p24:(2:Nat)^24=16777216:=by decide
  have p16:(2:Nat)^16=65536:=by decide
  have p8:(2:Nat)^8=256:=by decide
  have q24:(2:Int)^24=16777216:=by decide
  have q16:(2:Int)^16=65536:=by decide
  have q8:(2:Int)^8=256:=by decide
  have p62:(2:Nat)^62=4611686018427387904:=by decide
  have e1:(b0*2^24) ||| (b1*2^16)=b0*2^24+b1*2^16:=or_sum (by omega)
  have e2:(b0*2^24+b1*2^16) ||| (b2*2^8)=b0*2^24+b1*2^16+b2*2^8:=by
   have:b0*2^24+b1*2^16=(b0*256+b1)*2^16:=by omega
   rw[this];exact or_sum (by omega)
  have e3:(b0*2^24+b1*2^16+b2*2^8) ||| b3=b0*2^24+b1*2^16+b2*2^8+b3:=by
   have:b0*2^24+b1*2^16+b2*2^8=(b0*65536+b1*256+b2)*2^8:=by omega
   rw[this];exact or_sum (by omega)
  have d:deL [b0,b1,b2,b3]=((0*256+b0)*256+b1)*256*256+b2*256+b3:=by
   show(((0*256+b0)*256+b1)*256+b2)*256+b3=_
   omega
  refine⟨?_,by omega⟩
  unfold sz4 by0
  rw[f0,f1,f2,f3,q24,q16,q8,wrap_i64 (n:=((b0:Nat):Int)) (by omega),wrap_i64 (n:=((b1:Nat):Int)) (by omega),wrap_i64 (n:=((b2:Nat):Int)) (by omega),wrap_i64 (n:=((b3:Nat):Int)) (by omega),wrap_i64 (by omega),wrap_i64 (by omega),wrap_i64 (by omega),
   show((b0:Nat):Int)*16777216=((b0*2^24:Nat):Int) from by omega,show((b1:Nat):Int)*65536=((b1*2^16:Nat):Int) from by omega,show((b2:Nat):Int)*256=((b2*2^8:Nat):Int) from by omega,
   iOr_n (by omega) (by omega),e1,iOr_n (by omega) (by omega),e2,iOr_n (by omega) (by omega),e3,d]
  omega
theorem txB_row {n:Nat}{f:Nat->List Value}{p:List Nat}(h:Holds n f p) (hb:∀b∈p,b<256):txB (rowS n f)=p∧(rowS n f).size=n:=by
 have hs:=rwS_size n f
 refine⟨?_,hs⟩
 have h1:=rep_str (rowS n f)
 rw[hs]at h1
 refine rep_uniq h1 (rep_congr h fun j hj=>?_) rfl
 show((((rowS n f).data.toList.getD j 0).toNat:Nat):Int)=bI f j
 have e1:byt (rowS n f) j=(bI f j).toNat%256:=rwS_byt hj
 have e2:=h.2 j hj
 have e3:p.getD j 0<256:=by
  have hl:j<p.length:=by rw[<-h.1];exact hj
  rw[List.getD_eq_getElem?_getD,List.getElem?_eq_getElem hl]
  exact hb _ (List.getElem_mem hl)
 unfold byt at e1
 rw[e1,e2]
 omega
section
variable {m:Nat}{g:Nat->List Value}(hm:m<=1000000) (hg:okY m g=true)
include hm
theorem tk0_in {q:Int×Bool}(h:inQ m q):tk0 m q.1=true:=by
 unfold tk0;rw[Nat.beq_refl,decide_eq_true h.1,decide_eq_true h.2,Nat.ble_eq_true_of_le hm];rfl
include hg
theorem rd_1c {q:Int×Bool}(hq:inQ m q){k:Int}(hk1:k=1){K:RP}(hK:okR K){n:Int}(h0:0<=n)
  (fwd:∀l:ByteArray,(l.size:Int)=n->stO (lsB m g) q=some (txB l)->Right (nlA k K l 0 (0,0))->wr0 (nlA k K l 0 (0,0))=lsB m g)
  (bwd:∀a,Right a->Wsl a->wr0 a=lsB m g->a.k=k∧a.n=0∧a.m=0∧a.g=0∧a.X=(0,0)∧a.K=K∧1<=a.l.size∧a.l.size<=16384∧(a.l.size:Int)=n∧stO (lsB m g) q=some (txB a.l)):
  Rd0 (lsB m g) (rdT1c m g q.1 q.2 k K n):=by
 unfold rdT1c
 by_cases c1:n > 16384
 ·rw[decide_eq_true c1,cond_true]
  refine Rd0_no ?_
  rintro ⟨a,h1,h2,h3⟩
  obtain ⟨_,_,_,_,_,_,_,b1,b2,_⟩:=bwd a h1 h2 h3
  omega
 rw[decide_eq_false c1,cond_false,tk0_in hm hq,Bool.and_true,Bool.and_true]
 have zero:n=0->∀z a,inQ m (a,z)->Rd0 (lsB m g) (rdE0 m a z k K (rowS 0 (sgF 0 zB)) 0 (0,0)):=by
  intro e z a hin
  have no:¬isRd (lsB m g):=by
   rintro ⟨a,h1,h2,h3⟩
   obtain ⟨_,_,_,_,_,_,b0,b1,b2,_⟩:=bwd a h1 h2 h3
   omega
  refine Rd0_end (q:=(a,z)) hK (by decide) (by decide) (by rw[rwS_size];decide) (lsB_len m g) hin ?_ fun a ha hw e=>absurd ⟨a,ha,hw,e⟩ no
  intro _ hR
  exfalso
  have hs:(rowS 0 (sgF 0 zB)).size=0:=rwS_size _ _
  unfold Right nlA at hR
  simp only at hR
  rcases hR with⟨_,_,h,_⟩|⟨h1,_⟩|⟨h1,_⟩|⟨h1,_⟩|⟨h1,_⟩
  ·have:=(lblB_iff.1 h).1
   have:=rN_le (rowS 0 (sgF 0 zB))
   omega
  all_goals omega
 by_cases e:n=0
 ·rw[decide_eq_true e,Bool.true_and,Bool.true_and]
  have hble:Nat.ble (q.1.toNat+0) m=true:=Nat.ble_eq_true_of_le (by have:=hq.2;omega)
  cases hz:q.2 with
  | false=>rw[Bool.not_false,cond_true,hble,req_true rfl];exact zero e false q.1 hq
  | true=>rw[Bool.not_true,cond_false,cond_true];exact zero e true q.1 hq
 ·rw[decide_eq_false e,Bool.false_and,Bool.false_and,cond_false,cond_false]
  obtain ⟨N,rfl⟩:=Int.eq_ofNat_of_zero_le h0
  have h1:=inQ_tk hq (n:=((N:Nat):Int)) (by omega)
  rw[tkC_in hq hm (by omega) (by omega),req_true rfl,kb3_true,req_true rfl,Int.toNat_natCast]
  refine Rd0_end (q:=tkS m q ((N:Nat):Int)) hK (by decide) (by decide) (by rw[rwS_size];omega) (lsB_len m g) h1 ?_ ?_
  ·intro h hR
   obtain ⟨p,hp,ho⟩:=aft_some ((st_tk hq N).symm.trans h)
   rw[List.append_nil]at ho
   have hh:=holds_tk hg hq (n:=N) ho (by omega)
   rw[List.take_of_length_le (by omega)]at hh
   obtain ⟨e1,e2⟩:=txB_row (rep_sg N hh) fun b hb=>lt_of_mem hg ho b hb
   exact fwd _ (by rw[e2]) (by rw[ho,e1]) hR
  ·intro a ha hw ea
   obtain ⟨b1,b2,b3,b4,b5,b6,b7,b8,b9,b10⟩:=bwd a ha hw ea
   have hN:a.l.size=N:=by omega
   have ho:stO (lsB m g) q=some (txB a.l++[]):=by rw[List.append_nil];exact b10
   have h2:stO (lsB m g) (tkS m q ((N:Nat):Int))=some []:=by
    rw[st_tk hq N,ho];exact aft_app (by rw[txB_len,hN])
   have hh:=holds_tk hg hq (n:=N) b10 (by rw[txB_len];omega)
   rw[List.take_of_length_le (by rw[txB_len];omega)]at hh
   obtain ⟨e1,e2⟩:=txB_row (rep_sg N hh) fun b hb=>lt_of_mem hg b10 b hb
   exact⟨h2,b1.symm,b6.symm,txB_inj e1,b2.symm,fun j hj=>absurd hj (Nat.not_lt_zero _),b3.symm,fun j hj=>absurd hj (Nat.not_lt_zero _),b4.symm,b5.symm⟩
theorem rd_1 (hk:rdKb m g=1):Rd0 (lsB m g) (rdT1 m g (tkA m 0 false 1) (tkZ m 0 false 1) (rdKb m g)):=by
 have h1:=inQ_tk (inQ_00 m) (n:=1) (by decide)
 have h2:=inQ_rp (g:=g) h1
 have h3:=inQ_tk h2 (n:=4) (by decide)
 have c1:qoC m g (tkA m 0 false 1)=true:=qoC_in hg h1 hm
 have c2:tkC m (rpR m g (tkA m 0 false 1) (tkZ m 0 false 1)).2.1 4=true:=tkC_in h2 hm (by decide) (by decide)
 unfold rdT1 rdT1b
 rw[c1,req_true rfl,c2,req_true rfl]
  -- the four bytes
 have hsz:0<=sz4 (tkF m g (rpR m g (tkA m 0 false 1) (tkZ m 0 false 1)).2.1 (rpR m g (tkA m 0 false 1) (tkZ m 0 false 1)).2.2 4):=by
  have hH:=rep_ls (okY_tk hg h2.1 (bad:=(rpS m g (tkS m q00 1)).2) (n:=4))
  have:=sz4_eq (f:=tkF m g (rpS m g (tkS m q00 1)).1 (rpS m g (tkS m q00 1)).2 4) hH (lsB_byte (okY_tk hg h2.1))
  show 0<=sz4 (tkF m g (rpS m g (tkS m q00 1)).1 (rpS m g (tkS m q00 1)).2 4)
  omega
 refine rd_1c hm hg (q:=tkS m (rpS m g (tkS m q00 1)) 4) h3 hk (okR_rp m g (tkS m q00 1)) hsz ?_ ?_
 ·intro l hl h hR
  obtain ⟨p,hp,ho⟩:=aft_some ((st_tk h2 4).symm.trans h)
  obtain ⟨a5,a6⟩:=rp_some hg h1 ho
  have hH:=holds_tk hg h2 (n:=4) ho (by rw[List.length_append];omega)
  rw[List.take_left' hp]at hH
  have hb:∀b∈p,b<256:=fun b hb=>lt_of_mem hg ho b (List.mem_append_left _ hb)
  obtain ⟨e1,e2⟩:=sz4_eq hH hb
  have e3:(l.size:Int)=((deL p:Nat):Int):=hl.trans e1
  have e4:=(be_deL p 4 hp hb).1
  have e5:l.size=deL p:=by omega
  rw[kind_to hg a5,hk,wr0_1 rfl]
  show[1]++pyB _++(beL 4 l.size++txB l)=_
  rw[e5,e4,List.append_assoc];rfl
 ·intro a ha hw e
  obtain ⟨e1,r,e2,e3⟩:=kind_of hg ha e
  have k1:a.k=1:=e1.trans hk
  rcases ha with⟨_,c1,c2,c3,c4,c5,c6⟩|h|h|h|h
  ·rw[<-e,wr0_1 k1,k1,List.append_assoc]at e2
   have e4:=(List.cons.inj e2).2
   rw[<-e4]at e3
   have e3:stO (lsB m g) (tkS m q00 1)=some (pyB a.K++(beL 4 a.l.size++txB a.l)):=e3
   obtain ⟨d1,d2⟩:=rp_back hg h1 (ful_ck c1) e3
   have s1:=lbl_size c2
   have s0:1<=a.l.size:=by
    have:=(lblB_iff.1 c2).1
    have:=rN_le a.l
    omega
   have d3:stO (lsB m g) (tkS m (rpS m g (tkS m q00 1)) 4)=some (txB a.l):=by
    have:=st_tk (g:=g) h2 4
    rw[d1]at this
    exact this.trans (aft_app (beL_len 4 _))
   have hH:=holds_tk hg h2 (n:=4) d1 (by rw[List.length_append,beL_len];omega)
   rw[List.take_left' (beL_len 4 _)]at hH
   obtain ⟨f1,f2⟩:=sz4_eq hH (beL_byte 4 _)
   rw[deL_be 4 _ (by rw[show(256:Nat)^4=4294967296 from by decide];omega)]at f1
   exact⟨e1,c3,c4,c5,c6,d2.symm,s0,by omega,f1.symm,d3⟩
  ·exact absurd h.1 (by omega)
  ·exact absurd h.1 (by omega)
  ·exact absurd h.1 (by omega)
  ·exact absurd h.1 (by omega)
end
end Go.W

namespace Go.W
open Go
section
variable {m:Nat}{g:Nat->List Value}(hg:okY m g=true)
include hg
theorem s1_back {q0:Int×Bool}(hq:inQ m q0):∀{n:Nat}{r:List Nat},stO (lsB m g) (q1I m q0 n)=some r->stO (lsB m g) q0=some (syS (sVl m g q0) n++r)
 | 0,_,h=>h
 | n+1,r,h=>by
  have h1:=(rn_some hg (inQ_1I hq n) h).1
  have:=s1_back hq h1
  rw[this,syS,List.append_assoc];rfl
theorem s1_to {q0:Int×Bool}(hq:inQ m q0){S:Nat->Nat}:∀{n:Nat}{r:List Nat},(∀j,j<n->S j<2^256)->stO (lsB m g) q0=some (syS S n++r)->stO (lsB m g) (q1I m q0 n)=some r∧∀j,j<n->sVl m g q0 j=S j
 | 0,_,_,h=>⟨h,fun j hj=>absurd hj (Nat.not_lt_zero _)⟩
 | n+1,r,hS,h=>by
  rw[syS,List.append_assoc]at h
  obtain ⟨h1,h2⟩:=s1_to hq (fun j hj=>hS j (by omega)) h
  obtain ⟨h3,h4⟩:=rn_back hg (inQ_1I hq n) (hS n (by omega)) h1
  refine⟨h3,fun j hj=>?_⟩
  by_cases e:j=n
  ·rw[e];exact h4
  ·exact h2 j (by omega)
theorem s2_back {q0:Int×Bool}(hq:inQ m q0):∀{n:Nat}{r:List Nat},stO (lsB m g) (q2I m g q0 n)=some r->stO (lsB m g) q0=some (pyS (pVl m g q0) n++r)∧∀j,j<n->ckR (pVl m g q0 j)=true
 | 0,_,h=>⟨h,fun j hj=>absurd hj (Nat.not_lt_zero _)⟩
 | n+1,r,h=>by
  obtain ⟨h1,h2⟩:=rp_some hg (inQ_2I hq n) h
  obtain ⟨h3,h4⟩:=s2_back hq h1
  refine⟨by rw[h3,pyS,List.append_assoc];rfl,fun j hj=>?_⟩
  by_cases e:j=n
  ·rw[e];exact h2
  ·exact h4 j (by omega)
theorem s2_to {q0:Int×Bool}(hq:inQ m q0){V:Nat->RP}:∀{n:Nat}{r:List Nat},(∀j,j<n->ckR (V j)=true)->stO (lsB m g) q0=some (pyS V n++r)->stO (lsB m g) (q2I m g q0 n)=some r∧∀j,j<n->pVl m g q0 j=V j
 | 0,_,_,h=>⟨h,fun j hj=>absurd hj (Nat.not_lt_zero _)⟩
 | n+1,r,hV,h=>by
  rw[pyS,List.append_assoc]at h
  obtain ⟨h1,h2⟩:=s2_to hq (fun j hj=>hV j (by omega)) h
  obtain ⟨h3,h4⟩:=rp_back hg (inQ_2I hq n) (hV n (by omega)) h1
  refine⟨h3,fun j hj=>?_⟩
  by_cases e:j=n
  ·rw[e];exact h4
  ·exact h2 j (by omega)
end
theorem stO_ok {L:List Nat}{q:Int×Bool}{r:List Nat}(h:stO L q=some r):q.2=false:=by
 unfold stO at h
 cases hz:q.2 with
 | false=>rfl
 | true=>rw[hz,if_pos rfl]at h;cases h
def Rd2 (t32 tP id:Nat) (L:List Nat) (r:OR):Prop:=Rd0 L r∨∃A:AR,Sam A (raA L)∧raB L=true∧r=some (.tuple #[acV A.k A.K A.l (nSk id 0 A.n) (nSk id 1 A.m) A.g A.X,.bool true],rwA t32 tP id A.n (slF A.S) A.m (ptF A.V))
theorem src_bs (t32 tP n c:Nat) (F G:Nat->List Value):srcB (look [bsR t32 n F,bcR tP c G]) k32 (bsS n)=(true,n,sg32 n F)∧srcB (look [bsR t32 n F,bcR tP c G]) kP9 (bsC c)=(true,c,sg9 c G):=by
 have e1:srcB (look [bsR t32 n F,bcR tP c G]) k32 (bsS n)=(Nat.beq 0 0&&Nat.ble n n&&ksEq k32 k32&&Nat.ble n n,n,sg32 n F):=rfl
 have e2:srcB (look [bsR t32 n F,bcR tP c G]) kP9 (bsC c)=(Nat.beq 0 0&&Nat.ble c c&&ksEq kP9 kP9&&Nat.ble c c,c,sg9 c G):=rfl
 rw[e1,e2,Nat.ble_eq_true_of_le (Nat.le_refl n),Nat.ble_eq_true_of_le (Nat.le_refl c)]
 exact⟨rfl,rfl⟩
theorem rounds_of (m:Nat) (g:Nat->List Value) (q2:Int×Bool) (n:Nat):∃c,c<=n∧(∀j,j<c->(q2I m g q2 j).2=false)∧(c=n∨(q2I m g q2 c).2=true):=by
 rcases first_or (fun j=>(q2I m g q2 j).2=false) n with h|⟨k,h1,h2,h3⟩
 ·exact⟨n,Nat.le_refl n,h,.inl rfl⟩
 ·exact⟨k,by omega,h3,.inr (by cases hz:(q2I m g q2 k).2 with
   | true=>rfl
   | false=>exact absurd hz h2)⟩
section
variable {m:Nat}{g:Nat->List Value}(hg:okY m g=true)
include hg
theorem rd_2 (t32 tP id:Nat) (hk:rdKb m g=2){n n2 c:Nat}{q0 qa q2:Int×Bool}(e0:q0=tkS m (tkS m q00 1) 1) (en:n=byO (stO (lsB m g) (tkS m q00 1))) (ea:qa=q1I m q0 n) (en2:n2=byO (stO (lsB m g) qa)) (e2:q2=tkS m qa 1)
  (hc:c<=n2) (hc2:c=n2∨(q2I m g q2 c).2=true):
  Rd2 t32 tP id (lsB m g) (rdE m (look [bsR t32 n (slF (sVl m g q0)),bcR tP c (ptF (pVl m g q2))]) (q2I m g q2 c).1 (q2I m g q2 c).2 (acV (rdKb m g) zR ⟨#[]⟩ (bsS n) (bsC c) 0 (0,0))
   (req (Nat.ble n n) (req (Nat.ble c c) (some (.tuple #[acV (rdKb m g) zR ⟨#[]⟩ (nSk id 0 n) (nSk id 1 c) 0 (0,0),.bool true],rwA t32 tP id n (slF (sVl m g q0)) c (ptF (pVl m g q2))))))):=by
 have i1:=inQ_tk (inQ_00 m) (n:=1) (by decide)
 have i0:inQ m q0:=by rw[e0];exact inQ_tk i1 (n:=1) (by decide)
 have ia:inQ m qa:=by rw[ea];exact inQ_1I i0 n
 have i2:inQ m q2:=by rw[e2];exact inQ_tk ia (n:=1) (by decide)
 have iF:=inQ_2I (g:=g) i2 c
 have ln:n<256:=by rw[en];exact byO_lt hg _
 have ln2:n2<256:=by rw[en2];exact byO_lt hg _
 obtain ⟨s1,s2⟩:=src_bs t32 tP n c (slF (sVl m g q0)) (ptF (pVl m g q2))
 have o1:okSl n (sg32 n (slF (sVl m g q0)))=true:=by rw[okSl_sg];exact okSl_slF (by omega)
 have o2:okP c (sg9 c (ptF (pVl m g q2)))=true:=by rw[okP_sg];exact okP_pt (by omega)
 have hS:∀j,sVl m g q0 j<2^256:=fun j=>rn_lt hg (inQ_1I i0 j)
 have hV:∀j,okR (pVl m g q2 j):=fun j=>okR_rp m g _
 obtain ⟨A,eA⟩:∃A:AR,A=⟨rdKb m g,zR,⟨#[]⟩,n,sVl m g q0,c,pVl m g q2,0,(0,0)⟩:=⟨_,rfl⟩
 have hsam:Sam ⟨rdKb m g,zR,⟨#[]⟩,n,slA (sg32 n (slF (sVl m g q0))),c,pA (sg9 c (ptF (pVl m g q2))),0,(0,0)⟩ A:=by
  rw[eA,slA_sg,pA_sg]
  exact⟨rfl,rfl,rfl,rfl,fun j _=>slA_slF (hS j),rfl,fun j _=>pA_pt (hV j),rfl,rfl⟩
 obtain ⟨f1,f2⟩:=rdE_eq (m:=m) (q:=q2I m g q2 c) (out:=req (Nat.ble n n) (req (Nat.ble c c) (some (.tuple #[acV (rdKb m g) zR ⟨#[]⟩ (nSk id 0 n) (nSk id 1 c) 0 (0,0),.bool true],rwA t32 tP id n (slF (sVl m g q0)) c (ptF (pVl m g q2))))))
  (isA_ac (k:=rdKb m g) (K:=zR) (lab:=⟨#[]⟩) (g:=0) (X:=(0,0)) s1 o1 s2 o2) (unA_ac (k:=rdKb m g) (lab:=⟨#[]⟩) (g:=0) okR_z (X:=(0,0)) (by decide) (by decide) s1 s2) (show(0:Nat)<=1000000 by decide) (lsB m g) (lsB_len m g) iF
 have hw:Wsl A:=by rw[eA];exact fun j _=>hS j
 by_cases cc:stO (lsB m g) (q2I m g q2 c)=some []∧Right A
 ·have e:wr0 A=lsB m g:=by
   obtain ⟨h,hR⟩:=cc
   obtain ⟨a1,a2⟩:=s2_back hg i2 h
   rw[List.append_nil]at a1
   have hcn:c=n2:=by
    rcases hc2 with h3|h3
    ·exact h3
    ·have:=stO_ok h;rw[this]at h3;cases h3
   rw[e2]at a1
   obtain ⟨b2,a3⟩:=st_1b ia a1
   have eb2:n2=b2:=by rw[en2,a3];rfl
   rw[ea]at a3
   have a4:=s1_back hg i0 a3
   rw[e0]at a4
   obtain ⟨b1,a5⟩:=st_1b i1 a4
   have eb1:n=b1:=by rw[en,a5];rfl
   rw[kind_to hg a5,hk,eA,wr0_2 hk,<-eb1,<-eb2,<-e0,<-ea,<-e2,<-hcn]
   unfold l1A l0A
   simp only[List.append_assoc]
   rfl
  refine .inr ⟨A,raA_of cc.2 hw e,raB_yes ⟨A,cc.2,hw,e⟩,?_⟩
  rw[f1 ⟨cc.1,Right_sam hsam cc.2⟩,Nat.ble_eq_true_of_le (Nat.le_refl n),Nat.ble_eq_true_of_le (Nat.le_refl c),req_true rfl,req_true rfl,eA]
 ·have hn:¬isRd (lsB m g):=by
   rintro ⟨a,ha,hwa,e⟩
   apply cc
   obtain ⟨k1,r,k2,k3⟩:=kind_of hg ha e
   have k4:a.k=2:=k1.trans hk
   rcases ha with h|⟨_,c1,c2,c3,c4,c5,c6,c7,c8,c9⟩|h|h|h
   ·exact absurd h.1 (by omega)
   ·have ha:Right a:=.inr (.inl ⟨k4,c1,c2,c3,c4,c5,c6,c7,c8,c9⟩)
    rw[<-e,wr0_2 k4,k4]at k2
    unfold l1A l0A at k2
    simp only[List.append_assoc]at k2
    have k2:2::a.n::(syS a.S a.n++(a.m::pyS a.V a.m))=2::r:=k2
    have k5:=(List.cons.inj k2).2
    rw[<-k5]at k3
    have hn1:n=a.n:=by rw[en,k3];rfl
    have k6:=st_1 i1 k3
    rw[<-e0]at k6
    obtain ⟨k7,k8⟩:=s1_to hg i0 hwa k6
    rw[<-hn1,<-ea]at k7
    have hn2:n2=a.m:=by rw[en2,k7];rfl
    have k9:=st_1 ia k7
    rw[<-e2]at k9
    have cV:=alP_iff.1 c8
    have key:∀j,j<=a.m->(q2I m g q2 j).2=false:=by
     intro j hj
     have sp:∀(V:Nat->RP) (n j:Nat),j<=n->∃t,pyS V n=pyS V j++t:=by
      intro V n
      induction n with
      | zero=>intro j hj;have:j=0:=by omega
              subst this;exact⟨[],rfl⟩
      | succ n ih=>
       intro j hj
       by_cases e:j=n+1
       ·subst e;exact⟨[],(List.append_nil _).symm⟩
       ·obtain ⟨t,ht⟩:=ih j (by omega)
        exact⟨t++pyB (V n),by rw[pyS,ht,List.append_assoc]⟩
     obtain ⟨t,ht⟩:=sp a.V a.m j hj
     rw[ht]at k9
     exact stO_ok (s2_to hg i2 (fun x hx=>cV x (by omega)) k9).1
    have hcn:c=n2:=by
     rcases hc2 with h3|h3
     ·exact h3
     ·rw[key c (by omega)]at h3;cases h3
    rw[<-List.append_nil (pyS a.V a.m)]at k9
    obtain ⟨d1,d2⟩:=s2_to hg i2 cV k9
    rw[<-hn2,<-hcn]at d1
    refine⟨d1,Right_sam (b:=a) ?_ ha⟩
    rw[eA]
    exact⟨k1.symm,c1.symm,c2.symm,hn1,fun j hj=>k8 j (by show j<a.n;have:j<n:=hj;omega),by show c=a.m;omega,fun j hj=>d2 j (by have:j<c:=hj;omega),c3.symm,c4.symm⟩
   ·exact absurd h.1 (by omega)
   ·exact absurd h.1 (by omega)
   ·exact absurd h.1 (by omega)
  refine .inl ?_
  have h9:rdE m _ (q2I m g q2 c).1 (q2I m g q2 c).2 _ _=zeA:=f2 fun h=>cc ⟨h.1,Right_sam hsam.symm h.2⟩
  rw[h9]
  exact Rd0_no hn
end
end Go.W

namespace Go.W
open Go
def rdV2 (id:Nat) (A:AR) (b:Value):Value:=.tuple #[acV A.k A.K A.l (nSk id 0 A.n) (nSk id 1 A.m) A.g A.X,b]
noncomputable def raR (t32 tP id:Nat) (L:List Nat):List (Nat×Blk):=rwA t32 tP id (raA L).n (slF (raA L).S) (raA L).m (ptF (raA L).V)
noncomputable def RwdF (t32 tP:Nat):List Value->(Nat->Option Blk)->Nat->List (Bool×Value×List (Nat×Blk))
 | [v],mm,id=>[((srcB mm kB v).1&&Nat.ble (srcB mm kB v).2.1 1000000&&okY (srcB mm kB v).2.1 (srcB mm kB v).2.2,rdV2 id (raA (lsB (srcB mm kB v).2.1 (srcB mm kB v).2.2)) (.bool (raB (lsB (srcB mm kB v).2.1 (srcB mm kB v).2.2))),raR t32 tP id (lsB (srcB mm kB v).2.1 (srcB mm kB v).2.2))]
 | _,_,_=>[]
noncomputable def raE (L:List Nat):Int:=hide (if raB L=true then 0 else 7)
noncomputable def RacF (t32 tP:Nat):List Value->(Nat->Option Blk)->Nat->List (Bool×Value×List (Nat×Blk))
 | [v],mm,id=>[((srcB mm kB v).1&&Nat.ble (srcB mm kB v).2.1 1000000&&okY (srcB mm kB v).2.1 (srcB mm kB v).2.2,rdV2 id (raA (lsB (srcB mm kB v).2.1 (srcB mm kB v).2.2)) (i64 (raE (lsB (srcB mm kB v).2.1 (srcB mm kB v).2.2))),raR t32 tP id (lsB (srcB mm kB v).2.1 (srcB mm kB v).2.2))]
 | _,_,_=>[]
section
open Go.RowKit (Below)
variable {GL:Glob}{w0:Wb GL}{R:Nat->Pl->Prop}{fm:Nat->Option Blk}{w:World}
theorem rd_nil2 {k:Int}{K:RP}{l:ByteArray}{g:Int}{X:Nat×Nat}{b v':Value}(h2:V2 R (.tuple #[acV k K l nilS nilS g X,b]) v') (h3:MRel w0 R fm w){id:Nat}(hid:id<60000) (f0:fm (nid id 0)=none) (f1:fm (nid id 1)=none) (t32 tP:Nat) (f h:Nat->List Value):
  ∃R':Nat->Pl->Prop,(∀i p,R i p->R' i p)∧V2 R' (.tuple #[acV k K l (nSk id 0 0) (nSk id 1 0) g X,b]) v'∧MRel w0 R' (memF fm (rwA t32 tP id 0 f 0 h)) w:=by
 obtain ⟨R1,a1,a2,a3⟩:=nil_step h3 hid (k:=0) (by decide) f0 k32 t32 f
 have hne:nid id 0≠nid id 1:=by unfold nid;omega
 obtain ⟨R2,b1,b2,b3⟩:=nil_step a3 hid (k:=1) (by decide) (by rw[upd_ne _ _ hne];exact f1) kP9 tP h
 refine⟨R2,fun i p hp=>b1 _ _ (a1 _ _ hp),?_,b3⟩
 obtain ⟨vs',rfl,hl⟩:=h2
 refine⟨vs',rfl,?_⟩
 have hl:LR (V1 R) [acV k K l nilS nilS g X,b] vs'.toList:=hl
 show LR (V1 R2) [acV k K l (nSk id 0 0) (nSk id 1 0) g X,b] vs'.toList
 revert hl
 generalize vs'.toList=us
 intro hl
 match us,hl with
 | [],h=>exact h.elim
 | [_],h=>exact h.2.elim
 | u::v::us,h=>
  obtain ⟨⟨cs',e1,e2⟩,hb,ht⟩:=h
  refine⟨⟨cs',e1,?_⟩,V1_mono (fun i p hp=>b1 _ _ (a1 _ _ hp)) hb,?_⟩
  ·have c0:LR (V0 R1) ((i64 k::(ptC K++[.string l]))++nilS::(nilS::i64 g::prL X)) cs'.toList:=LR_mono (fun _ _=>V0_mono a1) e2
   have c1:LR (V0 R1) ((i64 k::(ptC K++[.string l]))++nSk id 0 0::(nilS::i64 g::prL X)) cs'.toList:=LR_put a2 c0
   have c2:LR (V0 R2) ((i64 k::(ptC K++[.string l,nSk id 0 0]))++nilS::(i64 g::prL X)) cs'.toList:=LR_mono (fun _ _=>V0_mono b1) c1
   have c3:LR (V0 R2) ((i64 k::(ptC K++[.string l,nSk id 0 0]))++nSk id 1 0::(i64 g::prL X)) cs'.toList:=LR_put b2 c2
   exact c3
  ·cases us with
   | nil=>trivial
   | cons _ _=>exact ht.elim
theorem rd_same {A B:AR}(h:Sam A B){id:Nat}{b v':Value}(h2:V2 R (rdV2 id A b) v'):V2 R (rdV2 id B b) v':=by
 obtain ⟨e1,e2,e3,e4,e5,e6,e7,e8,e9⟩:=h
 unfold rdV2 at h2 ⊢
 rw[e1,e2,e3,e4,e6,e8,e9]at h2;exact h2
theorem rd_rows {A B:AR}(h:Sam A B){t32 tP id:Nat}(h3:MRel w0 R (memF fm (rwA t32 tP id A.n (slF A.S) A.m (ptF A.V))) w):MRel w0 R (memF fm (rwA t32 tP id B.n (slF B.S) B.m (ptF B.V))) w:=by
 obtain ⟨e1,e2,e3,e4,e5,e6,e7,e8,e9⟩:=h
 have hne:nid id 1≠nid id 0:=by unfold nid;omega
 unfold rwA at h3 ⊢
 rw[<-e4,<-e6]
 exact h3.recell2 hne (ptF_congr e7) (fun j hj=>by show nrmK k32 (slC (A.S j))=nrmK k32 (slC (B.S j));rw[e5 j hj])
end
section
variable {P:Program} [Laid P]
theorem rd_done {t32 tP id g:Nat}{args':List Value}{w0:Wb (lay P)}{R:Nat->Pl->Prop}{fm:Nat->Option Blk}{w:World}{L:List Nat}(hid:id<60000) (f0:fm (nid id 0)=none) (f1:fm (nid id 1)=none){r:OR}
  (hr:Rd2 t32 tP id L r)
  (hi:∀v l,r=some (v,l)->(∀p∈l,fm p.1=none)->Invokes P g args'.toArray w fun v' w'=>∃R':Nat->Pl->Prop,(∀i p,R i p->R' i p)∧V2 R' v v'∧MRel w0 R' (memF fm l) w'):
  Invokes P g args'.toArray w fun v' w'=>∃R':Nat->Pl->Prop,(∀i p,R i p->R' i p)∧V2 R' (rdV2 id (raA L) (.bool (raB L))) v'∧MRel w0 R' (memF fm (raR t32 tP id L)) w':=by
 rcases hr with⟨A,h1,h2,h3,h4⟩|⟨A,h1,h2,h3⟩
 ·refine invokes_mono ?_ (hi _ _ h4 (by intro p hp;cases hp))
  rintro v' w' ⟨R',c1,c2,c3⟩
  obtain ⟨R2,d1,d2,d3⟩:=rd_nil2 c2 c3 hid f0 f1 t32 tP (slF A.S) (ptF A.V)
  refine⟨R2,fun i p hp=>d1 _ _ (c1 _ _ hp),rd_same h1 ?_,?_⟩
  ·unfold rdV2;rw[h2,h3];exact d2
  ·refine rd_rows h1 ?_
   rw[h2,h3];exact d3
 ·refine invokes_mono ?_ (hi _ _ h3 (by
   intro p hp
   unfold rwA at hp
   rcases List.mem_cons.1 hp with rfl|hp
   ·exact f1
   ·rcases List.mem_cons.1 hp with rfl|hp
    ·exact f0
    ·cases hp))
  rintro v' w' ⟨R',c1,c2,c3⟩
  refine⟨R',c1,rd_same h1 ?_,rd_rows h1 c3⟩
  rw[h2];exact c2
end
end Go.W

namespace Go.W
open Go.RowKit (Below)
def dedupN:List Nat->List Nat
 | []=>[]
 | x::l=>bif nmem x l then dedupN l else x::dedupN l
def memOf (mm:Nat->Option Blk):List Nat->List (Nat×Blk)
 | []=>[]
 | b::l=>oK (mm b) (fun blk=>(b,blk)::memOf mm l) (memOf mm l)
def inB (blk:Blk):Bool:=
 match blk.cells with
 | .itr _ _=>false
 | .fam _ _ _ _=>!blk.own
 | _=>true
def inOk (mm:Nat->Option Blk) (ds:List Nat) (b:Nat):Bool:=Nat.blt b 1000000000&&oK (mm b) (fun blk=>inB blk&&(idsC blk.cells).all fun x=>nmem x ds) false
def idsT (v:Value):List Nat:=
 match v with
 | .tuple vs=>vs.toList.flatMap idsV
 | v=>idsV v
def numN (id:Nat):Nat->List Nat->Ren
 | _,[]=>[]
 | q,x::r=>(nid id q,x)::numN id (q+1) r
def isOwn (mm:Nat->Option Blk) (b:Nat):Bool:=oK (mm b) (fun blk=>blk.own) false
def ownL (mm:Nat->Option Blk):List Nat->List Nat
 | []=>[]
 | b::l=>bif isOwn mm b then b::ownL mm l else ownL mm l
def isLR:Cells->Bool
 | .lst _=>true
 | .row _ _ _=>true
 | _=>false
def outD (mm:Nat->Option Blk) (mem:Nat->Option Blk) (b:Nat):Bool:=oK (mem b) (fun blk=>oK (mm b) (fun blk0=>Nat.beq blk.elem blk0.elem&&isLR blk.cells) false) false
def outN (mem:Nat->Option Blk) (b:Nat):Bool:=oK (mem b) (fun blk=>match blk.cells with
 | .lst l=>blk.own||l.isEmpty
 | .row _ _ _=>blk.own
 | .tail _ _ _ _=>true
 | _=>false) false
def newN (mem:Nat->Option Blk) (ds:List Nat) (v:Value) (os:List Nat):List Nat:=dedupN ((reach mem (idsT v++os)).filter fun b=>!(nmem b ds))
section
variable {R:Type}
def expN (mm:Nat->Option Blk) (ds os nw:List Nat) (id:Nat) (v:Value) (s:St) (k:Value->List (Nat×Blk)->R) (f:R):R:=
 bif nw.all (outN (look s.mem))&&os.all (outD mm (look s.mem))&&Nat.ble nw.length 8&&renOk (numN id 0 nw++idR ds) then
  oK (ren2 (swapR (numN id 0 nw++idR ds)) v) (fun u=>oK (getMem s (swapR (numN id 0 nw++idR ds)) (numN id 0 nw++idR os)) (fun me=>k u me) f) f else f
def inG (T:Tab) (G:Sums) (n:Nat) (L:List (List Nat×(St->List (Bool×Exit×St)))) (kb:Nat->Bool) (fn:Func) (c:Code) (fuel:Nat) (vs:List Value) (mm:Nat->Option Blk) (ds:List Nat) (id:Nat) (k:Value->List (Nat×Blk)->R) (f:R):R:=
 bif ds.all (inOk mm ds)&&(vs.flatMap idsV).all (fun b=>nmem b ds)&&ds.all kb&&Nat.ble vs.length n&&vs.all notTup then
  evK ⟨T,G,n,L⟩ fuel [] c ⟨argSlots 0 vs,memOf mm ds,id+1⟩ (fun e s=>endK T fn e s (fun v=>bif noTT v then expN mm ds (ownL mm ds) (newN (look s.mem) ds v (ownL mm ds)) id v s k f else f) f) f else f
end
def inF (T:Tab) (G:Sums) (n:Nat) (L:List (List Nat×(St->List (Bool×Exit×St)))) (kb:Nat->Bool) (fn:Func) (c:Code) (fuel:Nat) (R:Type) (vs:List Value) (mm:Nat->Option Blk) (rd:List Nat) (id:Nat) (k:Value->List (Nat×Blk)->R) (f:R):R:=
 inG T G n L kb fn c fuel vs mm (dedupN rd) id k f
theorem endK_nat {R R':Type}(h:R->R') (T:Tab) (fn:Func) (e:Exit) (s:St) (k:Value->R) (f:R):h (endK T fn e s k f)=endK T fn e s (fun v=>h (k v)) (h f):=by
 cases e<;>simp only[endK,resK_nat h,oneK_nat h]
theorem expN_nat {R R':Type}(h:R->R') (mm:Nat->Option Blk) (ds os nw:List Nat) (id:Nat) (v:Value) (s:St) (k:Value->List (Nat×Blk)->R) (f:R):h (expN mm ds os nw id v s k f)=expN mm ds os nw id v s (fun a b=>h (k a b)) (h f):=by
 simp only[expN,cond_nat h,oK_nat h]
theorem inF_nat (T:Tab) (G:Sums) (n:Nat) (L:List (List Nat×(St->List (Bool×Exit×St)))) (kb:Nat->Bool) (fn:Func) (c:Code) (fuel:Nat) (R R':Type) (h:R->R') (vs:List Value) (mm:Nat->Option Blk) (rd:List Nat) (id:Nat) (k:Value->List (Nat×Blk)->R) (f:R):
  h (inF T G n L kb fn c fuel R vs mm rd id k f)=inF T G n L kb fn c fuel R' vs mm rd id (fun v l=>h (k v l)) (h f):=by
 simp only[inF,inG,cond_nat h,evK_nat h,endK_nat h,expN_nat h]
def inlL (T:Tab) (G:Sums) (n:Nat) (L:List (List Nat×(St->List (Bool×Exit×St)))) (kb:Nat->Bool) (fn:Func) (c:Code) (fuel:Nat):Ent:=.il (inF T G n L kb fn c fuel) (inF_nat T G n L kb fn c fuel)
def inl (T:Tab) (G:Sums) (n:Nat) (fn:Func) (c:Code):Ent:=inlL T G n [] (fun _=>true) fn c 80
section
variable {R R':Nat->Pl->Prop}
theorem V00_ids {v v':Value}(h:∀b∈idsV00 v,∀p,R b p->R' b p) (hv:V00 R v v'):V00 R' v v':=by
 unfold V00 at hv ⊢
 split at hv
 ·obtain ⟨p,b,h1,h2,h3⟩:=hv;exact⟨p,b,h _ (by simp[idsV00]) _ h1,h2,h3⟩
 ·obtain ⟨p,h1,h2⟩:=hv;exact⟨p,h _ (by simp[idsV00]) _ h1,h2⟩
 ·exact hv
 ·exact hv
 ·exact hv
 ·exact hv
theorem LR_ids {r r':Value->Value->Prop}{ids:Value->List Nat}(hr:∀v v',(∀b∈ids v,∀p,R b p->R' b p)->r v v'->r' v v'):∀{l l':List Value},(∀b∈l.flatMap ids,∀p,R b p->R' b p)->LR r l l'->LR r' l l'
 | [],[],_,_=>trivial
 | v::l,v'::l',h,hl=>⟨hr v v' (fun b hb=>h b (by rw[List.flatMap_cons];exact List.mem_append_left _ hb)) hl.1,LR_ids hr (fun b hb=>h b (by rw[List.flatMap_cons];exact List.mem_append_right _ hb)) hl.2⟩
 | [],_::_,_,hl=>hl.elim
 | _::_,[],_,hl=>hl.elim
theorem cells_one {v:Value}(h:∀cs,v≠.agg cs):v.cells=#[v]:=by
 unfold Value.cells;split
 ·exact absurd rfl (h _)
 ·rfl
theorem VI_ids {v v':Value}(h:∀b∈v.cells.toList.flatMap idsV00,∀p,R b p->R' b p) (hv:VI R v v'):VI R' v v':=by
 by_cases hag:∃cs,v=.agg cs
 ·obtain ⟨cs,rfl⟩:=hag
  obtain ⟨cs',rfl,hl⟩:=hv
  exact⟨cs',rfl,LR_ids (r:=V00 R) (r':=V00 R') (fun _ _=>V00_ids) h hl⟩
 ·have hne:∀cs,v≠.agg cs:=fun cs e=>hag ⟨cs,e⟩
  have e:∀Q,VI Q v v'=V00 Q v v':=by
   intro Q;unfold VI;split
   ·exact absurd rfl (hne _)
   ·rfl
  rw[e]at hv ⊢
  refine V00_ids (fun b hb=>h b ?_) hv
  rw[cells_one hne]
  simpa using hb
theorem V0_ids {v v':Value}(h:∀b∈idsV0 v,∀p,R b p->R' b p) (hv:V0 R v v'):V0 R' v v':=by
 unfold V0 at hv ⊢
 split at hv
 ·obtain ⟨p,b,h1,h2,h3⟩:=hv;exact⟨p,b,h _ (by simp[idsV0]) _ h1,h2,h3⟩
 ·obtain ⟨p,h1,h2⟩:=hv;exact⟨p,h _ (by simp[idsV0]) _ h1,h2⟩
 ·exact hv
 ·exact hv
 ·obtain ⟨x',rfl,hx⟩:=hv;exact⟨x',rfl,VI_ids h hx⟩
 ·exact hv
theorem V1_ids {v v':Value}(h:∀b∈idsV v,∀p,R b p->R' b p) (hv:V1 R v v'):V1 R' v v':=by
 by_cases hag:∃cs,v=.agg cs
 ·obtain ⟨cs,rfl⟩:=hag
  obtain ⟨cs',rfl,hl⟩:=hv
  exact⟨cs',rfl,LR_ids (r:=V0 R) (r':=V0 R') (fun _ _=>V0_ids) h hl⟩
 ·have hne:∀cs,v≠.agg cs:=fun cs e=>hag ⟨cs,e⟩
  have e:∀Q,V1 Q v v'=V0 Q v v':=by
   intro Q;unfold V1;split
   ·exact absurd rfl (hne _)
   ·rfl
  have e2:idsV v=idsV0 v:=by
   unfold idsV;split
   ·exact absurd rfl (hne _)
   ·rfl
  rw[e]at hv ⊢
  rw[e2]at h
  exact V0_ids h hv
theorem V2_ids {v v':Value}(ht:notTup v=true) (h:∀b∈idsV v,∀p,R b p->R' b p) (hv:V2 R v v'):V2 R' v v':=V2_of_V1 (V1_ids h (V1_of_V2 hv ht))
end
theorem memOf_look {mm:Nat->Option Blk}:∀{ds:List Nat}{i:Nat},look (memOf mm ds) i=if i∈ds then mm i else none
 | [],i=>by simp[memOf,look]
 | b::l,i=>by
  unfold memOf
  cases hb:mm b with
  | none=>
   show look (memOf mm l) i=_
   rw[memOf_look]
   by_cases h:b=i
   ·subst h;simp[hb]
   ·simp[Ne.symm h]
  | some blk=>
   show look ((b,blk)::memOf mm l) i=_
   rw[look_cons]
   by_cases h:b=i
   ·subst h;rw[upd_same];simp[hb]
   ·rw[upd_ne _ _ h,memOf_look];simp[Ne.symm h]
section
variable {GL:Glob}{w0:Wb GL}{R:Nat->Pl->Prop}{fm:Nat->Option Blk}{w:World}
def XIn (R:Nat->Pl->Prop) (mm:Nat->Option Blk) (ds:List Nat) (b:Nat):Prop:=∃i p blk,R i p∧i∈ds∧p.a=some b∧mm i=some blk∧blk.own=true
def wIn (GL:Glob) (R:Nat->Pl->Prop) (mm:Nat->Option Blk) (ds:List Nat) (w:World):Wb GL:=⟨w,XIn R mm ds,R⟩
def RIn (R:Nat->Pl->Prop) (ds:List Nat) (i:Nat) (p:Pl):Prop:=R i p∧(i∈ds∨1000000000<=i)
theorem inOk_some {mm:Nat->Option Blk}{ds:List Nat}{b:Nat}(h:inOk mm ds b=true):b<1000000000∧∃blk,mm b=some blk∧inB blk=true∧∀x∈idsC blk.cells,x∈ds:=by
 unfold inOk at h
 rw[Bool.and_eq_true,Nat.blt_eq]at h
 obtain ⟨h0,h⟩:=h
 refine⟨h0,?_⟩
 cases hb:mm b with
 | none=>rw[hb]at h;cases h
 | some blk=>
  rw[hb]at h
  have h:(inB blk&&(idsC blk.cells).all fun x=>nmem x ds)=true:=h
  rw[Bool.and_eq_true,List.all_eq_true]at h
  exact⟨blk,rfl,h.1,fun x hx=>nmem_iff.1 (h.2 x hx)⟩
theorem in_rel (h:MRel w0 R fm w){mm:Nat->Option Blk}(hsub:∀b blk,mm b=some blk->fm b=some blk){ds:List Nat}(hds:ds.all (inOk mm ds)=true):MRel (wIn GL R mm ds w) (RIn R ds) (look (memOf mm ds)) w:=by
 have hok:∀b∈ds,b<1000000000∧∃blk,mm b=some blk∧inB blk=true∧∀x∈idsC blk.cells,x∈ds:=fun b hb=>inOk_some (List.all_eq_true.1 hds b hb)
 have hlk:∀i blk,look (memOf mm ds) i=some blk->i∈ds∧mm i=some blk∧fm i=some blk∧inB blk=true∧∀x∈idsC blk.cells,x∈ds:=by
  intro i blk hi
  rw[memOf_look]at hi
  split at hi
  ·rename_i hm
   obtain ⟨_,blk2,h2,h3,h4⟩:=hok i hm
   rw[hi]at h2;cases h2
   exact⟨hm,hi,hsub _ _ hi,h3,h4⟩
  ·cases hi
 refine⟨BelowX.refl _ _ _ h.below.gok ?_,fun i p p' h1 h2=>h.func i p p' h1.1 h2.1,?_,?_,?_,fun i p h1 _ _=>h1.1,?_,?_⟩
 ·rintro x hx ⟨i,p,blk,h1,h2,h3,h4,h5⟩
  obtain ⟨fz1,k1⟩:=h.below.glob.1 x hx
  have k2:=h.below.glob.2 x hx
  rcases h.ownX h1 h3 (hsub _ _ h4) h5 with h6|h6
  ·exact k2 h6
  ·have:=heap_lt k1;omega
 ·intro i j p q b h1 h2 ha hb hne blk hblk hown blk' hblk'
  exact h.inj i j p q b h1.1 h2.1 ha hb hne blk (hlk _ _ hblk).2.2.1 hown blk' (hlk _ _ hblk').2.2.1
 ·intro i blk hi
  obtain ⟨hm,hmi,hfi,hib,hcl⟩:=hlk i blk hi
  have hmo:=h.mem i blk hfi
  obtain ⟨cells,elem,own⟩:=blk
  have cont:ContOk w0 R w i ⟨cells,elem,own⟩->(∀l',LP R cells.list l'->LP (RIn R ds) cells.list l')->ContOk (wIn GL R mm ds w) (RIn R ds) w i ⟨cells,elem,own⟩:=by
   rintro ⟨p,k1,k2⟩ hl
   refine⟨p,⟨k1,.inl hm⟩,?_⟩
   cases hpa:p.a with
   | none=>rw[hpa]at k2;exact k2
   | some b=>
    rw[hpa]at k2
    obtain ⟨cs,fz,k3,k4,k5⟩:=k2
    refine⟨cs,fz,k3,hl _ k4,fun ho=>⟨(k5 ho).1,.inl ⟨i,p,_,k1,hm,hpa,hmi,ho⟩,(k5 ho).2.2⟩⟩
  cases cells with
  | lst l=>
   refine cont hmo fun l' hl'=>?_
   exact LR_ids (R:=R) (R':=RIn R ds) (r:=V0 R) (r':=V0 (RIn R ds)) (fun _ _=>V0_ids) (fun b hb p hp=>⟨hp,.inl (hcl b hb)⟩) hl'
  | row ks n f=>
   refine cont hmo fun l' hl'=>?_
   exact LP_plain (rowL_pl _ _ _ _) ((LR_plain (r:=V0 R) (pl:=pl0) (fun _ _ hv=>V0_plain hv) (rowL_pl ks f n 0)).1 hl')
  | elt j k sz=>
   obtain ⟨p,q,b,k1,k2,k3⟩:=hmo
   exact⟨p,q,b,⟨k1,.inl (hcl j (List.mem_singleton.2 rfl))⟩,⟨k2,.inl hm⟩,k3⟩
  | tail j l cnt sz=>
   obtain ⟨p,q,k1,k2,k3⟩:=hmo
   exact⟨p,q,⟨k1,.inl (hcl j (List.mem_singleton.2 rfl))⟩,⟨k2,.inl hm⟩,k3⟩
  | fam ks n es g=>
   have hown:own=false:=by simpa [inB] using hib
   subst hown
   obtain ⟨p,k1,k2⟩:=hmo
   refine⟨p,⟨k1,.inl hm⟩,?_⟩
   cases hpa:p.a with
   | none=>rw[hpa]at k2;exact k2
   | some b=>
    rw[hpa]at k2
    obtain ⟨cs,fz,k3,k4,k5,k6⟩:=k2
    refine⟨cs,fz,k3,fun j hj=>?_,fun hf=>⟨k5 hf,.inr (Nat.le_add_right _ _)⟩,fun ho=>by cases ho⟩
    obtain ⟨v,h5,h6⟩:=k4 j hj
    refine⟨v,h5,?_⟩
    rcases h6 with h6|⟨b2,d,c,cs2,fz2,o1,o2,o3,o4⟩
    ·exact .inl h6
    ·exact .inr ⟨b2,d,c,cs2,fz2,o1,o2,⟨o3,.inr (Nat.le_add_right _ _)⟩,o4⟩
  | itr s pos=>simp[inB]at hib
 ·rintro i p ⟨h1,h2⟩ hlt
  rcases h2 with h2|h2
  ·obtain ⟨_,blk,h3,_⟩:=hok i h2
   rw[memOf_look,if_pos h2,h3];rfl
  ·omega
 ·rintro i p b ⟨h1,h2⟩ hb
  rcases h.there i p b h1 hb with hc|⟨s,pos,h3,h4,h5⟩
  ·exact .inl hc
  ·rcases h2 with h2|h2
   ·obtain ⟨_,blk,h6,h7,_⟩:=hok i h2
    have:=hsub _ _ h6
    rw[h4]at this;cases this
    simp[inB]at h7
   ·have:loose i=true:=by
     unfold loose
     rw[show Nat.ble 1500000 i=true from by rw[Nat.ble_eq];omega]
     simp
    rw[this]at h3;cases h3
 ·rintro i p ⟨h1,_⟩ hge
  obtain ⟨h3,h4⟩:=h.fro i p h1 hge
  exact⟨h3,fun j q hj hq blk hblk=>h4 j q hj.1 hq blk (hlk _ _ hblk).2.2.1⟩
end
theorem look_app {α:Type}{b:List (Nat×α)}:∀{a:List (Nat×α)}{i:Nat},look (a++b) i=(match look a i with
  | some x=>some x
  | none=>look b i)
 | [],i=>rfl
 | (x,y)::a,i=>by
  rw[List.cons_append,look_cons,look_cons]
  by_cases h:x=i
  ·subst h;rw[upd_same,upd_same]
  ·rw[upd_ne _ _ h,upd_ne _ _ h,look_app]
theorem memF_look {fm:Nat->Option Blk}:∀{l:List (Nat×Blk)}{i:Nat},memF fm l i=(match look l i with
  | some b=>some b
  | none=>fm i)
 | [],i=>rfl
 | (x,y)::l,i=>by
  rw[memF,look_cons]
  show upd (memF fm l) x y i=_
  by_cases h:x=i
  ·subst h;rw[upd_same,upd_same]
  ·rw[upd_ne _ _ h,upd_ne _ _ h,memF_look]
theorem look_memB {α:Type}:∀{l:List (Nat×α)}{i:Nat}{b:α},look l i=some b->(i,b)∈l
 | [],i,b,h=>by simp[look]at h
 | (x,y)::l,i,b,h=>by
  rw[look_cons]at h
  by_cases hx:x=i
  ·subst hx;rw[upd_same]at h;cases h;exact List.mem_cons_self ..
  ·rw[upd_ne _ _ hx]at h;exact List.mem_cons_of_mem _ (look_memB h)
theorem look_idR:∀{l:List Nat}{i o:Nat},look (idR l) i=some o->o=i∧i∈l
 | [],i,o,h=>by simp[idR,look]at h
 | x::l,i,o,h=>by
  have h:look ((x,x)::idR l) i=some o:=h
  rw[look_cons]at h
  by_cases hx:x=i
  ·subst hx;rw[upd_same]at h;cases h;exact⟨rfl,List.mem_cons_self ..⟩
  ·rw[upd_ne _ _ hx]at h
   obtain ⟨h1,h2⟩:=look_idR h
   exact⟨h1,List.mem_cons_of_mem _ h2⟩
theorem look_idR_of:∀{l:List Nat}{i:Nat},i∈l->look (idR l) i=some i
 | x::l,i,h=>by
  show look ((x,x)::idR l) i=some i
  rw[look_cons]
  by_cases hx:x=i
  ·subst hx;rw[upd_same]
  ·rw[upd_ne _ _ hx]
   exact look_idR_of ((List.mem_cons.1 h).resolve_left (Ne.symm hx))
theorem look_numN {id:Nat}:∀{l:List Nat}{q i x:Nat},look (numN id q l) i=some x->x∈l∧nid id q<=i∧i<nid id (q+l.length)
 | [],q,i,x,h=>by simp[numN,look]at h
 | y::l,q,i,x,h=>by
  rw[numN,look_cons]at h
  by_cases hx:nid id q=i
  ·subst hx;rw[upd_same]at h;cases h
   refine⟨List.mem_cons_self ..,Nat.le_refl _,?_⟩
   unfold nid;rw[List.length_cons];omega
  ·rw[upd_ne _ _ hx]at h
   obtain ⟨h1,h2,h3⟩:=look_numN h
   refine⟨List.mem_cons_of_mem _ h1,?_,?_⟩
   ·unfold nid at *;omega
   ·rw[List.length_cons];unfold nid at *;omega
theorem ownL_mem {mm:Nat->Option Blk}{b:Nat}:∀{l:List Nat},b∈ownL mm l↔b∈l∧isOwn mm b=true
 | []=>by simp[ownL]
 | x::l=>by
  unfold ownL
  cases h:isOwn mm x with
  | true=>
   rw[cond_true,List.mem_cons,List.mem_cons,ownL_mem]
   constructor
   ·rintro (rfl|⟨h1,h2⟩)
    ·exact⟨.inl rfl,h⟩
    ·exact⟨.inr h1,h2⟩
   ·rintro ⟨rfl|h1,h2⟩
    ·exact .inl rfl
    ·exact .inr ⟨h1,h2⟩
  | false=>
   rw[cond_false,ownL_mem,List.mem_cons]
   constructor
   ·rintro ⟨h1,h2⟩;exact⟨.inr h1,h2⟩
   ·rintro ⟨rfl|h1,h2⟩
    ·rw[h]at h2;cases h2
    ·exact⟨h1,h2⟩
theorem isOwn_some {mm:Nat->Option Blk}{b:Nat}(h:isOwn mm b=true):∃blk,mm b=some blk∧blk.own=true:=by
 unfold isOwn at h
 cases hb:mm b with
 | none=>rw[hb]at h;cases h
 | some blk=>rw[hb]at h;exact⟨blk,rfl,h⟩
theorem isOwn_of {mm:Nat->Option Blk}{b:Nat}{blk:Blk}(h:mm b=some blk) (ho:blk.own=true):isOwn mm b=true:=by
 unfold isOwn;rw[h];exact ho
theorem outD_some {mm mem:Nat->Option Blk}{b:Nat}{blk0:Blk}(h0:mm b=some blk0) (h:outD mm mem b=true):∃c o,mem b=some ⟨c,blk0.elem,o⟩∧((∃l,c=.lst l)∨∃ks n f,c=.row ks n f):=by
 unfold outD at h
 cases hb:mem b with
 | none=>rw[hb]at h;cases h
 | some blk=>
  rw[hb,h0]at h
  obtain ⟨c,e,o⟩:=blk
  have h:(Nat.beq e blk0.elem&&isLR c)=true:=h
  rw[Bool.and_eq_true]at h
  have:=nbeq.1 h.1;subst this
  refine⟨c,o,rfl,?_⟩
  cases c with
  | lst l=>exact .inl ⟨l,rfl⟩
  | row ks n f=>exact .inr ⟨ks,n,f,rfl⟩
  | _=>simp[isLR]at h
theorem outN_some {mem:Nat->Option Blk}{b:Nat}(h:outN mem b=true):∃c e o,mem b=some ⟨c,e,o⟩∧((∃l,c=.lst l∧(o=true∨l=[]))∨(∃ks n f,c=.row ks n f∧o=true)∨∃j l n z,c=.tail j l n z):=by
 unfold outN at h
 cases hb:mem b with
 | none=>rw[hb]at h;cases h
 | some blk=>
  rw[hb]at h
  obtain ⟨c,e,o⟩:=blk
  refine⟨c,e,o,rfl,?_⟩
  cases c with
  | lst l=>
   have h:(o||l.isEmpty)=true:=h
   rw[Bool.or_eq_true,List.isEmpty_iff]at h
   exact .inl ⟨l,rfl,h⟩
  | row ks n f=>exact .inr (.inl ⟨ks,n,f,rfl,h⟩)
  | tail j l n z=>exact .inr (.inr ⟨j,l,n,z,rfl⟩)
  | _=>cases h
section
variable {GL:Glob}{w0:Wb GL}{R:Nat->Pl->Prop}{fm:Nat->Option Blk}{w:World}
theorem MRel.pl (h:MRel w0 R fm w){i:Nat}{blk:Blk}(hi:fm i=some blk):∃p,R i p:=by
 have hm:=h.mem i blk hi
 unfold MemOk at hm
 split at hm
 ·obtain ⟨_,q,_,_,h2,_⟩:=hm;exact⟨q,h2⟩
 ·obtain ⟨_,q,_,h2,_⟩:=hm;exact⟨q,h2⟩
 ·obtain ⟨p,h2,_⟩:=hm;exact⟨p,h2⟩
 ·obtain ⟨b,h2,_⟩:=hm;exact⟨_,h2⟩
 ·obtain ⟨p,h2,_⟩:=hm;exact⟨p,h2⟩
def ROut (R R':Nat->Pl->Prop) (id:Nat) (nw:List Nat) (i:Nat) (p:Pl):Prop:=R i p∨∃x,look (numN id 0 nw) i=some x∧R' x p
theorem renC_nil {ρ:Ren}{c c':Cells}(h:renC ρ c=some c') (hl:c.list=[]):c'.list=[]:=by
 unfold renC at h
 split at h
 ·rename_i l
  obtain ⟨m,h1,h2⟩:=oK_some.1 h
  have hl:l=[]:=hl
  rw[hl]at h1
  simp only[renL,Option.some.injEq]at h1
  subst h1
  rw[<-Option.some.inj h2];rfl
 ·rw[<-Option.some.inj h];exact hl
 ·obtain ⟨_,_,h⟩:=oK_some.1 h;rw[<-Option.some.inj h];rfl
 ·obtain ⟨_,_,h⟩:=oK_some.1 h;rw[<-Option.some.inj h];rfl
 ·rw[<-Option.some.inj h];rfl
 ·rw[<-Option.some.inj h];rfl
theorem out_rel (h:MRel w0 R fm w){mm:Nat->Option Blk}(hsub:∀b blk,mm b=some blk->fm b=some blk){ds:List Nat}(hds:ds.all (inOk mm ds)=true){R':Nat->Pl->Prop}{s:St}{w':World}
  (hc:MRel (wIn GL R mm ds w) R' (look s.mem) w') (hmono:∀i p,RIn R ds i p->R' i p){id:Nat}(hlt:id<60000){nw:List Nat}(hnw:nw.all (outN (look s.mem))=true) (hod:(ownL mm ds).all (outD mm (look s.mem))=true) (hlen:nw.length<=8)
  (hren:renOk (numN id 0 nw++idR ds)=true){me:List (Nat×Blk)}(hme:getMem s (swapR (numN id 0 nw++idR ds)) (numN id 0 nw++idR (ownL mm ds))=some me) (hfree:∀i x,look (numN id 0 nw) i=some x->fm i=none):
  MRel w0 (ROut R R' id nw) (memF fm me) w':=by
 have hok:∀b∈ds,b<1000000000∧∃blk,mm b=some blk∧inB blk=true∧∀x∈idsC blk.cells,x∈ds:=fun b hb=>inOk_some (List.all_eq_true.1 hds b hb)
 obtain ⟨g1,g2⟩:=getMem_look hme
 have hnum:∀i x,look (numN id 0 nw) i=some x->x∈nw∧i<1000000:=by
  intro i x hx
  obtain ⟨h1,h2,h3⟩:=look_numN hx
  refine⟨h1,?_⟩
  unfold nid at h3;omega
 have hk2:=hren
 unfold renOk at hk2
 simp only[Bool.and_eq_true]at hk2
 have hn1:=hk2.1.2
 have hn2:=hk2.2
 have hisnew:∀i x,look (numN id 0 nw) i=some x->look (numN id 0 nw++idR ds) i=some x:=by
  intro i x hx;rw[look_app,hx]
 have hisds:∀i,i∈ds->look (numN id 0 nw) i=none∧look (numN id 0 nw++idR ds) i=some i:=by
  intro i hi
  have:look (numN id 0 nw) i=none:=by
   cases hx:look (numN id 0 nw) i with
   | none=>rfl
   | some x=>
    obtain ⟨_,blk,h2,_⟩:=hok i hi
    exact absurd (hfree i x hx) (by rw[hsub _ _ h2];simp)
  exact⟨this,by rw[look_app,this];exact look_idR_of hi⟩
 have hisinv:∀i o,look (numN id 0 nw++idR ds) i=some o->look (numN id 0 nw) i=some o∨(i=o∧i∈ds∧look (numN id 0 nw) i=none):=by
  intro i o hx
  rw[look_app]at hx
  cases hy:look (numN id 0 nw) i with
  | some x=>rw[hy]at hx;exact .inl hx
  | none=>
   rw[hy]at hx
   obtain ⟨h1,h2⟩:=look_idR hx
   exact .inr ⟨h1.symm,h2,rfl⟩
  -- places of old numbers
 have hold:∀i,i∈ds->∀p,R' i p->R i p:=by
  intro i hi p hp
  obtain ⟨_,blk,h2,_⟩:=hok i hi
  obtain ⟨p0,hp0⟩:=h.pl (hsub _ _ h2)
  have:=hc.func _ _ _ hp (hmono i p0 ⟨hp0,.inl hi⟩)
  rw[this];exact hp0
 have hR2:∀i o p,look (numN id 0 nw++idR ds) i=some o->R' o p->ROut R R' id nw i p:=by
  intro i o p hx hp
  rcases hisinv i o hx with h1|⟨rfl,h2,_⟩
  ·exact .inr ⟨o,h1,hp⟩
  ·exact .inl (hold i h2 p hp)
  -- what the blocks are
 have hcl:∀i blk,memF fm me i=some blk->(∃o b0,look (numN id 0 nw) i=some o∧fm i=none∧look s.mem o=some b0∧renC (swapR (numN id 0 nw++idR ds)) b0.cells=some blk.cells∧blk.elem=b0.elem∧blk.own=b0.own∧outN (look s.mem) o=true)
   ∨ (∃b0 b1,i∈ds∧mm i=some b1∧b1.own=true∧look s.mem i=some b0∧renC (swapR (numN id 0 nw++idR ds)) b0.cells=some blk.cells∧blk.elem=b0.elem∧blk.own=b0.own∧∃c o,look s.mem i=some ⟨c,b1.elem,o⟩∧((∃l,c=.lst l)∨∃ks n f,c=.row ks n f))
   ∨ (fm i=some blk∧look (numN id 0 nw) i=none∧∀b1,i∈ds->mm i=some b1->b1.own=false):=by
  intro i blk hi
  rw[memF_look]at hi
  cases hl:look me i with
  | some b=>
   rw[hl]at hi;cases hi
   obtain ⟨o,b0,k1,k2,k3,k4,k5⟩:=g2 _ _ hl
   rw[look_app]at k1
   cases hy:look (numN id 0 nw) i with
   | some x=>
    rw[hy]at k1;cases k1
    exact .inl ⟨o,b0,rfl,hfree i o hy,k2,k3,k4,k5,List.all_eq_true.1 hnw o (hnum i o hy).1⟩
   | none=>
    rw[hy]at k1
    obtain ⟨h1,h2⟩:=look_idR k1
    subst h1
    have hos:=List.all_eq_true.1 hod o h2
    obtain ⟨h3,h4⟩:=ownL_mem.1 h2
    obtain ⟨b1,h5,h6⟩:=isOwn_some h4
    exact .inr (.inl ⟨b0,b1,h3,h5,h6,k2,k3,k4,k5,outD_some h5 hos⟩)
  | none=>
   rw[hl]at hi
   have hj:=(g1 i).1 hl
   rw[look_app]at hj
   cases hy:look (numN id 0 nw) i with
   | some x=>rw[hy]at hj;cases hj
   | none=>
    rw[hy]at hj
    refine .inr (.inr ⟨hi,rfl,fun b1 h1 h2=>?_⟩)
    cases ho:b1.own with
    | false=>rfl
    | true=>
     have:look (idR (ownL mm ds)) i=some i:=look_idR_of (ownL_mem.2 ⟨h1,isOwn_of h2 ho⟩)
     rw[this]at hj;cases hj
 have hRold:∀i p,ROut R R' id nw i p->look (numN id 0 nw) i=none->R i p:=by
  rintro i p (h1|⟨x,h1,_⟩) h2
  ·exact h1
  ·rw[h2]at h1;cases h1
 have hRnew:∀i o p,ROut R R' id nw i p->look (numN id 0 nw) i=some o->R' o p:=by
  rintro i o p (h1|⟨x,h1,h3⟩) h2
  ·have h5:=hfree i o h2
   have h6:=h.dom i p h1 (by have:=(hnum i o h2).2;omega)
   rw[h5]at h6;cases h6
  ·rw[h2]at h1;cases h1;exact h3
  -- the world
 have hsame:∀b,b<w.heap.size->¬XIn R mm ds b->w'.heap[b]?=w.heap[b]?:=fun b hb hx=>hc.below.block b hb hx
 have hX:∀b,XIn R mm ds b->∃i0 p0 b0,R i0 p0∧i0∈ds∧p0.a=some b∧mm i0=some b0∧b0.own=true∧(∃cs fz,w.heap[b]?=some (.cells cs b0.elem fz))∧∃cs fz,w'.heap[b]?=some (.cells cs b0.elem fz):=by
  rintro b ⟨i0,p0,b0,k1,k2,k3,k4,k5⟩
  refine⟨i0,p0,b0,k1,k2,k3,k4,k5,?_,?_⟩
  ·have hm:=h.mem i0 b0 (hsub _ _ k4)
   obtain ⟨_,b2,e1,e2,_⟩:=hok i0 k2
   rw[k4]at e1;cases e1
   unfold MemOk at hm
   split at hm
   ·obtain ⟨_,_,_,_,_,_,_,_,hf⟩:=hm;rw[hf]at k5;cases k5
   ·obtain ⟨_,_,_,_,_,hf⟩:=hm;rw[hf]at k5;cases k5
   ·rename_i hcc;unfold inB at e2;rw[hcc]at e2;rw[k5]at e2;cases e2
   ·rename_i hcc;unfold inB at e2;rw[hcc]at e2;cases e2
   ·obtain ⟨p,m1,m2⟩:=hm
    have:=h.func _ _ _ m1 k1;subst this
    rw[k3]at m2
    obtain ⟨cs,fz,m3,_⟩:=m2
    exact⟨cs,fz,m3⟩
  ·obtain ⟨c,o,e1,e2⟩:=outD_some k4 (List.all_eq_true.1 hod i0 (ownL_mem.2 ⟨k2,isOwn_of k4 k5⟩))
   have hco:ContOk (wIn GL R mm ds w) R' w' i0 ⟨c,b0.elem,o⟩:=by
    have:=hc.mem i0 _ e1
    rcases e2 with⟨l,rfl⟩|⟨ks,n,f,rfl⟩<;>exact this
   obtain ⟨p,m1,m2⟩:=hco
   have:=h.func _ _ _ (hold i0 k2 p m1) k1;subst this
   rw[k3]at m2
   obtain ⟨cs,fz,m3,_⟩:=m2
   exact⟨cs,fz,m3⟩
 have hXown:∀b,XIn R mm ds b->w0.X b∨w0.w.heap.size<=b:=by
  rintro b ⟨i0,p0,b0,k1,k2,k3,k4,k5⟩
  exact h.ownX k1 k3 (hsub _ _ k4) k5
 have hXn:∀b,(wIn GL R mm ds w).X b∨(wIn GL R mm ds w).w.heap.size<=b->w0.X b∨w0.w.heap.size<=b:=by
  rintro b (h1|h1)
  ·exact hXown b h1
  ·exact .inr (Nat.le_trans h.below.size h1)
  -- an own block of the call's that lies where an old one lies
 have hmeet:∀i p b blk,R i p->p.a=some b->fm i=some blk->(∀b1,i∈ds->mm i=some b1->b1.own=false)->((wIn GL R mm ds w).X b∨(wIn GL R mm ds w).w.heap.size<=b)->weak blk:=by
  intro i p b blk h1 h2 h3 h4 h5
  rcases h5 with h5|h5
  ·obtain ⟨i0,p0,b0,k1,k2,k3,k4,k5⟩:=h5
   refine h.inj i0 i p0 p b k1 h1 k3 h2 ?_ b0 (hsub _ _ k4) k5 blk h3
   rintro rfl
   rw[h4 b0 k2 k4]at k5;cases k5
  ·have h6:=h.lt h1 h2
   have h5:w.heap.size<=b:=h5
   omega
 refine⟨⟨hc.below.os.trans h.below.os,hc.below.tape.trans h.below.tape,hc.below.output.trans h.below.output,Nat.le_trans h.below.size hc.below.size,fun k hk hx=>?_,h.below.glob⟩,?_,?_,?_,?_,?_,?_,?_⟩
 ·rw[hsame k (Nat.lt_of_lt_of_le hk h.below.size) (fun hxi=>by
   rcases hXown k hxi with h1|h1
   ·exact hx h1
   ·omega)]
  exact h.below.block k hk hx
 ·intro i p p' h1 h2
  cases hy:look (numN id 0 nw) i with
  | none=>exact h.func i p p' (hRold i p h1 hy) (hRold i p' h2 hy)
  | some o=>exact hc.func o p p' (hRnew i o p h1 hy) (hRnew i o p' h2 hy)
 ·intro i j p q b h1 h2 ha hb hne blk hblk hown blk' hblk'
    -- of the callee's two
  have both:∀o o' b0 b0',R' o p->R' o' q->o≠o'->look s.mem o=some b0->look s.mem o'=some b0'->blk.own=b0.own->renC (swapR (numN id 0 nw++idR ds)) b0'.cells=some blk'.cells->blk'.own=b0'.own->weak blk':=by
   intro o o' b0 b0' e1 e2 e3 e4 e5 e6 e7 e8
   obtain ⟨k1,k2⟩:=hc.inj o o' p q b e1 e2 ha hb e3 b0 e4 (by rw[<-e6];exact hown) b0' e5
   exact⟨by rw[e8];exact k1,renC_nil e7 k2⟩
  have hij:∀o,look (numN id 0 nw++idR ds) i=some o->look (numN id 0 nw++idR ds) j=some o->False:=fun o e1 e2=>hne (look_inj hn2 e1 e2)
  rcases hcl i blk hblk with⟨o,b0,y1,_,y2,y3,y4,y5,_⟩|⟨b0,b1,y1,y2,y3,y4,y5,y6,y7,_⟩|⟨y1,y2,y3⟩
  ·have hp:=hRnew i o p h1 y1
   rcases hcl j blk' hblk' with⟨o',b0',z1,_,z2,z3,z4,z5,_⟩|⟨b0',b1',z1,z2,z3,z4,z5,z6,z7,_⟩|⟨z1,z2,z3⟩
   ·exact both o o' b0 b0' hp (hRnew j o' q h2 z1) (fun e=>hij o (hisnew i o y1) (by rw[e];exact hisnew j o' z1)) y2 z2 y5 z3 z5
   ·have hq:=hRold j q h2 (hisds j z1).1
    exact both o j b0 b0' hp (hmono j q ⟨hq,.inl z1⟩) (fun e=>hij o (hisnew i o y1) (by rw[e];exact(hisds j z1).2)) y2 z4 y5 z5 z7
   ·exact hmeet j q b blk' (hRold j q h2 z2) hb z1 z3 (hc.ownX hp ha y2 (by rw[<-y5];exact hown))
  ·have hp:=hRold i p h1 (hisds i y1).1
   have hp':=hmono i p ⟨hp,.inl y1⟩
   rcases hcl j blk' hblk' with⟨o',b0',z1,_,z2,z3,z4,z5,_⟩|⟨b0',b1',z1,z2,z3,z4,z5,z6,z7,_⟩|⟨z1,z2,z3⟩
   ·exact both i o' b0 b0' hp' (hRnew j o' q h2 z1) (fun e=>hij i (hisds i y1).2 (by rw[e];exact hisnew j o' z1)) y4 z2 y7 z3 z5
   ·have hq:=hRold j q h2 (hisds j z1).1
    exact both i j b0 b0' hp' (hmono j q ⟨hq,.inl z1⟩) hne y4 z4 y7 z5 z7
   ·exact h.inj i j p q b hp (hRold j q h2 z2) ha hb hne b1 (hsub _ _ y2) y3 blk' z1
  ·have hp:=hRold i p h1 y2
   rcases hcl j blk' hblk' with⟨o',b0',z1,_,z2,z3,z4,z5,z6⟩|⟨b0',b1',z1,z2,z3,z4,z5,z6,z7,_⟩|⟨z1,z2,z3⟩
   ·have hq:=hRnew j o' q h2 z1
    obtain ⟨c,e,ow,e1,e2⟩:=outN_some z6
    rw[z2]at e1;cases e1
    cases how:ow with
    | true=>
     subst how
     have:=hmeet i p b blk hp ha y1 y3 (hc.ownX hq hb z2 rfl)
     rw[this.1]at hown;cases hown
    | false=>
     subst how
     refine⟨z5,renC_nil z3 ?_⟩
     rcases e2 with⟨l,rfl,hl⟩|⟨ks,n,f,rfl,ho⟩|⟨j2,l,n,z,rfl⟩
     ·rcases hl with hl|hl
      ·cases hl
      ·subst hl;rfl
     ·cases ho
     ·rfl
   ·have hq:=hRold j q h2 (hisds j z1).1
    have:=h.inj i j p q b hp hq ha hb hne blk y1 hown b1' (hsub _ _ z2)
    rw[this.1]at z3;cases z3
   ·exact h.inj i j p q b hp (hRold j q h2 z2) ha hb hne blk y1 hown blk' z1
 ·intro i blk hi
    -- cells that the call left
  have left:∀o b0,look s.mem o=some b0->(∀p,R' o p->ROut R R' id nw i p)->(loose i=loose o)->renC (swapR (numN id 0 nw++idR ds)) b0.cells=some blk.cells->blk.elem=b0.elem->blk.own=b0.own->((∃l,b0.cells=.lst l)∨(∃ks n f,b0.cells=.row ks n f)∨∃j l n z,b0.cells=.tail j l n z)->MemOk w0 (ROut R R' id nw) w' i blk:=by
   intro o b0 k1 k2 klo k3 k4 k5 k6
   have hmo:=hc.mem o b0 k1
   obtain ⟨c0,e0,o0⟩:=b0
   obtain ⟨c,e,ow⟩:=blk
   simp only at k3 k4 k5 k6
   subst k4 k5
   have cont:ContOk (wIn GL R mm ds w) R' w' o ⟨c0,e,ow⟩->(∀l',LP R' c0.list l'->LP (ROut R R' id nw) c.list l')->(c0.list=[]->c.list=[])->(∀p size,roomOk o c0 p size->roomOk i c p size)->ContOk w0 (ROut R R' id nw) w' i ⟨c,e,ow⟩:=by
    rintro ⟨p,m1,m2⟩ hlp hnil hroom
    refine⟨p,k2 p m1,?_⟩
    cases hpa:p.a with
    | none=>rw[hpa]at m2;exact hnil m2
    | some b=>
     rw[hpa]at m2
     obtain ⟨cs,fz,n1,n2,n3⟩:=m2
     exact⟨cs,fz,n1,hlp _ n2,fun ho=>⟨(n3 ho).1,hXn b (n3 ho).2.1,hroom _ _ (n3 ho).2.2⟩⟩
   rcases k6 with⟨l,rfl⟩|⟨ks,n,f,rfl⟩|⟨j,l,n,z,rfl⟩
   ·obtain ⟨m,hm2,k3⟩:=oK_some.1 k3
    have k3:=(Option.some.inj k3).symm;subst k3
    refine cont hmo (fun l' hl'=>?_) (fun h0=>?_) (fun p size hr=>by show loose i=true->_;rw[klo];exact hr)
    ·have hl':LR (V0 R') l (l'.take l.length):=hl'
     show LR (V0 _) m (l'.take m.length)
     rw[renL_len hm2]
     exact LR_ren (r:=V0 R') (fun _ _ _ h1 h2=>V0_ren2 hren hR2 h1 h2) hl' hm2
    ·have h0:l=[]:=h0
     rw[h0]at hm2
     simp only[renL,Option.some.injEq]at hm2
     exact hm2.symm
   ·have k3:=(Option.some.inj k3).symm;subst k3
    refine cont hmo (fun l' hl'=>?_) (fun h0=>h0) (fun p size hr=>by show loose i=true->_;rw[klo];exact hr)
    exact LP_plain (rowL_pl _ _ _ _) ((LR_plain (r:=V0 R') (pl:=pl0) (fun _ _ hv=>V0_plain hv) (rowL_pl ks f n 0)).1 hl')
   ·obtain ⟨j',hj,k3⟩:=oK_some.1 k3
    have k3:=(Option.some.inj k3).symm;subst k3
    obtain ⟨p,q,m1,m2,m3⟩:=hmo
    exact⟨p,q,hR2 j' j p (look_swap hn1 hj) m1,k2 q m2,m3⟩
  rcases hcl i blk hi with⟨o,b0,y1,_,y2,y3,y4,y5,y6⟩|⟨b0,b1,y1,y2,y3,y4,y5,y6,y7,c,ow,y8,y9⟩|⟨y1,y2,y3⟩
  ·refine left o b0 y2 (fun p hp=>.inr ⟨o,y1,hp⟩) (renOk_loose hren (hisnew i o y1)).1 y3 y4 y5 ?_
   obtain ⟨c,e,ow,e1,e2⟩:=outN_some y6
   rw[y2]at e1;cases e1
   rcases e2 with⟨l,e2,_⟩|⟨ks,n,f,e2,_⟩|e2
   ·exact .inl ⟨l,e2⟩
   ·exact .inr (.inl ⟨ks,n,f,e2⟩)
   ·exact .inr (.inr e2)
  ·refine left i b0 y4 (fun p hp=>.inl (hold i y1 p hp)) rfl y5 y6 y7 ?_
   rw[y4]at y8;cases y8
   rcases y9 with y9|y9
   ·exact .inl y9
   ·exact .inr (.inl y9)
  ·have hm:=h.mem i blk y1
   have nox:∀p b,R i p->p.a=some b->blk.own=true->¬XIn R mm ds b:=by
    intro p b h1 h2 h3 h4
    have:=hmeet i p b blk h1 h2 y1 y3 (.inl h4)
    rw[this.1]at h3;cases h3
   unfold MemOk at hm ⊢
   split at hm
   ·obtain ⟨p,q,b,k1,k2,k3⟩:=hm;exact⟨p,q,b,.inl k1,.inl k2,k3⟩
   ·obtain ⟨p,q,k1,k2,k3⟩:=hm;exact⟨p,q,.inl k1,.inl k2,k3⟩
   ·refine hm.mono (fun _ _ h1=>.inl h1) (fun b hb=>hsame b (h.frz_lt hb) ?_) (fun ho p b hp hpa=>hsame b (h.lt hp hpa) (nox p b hp hpa ho))
    rintro ⟨i0,p0,b0,k1,k2,k3,k4,k5⟩
    rw[h.frz_own hb k1 k3 (hsub _ _ k4)]at k5;cases k5
   ·obtain ⟨b,k1,k2,k3,k4⟩:=hm
    exact⟨b,.inl k1,by rw[hsame b (h.lt k1 rfl) (nox _ b k1 rfl k4)];exact k2,k3,k4⟩
   ·obtain ⟨p,k1,k2⟩:=hm
    refine⟨p,.inl k1,?_⟩
    cases hpa:p.a with
    | none=>rw[hpa]at k2;exact k2
    | some b=>
     rw[hpa]at k2
     obtain ⟨cs,fz,k3,k4,k5⟩:=k2
     by_cases hxb:XIn R mm ds b
     ·have hwk:=hmeet i p b blk k1 hpa y1 y3 (.inl hxb)
      obtain ⟨i0,p0,b0,m1,m2,m3,m4,m5,⟨cs1,fz1,m6⟩,cs2,fz2,m7⟩:=hX b hxb
      rw[k3]at m6
      simp only[Option.some.injEq,Obj.cells.injEq]at m6
      exact⟨cs2,fz2,by rw[m6.2.1];exact m7,by rw[hwk.2];exact LP_nil,fun ho=>by rw[hwk.1]at ho;cases ho⟩
     ·refine⟨cs,fz,by rw[hsame b (h.lt k1 hpa) hxb];exact k3,LP_mono (fun _ _ h1=>.inl h1) k4,k5⟩
 ·intro i p hp hlt9
  rw[memF_look]
  cases hl:look me i with
  | some b=>rfl
  | none=>
   have hj:=(g1 i).1 hl
   rw[look_app]at hj
   cases hy:look (numN id 0 nw) i with
   | some x=>rw[hy]at hj;cases hj
   | none=>exact h.dom i p (hRold i p hp hy) hlt9
 ·intro i p hp h1 h2
  cases hy:look (numN id 0 nw) i with
  | some x=>have:=(hnum i x hy).2;omega
  | none=>exact h.anc i p (hRold i p hp hy) h1 h2
 ·intro i p b hp hpa
  cases hy:look (numN id 0 nw) i with
  | some o=>
   refine .inl ((hc.there o p b (hRnew i o p hp hy) hpa).loose ?_)
   rw[<-(renOk_loose hren (hisnew i o hy)).1]
   obtain ⟨_,h2,h3⟩:=look_numN hy
   unfold loose
   rw[show Nat.ble 500000 i=true from by rw[Nat.ble_eq];unfold nid at h2;omega,show Nat.blt i 1000000=true from by rw[Nat.blt_eq];exact(hnum i o hy).2]
   rfl
  | none=>
   have hp:=hRold i p hp hy
   by_cases hxb:XIn R mm ds b
   ·obtain ⟨_,_,b0,_,_,_,_,_,_,cs2,fz2,m7⟩:=hX b hxb
    exact .inl ⟨cs2,_,fz2,m7⟩
   ·refine(h.there i p b hp hpa).mono (fun s2 pos hi=>?_) (hsame b (h.lt hp hpa) hxb)
    rw[memF_look]
    cases hl:look me i with
    | none=>rfl
    | some b2=>
     exfalso
     obtain ⟨o,b0,k1,_⟩:=g2 _ _ hl
     rw[look_app,hy]at k1
     obtain ⟨_,h2⟩:=look_idR k1
     obtain ⟨h3,_⟩:=ownL_mem.1 h2
     obtain ⟨_,b3,h5,h6,_⟩:=hok i h3
     have:=hsub _ _ h5
     rw[hi]at this;cases this
     simp[inB]at h6
 ·intro i p hp hge
  have hy:look (numN id 0 nw) i=none:=by
   cases hy:look (numN id 0 nw) i with
   | none=>rfl
   | some x=>have:=(hnum i x hy).2;omega
  have hp:=hRold i p hp hy
  obtain ⟨h1,h2⟩:=h.fro i p hp hge
  refine⟨h1,fun j q hj hq blk hblk=>?_⟩
  rcases hcl j blk hblk with⟨o',b0',z1,_,z2,z3,z4,z5,_⟩|⟨b0',b1',z1,z2,z3,z4,z5,z6,z7,_⟩|⟨z1,z2,z3⟩
  ·rw[z5]
   exact(hc.fro i p (hmono i p ⟨hp,.inr hge⟩) hge).2 o' q (hRnew j o' q hj z1) hq b0' z2
  ·have:=h2 j q (hRold j q hj (hisds j z1).1) hq b1' (hsub _ _ z2)
   rw[this]at z3;cases z3
  ·exact h2 j q (hRold j q hj z2) hq blk z1
end
section
variable {P:Program} [Laid P]
theorem fn_memK {C:Cfg}{c:Code}(hC:CfgOk P C c){K:Nat->Prop}(hLK:∀p F,lookP C.L p=some F->LoopOkK P C.n (loopAt p c) K F){g:FuncId}{fn:Func}(hf:P.funcs[g]?=some fn) (hb:fn.body=some c) (hn:C.n=fn.ntmps){w0:Wb (lay P)}{R:Nat->Pl->Prop}{w:World}{args args':List Value}{mem0:List (Nat×Blk)}{next:Nat}
  (hm:MRel w0 R (look mem0) w) (hargs:LR (V2 R) args args') (hlen:args.length<=fn.ntmps){fuel:Nat}{e:Exit}{s':St}(h1:evS C fuel [] c ⟨argSlots 0 args,mem0,next⟩=some (e,s')){v:Value}(h2:endK C.T fn e s' some none=some v):
  Calls P g args'.toArray w fun ex w'=>∃R' v',ex=.returned v'∧MonoK K R R'∧((∀vs,v≠.tuple vs)->V2 R' v v')∧(∀vs,v=.tuple vs->∃vs',v'=.tuple vs'∧LR (V2 R') vs.toList vs'.toList)∧MRel w0 R' (look s'.mem) w':=by
 refine calls_of_wp hf hb ?_
 have hla:=LR_len hargs
 have hrel:Rel w0 C.n R (St.f ⟨argSlots 0 args,mem0,next⟩) { tmps:=args'.toArray++Array.replicate (fn.ntmps-args'.toArray.size) undef,defers:=[] } w:=by
  refine MRel.toR hm rfl (by simp;omega) ?_
  intro t u hu
  obtain ⟨j,rfl,hj⟩:=argSlots_look args 0 t u hu
  obtain ⟨u',h3,h4⟩:=LR_get hargs hj
  refine⟨u',?_,h4⟩
  have hlt:j<args'.length:=by
   rcases Nat.lt_or_ge j args'.length with h|h
   ·exact h
   ·rw[List.getElem?_eq_none h]at h3;simp at h3
  rw[Nat.zero_add,Array.getElem?_append_left (by simpa using hlt)]
  simpa using h3
 refine wp_mono (ev_soundK hC hLK (p:=[]) rfl h1 hrel) ?_
 rintro e' a' w' ⟨rfl,R',hmo,hr'⟩
 have fin:endK C.T fn e' s' some none=some v->(e'=.normal∨e'=.ret)->a'.defers=[]∧∃v',(results fn a'.tmps).run P w'=.ok v' w'∧((∀vs,v≠.tuple vs)->V2 R' v v')∧(∀vs,v=.tuple vs->∃vs',v'=.tuple vs'∧LR (V2 R') vs.toList vs'.toList):=by
  intro h3 h4
  refine⟨hr'.defers,?_⟩
  have h3:resK C.T s' fn.results.toList (fun vs=>oneK vs some) none=some v:=by
   rcases h4 with rfl|rfl<;>exact h3
  obtain ⟨vs,vs',h5,h6,h7⟩:=res_run hC hr' _ h3
  have hrun:(results fn a'.tmps).run P w'=.ok (if h:vs'.toArray.size=1 then vs'.toArray[0] else .tuple vs'.toArray) w':=by
   rw[results_eq,Array.mapM_eq_mapM_toList]
   simp only[Sem.run_bind,Sem.run_map,h7,Result.andThen_ok,Sem.run_pure]
  refine⟨_,hrun,?_⟩
  rcases oneK_some h5 with rfl|⟨hl,rfl⟩
  ·match vs',h6 with
   | [u],h6=>
    refine⟨fun _=>by simpa using h6.1,fun ws hw=>?_⟩
    subst hw
    have h6:=h6.1
    obtain ⟨ws',e1,e2⟩:=V2_tuple h6
    exact⟨ws',by simpa using e1,LR_mono (fun _ _=>V2_of_V1) e2⟩
  ·have hl':vs'.length≠1:=by rw[<-LR_len h6];exact hl
   rw[dif_neg (by simpa using hl')]
   exact⟨fun hne=>absurd rfl (hne _),fun ws hw=>by cases hw;exact⟨vs'.toArray,rfl,h6⟩⟩
 cases e' with
 | normal=>obtain ⟨k1,v',k2,k3,k4⟩:=fin h2 (.inl rfl);exact⟨k1,v',k2,R',v',rfl,hmo,k3,k4,hr'.m⟩
 | ret=>obtain ⟨k1,v',k2,k3,k4⟩:=fin h2 (.inr rfl);exact⟨k1,v',k2,R',v',rfl,hmo,k3,k4,hr'.m⟩
 | _=>simp[endK]at h2
theorem endK_some {T:Tab}{fn:Func}{e:Exit}{s:St}{β:Type}{k:Value->Option β}{r:β}(h:endK T fn e s k none=some r):∃v,endK T fn e s some none=some v∧k v=some r:=by
 have:endK T fn e s k none=oK (endK T fn e s some none) k none:=(endK_nat (fun o:Option Value=>oK o k none) T fn e s some none).symm
 rw[this,oK_some]at h
 exact h
theorem inlL_sum {T:Tab}{G:Sums}{n:Nat}{L:List (List Nat×(St->List (Bool×Exit×St)))}{kb:Nat->Bool}{fn:Func}{c:Code}{fuel:Nat}(hC:CfgOk P ⟨T,G,n,L⟩ c)
  (hLK:∀p F,lookP L p=some F->LoopOkK P n (loopAt p c) (fun i=>kb i=true∨1000000000<=i) F){g:FuncId}(hf:P.funcs[g]?=some fn) (hname:(fn.name=="runtime.NumGoroutine")=false) (hb:fn.body=some c) (hn:n=fn.ntmps):
  EntOk P g (inlL T G n L kb fn c fuel):=by
 intro w0 R fm w hm vs args' hl mm hsub rd id hlt v l hil hnew
 have hne:fn.name≠"runtime.NumGoroutine":=by simpa using hname
 have hrun:(callFunc g args'.toArray).run P w=.ok (.enter g args'.toArray) w:=by simp[callFunc,hf,hne,hb]
 unfold Invokes
 rw[hrun]
 unfold ilS inF inG at hil
 generalize dedupN rd=ds at hil
 obtain ⟨hcond,hil⟩:=cond_some.1 hil
 simp only[Bool.and_eq_true]at hcond
 obtain ⟨⟨⟨⟨hds,hvs⟩,hkb⟩,hlen⟩,hvt⟩:=hcond
 have hlen:=Nat.le_of_ble_eq_true hlen
 rw[evK_eq,oK_some]at hil
 obtain ⟨⟨e,s⟩,he,hil⟩:=hil
 obtain ⟨vC,hvC,hil⟩:=endK_some hil
 obtain ⟨hnt,hil⟩:=cond_some.1 hil
 unfold expN at hil
 obtain ⟨hcond,hil⟩:=cond_some.1 hil
 simp only[Bool.and_eq_true]at hcond
 obtain ⟨⟨⟨hnw,hod⟩,hle⟩,hren⟩:=hcond
 have hle:=Nat.le_of_ble_eq_true hle
 obtain ⟨u,hu,hil⟩:=oK_some.1 hil
 obtain ⟨me,hme,hil⟩:=oK_some.1 hil
 simp only[Option.some.injEq,Prod.mk.injEq]at hil
 obtain ⟨rfl,rfl⟩:=hil
 have hin:=in_rel hm hsub hds
 have hargs:LR (V2 (RIn R ds)) vs args':=by
  have key:∀(vs args':List Value),(∀v∈vs,notTup v=true∧∀b∈idsV v,b∈ds)->LR (V2 R) vs args'->LR (V2 (RIn R ds)) vs args':=by
   intro vs
   induction vs with
   | nil=>intro a _ h;cases a with
    | nil=>trivial
    | cons _ _=>exact h.elim
   | cons x vs ih=>
    intro a h1 h2
    match a,h2 with
    | x'::a,h2=>
     refine⟨?_,ih a (fun v hv=>h1 v (List.mem_cons_of_mem _ hv)) h2.2⟩
     exact V2_ids (h1 x (List.mem_cons_self ..)).1 (fun b hb p hp=>⟨hp,.inl ((h1 x (List.mem_cons_self ..)).2 b hb)⟩) h2.1
    | [],h2=>exact h2.elim
  refine key vs args' (fun v hv=>⟨List.all_eq_true.1 hvt v hv,fun b hb=>?_⟩) hl
  exact nmem_iff.1 (List.all_eq_true.1 hvs b (List.mem_flatMap.2 ⟨v,hv,hb⟩))
 refine Calls.mono (fn_memK hC hLK hf hb hn hin hargs (by rw[<-hn];exact hlen) he hvC) ?_
 rintro ex w' ⟨R',v',rfl,hmo,hv1,hv2,hm'⟩
 have hmono:∀i p,RIn R ds i p->R' i p:=by
  intro i p hp
  refine hmo i p ?_ hp
  rcases hp.2 with h1|h1
  ·exact .inl (List.all_eq_true.1 hkb i h1)
  ·exact .inr h1
 have hfree:∀i x,look (numN id 0 (newN (look s.mem) ds vC (ownL mm ds))) i=some x->fm i=none:=by
  intro i x hx
  obtain ⟨h1,h2,h3⟩:=look_numN hx
  have hi8:i<nid id 8:=by unfold nid at *;omega
  have:∃b,look me i=some b:=by
   cases hl:look me i with
   | some b=>exact⟨b,rfl⟩
   | none=>
    have:=((getMem_look hme).1 i).1 hl
    rw[look_app,hx]at this;cases this
  obtain ⟨b,hb⟩:=this
  exact(hnew (i,b) (look_memB hb)).1 ⟨h2,hi8⟩
 have hout:=out_rel hm hsub hds hm' hmono hlt hnw hod hle hren hme hfree
 refine⟨_,fun _ _=>.inl,?_,hout⟩
 have hR2:∀i o p,look (numN id 0 (newN (look s.mem) ds vC (ownL mm ds))++idR ds) i=some o->R' o p->ROut R R' id (newN (look s.mem) ds vC (ownL mm ds)) i p:=by
  intro i o p hx hp
  rw[look_app]at hx
  cases hy:look (numN id 0 (newN (look s.mem) ds vC (ownL mm ds))) i with
  | some x=>rw[hy]at hx;cases hx;exact .inr ⟨o,hy,hp⟩
  | none=>
   rw[hy]at hx
   obtain ⟨rfl,h2⟩:=look_idR hx
   obtain ⟨_,blk,h3,_⟩:=inOk_some (List.all_eq_true.1 hds o h2)
   obtain ⟨p0,hp0⟩:=hm.pl (hsub _ _ h3)
   have:=hm'.func _ _ _ hp (hmono o p0 ⟨hp0,.inl h2⟩)
   rw[this];exact .inl hp0
 by_cases htup:∃ws,vC=.tuple ws
 ·obtain ⟨ws,rfl⟩:=htup
  obtain ⟨vs',rfl,hl2⟩:=hv2 ws rfl
  unfold ren2 at hu
  obtain ⟨m,hm1,hm2⟩:=oK_some.1 hu
  cases hm2
  have hnt:ws.toList.all notTup=true:=hnt
  refine⟨vs',rfl,?_⟩
  have h1:LR (V1 R') ws.toList vs'.toList:=by
   have key:∀(l l':List Value),l.all notTup=true->LR (V2 R') l l'->LR (V1 R') l l':=by
    intro l
    induction l with
    | nil=>intro l' _ h;cases l' with
     | nil=>trivial
     | cons _ _=>exact h.elim
    | cons x l ih=>
     intro l' h1 h2
     match l',h2 with
     | x'::l',h2=>
      simp only[List.all_cons,Bool.and_eq_true]at h1
      exact⟨V1_of_V2 h2.1 h1.1,ih l' h1.2 h2.2⟩
     | [],h2=>exact h2.elim
   exact key _ _ hnt hl2
  exact LR_ren (r:=V1 R') (fun _ _ _ h1 h2=>V1_ren2 hren hR2 h1 h2) h1 hm1
 ·exact V2_ren2 hren hR2 (hv1 fun ws e=>htup ⟨ws,e⟩) hu
theorem inl_sum {T:Tab}{G:Sums}{n:Nat}{fn:Func}{c:Code}(hT:TabOk P T) (hG:SumsOk P G) (hmix:P.follows .mixedOrders=true){g:FuncId}(hf:P.funcs[g]?=some fn) (hname:(fn.name=="runtime.NumGoroutine")=false) (hb:fn.body=some c) (hn:n=fn.ntmps):
  EntOk P g (inl T G n fn c):=inlL_sum ⟨hmix,hT,hG,fun p F h=>by simp[lookP]at h⟩ (fun p F h=>by simp[lookP]at h) hf hname hb hn
theorem sums_consI {G:Sums}{g:FuncId}{E:Ent}(h:EntOk P g E) (hG:SumsOk P G):SumsOk P ((g,E)::G):=by
 intro g' F' hF
 rw[look_cons]at hF
 by_cases hg:g=g'
 ·subst hg;rw[upd_same]at hF;cases hF;exact h
 ·rw[upd_ne _ _ hg]at hF;exact hG g' F' hF
end
end Go.W

namespace Go.W
open Go
def aggL:Value->List Value
 | .agg cs=>cs.toList
 | _=>[]
noncomputable def isPo (mm:Nat->Option Blk) (v:Value):Bool:=
 aggK v (fun l=>Nat.beq l.length 2&&((srcB mm k32 (nV 0 l)).1&&((srcB mm kP9 (nV 1 l)).1&&okP (srcB mm kP9 (nV 1 l)).2.1 (srcB mm kP9 (nV 1 l)).2.2))) false
theorem isPo_some {mm:Nat->Option Blk}{v:Value}(h:isPo mm v=true):∃s c n f m g,v=.agg #[s,c]∧srcB mm k32 s=(true,n,f)∧srcB mm kP9 c=(true,m,g)∧okP m g=true:=by
 unfold isPo aggK at h
 split at h
 ·rename_i cs
  obtain ⟨l,hc⟩:∃l,cs=List.toArray l:=⟨cs.toList,by simp⟩
  subst hc
  rw[List.toList_toArray]at h
  simp only[Bool.and_eq_true]at h
  obtain ⟨hl,h1,h2,h3⟩:=h
  have hl:l.length=2:=nbeq.1 hl
  match l,hl with
  | [s,c],_=>
   have h1:(srcB mm k32 s).1=true:=h1
   have h2:(srcB mm kP9 c).1=true:=h2
   refine⟨s,c,(srcB mm k32 s).2.1,(srcB mm k32 s).2.2,(srcB mm kP9 c).2.1,(srcB mm kP9 c).2.2,rfl,?_,?_,h3⟩
   ·rw[<-h1]
   ·rw[<-h2]
 ·cases h
noncomputable def poE (n m:Nat) (V:Nat->RP):Int:=if 8<n∨m<1∨64<m then 4 else if (V 0).1=true then 3 else if alP V m=false then 3 else 0
noncomputable def PofF:List Value->(Nat->Option Blk)->Nat->List (Bool×Value×List (Nat×Blk))
 | [a],mm,_=>[(isPo mm a,i64 (poE (srcB mm k32 (nV 0 (aggL a))).2.1 (srcB mm kP9 (nV 1 (aggL a))).2.1 (pA (srcB mm kP9 (nV 1 (aggL a))).2.2)),[])]
 | _,_,_=>[]
def poT {α:Type}(n m:Nat) (K F:α):α:=bif decide ((n:Int) > 8) then F else bif decide ((m:Int)<1) then F else bif decide ((m:Int) > 64) then F else K
theorem poT_eq {α:Type}(n m:Nat) (K F:α):poT n m K F=if 8<n∨m<1∨64<m then F else K:=by
 unfold poT
 by_cases e1:8<n
 ·rw[decide_eq_true (by omega),if_pos (.inl e1)];rfl
 ·rw[decide_eq_false (by omega),cond_false]
  by_cases e2:m<1
  ·rw[decide_eq_true (by omega),if_pos (.inr (.inl e2))];rfl
  ·rw[decide_eq_false (by omega),cond_false]
   by_cases e3:64<m
   ·rw[decide_eq_true (by omega),if_pos (.inr (.inr e3))];rfl
   ·rw[decide_eq_false (by omega),cond_false,if_neg (by omega)]
end Go.W

namespace Go.W
open Go
def aK (b:Bool) (O:OR):OR:=bif b then O else cE 1
def aFk (i:Bool) (x y:Nat) (O:OR):OR:=bif !i then req (isPt (ptV (i,x,y))) (bif !(errP (ckR (unPt (ptV (i,x,y))))==0) then cE 3 else O) else cE 3
def aLo (a:Nat) (O:OR):OR:=req (isNum (num a)&&isNum (num (primeN 1))) (bif !decide (cmpI (unnum (num a)) (unnum (num (primeN 1)))<0) then cE 2 else O)
def aPz (X Y:Nat×Nat) (O:OR):OR:=bif !eqL (prL X) (prL Y) then cE 1 else O
noncomputable def ackT (k:Int) (i:Bool) (x y:Nat) (lab:ByteArray) (n:Nat) (m:Nat) (h:Nat->List Value) (g:Int) (c r:Nat):OR:=match k with
 | .negSucc _=>cE 19
 | .ofNat 0=>cE 19
 | .ofNat 1=>aK (eqV (ptV (i,x,y)) (ptV (i,x,y))) (aK (lab==lab) (aK ((n:Int)==((0:Nat):Int)) (aK ((m:Int)==((0:Nat):Int)) (aK (g==0) (aPz (c,r) (0,0) (aFk i x y (req (Nat.ble lab.size 1000000) (cE (lbE lab)))))))))
 | .ofNat 2=>aK (eqV (ptV (i,x,y)) (ptV zR)) (aK (lab==⟨#[]⟩) (aK ((n:Int)==(n:Int)) (aK ((m:Int)==(m:Int)) (aK (g==0) (aPz (c,r) (0,0) (req (whN n&&(whN m&&okP m (sg9 m h))) (cE (poE n m (pA (sg9 m h))))))))))
 | .ofNat 3=>aK (eqV (ptV (i,x,y)) (ptV (i,x,y))) (aK (lab==⟨#[]⟩) (aK ((n:Int)==((0:Nat):Int)) (aK ((m:Int)==((0:Nat):Int)) (aK (g==g) (aPz (c,r) (c,r) (bif decide (g<1) then cE 1 else bif decide (g > 8) then cE 1 else aFk i x y (aLo c (aLo r (cE 0)))))))))
 | .ofNat 4=>aK (eqV (ptV (i,x,y)) (ptV (i,x,y))) (aK (lab==⟨#[]⟩) (aK ((n:Int)==((0:Nat):Int)) (aK ((m:Int)==((0:Nat):Int)) (aK (g==0) (aPz (c,r) (c,r) (aFk i x y (aLo c (aLo r (cE 0)))))))))
 | .ofNat 5=>aK (eqV (ptV (i,x,y)) (ptV zR)) (aK (lab==⟨#[]⟩) (aK ((n:Int)==((0:Nat):Int)) (aK ((m:Int)==((0:Nat):Int)) (aK (g==0) (aPz (c,r) (0,0) (cE 0))))))
 | .ofNat (_+6)=>cE 19
theorem aK_eq (b:Bool) (O:OR):aK b O=if b=true then O else cE 1:=by cases b<;>rfl
theorem aFk_eq {i:Bool}{x y:Nat}(h:okR (i,x,y)) (O:OR):aFk i x y O=if fulB (i,x,y)=false then cE 3 else O:=by
 unfold aFk fulB;rw[isPt_ptV,req_true rfl,unPt_ptV h]
 cases i<;>cases ckR (_,x,y)<;>rfl
theorem aLo_eq {a:Nat}(h:a<2^256) (O:OR):aLo a O=if a<pN then O else cE 2:=by
 unfold aLo
 have hp:primeN 1=pN:=rfl
 rw[isNum_num,isNum_num,req_true (b:=true&&true) rfl,unnum_lt h,hp,unnum_lt (by decide)]
 by_cases e:a<pN
 ·rw[if_pos e,show cmpI a pN=-1 from if_pos e];rfl
 ·rw[if_neg e]
  unfold cmpI;rw[if_neg e]
  split<;>rfl
theorem eqL_prL {X Y:Nat×Nat}(h1:X.1<2^256) (h2:X.2<2^256) (h3:Y.1<2^256) (h4:Y.2<2^256):eqL (prL X) (prL Y)=decide (X=Y):=by
 rw[Bool.eq_iff_iff,eqL_iff (ks:=[.i .u64,.i .u64,.i .u64,.i .u64,.i .u64,.i .u64,.i .u64,.i .u64]) rfl rfl,decide_eq_true_eq]
 refine⟨fun h=>?_,fun h=>by rw[h]⟩
 have e:unPrf (prV X.1 X.2)=unPrf (prV Y.1 Y.2):=congrArg (fun l:List Value=>unPrf (.agg l.toArray)) h
 rw[unPrf_prV h1 h2,unPrf_prV h3 h4]at e;exact e
theorem aPz_eq {X Y:Nat×Nat}(h1:X.1<2^256) (h2:X.2<2^256) (h3:Y.1<2^256) (h4:Y.2<2^256) (O:OR):aPz X Y O=if X=Y then O else cE 1:=by
 unfold aPz;rw[eqL_prL h1 h2 h3 h4]
 by_cases e:X=Y
 ·rw[decide_eq_true e,if_pos e];rfl
 ·rw[decide_eq_false e,if_neg e];rfl
theorem aPz0_eq {X:Nat×Nat}(h1:X.1<2^256) (h2:X.2<2^256) (O:OR):aPz X (0,0) O=if X=(0,0) then O else cE 1:=aPz_eq h1 h2 (show(0:Nat)<2^256 by decide) (show(0:Nat)<2^256 by decide) O
theorem aPzS_eq {X:Nat×Nat}(h1:X.1<2^256) (h2:X.2<2^256) (O:OR):aPz X X O=O:=by rw[aPz_eq h1 h2 h1 h2,if_pos rfl]
theorem lab_self (s:ByteArray):(s==s)=true:=by rw[txt_eq];exact decide_eq_true rfl
theorem lab_nil (s:ByteArray):((s==⟨#[]⟩)=true)=(s=⟨#[]⟩):=by rw[txt_eq];exact propext decide_eq_true_iff
theorem int_nat (n:Nat):(((n:Int)==((0:Nat):Int))=true)=(n=0):=by
 rw[beq_iff_eq];exact propext ⟨fun h=>by omega,fun h=>by omega⟩
section
variable {K:RP}{lab:ByteArray}{n m:Nat}{S:Nat->Nat}{h:Nat->List Value}{g:Int}{X:Nat×Nat}
theorem ackT_eq (oK:okR K) (hc:X.1<2^256) (hr:X.2<2^256) (ho:okP m h=true) (hl:lab.size<=1000000):∀k:Int,ackT k K.1 K.2.1 K.2.2 lab n m h g X.1 X.2=cE (ckE ⟨k,K,lab,n,S,m,pA h,g,X⟩):=by
 obtain ⟨i,x,y⟩:=K
 obtain ⟨c,r⟩:=X
 have out:∀k:Int,(k<1∨5<k)->cE (ckE ⟨k,(i,x,y),lab,n,S,m,pA h,g,(c,r)⟩)=cE 19:=by
  intro k hk;unfold ckE;rw[if_pos hk]
 have eg:∀a:Int,((a==a)=true)=True:=fun a=>by simp
 have eb:((g==0)=true)=(g=0):=by simp
 intro k
 match k with
 | .negSucc j=>rw[out _ (.inl (by omega))];rfl
 | .ofNat 0=>rw[out _ (.inl (by decide))];rfl
 | .ofNat (j+6)=>rw[out _ (.inr (by show((j+6:Nat):Int) > 5;omega))];rfl
 | .ofNat 1=>
  unfold ackT;simp only[aK_eq,aPz0_eq hc hr,aFk_eq oK,eqV_pt oK oK,decide_true,lab_self,int_nat,eb,if_true,Nat.ble_eq_true_of_le hl,req,cond_true,cE_if]
  congr 1
  unfold lbE;rw[hide_eq]
  by_cases p3:n=0<;>by_cases p3b:m=0<;>by_cases p4:g=0<;>by_cases p5:(c,r)=((0,0):Nat×Nat)<;>simp[ckE,bare,keyd,prfd,p3,p3b,p4,p5]<;>cases lblB lab<;>rfl
 | .ofNat 2=>
  unfold ackT;simp only[aK_eq,aPz0_eq hc hr,eqV_pt oK okR_z,decide_eq_true_eq,lab_nil,eg,eb,if_true,whN_true,okP_sg,ho,req,Bool.and_true,cond_true,pA_sg,cE_if]
  congr 1
  unfold poE
  by_cases p1:(i,x,y)=zR<;>by_cases p2:lab=⟨#[]⟩<;>by_cases p4:g=0<;>by_cases p5:(c,r)=((0,0):Nat×Nat)<;>simp[ckE,bare,keyd,prfd,p1,p2,p4,p5]
  cases alP (pA h) m<;>cases (pA h 0).1<;>rfl
 | .ofNat 3=>
  have e:∀a:OR,(bif decide (g<1) then cE 1 else bif decide (g > 8) then cE 1 else a)=if g<1∨8<g then cE 1 else a:=by
   intro a
   by_cases e1:g<1
   ·rw[decide_eq_true e1,if_pos (.inl e1)];rfl
   ·by_cases e2:8<g
    ·rw[decide_eq_false e1,decide_eq_true e2,if_pos (.inr e2)];rfl
    ·rw[decide_eq_false e1,decide_eq_false e2,if_neg (by omega)];rfl
  unfold ackT;simp only[aK_eq,aPzS_eq hc hr,aFk_eq oK,eqV_pt oK oK,decide_true,lab_nil,int_nat,eg,if_true,e,aLo_eq hc,aLo_eq hr,cE_if]
  congr 1
  by_cases p2:lab=⟨#[]⟩<;>by_cases p3:n=0<;>by_cases p3b:m=0<;>by_cases q1:c<pN<;>by_cases q2:r<pN<;>simp[ckE,bare,keyd,prfd,p2,p3,p3b,q1,q2]
 | .ofNat 4=>
  unfold ackT;simp only[aK_eq,aPzS_eq hc hr,aFk_eq oK,eqV_pt oK oK,decide_true,lab_nil,int_nat,eb,if_true,aLo_eq hc,aLo_eq hr,cE_if]
  congr 1
  by_cases p2:lab=⟨#[]⟩<;>by_cases p3:n=0<;>by_cases p3b:m=0<;>by_cases p4:g=0<;>by_cases q1:c<pN<;>by_cases q2:r<pN<;>simp[ckE,bare,keyd,prfd,p2,p3,p3b,p4,q1,q2]
 | .ofNat 5=>
  unfold ackT;simp only[aK_eq,aPz0_eq hc hr,eqV_pt oK okR_z,decide_eq_true_eq,lab_nil,int_nat,eb,cE_if]
  congr 1
  by_cases p1:(i,x,y)=zR<;>by_cases p2:lab=⟨#[]⟩<;>by_cases p3:n=0<;>by_cases p3b:m=0<;>by_cases p4:g=0<;>by_cases p5:(c,r)=((0,0):Nat×Nat)<;>simp[ckE,bare,keyd,prfd,p1,p2,p3,p3b,p4,p5]
end
end Go.W

namespace Go.Proofs.YtckbmhegopjnmaaGreat
set_option maxRecDepth 100000
open Go.W
noncomputable def pofS:Sums:=[(71,CChkF)]
theorem pofS_ok:SumsOk Tryz.prog pofS:=sums_cons cchk_sum sums_nil
noncomputable def pofC0:Cfg:=⟨tab,pofS,40,[([1,1,1,0,1,0],fun _=>[])]⟩
theorem pofC0_ok:CfgOk Tryz.prog pofC0 (bodyOf Tryz.f50):=⟨mixed,tabOk,pofS_ok,noneL2⟩
theorem pof_at:codeAt [1,1,1,0,1,0] (bodyOf Tryz.f50)=some (.loop (loopAt [1,1,1,0,1,0] (bodyOf Tryz.f50))):=by kernel_rfl
def pofN:List Nat:=[2,28,29,30]
def pofI:Ren:=[(agId 0 1,agId 0 1)]
def pofSt (m:Nat) (f:Nat->List Value) (e0:Nat) (r i:Int):St:=⟨[(2,i64 r),(28,.slice (some ⟨agId 0 1,0,none⟩) m m),(29,i64 (m:Int)),(30,i64 i)],[(agId 0 1,⟨.row kP9 m f,e0,false⟩)],27⟩
theorem pof_r (n:Nat) (V:Nat->RP) (e0 k:Nat):roundS pofC0 60 [1,1,1,0,1,0,0] (loopAt [1,1,1,0,1,0] (bodyOf Tryz.f50)) pofN pofI 27 pofN pofI 27 (pofSt n (ptF V) e0 0 (k:Int))=
  bif decide ((k:Int)<(n:Int)) then rdR k n (req (isPt (ptV (V (0+k)))) (bif errP (ckR (unPt (ptV (V (0+k))))) != 0 then some (.ret,pofSt n (ptF V) e0 (errP (ckR (unPt (ptV (V (0+k)))))) (k:Int)) else some (.normal,pofSt n (ptF V) e0 0 (IntKind.i64.wrap ((k:Int)+1)))))
  else some (.exit 0,pofSt n (ptF V) e0 0 (k:Int)):=by kernel_rfl
theorem pof_step {n:Nat}{V:Nat->RP}{e0 k:Nat}(hn:n<=1000) (hV:∀j,j<n->okR (V j)) (hk:k<n):roundS pofC0 60 [1,1,1,0,1,0,0] (loopAt [1,1,1,0,1,0] (bodyOf Tryz.f50)) pofN pofI 27 pofN pofI 27 (pofSt n (ptF V) e0 0 (k:Int))=
  bif ckR (V k) then some (.normal,pofSt n (ptF V) e0 0 ((k+1:Nat):Int)) else some (.ret,pofSt n (ptF V) e0 3 (k:Int)):=by
 refine(pof_r n V e0 k).trans ?_
 rw[decide_eq_true (by omega),cond_true,rdR_eq hk,isPt_ptV,req_true rfl,Nat.zero_add,unPt_ptV (hV k hk),wrap_i64 (by omega)]
 cases ckR (V k)<;>rfl
theorem pof_ok {n:Nat}{V:Nat->RP}{e0:Nat}(hn:n<=1000) (hV:∀j,j<n->okR (V j)) (hb:∀i,i<n->ckR (V i)=true):LoopOk Tryz.prog 40 (loopAt [1,1,1,0,1,0] (bodyOf Tryz.f50)) (atSt pofN pofI 27 (pofSt n (ptF V) e0 0 0) (.exit 0) (pofSt n (ptF V) e0 0 (n:Int))):=by
 refine loopE (fun _=>pofC0) n (fun _ _=>pofC0_ok) (fun _=>rfl) pof_at (m:=60) (nt:=pofN) (ni:=pofI) (et:=pofN) (ei:=pofI) (nx:=27) (ex:=27) (fun k=>pofSt n (ptF V) e0 0 (k:Int)) rfl (by intro h;cases h) ?_ ?_
 ·intro k hk
  exact⟨_,(pof_step hn hV hk).trans (by rw[hb k hk,cond_true]),stEq_refl rfl⟩
 ·refine⟨_,?_,stEq_refl rfl⟩
  refine(pof_r n V e0 n).trans ?_
  rw[decide_eq_false (by omega),cond_false]
theorem pof_bad {n:Nat}{V:Nat->RP}{e0 k:Nat}(hn:n<=1000) (hV:∀j,j<n->okR (V j)) (hk:k<n) (hc:ckR (V k)=false) (hb:∀i,i<k->ckR (V i)=true):LoopOk Tryz.prog 40 (loopAt [1,1,1,0,1,0] (bodyOf Tryz.f50)) (atSt pofN pofI 27 (pofSt n (ptF V) e0 0 0) .ret (pofSt n (ptF V) e0 3 (k:Int))):=by
 refine loopE (fun _=>pofC0) k (fun _ _=>pofC0_ok) (fun _=>rfl) pof_at (m:=60) (nt:=pofN) (ni:=pofI) (et:=pofN) (ei:=pofI) (nx:=27) (ex:=27) (fun k=>pofSt n (ptF V) e0 0 (k:Int)) rfl (by intro h;cases h) ?_ ?_
 ·intro i hi
  exact⟨_,(pof_step hn hV (by omega)).trans (by rw[hb i hi,cond_true]),stEq_refl rfl⟩
 ·exact⟨_,(pof_step hn hV hk).trans (by rw[hc,cond_false]),stEq_refl rfl⟩
noncomputable def pofC (n:Nat) (V:Nat->RP) (e0:Nat) (e:Exit) (r:Int) (k:Nat):Cfg:=⟨tab,pofS,40,[([1,1,1,0,1,0],atSt pofN pofI 27 (pofSt n (ptF V) e0 0 0) e (pofSt n (ptF V) e0 r (k:Int)))]⟩
theorem pof_ev0 (n:Nat) (f:Nat->List Value) (m:Nat) (h:Nat->List Value) (V:Nat->RP) (k:Nat) (es:Nat->TypeId) (er:Nat->Nat->TypeId) (id:Nat):fnX (pofC m V (es (agId 0 1)) (.exit 0) 0 k) 60 Tryz.f50 (bodyOf Tryz.f50) (cArgsX [.ag [.sl k32 n f,.sl kP9 m h]] 0) (cMemX es er [.ag [.sl k32 n f,.sl kP9 m h]]) 0 id=
  poT n m (rdR 0 m (bif toB ((h (0+0)).headD (.bool false)) then some (i64 3,[]) else req (stEq (pofSt m h (es (agId 0 1)) 0 0) (pofSt m (ptF V) (es (agId 0 1)) 0 0)) (some (i64 0,[])))) (some (i64 4,[])):=by kernel_rfl
theorem pof_ev1 (n:Nat) (f:Nat->List Value) (m:Nat) (h:Nat->List Value) (V:Nat->RP) (k:Nat) (es:Nat->TypeId) (er:Nat->Nat->TypeId) (id:Nat):fnX (pofC m V (es (agId 0 1)) .ret 3 k) 60 Tryz.f50 (bodyOf Tryz.f50) (cArgsX [.ag [.sl k32 n f,.sl kP9 m h]] 0) (cMemX es er [.ag [.sl k32 n f,.sl kP9 m h]]) 0 id=
  poT n m (rdR 0 m (bif toB ((h (0+0)).headD (.bool false)) then some (i64 3,[]) else req (stEq (pofSt m h (es (agId 0 1)) 0 0) (pofSt m (ptF V) (es (agId 0 1)) 0 0)) (some (i64 3,[])))) (some (i64 4,[])):=by kernel_rfl
theorem pof_ev2 (n:Nat) (f:Nat->List Value) (m:Nat) (h:Nat->List Value) (es:Nat->TypeId) (er:Nat->Nat->TypeId) (id:Nat):fnX pofC0 60 Tryz.f50 (bodyOf Tryz.f50) (cArgsX [.ag [.sl k32 n f,.sl kP9 m h]] 0) (cMemX es er [.ag [.sl k32 n f,.sl kP9 m h]]) 0 id=
  poT n m (rdR 0 m (bif toB ((h (0+0)).headD (.bool false)) then some (i64 3,[]) else none)) (some (i64 4,[])):=by kernel_rfl
theorem pof_msum:MSum Tryz.prog 50 PofF:=by
 intro w0 R fm w hm vs args' hl mm hsub id hlt v l hpick hnew
 match vs,hl,hpick with
 | [a],hl,hpick=>
  obtain ⟨hc,rfl,rfl⟩:=pick_one hpick
  obtain ⟨s,c,n,f,m,h,ea,hs,hq,ho⟩:=isPo_some hc
  subst ea
  have e1:srcB mm k32 (nV 0 (aggL (.agg #[s,c])))=(true,n,f):=hs
  have e2:srcB mm kP9 (nV 1 (aggL (.agg #[s,c])))=(true,m,h):=hq
  rw[e1,e2]
  have hm1:=(okP_iff.1 ho).1
  have hV:∀j,j<m->okR (pA h j):=fun j hj=>(el_pt ho hj).2
  refine msum_atX (c:=bodyOf Tryz.f50) (fuel:=60) (next:=0) Tryz.func50 (by kernel_rfl) (by kernel_rfl) hm hl hsub hlt
   (A:=[.ag [.sl k32 n f,.sl kP9 m h]]) ⟨⟨_,rfl,⟨⟨hs,nofun⟩,⟨hq,nofun⟩,trivial⟩⟩,trivial⟩ (by kernel_rfl) (by show 1<=Tryz.f50.ntmps;decide +kernel) (by intro p hp;cases hp) (fun es er=>?_)
  by_cases hb:8<n∨m<1∨64<m
  ·refine⟨pofC0,pofC0_ok,rfl,?_⟩
   refine(pof_ev2 n f m h es er id).trans ?_
   rw[poT_eq,if_pos hb];unfold poE;rw[if_pos hb]
  ·have hm0:0<m:=by omega
   cases hi:(pA h 0).1 with
   | true=>
    refine⟨pofC0,pofC0_ok,rfl,?_⟩
    refine(pof_ev2 n f m h es er id).trans ?_
    rw[poT_eq,if_neg hb,rdR_eq hm0,toB_pt ho (by omega),Nat.zero_add,hi];unfold poE;rw[if_neg hb,if_pos hi];rfl
   | false=>
    cases hal:alP (pA h) m with
    | true=>
     refine⟨pofC m (pA h) (es (agId 0 1)) (.exit 0) 0 m,⟨mixed,tabOk,pofS_ok,oneL (pof_ok hm1 hV (alP_iff.1 hal))⟩,rfl,?_⟩
     refine(pof_ev0 n f m h _ m es er id).trans ?_
     rw[poT_eq,if_neg hb,rdR_eq hm0,toB_pt ho (by omega),Nat.zero_add,hi,cond_false]
     refine(req_true (stEq_mk rfl (mRow (row_pt ho) mNil))).trans ?_
     unfold poE;rw[if_neg hb,hi,if_neg (by simp),hal,if_neg (by simp)]
    | false=>
     obtain ⟨k,hk,hck,hbk⟩:=first_no hal
     refine⟨pofC m (pA h) (es (agId 0 1)) .ret 3 k,⟨mixed,tabOk,pofS_ok,oneL (pof_bad hm1 hV hk hck hbk)⟩,rfl,?_⟩
     refine(pof_ev1 n f m h _ k es er id).trans ?_
     rw[poT_eq,if_neg hb,rdR_eq hm0,toB_pt ho (by omega),Nat.zero_add,hi,cond_false]
     refine(req_true (stEq_mk rfl (mRow (row_pt ho) mNil))).trans ?_
     unfold poE;rw[if_neg hb,hi,if_neg (by simp),hal,if_pos rfl]
 | [],_,h=>simp[PofF,pickM]at h
 | _::_::_,_,h=>simp[PofF,pickM]at h
noncomputable def akyS:Sums:=[(71,CChkF)]
theorem akyS_ok:SumsOk Tryz.prog akyS:=sums_cons cchk_sum sums_nil
noncomputable def akyE:Ent:=inl tab akyS 11 Tryz.f69 (bodyOf Tryz.f69)
theorem akyE_ok:EntOk Tryz.prog 69 akyE:=inl_sum tabOk akyS_ok mixed Tryz.func69 (by kernel_rfl) (by kernel_rfl) rfl
noncomputable def alwS:Sums:=[(93,PrimeF),(92,CmpF)]
theorem alwS_ok:SumsOk Tryz.prog alwS:=sums_cons Prime_sum (sums_cons Cmp_sum sums_nil)
noncomputable def alwE:Ent:=inl tab alwS 7 Tryz.f72 (bodyOf Tryz.f72)
theorem alwE_ok:EntOk Tryz.prog 72 alwE:=inl_sum tabOk alwS_ok mixed Tryz.func72 (by kernel_rfl) (by kernel_rfl) rfl
noncomputable def arfS:Sums:=[(69,akyE),(70,lChF)]
theorem arfS_ok:SumsOk Tryz.prog arfS:=sums_consI akyE_ok (sums_cons lck_sum sums_nil)
noncomputable def arfE:Ent:=inl tab arfS 10 Tryz.f49 (bodyOf Tryz.f49)
theorem arfE_ok:EntOk Tryz.prog 49 arfE:=inl_sum tabOk arfS_ok mixed Tryz.func49 (by kernel_rfl) (by kernel_rfl) rfl
noncomputable def avfS:Sums:=[(69,akyE),(72,alwE)]
theorem avfS_ok:SumsOk Tryz.prog avfS:=sums_consI akyE_ok (sums_consI alwE_ok sums_nil)
noncomputable def avfE:Ent:=inl tab avfS 19 Tryz.f52 (bodyOf Tryz.f52)
theorem avfE_ok:EntOk Tryz.prog 52 avfE:=inl_sum tabOk avfS_ok mixed Tryz.func52 (by kernel_rfl) (by kernel_rfl) rfl
noncomputable def adfS:Sums:=[(52,avfE)]
theorem adfS_ok:SumsOk Tryz.prog adfS:=sums_consI avfE_ok sums_nil
noncomputable def adfE:Ent:=inl tab adfS 14 Tryz.f51 (bodyOf Tryz.f51)
theorem adfE_ok:EntOk Tryz.prog 51 adfE:=inl_sum tabOk adfS_ok mixed Tryz.func51 (by kernel_rfl) (by kernel_rfl) rfl
noncomputable def aftS:Sums:=[(49,arfE),(50,.me PofF),(51,adfE),(52,avfE)]
theorem aftS_ok:SumsOk Tryz.prog aftS:=sums_consI arfE_ok (sums_consM pof_msum (sums_consI adfE_ok (sums_consI avfE_ok sums_nil)))
noncomputable def aftE:Ent:=inl tab aftS 44 Tryz.f28 (bodyOf Tryz.f28)
theorem aftE_ok:EntOk Tryz.prog 28 aftE:=inl_sum tabOk aftS_ok mixed Tryz.func28 (by kernel_rfl) (by kernel_rfl) rfl
noncomputable def awhS:Sums:=[]
theorem awhS_ok:SumsOk Tryz.prog awhS:=sums_nil
noncomputable def awhE:Ent:=inl tab awhS 62 Tryz.f38 (bodyOf Tryz.f38)
theorem awhE_ok:EntOk Tryz.prog 38 awhE:=inl_sum tabOk awhS_ok mixed Tryz.func38 (by kernel_rfl) (by kernel_rfl) rfl
noncomputable def afoS:Sums:=[]
theorem afoS_ok:SumsOk Tryz.prog afoS:=sums_nil
noncomputable def afoE:Ent:=inl tab afoS 45 Tryz.f26 (bodyOf Tryz.f26)
theorem afoE_ok:EntOk Tryz.prog 26 afoE:=inl_sum tabOk afoS_ok mixed Tryz.func26 (by kernel_rfl) (by kernel_rfl) rfl
noncomputable def abrS:Sums:=[(38,awhE)]
theorem abrS_ok:SumsOk Tryz.prog abrS:=sums_consI awhE_ok sums_nil
noncomputable def abrE:Ent:=inl tab abrS 52 Tryz.f27 (bodyOf Tryz.f27)
theorem abrE_ok:EntOk Tryz.prog 27 abrE:=inl_sum tabOk abrS_ok mixed Tryz.func27 (by kernel_rfl) (by kernel_rfl) rfl
noncomputable def ackS:Sums:=[(26,afoE),(27,abrE),(28,aftE)]
theorem ackS_ok:SumsOk Tryz.prog ackS:=sums_consI afoE_ok (sums_consI abrE_ok (sums_consI aftE_ok sums_nil))
noncomputable def ackC:Cfg:=⟨tab,ackS,14,[]⟩
theorem ack_ev (i:Bool) (x y:Nat) (lab:ByteArray) (n:Nat) (f:Nat->List Value) (m:Nat) (h:Nat->List Value) (g:Int) (c r:Nat) (es:Nat->TypeId) (er:Nat->Nat->TypeId) (id:Nat):
  ∀k:Int,fnX ackC 60 Tryz.f9 (bodyOf Tryz.f9) (cArgsX [.ag (acA k (i,x,y) lab n f m h g (c,r))] 0) (cMemX es er [.ag (acA k (i,x,y) lab n f m h g (c,r))]) 0 id=
  ackT k i x y lab n m h g c r
 | .negSucc j=>by kernel_rfl
 | .ofNat 0=>by kernel_rfl
 | .ofNat 1=>by kernel_rfl
 | .ofNat 2=>by kernel_rfl
 | .ofNat 3=>by kernel_rfl
 | .ofNat 4=>by kernel_rfl
 | .ofNat 5=>by kernel_rfl
 | .ofNat (j+6)=>by kernel_rfl
theorem ack_msum:MSum Tryz.prog 9 CkeF:=by
 intro w0 R fm w hm vs args' hl mm hsub id hlt v l hpick hnew
 match vs,hl,hpick with
 | [a],hl,hpick=>
  obtain ⟨hc,rfl,rfl⟩:=pick_one hpick
  simp only[Bool.and_eq_true]at hc
  obtain ⟨hc,hz⟩:=hc
  obtain ⟨k,K,lab,s,c,g,X,n,f,m,q,ea,oK,oX,oX',hs,o1,hq,o2,eA⟩:=isA_some hc
  rw[eA]at hz ⊢
  clear eA hc
  subst ea
  refine msum_atX (c:=bodyOf Tryz.f9) (fuel:=60) (next:=0) Tryz.func9 (by kernel_rfl) (by kernel_rfl) hm hl hsub hlt
   (A:=[.ag (acA k K lab n f m q g X)]) ⟨⟨_,rfl,acA_ok hs hq⟩,trivial⟩ (by kernel_rfl) (by show 1<=Tryz.f9.ntmps;decide +kernel) (by intro p hp;cases hp) (fun es er=>?_)
  refine⟨ackC,⟨mixed,tabOk,ackS_ok,noL⟩,rfl,?_⟩
  exact(ack_ev K.1 K.2.1 K.2.2 lab n f m q g X.1 X.2 es er id k).trans (ackT_eq oK oX oX' o2 (Nat.le_of_ble_eq_true hz) k)
 | [],_,h=>simp[CkeF,pickM]at h
 | _::_::_,_,h=>simp[CkeF,pickM]at h
end Go.Proofs.YtckbmhegopjnmaaGreat

namespace Go.Proofs.YtckbmhegopjnmaaGreat
set_option maxRecDepth 100000
open Go.W
open Go.RowKit (Below)
def kbNt:List Nat:=[0,1,4,5]
def kbNi:List Nat:=[1500000,1500001]
def kbSt (n:Nat) (f:Nat->List Value) (m:Nat) (g:Nat->List Value) (e0 e1:Nat) (i:Int):St:=
 ⟨[(0,aSl 0 n),(1,aSl 1 m),(4,.bool false),(5,i64 i)],[(1500000,⟨.row kB n f,e0,false⟩),(1500001,⟨.row kB m g,e1,false⟩)],20⟩
def kbC0:Cfg:=⟨tab,[],26,[]⟩
theorem kbOk0:CfgOk Tryz.prog kbC0 (bodyOf Tryz.f12):=⟨mixed,tabOk,sums_nil,noL⟩
theorem kb_at:codeAt [1,1,0,1,0] (bodyOf Tryz.f12)=some (.loop (loopAt [1,1,0,1,0] (bodyOf Tryz.f12))):=by kernel_rfl
theorem kb_r (n:Nat) (f:Nat->List Value) (m:Nat) (g:Nat->List Value) (e0 e1:Nat) (i:Int):roundS kbC0 60 [1,1,0,1,0,0] (loopAt [1,1,0,1,0] (bodyOf Tryz.f12)) kbNt kbNi 20 kbNt kbNi 20 (kbSt n f m g e0 e1 i)=
  kbR n f m g i (some (.normal,kbSt n f m g e0 e1 (IntKind.i64.wrap (i+1)))) (some (.ret,kbSt n f m g e0 e1 i)) (some (.exit 0,kbSt n f m g e0 e1 i)):=by kernel_rfl
noncomputable def kbC (n:Nat) (f:Nat->List Value) (m:Nat) (g:Nat->List Value) (e0 e1:Nat) (e:Exit) (i:Int):Cfg:=⟨tab,[],26,[([1,1,0,1,0],atSt kbNt kbNi 20 (kbSt n f m g e0 e1 0) e (kbSt n f m g e0 e1 i))]⟩
theorem kb_ev0 (n:Nat) (f:Nat->List Value) (m:Nat) (g:Nat->List Value) (es:Nat->Nat) (i:Int) (id:Nat):fnMS (kbC n f m g (es 0) (es 1) (.exit 0) i) 60 Tryz.f12 (bodyOf Tryz.f12) (cArgs [.sl kB n f,.sl kB m g] 0) (cMem es [.sl kB n f,.sl kB m g] 0) 0 id=
  bif ((n:Nat):Int) != ((m:Nat):Int) then some (.bool false,[]) else req (stEq (kbSt n f m g (es 0) (es 1) 0) (kbSt n f m g (es 0) (es 1) 0)) (some (.bool true,[])):=by kernel_rfl
theorem kb_ev1 (n:Nat) (f:Nat->List Value) (m:Nat) (g:Nat->List Value) (es:Nat->Nat) (i:Int) (id:Nat):fnMS (kbC n f m g (es 0) (es 1) .ret i) 60 Tryz.f12 (bodyOf Tryz.f12) (cArgs [.sl kB n f,.sl kB m g] 0) (cMem es [.sl kB n f,.sl kB m g] 0) 0 id=
  bif ((n:Nat):Int) != ((m:Nat):Int) then some (.bool false,[]) else req (stEq (kbSt n f m g (es 0) (es 1) 0) (kbSt n f m g (es 0) (es 1) 0)) (some (.bool false,[])):=by kernel_rfl
theorem kb_ev2 (n:Nat) (f:Nat->List Value) (m:Nat) (g:Nat->List Value) (es:Nat->Nat) (id:Nat):fnMS ⟨tab,[],26,[([1,1,0,1,0],fun _=>[])]⟩ 60 Tryz.f12 (bodyOf Tryz.f12) (cArgs [.sl kB n f,.sl kB m g] 0) (cMem es [.sl kB n f,.sl kB m g] 0) 0 id=
  bif ((n:Nat):Int) != ((m:Nat):Int) then some (.bool false,[]) else none:=by kernel_rfl
theorem kb_msum:MSum Tryz.prog 12 KbF:=by
 intro w0 R fm w hm vs args' hl mm hsub id hlt v l hpick hnew
 match vs,hl,hpick with
 | [a,b],hl,hpick=>
  obtain ⟨hc,rfl,rfl⟩:=pick_one hpick
  simp only[Bool.and_eq_true]at hc
  obtain ⟨⟨ha,hb⟩,hn⟩:=hc
  generalize hqa:srcB mm kB a=qa at ha hn ⊢
  generalize hqb:srcB mm kB b=qb at hb ⊢
  obtain ⟨ok1,n,f⟩:=qa
  obtain ⟨ok2,m,g⟩:=qb
  simp only at ha hb hn ⊢
  subst ha hb
  have hn:=Nat.le_of_ble_eq_true hn
  have hA:AOk mm [a,b] [.sl kB n f,.sl kB m g]:=⟨hqa,hqb,trivial⟩
  refine msum_at (c:=bodyOf Tryz.f12) (fuel:=60) (next:=0) Tryz.func12 (by kernel_rfl) (by kernel_rfl) hm hl hsub hlt hA (by show 2<=Tryz.f12.ntmps;decide +kernel) (.inl rfl) hnew (fun es=>?_)
  have rounds:∀(k:Nat) (e:Exit) (i:Int),n=m->k<=n->(∀j,j<k->bI f j=bI g j)->e≠.normal->kbR n f m g (k:Int) (some (.normal,kbSt n f m g (es 0) (es 1) (IntKind.i64.wrap ((k:Int)+1)))) (some (.ret,kbSt n f m g (es 0) (es 1) (k:Int))) (some (.exit 0,kbSt n f m g (es 0) (es 1) (k:Int)))=some (e,kbSt n f m g (es 0) (es 1) i)->
    LoopOk Tryz.prog 26 (loopAt [1,1,0,1,0] (bodyOf Tryz.f12)) (atSt kbNt kbNi 20 (kbSt n f m g (es 0) (es 1) 0) e (kbSt n f m g (es 0) (es 1) i)):=by
   intro k e i hnm hk hj he hlast
   subst hnm
   refine atSt_ok fun w0 R a W hrel=>?_
   refine loop_rounds (R:=R) (C:=kbC0) kbOk0 kb_at (m:=60) (nt:=kbNt) (ni:=kbNi) (et:=kbNt) (ei:=kbNi) (nx:=20) (ex:=20) (e:=e) (sf:=kbSt n f n g (es 0) (es 1) i)
    (fun j=>kbSt n f n g (es 0) (es 1) (j:Int)) k he ?_ ?_ hrel
   ·intro j hjk
    refine(kb_r _ _ _ _ _ _ _).trans ?_
    rw[kbR_eq (by omega),if_pos (hj j hjk),wrap_i64 (by omega)];rfl
   ·exact(kb_r _ _ _ _ _ _ _).trans hlast
  by_cases hnm:n=m
  ·subst hnm
   have hne:((((n:Nat):Int) != ((n:Nat):Int)):Bool)=false:=bne_self_eq_false _
   by_cases hall:∀j,j<n->bI f j=bI g j
   ·refine⟨kbC n f n g (es 0) (es 1) (.exit 0) (n:Int),⟨mixed,tabOk,sums_nil,oneL (rounds n (.exit 0) (n:Int) rfl (Nat.le_refl _) hall (by intro h;cases h) (kbR_out _ _ _))⟩,rfl,?_⟩
    refine(kb_ev0 n f n g es _ id).trans ?_
    rw[hne,cond_false,req_true (stEq_refl rfl),eqR_iff.2 ⟨rfl,hall⟩]
   ·obtain ⟨k,h1,h2,h3⟩:=first_diff hall
    refine⟨kbC n f n g (es 0) (es 1) .ret (k:Int),⟨mixed,tabOk,sums_nil,oneL (rounds k .ret (k:Int) rfl (by omega) h3 (by intro h;cases h) (by rw[kbR_eq h1,if_neg h2]))⟩,rfl,?_⟩
    refine(kb_ev1 n f n g es _ id).trans ?_
    have:eqR n f n g=false:=by rw[Bool.eq_false_iff,ne_eq,eqR_iff];exact fun h=>hall h.2
    rw[hne,cond_false,req_true (stEq_refl rfl),this]
  ·refine⟨⟨tab,[],26,[([1,1,0,1,0],fun _=>[])]⟩,⟨mixed,tabOk,sums_nil,noneL2⟩,rfl,?_⟩
   refine(kb_ev2 n f m g es id).trans ?_
   have:eqR n f m g=false:=by rw[Bool.eq_false_iff,ne_eq,eqR_iff];exact fun h=>hnm h.1
   rw[show((((n:Nat):Int) != ((m:Nat):Int)):Bool)=true from by rw[bne_iff_ne];omega,cond_true,this]
 | [],_,h=>simp[KbF,pickM]at h
 | [_],_,h=>simp[KbF,pickM]at h
 | _::_::_::_,_,h=>simp[KbF,pickM]at h
def twnC:Cfg:=⟨tab,[],7,[]⟩
theorem twnOk:CfgOk Tryz.prog twnC (bodyOf Tryz.f15):=⟨mixed,tabOk,sums_nil,noL⟩
theorem twn_ev (n:Nat) (f:Nat->List Value) (es:Nat->Nat) (id:Nat):fnMS twnC 60 Tryz.f15 (bodyOf Tryz.f15) (cArgs [.sl kB n f] 0) (cMem es [.sl kB n f] 0) 0 id=
  req (Nat.ble n n&&true) (req (szOk n 1) (req (Nat.ble n n) (some (.slice (some ⟨nid id 0,0,none⟩) n n,[(nid id 0,⟨.row kB n (twF f),5,true⟩)])))):=by kernel_rfl
theorem twn_msum:MSum Tryz.prog 15 (TwnF 5):=by
 refine msum_of (fuel:=60) (next:=0) twnOk Tryz.func15 (by kernel_rfl) (by kernel_rfl) rfl fun vs mm id v l hpick hlt=>?_
 match vs,hpick with
 | [a],hpick=>
  obtain ⟨hc,rfl,rfl⟩:=pick_one hpick
  simp only[Bool.and_eq_true]at hc
  obtain ⟨ha,hs⟩:=hc
  generalize hqa:srcB mm kB a=qa at ha hs ⊢
  obtain ⟨ok1,n,f⟩:=qa
  simp only at ha hs ⊢
  subst ha
  refine⟨[.sl kB n f],⟨hqa,trivial⟩,by show 1<=Tryz.f15.ntmps;decide +kernel,.inr ⟨_,rfl⟩,fun es=>?_⟩
  have hnn:Nat.ble n n=true:=by rw[Nat.ble_eq];exact Nat.le_refl _
  exact(twn_ev n f es id).trans (by rw[hnn,hs];rfl)
 | [],h=>simp[TwnF,pickM]at h
 | _::_::_,h=>simp[TwnF,pickM]at h
end Go.Proofs.YtckbmhegopjnmaaGreat

namespace Go.Proofs.YtckbmhegopjnmaaGreat
set_option maxRecDepth 100000
open Go.W
open Go.RowKit (Below)
def cbyC:Cfg:=⟨tab,[(91,CkF),(68,BytesF),(106,BitF)],22,[]⟩
theorem cbyOk:CfgOk Tryz.prog cbyC (bodyOf Tryz.f89):=⟨mixed,tabOk,sums_cons cis_sum (sums_cons Bytes_sum (sums_cons Bit_sum sums_nil)),noL⟩
theorem cby_ev (i:Bool) (X Y:Nat) (es:Nat->Nat) (id:Nat):fnMS cbyC 60 Tryz.f89 (bodyOf Tryz.f89) (cArgs [.pl (ptV (i,X,Y))] 0) (cMem es [.pl (ptV (i,X,Y))] 0) 0 id=cBytT 5 id i (num X) (num Y):=by kernel_rfl
theorem cby_msum:MSum Tryz.prog 89 (CBytF 5):=by
 refine msum_of (fuel:=60) (next:=0) cbyOk Tryz.func89 (by kernel_rfl) (by kernel_rfl) rfl fun vs mm id v l hpick hlt=>?_
 match vs,hpick with
 | [a],hpick=>
  obtain ⟨r,hr,rfl⟩:∃r,okR r∧a=ptV r:=by
   cases hc:isPt a with
   | true=>exact isPt_some hc
   | false=>rw[CBytF_eq,hc]at hpick;simp[pickM]at hpick
  obtain ⟨i,X,Y⟩:=r
  refine⟨[.pl (ptV (i,X,Y))],⟨rfl,rfl,trivial⟩,by show 1<=Tryz.f89.ntmps;decide +kernel,CBytF_one hpick,fun es=>?_⟩
  exact(cby_ev i X Y es id).trans ((cBytT_eq hr.1 hr.2).trans hpick)
 | [],h=>simp[CBytF,pickM]at h
 | _::_::_,h=>simp[CBytF,pickM]at h
def crdC:Cfg:=⟨tab,[(95,ReadF),(97,SqAF),(96,RootF),(98,TrnF)],64,[]⟩
theorem crdOk:CfgOk Tryz.prog crdC (bodyOf Tryz.f75):=⟨mixed,tabOk,(sums_cons Read_sum (sums_cons csq_sum (sums_cons Root_sum (sums_cons ctrn_sum sums_nil)))),noL⟩
theorem crd_33 (f:Nat->List Value) (es:Nat->Nat) (id:Nat):fnMS crdC 60 Tryz.f75 (bodyOf Tryz.f75) (cArgs [.sl kB 33 f] 0) (cMem es [.sl kB 33 f] 0) 0 id=rd33 (bI f 0) (rdK (b32V f) (bI f 0)):=by kernel_rfl
theorem crd_1 (f:Nat->List Value) (es:Nat->Nat) (id:Nat):fnMS crdC 60 Tryz.f75 (bodyOf Tryz.f75) (cArgs [.sl kB 1 f] 0) (cMem es [.sl kB 1 f] 0) 0 id=rd1 (bI f 0):=by kernel_rfl
theorem crd_more (k:Nat) (f:Nat->List Value) (es:Nat->Nat) (id:Nat):fnMS crdC 60 Tryz.f75 (bodyOf Tryz.f75) (cArgs [.sl kB (k+34) f] 0) (cMem es [.sl kB (k+34) f] 0) 0 id=eT 7:=by kernel_rfl
theorem crd_less (f:Nat->List Value) (es:Nat->Nat) (id:Nat):∀n,n<33->n≠1->fnMS crdC 60 Tryz.f75 (bodyOf Tryz.f75) (cArgs [.sl kB n f] 0) (cMem es [.sl kB n f] 0) 0 id=eT 7
 | 0,_,_=>by kernel_rfl
 | 1,_,h=>absurd rfl h
 | 2,_,_=>by kernel_rfl
 | 3,_,_=>by kernel_rfl
 | 4,_,_=>by kernel_rfl
 | 5,_,_=>by kernel_rfl
 | 6,_,_=>by kernel_rfl
 | 7,_,_=>by kernel_rfl
 | 8,_,_=>by kernel_rfl
 | 9,_,_=>by kernel_rfl
 | 10,_,_=>by kernel_rfl
 | 11,_,_=>by kernel_rfl
 | 12,_,_=>by kernel_rfl
 | 13,_,_=>by kernel_rfl
 | 14,_,_=>by kernel_rfl
 | 15,_,_=>by kernel_rfl
 | 16,_,_=>by kernel_rfl
 | 17,_,_=>by kernel_rfl
 | 18,_,_=>by kernel_rfl
 | 19,_,_=>by kernel_rfl
 | 20,_,_=>by kernel_rfl
 | 21,_,_=>by kernel_rfl
 | 22,_,_=>by kernel_rfl
 | 23,_,_=>by kernel_rfl
 | 24,_,_=>by kernel_rfl
 | 25,_,_=>by kernel_rfl
 | 26,_,_=>by kernel_rfl
 | 27,_,_=>by kernel_rfl
 | 28,_,_=>by kernel_rfl
 | 29,_,_=>by kernel_rfl
 | 30,_,_=>by kernel_rfl
 | 31,_,_=>by kernel_rfl
 | 32,_,_=>by kernel_rfl
 | n+33,h,_=>absurd h (by omega)
theorem crd_msum:MSum Tryz.prog 75 RdF:=by
 refine msum_of (fuel:=60) (next:=0) crdOk Tryz.func75 (by kernel_rfl) (by kernel_rfl) rfl fun vs mm id v l hpick hlt=>?_
 match vs,hpick with
 | [a],hpick=>
  obtain ⟨hc,rfl,rfl⟩:=pick_one hpick
  simp only[Bool.and_eq_true]at hc
  obtain ⟨ha,hs⟩:=hc
  generalize hqa:srcB mm kB a=qa at ha hs ⊢
  obtain ⟨ok1,n,f⟩:=qa
  simp only at ha hs ⊢
  subst ha
  refine⟨[.sl kB n f],⟨hqa,trivial⟩,by show 1<=Tryz.f75.ntmps;decide +kernel,.inl trivial,fun es=>?_⟩
  exact rd_all (fun n=>fnMS crdC 60 Tryz.f75 (bodyOf Tryz.f75) (cArgs [.sl kB n f] 0) (cMem es [.sl kB n f] 0) 0 id) hs (crd_1 f es id) (crd_33 f es id) (fun h=>rdK_eq h) (crd_less f es id) (fun k=>crd_more k f es id)
 | [],h=>simp[RdF,pickM]at h
 | _::_::_,h=>simp[RdF,pickM]at h
def rrdC:Cfg:=⟨tab,[(81,InfF),(61,OfF),(45,CmpF),(44,PrimeF),(82,RootF),(63,AvF),(62,MvF),(83,SvF)],69,[]⟩
theorem rrdOk:CfgOk Tryz.prog rrdC (bodyOf Tryz.f60):=⟨mixed,tabOk,(sums_cons inf_sum (sums_cons OfR_sum (sums_cons CmpR_sum (sums_cons PrimeR_sum (sums_cons RootR_sum (sums_cons add_sum (sums_cons mul_sum (sums_cons sub_sum sums_nil)))))))),noL⟩
theorem rrd_33 (f:Nat->List Value) (es:Nat->Nat) (id:Nat):fnMS rrdC 60 Tryz.f60 (bodyOf Tryz.f60) (cArgs [.sl kB 33 f] 0) (cMem es [.sl kB 33 f] 0) 0 id=rd33 (bI f 0) (rrK (b32V f) (bI f 0)):=by kernel_rfl
theorem rrd_1 (f:Nat->List Value) (es:Nat->Nat) (id:Nat):fnMS rrdC 60 Tryz.f60 (bodyOf Tryz.f60) (cArgs [.sl kB 1 f] 0) (cMem es [.sl kB 1 f] 0) 0 id=rd1 (bI f 0):=by kernel_rfl
theorem rrd_more (k:Nat) (f:Nat->List Value) (es:Nat->Nat) (id:Nat):fnMS rrdC 60 Tryz.f60 (bodyOf Tryz.f60) (cArgs [.sl kB (k+34) f] 0) (cMem es [.sl kB (k+34) f] 0) 0 id=eT 7:=by kernel_rfl
theorem rrd_less (f:Nat->List Value) (es:Nat->Nat) (id:Nat):∀n,n<33->n≠1->fnMS rrdC 60 Tryz.f60 (bodyOf Tryz.f60) (cArgs [.sl kB n f] 0) (cMem es [.sl kB n f] 0) 0 id=eT 7
 | 0,_,_=>by kernel_rfl
 | 1,_,h=>absurd rfl h
 | 2,_,_=>by kernel_rfl
 | 3,_,_=>by kernel_rfl
 | 4,_,_=>by kernel_rfl
 | 5,_,_=>by kernel_rfl
 | 6,_,_=>by kernel_rfl
 | 7,_,_=>by kernel_rfl
 | 8,_,_=>by kernel_rfl
 | 9,_,_=>by kernel_rfl
 | 10,_,_=>by kernel_rfl
 | 11,_,_=>by kernel_rfl
 | 12,_,_=>by kernel_rfl
 | 13,_,_=>by kernel_rfl
 | 14,_,_=>by kernel_rfl
 | 15,_,_=>by kernel_rfl
 | 16,_,_=>by kernel_rfl
 | 17,_,_=>by kernel_rfl
 | 18,_,_=>by kernel_rfl
 | 19,_,_=>by kernel_rfl
 | 20,_,_=>by kernel_rfl
 | 21,_,_=>by kernel_rfl
 | 22,_,_=>by kernel_rfl
 | 23,_,_=>by kernel_rfl
 | 24,_,_=>by kernel_rfl
 | 25,_,_=>by kernel_rfl
 | 26,_,_=>by kernel_rfl
 | 27,_,_=>by kernel_rfl
 | 28,_,_=>by kernel_rfl
 | 29,_,_=>by kernel_rfl
 | 30,_,_=>by kernel_rfl
 | 31,_,_=>by kernel_rfl
 | 32,_,_=>by kernel_rfl
 | n+33,h,_=>absurd h (by omega)
theorem rrd_msum:MSum Tryz.prog 60 RdF:=by
 refine msum_of (fuel:=60) (next:=0) rrdOk Tryz.func60 (by kernel_rfl) (by kernel_rfl) rfl fun vs mm id v l hpick hlt=>?_
 match vs,hpick with
 | [a],hpick=>
  obtain ⟨hc,rfl,rfl⟩:=pick_one hpick
  simp only[Bool.and_eq_true]at hc
  obtain ⟨ha,hs⟩:=hc
  generalize hqa:srcB mm kB a=qa at ha hs ⊢
  obtain ⟨ok1,n,f⟩:=qa
  simp only at ha hs ⊢
  subst ha
  refine⟨[.sl kB n f],⟨hqa,trivial⟩,by show 1<=Tryz.f60.ntmps;decide +kernel,.inl trivial,fun es=>?_⟩
  exact rd_all (fun n=>fnMS rrdC 60 Tryz.f60 (bodyOf Tryz.f60) (cArgs [.sl kB n f] 0) (cMem es [.sl kB n f] 0) 0 id) hs (rrd_1 f es id) (rrd_33 f es id) (fun h=>rrK_eq h) (rrd_less f es id) (fun k=>rrd_more k f es id)
 | [],h=>simp[RdF,pickM]at h
 | _::_::_,h=>simp[RdF,pickM]at h
end Go.Proofs.YtckbmhegopjnmaaGreat

namespace Go.Proofs.YtckbmhegopjnmaaGreat
set_option maxRecDepth 100000
open Go.W
def spNt:List Nat:=[0,2]
def spNi:List Nat:=[1500000]
def spSt (m:Nat) (g:Nat->List Value) (e0:Nat) (o:Bool) (i:Int):St:=⟨[(0,aSl 0 m),(2,i64 i)],[(1500000,⟨.row kB m g,e0,o⟩)],4⟩
def spC0:Cfg:=⟨tab,[],17,[]⟩
theorem spOk0:CfgOk Tryz.prog spC0 (bodyOf Tryz.f17):=⟨mixed,tabOk,sums_nil,noL⟩
theorem sp_at:codeAt [1,0] (bodyOf Tryz.f17)=some (.loop (loopAt [1,0] (bodyOf Tryz.f17))):=by kernel_rfl
theorem sp_r (m:Nat) (g:Nat->List Value) (k:Nat):roundS spC0 60 [1,0,0] (loopAt [1,0] (bodyOf Tryz.f17)) spNt spNi 4 spNt spNi 4 (spSt m g 5 true (k:Int))=
  bif decide ((k:Int)<(m:Int)) then rdR k m (rdR k m (some (.normal,spSt m (updR g (0+k) [.int .u8 (IntKind.u8.wrap (bI g (0+k)+101))]) 5 true (IntKind.i64.wrap ((k:Int)+1)))))
  else some (.exit 0,spSt m g 5 true (k:Int)):=by kernel_rfl
theorem sp_loop {m:Nat}{g:Nat->List Value}(hm:m<=1000000):LoopOk Tryz.prog 17 (loopAt [1,0] (bodyOf Tryz.f17)) (atSt spNt spNi 4 (spSt m (spM g 0) 5 true 0) (.exit 0) (spSt m (spF g) 5 true (m:Int))):=by
 refine loopE (fun _=>spC0) m (fun _ _=>spOk0) (fun _=>rfl) sp_at (m:=60) (nt:=spNt) (ni:=spNi) (et:=spNt) (ei:=spNi) (nx:=4) (ex:=4) (fun k=>spSt m (spM g k) 5 true (k:Int)) rfl (by intro h;cases h) ?_ ?_
 ·intro k hk
  refine⟨_,?_,stEq_mk (sl:=[(0,aSl 0 m),(2,i64 ((k+1:Nat):Int))]) rfl (mRow (spM_step g k) mNil)⟩
  refine(sp_r m (spM g k) k).trans ?_
  rw[decide_eq_true (by omega),cond_true,rdR_eq hk,rdR_eq hk,wrap_i64 (by omega),Nat.zero_add];rfl
 ·refine⟨_,?_,stEq_mk (sl:=[(0,aSl 0 m),(2,i64 (m:Int))]) rfl (mRow (spM_all g m) mNil)⟩
  refine(sp_r m (spM g m) m).trans ?_
  rw[decide_eq_false (by omega),cond_false];rfl
noncomputable def spC (m:Nat) (g:Nat->List Value):Cfg:=⟨tab,[],17,[([1,0],atSt spNt spNi 4 (spSt m (spM g 0) 5 true 0) (.exit 0) (spSt m (spF g) 5 true (m:Int)))]⟩
theorem sp_ev (m:Nat) (g:Nat->List Value):fnO (spC m g) 60 Tryz.f17 (bodyOf Tryz.f17) [.slice (some ⟨argId 0,0,none⟩) m m] [(argId 0,⟨.row kB m g,5,true⟩)] 0 (argId 0)=
  req (stEq (spSt m g 5 true 0) (spSt m (spM g 0) 5 true 0)) (some (.tuple #[],some ⟨.row kB m (spF g),5,true⟩)):=by kernel_rfl
theorem sp_at0 (g:Nat->List Value) (e0:Nat):roundS spC0 60 [1,0,0] (loopAt [1,0] (bodyOf Tryz.f17)) spNt spNi 4 spNt spNi 4 (spSt 0 g e0 false 0)=some (.exit 0,spSt 0 g e0 false 0):=by kernel_rfl
theorem sp_loop0 {g:Nat->List Value}{e0:Nat}:LoopOk Tryz.prog 17 (loopAt [1,0] (bodyOf Tryz.f17)) (atSt spNt spNi 4 (spSt 0 g e0 false 0) (.exit 0) (spSt 0 g e0 false 0)):=
 loopE (fun _=>spC0) 0 (fun _ _=>spOk0) (fun _=>rfl) sp_at (m:=60) (nt:=spNt) (ni:=spNi) (et:=spNt) (ei:=spNi) (nx:=4) (ex:=4) (fun _=>spSt 0 g e0 false 0) rfl (by intro h;cases h) (fun k hk=>absurd hk (by omega)) ⟨_,sp_at0 g e0,stEq_refl rfl⟩
noncomputable def spCz (g:Nat->List Value) (e0:Nat):Cfg:=⟨tab,[],17,[([1,0],atSt spNt spNi 4 (spSt 0 g e0 false 0) (.exit 0) (spSt 0 g e0 false 0))]⟩
theorem sp_evz (g:Nat->List Value) (es:Nat->Nat):fnMS (spCz g (es 0)) 60 Tryz.f17 (bodyOf Tryz.f17) (cArgs [.sl kB 0 g] 0) (cMem es [.sl kB 0 g] 0) 0 0=req (stEq (spSt 0 g (es 0) false 0) (spSt 0 g (es 0) false 0)) (some (.tuple #[],[])):=by kernel_rfl
theorem spo_msum:MSum Tryz.prog 17 (SpoF 5):=by
 intro w0 R fm w hm vs args' hl mm hsub id hlt v l hpick hnew
 match vs,hl,hpick with
 | [a],hl,hpick=>
  obtain ⟨hc,rfl,rfl⟩:=pick_one hpick
  simp only[Bool.and_eq_true]at hc
  obtain ⟨ha,hn⟩:=hc
  generalize hqa:srcW mm kB 5 a=qa at ha hn ⊢
  obtain ⟨ok1,i,n,f⟩:=qa
  simp only at ha hn ⊢
  subst ha
  have hn:=Nat.le_of_ble_eq_true hn
  refine msum_wr (c:=bodyOf Tryz.f17) (fuel:=60) (next:=0) Tryz.func17 (by kernel_rfl) (by kernel_rfl) hm hl hsub hqa (by show 1<=Tryz.f17.ntmps;decide +kernel) rfl ?_ ?_
  ·refine⟨spC n f,⟨mixed,tabOk,sums_nil,oneL (sp_loop hn)⟩,rfl,?_⟩
   exact(sp_ev n f).trans (req_true (stEq_mk (sl:=[(0,aSl 0 n),(2,i64 0)]) rfl (mRow (spM_zero f) mNil)))
  ·intro _ f0 es
   refine⟨spCz f0 (es 0),⟨mixed,tabOk,sums_nil,oneL sp_loop0⟩,rfl,?_⟩
   exact(sp_evz f0 es).trans (req_true (stEq_refl rfl))
 | [],_,h=>simp[SpoF,pickM]at h
 | _::_::_,_,h=>simp[SpoF,pickM]at h
end Go.Proofs.YtckbmhegopjnmaaGreat

namespace Go.W
def IszF:List Value->Option (Bool×Value)
 | [.int .i64 s]=>some (true,.bool (bif decide (1<=s) then decide (s<=7) else false))
 | _=>none
def mkC (a b:Int):Bool:=decide (a<=b)&&decide (0<=a)&&szOk b.toNat 1&&true&&true&&true&&true&&true
theorem mkC_true {a:Nat}{k:Int}(hk:0<=k) (h:a+k<=2000000):mkC (a:Int) (IntKind.i64.wrap ((a:Int)+k))=true:=by
 unfold mkC
 rw[wrap_i64 (by omega),decide_eq_true (by omega),decide_eq_true (by omega),szOk_small (by omega)];rfl
def cpR (m:Nat) (g:Nat->List Value):Nat->List Value:=cpyF (fun _=>[z8]) 0 (min m m) (sgF m g)
theorem bI_cp {m:Nat}{g:Nat->List Value}{j:Nat}(h:j<m):bI (cpR m g) j=bI g j:=by
 unfold cpR
 rw[bI_cpy,Nat.min_self,if_pos h,bI_sg]
def CopF (e:Nat):List Value->(Nat->Option Blk)->Nat->List (Bool×Value×List (Nat×Blk))
 | [b,.int .i64 k],mm,id=>[((srcB mm kB b).1&&(Nat.ble (srcB mm kB b).2.1 1000000&&(decide (0<=k)&&decide (k<=1000000))),nSl id (srcB mm kB b).2.1,rw1 e id (srcB mm kB b).2.1 (cpR (srcB mm kB b).2.1 (srcB mm kB b).2.2))]
 | _,_,_=>[]
noncomputable def pkB (n s:Int):Bool:=hide (decide (pkOk n s))
theorem pkB_iff {n s:Int}:pkB n s=true↔pkOk n s:=by unfold pkB;rw[hide_eq,decide_eq_true_eq]
noncomputable def LaiF (e:Nat):List Value->(Nat->Option Blk)->Nat->List (Bool×Value×List (Nat×Blk))
 | [b,.int .i64 n,.int .i64 s],mm,id=>[((srcW mm kB e b).1&&(Nat.ble (srcW mm kB e b).2.2.1 900000&&pkB n s),nSl id ((srcW mm kB e b).2.2.1+s.toNat),
   [(nid id 0,⟨.row kB ((srcW mm kB e b).2.2.1+s.toNat) (pkR (srcW mm kB e b).2.2.1 (srcW mm kB e b).2.2.2 n s),e,true⟩),((srcW mm kB e b).2.1,⟨.lst [],e,false⟩)])]
 | _,_,_=>[]
theorem sh8i {i:Nat}(h:i<=7):IntKind.i64.wrap (8*(i:Int))=((8*i:Nat):Int):=by rw[wrap_i64 (by omega)];omega
theorem byt_i {n:Int}(hn:0<=n){i:Nat}(hi:i<=7):IntKind.u8.wrap (iShr .i64 n (IntKind.i64.wrap (8*(i:Int))))=((n.toNat / 2^(8*i)%256:Nat):Int):=by
 rw[sh8i hi,shr_n hn (by omega),wrap_u8];omega
theorem pk_id (m:Nat) (g:Nat->List Value) (n s:Int):∀j,j<m->nrmK kB (g j)=nrmK kB (pkR m g n s j):=fun j hj=>by
 rw[nrm_pk,nrm_kB]
 unfold pkJ
 rw[if_pos hj]
def iszB (s:Int):Bool:=bif decide (1<=s) then decide (s<=7) else false
theorem iszB_iff {s:Int}:iszB s=true↔1<=s∧s<=7:=by
 unfold iszB
 by_cases h:1<=s
 ·rw[decide_eq_true h,cond_true,decide_eq_true_eq];omega
 ·rw[decide_eq_false h,cond_false]
  exact⟨fun h=>by simp at h,fun h2=>absurd h2.1 h⟩
def kw (m:Nat):Bool:=true&&Nat.beq m m&&true&&Nat.ble m m
theorem kw_true (m:Nat):kw m=true:=by unfold kw;rw[Nat.beq_refl,bE (Nat.le_refl _)];rfl
theorem pk_cp (m:Nat) (g:Nat->List Value) (n s:Int) (L:Nat):∀j,j<L->nrmK kB (pkR m (cpR m (sgF m g)) n s j)=nrmK kB (pkR m g n s j):=fun j _=>by
 rw[nrm_pk,nrm_pk]
 unfold pkJ
 by_cases h:j<m
 ·rw[if_pos h,if_pos h,bI_cp h,bI_sg]
 ·rw[if_neg h,if_neg h]
def gtT2 (m:Nat) (a s:Int) (x:Option (Value×List (Nat×Blk))):Option (Value×List (Nat×Blk)):=
 bif !(iszB s) then gtErr 1 else bif decide (a<0) then gtErr 1 else bif decide (a > (m:Int)) then gtErr 1 else bif decide (s > IntKind.i64.wrap ((m:Int)-a)) then gtErr 7 else x
theorem gtT2_eq {m:Nat}(hm:m<=1000000) (a s:Int) (x:Option (Value×List (Nat×Blk))):gtT2 m a s x=if gtE0 m a s=0 then x else gtErr (gtE0 m a s):=by
 rw[<-gtT_eq hm a s x]
 unfold gtT2 gtT
 by_cases h1:s<1
 ·rw[show iszB s=false from by rw[Bool.eq_false_iff,ne_eq,iszB_iff];omega,decide_eq_true h1];rfl
 by_cases h2:s > 7
 ·rw[show iszB s=false from by rw[Bool.eq_false_iff,ne_eq,iszB_iff];omega,decide_eq_false h1,decide_eq_true h2];rfl
 rw[iszB_iff.2 (by omega),decide_eq_false h1,decide_eq_false h2];rfl
def paT {α:Type}(m:Nat) (X Y:Int) (x:Option α):Option α:=
 req (decide (0<=Y)&&decide (Y<=(m:Int))) (req (decide (0<=X)&&decide (X<=((Y.toNat:Nat):Int))) (req (Nat.ble Y.toNat m) x))
theorem paT_eq {α:Type}{m:Nat}{X Y:Int}(h0:0<=X) (h1:X<=Y) (h2:Y<=(m:Int)) (x:Option α):paT m X Y x=x:=by
 unfold paT
 rw[decide_eq_true (by omega),decide_eq_true (by omega),req_true (b:=true&&true) rfl,decide_eq_true (by omega),decide_eq_true (by omega),req_true (b:=true&&true) rfl,bE (by omega),req_true rfl]
def bdT {α:Type}(i:Int) (l c m:Nat) (x:Option α):Option α:=req (inR i c) (req (true&&Nat.ble (l+c) m) (req (Nat.blt i.toNat c&&true) x))
theorem bdT_eq {α:Type}{k l c m:Nat}(h:k<c) (h2:l+c<=m) (x:Option α):bdT (k:Int) l c m x=x:=by
 have:=bdI_eq h x
 unfold bdI at this
 unfold bdT
 rw[bE h2,req_true (b:=true&&true) rfl];exact this
theorem pp_cp (m:Nat) (g:Nat->List Value) (k:Nat) (p:Nat->List Value):∀j,j<m+4+k->nrmK kB (appF (m+4) (pkR m (cpR m (sgF m g)) (k:Nat) 4) (sgF k p) j)=nrmK kB (ppR m g k p j):=fun j hj=>by
 rw[<-pp_row m g k p j hj]
 unfold appF
 by_cases h:j<m+4
 ·rw[bL h,cond_true,cond_true,pk_cp m g _ _ (m+4) j h,nrm_pk,nrm_pk]
  unfold pkJ
  rw[bI_sg]
 ·rw[show Nat.blt j (m+4)=false from by rw[Bool.eq_false_iff,ne_eq,Nat.blt_eq];omega,cond_false,cond_false]
def gpC (e m:Nat) (g:Nat->List Value) (X N:Int) (id:Nat):Option (Value×List (Nat×Blk)):=
 paT m X (IntKind.i64.wrap (X+N))
  (req (kbT X.toNat ((IntKind.i64.wrap (X+N)).toNat-X.toNat) m&&(Nat.ble ((IntKind.i64.wrap (X+N)).toNat-X.toNat) 1000000&&(decide ((0:Int)<=0)&&decide ((0:Int)<=1000000)))) (req (Nat.ble ((IntKind.i64.wrap (X+N)).toNat-X.toNat) ((IntKind.i64.wrap (X+N)).toNat-X.toNat))
   (some (.tuple #[nSl id ((IntKind.i64.wrap (X+N)).toNat-X.toNat),i64 (IntKind.i64.wrap (X+N)),i64 0],rw1 e id ((IntKind.i64.wrap (X+N)).toNat-X.toNat) (cpR ((IntKind.i64.wrap (X+N)).toNat-X.toNat) (sgA X.toNat ((IntKind.i64.wrap (X+N)).toNat-X.toNat) m g))))))
theorem gpC_eq {e m:Nat}{g:Nat->List Value}{x n id:Nat}(hm:m<=1000000) (h:x+n<=m):gpC e m g (x:Int) (n:Int) id=some (.tuple #[nSl id n,i64 ((x:Int)+(n:Int)),i64 0],rw1 e id n (cpR n (sgA x n m g))):=by
 unfold gpC
 rw[wrap_i64 (by omega),paT_eq (by omega) (by omega) (by omega),show((x:Int)+(n:Int)).toNat=x+n from by omega,Int.toNat_natCast,show x+n-x=n from by omega,kbT_true h,bE (show n<=1000000 by omega),req_true (b:=true&&(true&&(decide ((0:Int)<=0)&&decide ((0:Int)<=1000000)))) rfl,bE (Nat.le_refl _),req_true rfl]
theorem gp_cp (m:Nat) (g:Nat->List Value) (a:Int) (n:Nat):∀j,j<n->nrmK kB (cpR n (sgA (a.toNat+4) n m g) j)=nrmK kB (gpR g a j):=fun j h=>by
 rw[nrm_kB,nrm_kB,bI_cp h,bI_sgA,bI_gp]
noncomputable def gpT (e m:Nat) (g:Nat->List Value) (a:Int) (id:Nat):Option (Value×List (Nat×Blk)):=
 bif gtE m a 4 != 0 then gpErr (gtE m a 4) else bif decide (gtN m (sgF m g) a 4 > 16384) then gpErr 7 else bif decide (gtN m (sgF m g) a 4 > IntKind.i64.wrap ((m:Int)-gtX m a 4)) then gpErr 7 else gpC e m g (gtX m a 4) (gtN m (sgF m g) a 4) id
theorem gpT_good {e m:Nat}{g:Nat->List Value}{a:Int}(hm:m<=1000000) (hok:gpE0 m g a=0) (id:Nat):
  gpT e m g a id=some (.tuple #[nSl id (gtV g a.toNat 4),i64 (a+4+((gtV g a.toNat 4:Nat):Int)),i64 0],[(nid id 0,⟨.row kB (gtV g a.toNat 4) (cpR (gtV g a.toNat 4) (sgA (a.toNat+4) (gtV g a.toNat 4) m g)),e,true⟩)]):=by
 obtain ⟨h0,⟨h4,h5⟩,hn,hv⟩:=gpE0_ok hok
 obtain ⟨e1,e2,e3⟩:=gt_hid (g:=sgF m g) h0
 rw[gtV_sg,show((4:Int).toNat)=4 from rfl]at e3
 unfold gpT
 rw[e1,e2,e3,decide_eq_false (by omega),wrap_i64 (by omega),decide_eq_false (by omega),show a+4=((a.toNat+4:Nat):Int) from by omega]
 show gpC e m g ((a.toNat+4:Nat):Int) ((gtV g a.toNat 4:Nat):Int) id=_
 rw[gpC_eq hm hv];rfl
theorem gpT_bad {e m:Nat}{g:Nat->List Value}{a:Int}(hm:m<=1000000) (hok:¬gpE0 m g a=0) (id:Nat):gpT e m g a id=some (.tuple #[.slice none 0 0,i64 0,i64 (gpE0 m g a)],[]):=by
 rw[<-gp_bad (e:=e) hm hok id]
 unfold gpT
 by_cases h0:gtE0 m a 4=0
 ·obtain ⟨e1,e2,e3⟩:=gt_hid (g:=sgF m g) h0
  rw[gtV_sg,show((4:Int).toNat)=4 from rfl]at e3
  obtain ⟨_,_,h4,h5⟩:=gtE0_ok h0
  have hx:(16384:Int)<(gtV g a.toNat 4:Nat)∨(m:Int)-(a+4)<(gtV g a.toNat 4:Nat):=by
   refine Decidable.byContradiction fun hx=>hok ?_
   unfold gpE0
   rw[if_neg (fun h=>h h0),if_neg hx]
  rw[e1,e2,e3,wrap_i64 (show -9223372036854775808<=(m:Int)-(a+4)∧(m:Int)-(a+4)<9223372036854775808 by omega)]
  by_cases h6:(16384:Int)<(gtV g a.toNat 4:Nat)
  ·rw[decide_eq_true (show((gtV g a.toNat 4:Nat):Int) > 16384 from h6)];rfl
  ·have h7:(m:Int)-(a+4)<(gtV g a.toNat 4:Nat):=hx.resolve_left h6
   rw[decide_eq_true (show((gtV g a.toNat 4:Nat):Int) > (m:Int)-(a+4) from h7)];rfl
 ·have e1:gtE m a 4=gtE0 m a 4:=by unfold gtE;rw[hide_eq]
  rw[e1,show(gtE0 m a 4 != 0)=true from by rw[bne_iff_ne];exact h0];rfl
end Go.W
