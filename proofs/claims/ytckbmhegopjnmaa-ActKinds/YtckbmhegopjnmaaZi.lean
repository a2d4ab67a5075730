/-
  Several texts in one: Yr W41 M110 Yg M111 Yi M112 M113 M92 M114 M115 Yl W42.
-/
import Derived.Test.YtckbmhegopjnmaaZh
namespace Go.Proofs.Ytckbmhegopjnmaa
set_option maxRecDepth 100000
open Go.W
noncomputable def aprS:Sums:=[(33,.me (RdrF 54 pntR)),(56,.me (RdrF 54 bkR)),(57,.pl OfF)]
theorem aprS_ok:SumsOk Try.prog aprS:=sums_consM apn_msum (sums_consM abk_msum (sums_cons Of_sum sums_nil))
noncomputable def aprE:Ent:=inl tab aprS 13 Try.f37 (bodyOf Try.f37)
theorem aprE_ok:EntOk Try.prog 37 aprE:=inl_sum tabOk aprS_ok mixed Try.func37 (by kernel_rfl) (by kernel_rfl) rfl
noncomputable def afrS:Sums:=[(32,.me (RdrF 54 nuR)),(33,.me (RdrF 54 pntR)),(34,.me (RdrF 54 txR)),(35,.me (RdrF 54 (slR 94))),(36,.me (RdrF 54 (cmR 26))),(37,aprE)]
theorem afrS_ok:SumsOk Try.prog afrS:=sums_consM anu_msum (sums_consM apn_msum (sums_consM atx_msum (sums_consM asl_msum (sums_consM acm_msum (sums_consI aprE_ok sums_nil)))))
noncomputable def afrE:Ent:=inl tab afrS 39 Try.f18 (bodyOf Try.f18)
theorem afrE_ok:EntOk Try.prog 18 afrE:=inl_sum tabOk afrS_ok mixed Try.func18 (by kernel_rfl) (by kernel_rfl) rfl
noncomputable def aidE:Ent:=inl tab [] 20 Try.f19 (bodyOf Try.f19)
theorem aidE_ok:EntOk Try.prog 19 aidE:=inl_sum tabOk sums_nil mixed Try.func19 (by kernel_rfl) (by kernel_rfl) rfl
noncomputable def ardS:Sums:=[(18,afrE),(19,aidE),(20,aftE),(21,awhE)]
theorem ardS_ok:SumsOk Try.prog ardS:=sums_consI afrE_ok (sums_consI aidE_ok (sums_consI aftE_ok (sums_consI awhE_ok sums_nil)))
noncomputable def ardC:Cfg:=⟨tab,ardS,23,[]⟩
theorem ardC_ok:CfgOk Try.prog ardC (bodyOf Try.f9):=⟨mixed,tabOk,ardS_ok,noL⟩
theorem ard_ev (es:Nat->TypeId) (er:Nat->Nat->TypeId) (m id:Nat) (g:Nat->List Value):fnX ardC 60 Try.f9 (bodyOf Try.f9) (cArgsX [.c (.sl kB m g)] 0) (cMemX es er [.c (.sl kB m g)]) 0 id=ldT m g (ldT2a 94 26 id m g (nuA m 0) (nuZ m 0 false)):=by kernel_rfl
theorem ard_msum:MSum Try.prog 9 (RacF 94 26):=by
 intro w0 R fm w hm vs args' hl mm hsub id hlt v l hpick hnew
 match vs,hl,hpick with
 | [a],hl,hpick =>
  obtain ⟨hc,rfl,rfl⟩:=pick_one hpick
  simp only[Bool.and_eq_true] at hc
  obtain ⟨⟨h0,h1⟩,hg⟩:=hc
  have hm1:=Nat.le_of_ble_eq_true h1
  obtain ⟨m,g,hs⟩:∃m g,srcB mm kB a=(true,m,g):=⟨(srcB mm kB a).2.1,(srcB mm kB a).2.2,by rw[<-h0]⟩
  rw[hs] at hg hm1 hnew ⊢
  simp only at hg hm1 hnew ⊢
  have f1:fm (nid id 1)=none:=(hnew _ (List.mem_cons_self ..)).1 (by unfold nid;omega)
  have f0:fm (nid id 0)=none:=(hnew (nid id 0,_) (List.mem_cons_of_mem _ (List.mem_cons_self ..))).1 (by unfold nid;omega)
  refine ld_done hlt f0 f1 (ldT_eq 94 26 id hm1 hg) fun v l hr hfree=>?_
  exact msum_atX (c:=bodyOf Try.f9) (fuel:=60) (next:=0) Try.func9 (by kernel_rfl) (by kernel_rfl) hm hl hsub hlt (A:=[.c (.sl kB m g)]) ⟨⟨hs,fun _ e=>by cases e⟩,trivial⟩ (by kernel_rfl) (by show 1<=Try.f9.ntmps;decide +kernel) hfree
   fun es er=>⟨ardC,ardC_ok,rfl,(ard_ev es er m id g).trans hr⟩
 | [],_,h=>simp[RacF,pickM] at h
 | _::_::_,_,h=>simp[RacF,pickM] at h
end Go.Proofs.Ytckbmhegopjnmaa

namespace Go.W
open Go
theorem cellW_src {w:World} {ks:List CK} {n:Nat} {g:Nat->List Value} {v':Value} (h:SrcW w ks n g v'):∃e er p,CellW w e er p (.sl ks n g) v':=by
 obtain ⟨p,e,h1,h2⟩:=h
 refine⟨e,fun _=>0,p,h1,?_⟩
 cases hpa:p.a with
 | none=>rw[hpa] at h2;exact h2
 | some b =>
  rw[hpa] at h2
  obtain ⟨h3,cs,fz,h4,h5⟩:=h2
  refine⟨h3,cs,fz,h4,?_⟩
  have:=(LR_plain (r:=V0 (fun _ _=>False)) (pl:=pl0) (fun _ _ hv=>V0_plain hv) (rowL_pl ks g n 0)).1 h5
  rw[rowL_len] at this;exact this
theorem LX_pl (w:World):∀l:List Value,LX w (l.map .pl) l
 | []=>trivial
 | _::l=>⟨⟨0,fun _=>0,⟨none,0,0⟩,rfl⟩,LX_pl w l⟩
def acR (A:AR):List AC:=acA A.k A.K A.l A.n (slF A.S) A.m (ptF A.V) A.g A.X
def ActW (w:World) (A:AR) (v:Value):Prop:=∃s c,v=.agg (acC A.k A.K A.l s c A.g A.X).toArray∧SrcW w k32 A.n (slF A.S) s∧SrcW w kP9 A.m (ptF A.V) c
def ActO (A:AR):Prop:=okR A.K∧A.X.1<2^256∧A.X.2<2^256∧(∀i,A.S i<2^256)∧∀i,okR (A.V i)
theorem LX_act {w:World} {A:AR} {v:Value} (h:ActW w A v) {r:List AV} {vs:List Value} (hr:LX w (cellsX r) (flatV r vs)):LX w (cellsX (.ag (acR A)::r)) (flatV (.ag (acR A)::r) (v::vs)):=by
 obtain ⟨s,c,rfl,h1,h2⟩:=h
 have e1:cellsX (.ag (acR A)::r)=acR A++cellsX r:=rfl
 have e2:flatV (.ag (acR A)::r) (Value.agg (acC A.k A.K A.l s c A.g A.X).toArray::vs)=acC A.k A.K A.l s c A.g A.X++flatV r vs:=rfl
 rw[e1,e2]
 refine LX_app ?_ hr
 show LX w ([AC.pl (i64 A.k)]++((ptC A.K).map .pl++([AC.pl (.string A.l)]++(.sl k32 A.n (slF A.S)::.sl kP9 A.m (ptF A.V)::([AC.pl (i64 A.g)]++(prL A.X).map .pl))))) ([i64 A.k]++(ptC A.K++([.string A.l]++(s::c::([i64 A.g]++prL A.X)))))
 refine LX_app (LX_pl w [i64 A.k]) (LX_app (LX_pl w _) (LX_app (LX_pl w [.string A.l]) ⟨cellW_src h1,cellW_src h2,LX_app (LX_pl w [i64 A.g]) (LX_pl w _)⟩))
theorem shX_act {w:World} {A:AR} {v:Value} (h:ActW w A v) {r:List AV} {vs:List Value} (hr:shX r vs):shX (.ag (acR A)::r) (v::vs):=by
 obtain ⟨s,c,rfl,_,_⟩:=h
 refine⟨⟨_,rfl,rfl⟩,?_,hr⟩
 intro x hx
 unfold acR acA at hx
 simp only[List.mem_cons,List.mem_append,List.mem_map,AC.pl.injEq,reduceCtorEq,false_or,exists_eq_right] at hx
 rcases hx with rfl | hx | rfl | rfl | hx
 ·rfl
 ·have:∀u∈ptC A.K,pl0 u=true:=by
   obtain ⟨⟨i,x,y⟩,_⟩:∃K,K=A.K:=⟨_,rfl⟩
   intro u hu
   unfold ptC at hu
   simp only[List.mem_cons,List.mem_nil_iff,or_false] at hu
   rcases hu with rfl | rfl | rfl | rfl | rfl | rfl | rfl | rfl | rfl<;>rfl
  exact this x hx
 ·rfl
 ·rfl
 ·unfold prL at hx
  simp only[List.mem_cons,List.mem_nil_iff,or_false] at hx
  rcases hx with rfl | rfl | rfl | rfl | rfl | rfl | rfl | rfl<;>rfl
theorem LX_pl1 {w:World} {u:Value} {r:List AV} {vs:List Value} (hr:LX w (cellsX r) (flatV r vs)):LX w (cellsX (.c (.pl u)::r)) (flatV (.c (.pl u)::r) (u::vs)):=⟨⟨0,fun _=>0,⟨none,0,0⟩,rfl⟩,hr⟩
theorem shX_pl1 {u:Value} (hu:pl2 u=true) {r:List AV} {vs:List Value} (hr:shX r vs):shX (.c (.pl u)::r) (u::vs):=⟨fun v e=>(by cases e;exact hu),hr⟩
end Go.W

namespace Go.W
open Go
noncomputable def isAw (mm:Nat->Option Blk) (v:Value):Bool :=
 aggK v (fun l=>Nat.beq l.length 22&&(isI (nV 0 l)&&(isPt (cKey l)&&(isT (nV 10 l)&&(isI (nV 13 l)&&(isPrf (cPrf l) &&
  ((srcB mm k32 (nV 11 l)).1&&(srcB mm kP9 (nV 12 l)).1))))))) false
theorem isAw_some {mm:Nat->Option Blk} {v:Value} (h:isAw mm v=true):∃k K lab s c g X n f m q,v=acV k K lab s c g X∧okR K∧X.1<2^256∧X.2<2^256 ∧
  srcB mm k32 s=(true,n,f)∧srcB mm kP9 c=(true,m,q)∧unA mm v=⟨k,K,lab,n,slA f,m,pA q,g,X⟩:=by
 unfold isAw aggK at h
 split at h
 ·rename_i cs
  obtain ⟨l,hc⟩:∃l,cs=List.toArray l:=⟨cs.toList,by simp⟩
  subst hc
  rw[List.toList_toArray] at h
  simp only[Bool.and_eq_true] at h
  obtain ⟨hl,h0,hK,hT,hg,hX,h1,h3⟩:=h
  have hl:l.length=22:=nbeq.1 hl
  match l,hl with
  | [c0,c1,c2,c3,c4,c5,c6,c7,c8,c9,c10,c11,c12,c13,c14,c15,c16,c17,c18,c19,c20,c21],_ =>
   obtain ⟨k,e0⟩:∃k,c0=i64 k:=by
    have h0:isI c0=true:=h0
    unfold isI at h0
    split at h0
    ·exact⟨_,rfl⟩
    ·cases h0
   obtain ⟨lab,e1⟩:∃lab,c10=.string lab:=by
    have h0:isT c10=true:=hT
    unfold isT at h0
    split at h0
    ·exact⟨_,rfl⟩
    ·cases h0
   obtain ⟨g,e2⟩:∃k,c13=i64 k:=by
    have h0:isI c13=true:=hg
    unfold isI at h0
    split at h0
    ·exact⟨_,rfl⟩
    ·cases h0
   obtain ⟨K,oK,eK⟩:=isPt_some hK
   obtain ⟨X,oX,eX⟩:=isPrf_some hX
   have eK1:[c1,c2,c3,c4,c5,c6,c7,c8,c9]=ptC K:=congrArg (fun v:Value=>v.cells.toList) eK
   have eX1:[c14,c15,c16,c17,c18,c19,c20,c21]=prL X:=congrArg (fun v:Value=>v.cells.toList) eX
   have hv:Value.agg [c0,c1,c2,c3,c4,c5,c6,c7,c8,c9,c10,c11,c12,c13,c14,c15,c16,c17,c18,c19,c20,c21].toArray=acV k K lab c11 c12 g X:=by
    unfold acV
    congr 2
    show[c0]++([c1,c2,c3,c4,c5,c6,c7,c8,c9]++([c10]++(c11::c12::([c13]++[c14,c15,c16,c17,c18,c19,c20,c21]))))=_
    rw[e0,e1,e2,eK1,eX1];rfl
   refine⟨k,K,lab,c11,c12,g,X,(srcB mm k32 c11).2.1,(srcB mm k32 c11).2.2,(srcB mm kP9 c12).2.1,(srcB mm kP9 c12).2.2,hv,oK,oX.1,oX.2,?_,?_,?_⟩
   ·rw[<-show(srcB mm k32 c11).1=true from h1]
   ·rw[<-show(srcB mm kP9 c12).1=true from h3]
   ·show(⟨inV c0,unPt (cKey [c0,c1,c2,c3,c4,c5,c6,c7,c8,c9,c10,c11,c12,c13,c14,c15,c16,c17,c18,c19,c20,c21]),teV c10,_,_,_,_,inV c13,unPrf (cPrf [c0,c1,c2,c3,c4,c5,c6,c7,c8,c9,c10,c11,c12,c13,c14,c15,c16,c17,c18,c19,c20,c21])⟩:AR)=_
    rw[eK,eX,unPt_ptV oK,unPrf_prV oX.1 oX.2,e0,e1,e2];rfl
 ·cases h
def hvyB (A:AR):Bool:=decide (500<A.l.size)||(decide (70<A.n)||decide (70<A.m))
noncomputable def HvyF:List Value->(Nat->Option Blk)->Nat->List (Bool×Value×List (Nat×Blk))
 | [a],mm,_=>[(isAw mm a,.bool (hvyB (unA mm a)),[])]
 | _,_,_=>[]
def hvyT (lab:ByteArray) (n m:Nat):OR:=bif decide ((lab.size:Int) > 500) then some (.bool true,[]) else bif decide ((n:Int) > 70) then some (.bool true,[]) else some (.bool (decide ((m:Int) > 70)),[])
theorem hvyT_eq (k:Int) (K:RP) (lab:ByteArray) (n:Nat) (S:Nat->Nat) (m:Nat) (V:Nat->RP) (g:Int) (X:Nat×Nat):hvyT lab n m=some (.bool (hvyB ⟨k,K,lab,n,S,m,V,g,X⟩),[]):=by
 unfold hvyT hvyB
 simp only
 have e:∀(a b:Nat),decide ((a:Int) > (b:Int))=decide (b<a):=fun a b=>by
  by_cases h:b<a
  ·rw[decide_eq_true h,decide_eq_true (by omega)]
  ·rw[decide_eq_false h,decide_eq_false (by omega)]
 rw[show((500:Int))=((500:Nat):Int) from rfl,show((70:Int))=((70:Nat):Int) from rfl,e,e,e]
 cases decide (500<lab.size)<;>cases decide (70<n)<;>rfl
end Go.W

namespace Go.Proofs.Ytckbmhegopjnmaa
set_option maxRecDepth 100000
open Go.W
def hvyC:Cfg:=⟨tab,[],19,[]⟩
theorem hvy_ev (k:Int) (i:Bool) (x y:Nat) (lab:ByteArray) (n:Nat) (f:Nat->List Value) (m:Nat) (h:Nat->List Value) (g:Int) (c r:Nat) (es:Nat->TypeId) (er:Nat->Nat->TypeId) (id:Nat) :
  fnX hvyC 60 Try.f6 (bodyOf Try.f6) (cArgsX [.ag (acA k (i,x,y) lab n f m h g (c,r))] 0) (cMemX es er [.ag (acA k (i,x,y) lab n f m h g (c,r))]) 0 id=hvyT lab n m:=by kernel_rfl
theorem hvy_msum:MSum Try.prog 6 HvyF:=by
 intro w0 R fm w hm vs args' hl mm hsub id hlt v l hpick hnew
 match vs,hl,hpick with
 | [a],hl,hpick =>
  obtain ⟨hc,rfl,rfl⟩:=pick_one hpick
  obtain ⟨k,K,lab,s,c,g,X,n,f,m,q,ea,oK,oX,oX',hs,hq,eA⟩:=isAw_some hc
  rw[eA]
  clear eA hc hpick
  subst ea
  refine msum_atX (c:=bodyOf Try.f6) (fuel:=60) (next:=0) Try.func6 (by kernel_rfl) (by kernel_rfl) hm hl hsub hlt
   (A:=[.ag (acA k K lab n f m q g X)]) ⟨⟨_,rfl,acA_ok hs hq⟩,trivial⟩ (by kernel_rfl) (by show 1<=Try.f6.ntmps;decide +kernel) (by intro p hp;cases hp) (fun es er=>?_)
  refine⟨hvyC,⟨mixed,tabOk,sums_nil,noL⟩,rfl,?_⟩
  exact(hvy_ev k K.1 K.2.1 K.2.2 lab n f m q g X.1 X.2 es er id).trans (hvyT_eq _ _ _ _ _ _ _ _ _)
 | [],_,h=>simp[HvyF,pickM] at h
 | _::_::_,_,h=>simp[HvyF,pickM] at h
end Go.Proofs.Ytckbmhegopjnmaa

namespace Go.W
open Go
def wkF1:Nat->List Value:=lstF [.int .u8 5] 0 1
def wkF2:Nat->List Value:=lstF [.int .u8 5,.int .u8 0] 0 1
noncomputable def wk12T:Option Value :=
 req (okY 1 wkF1) (req (okY 2 wkF2) (bif raE (lsB 1 wkF1)==0 then bif (raA (lsB 1 wkF1)).k==5 then some (.bool (raE (lsB 2 wkF2)==7)) else some (.bool false) else some (.bool false)))
theorem raE_yes {L:List Nat} (h:isRd L):raE L=0:=by unfold raE;rw[hide_eq,raB_yes h,if_pos rfl]
theorem raE_no {L:List Nat} (h:¬isRd L):raE L=7:=by unfold raE;rw[hide_eq,raB_no h,if_neg (by decide)]
def acW:AR:=⟨5,zR,⟨#[]⟩,0,fun _=>0,0,fun _=>zR,0,(0,0)⟩
theorem acW_right:Right acW:=.inr (.inr (.inr (.inr ⟨rfl,rfl,rfl,rfl,rfl,rfl,rfl⟩)))
theorem wk12T_eq:wk12T=some (.bool true):=by
 have e1:lsB 1 wkF1=[5]:=by decide +kernel
 have e2:lsB 2 wkF2=[5,0]:=by decide +kernel
 have o1:okY 1 wkF1=true:=okY_iff.2 fun j hj=>by
  have:j=0:=by omega
  subst this;decide +kernel
 have o2:okY 2 wkF2=true:=okY_iff.2 fun j hj=>by
  have:j=0∨j=1:=by omega
  rcases this with rfl | rfl<;>decide +kernel
 have hw:Wsl acW:=fun j hj=>absurd hj (Nat.not_lt_zero _)
 have hr:isRd [5]:=⟨acW,acW_right,hw,rfl⟩
 have hn:¬isRd [5,0]:=by
  rintro ⟨a,ha,hwa,e⟩
  have:=(wr0_uni (s:=[0]) (t:=[]) acW_right ha hw hwa (by rw[e];rfl)).2
  cases this
 have hk:(raA [5]).k=5:=(raA_of acW_right hw rfl).1.symm
 unfold wk12T
 rw[e1,e2,o1,o2,req_true rfl,req_true rfl,raE_yes hr,raE_no hn,hk];rfl
def Wk12F:List Value->Option (Bool×Value)
 | []=>some (true,.bool true)
 | _=>none
end Go.W

namespace Go.Proofs.Ytckbmhegopjnmaa
set_option maxRecDepth 100000
open Go.W
noncomputable def wk12S:Sums:=[(9,.me (RacF 94 26))]
theorem wk12S_ok:SumsOk Try.prog wk12S:=sums_consM ard_msum sums_nil
noncomputable def wk12C:Cfg:=⟨tab,wk12S,26,[]⟩
theorem wk12Ok:CfgOk Try.prog wk12C (bodyOf Try.f8):=⟨mixed,tabOk,wk12S_ok,noL⟩
theorem wk12_ev:fnS wk12C 60 Try.f8 (bodyOf Try.f8) []=wk12T:=by kernel_rfl
theorem wk12_sum:Sum Try.prog 8 Wk12F:=by
 refine sum_of wk12Ok Try.func8 (by kernel_rfl) (by kernel_rfl) rfl (fuel:=60) fun args v h hpl=>?_
 unfold Wk12F at h
 split at h
 ·simp only[Option.some.injEq,Prod.mk.injEq] at h
  obtain ⟨_,rfl⟩:=h
  exact⟨Nat.zero_le _,wk12_ev.trans wk12T_eq,rfl⟩
 ·simp at h
end Go.Proofs.Ytckbmhegopjnmaa

namespace Go.W
open Go
def gVa (A:AR):Value:=acV A.k A.K A.l (bsS A.n) (bsC A.m) A.g A.X
def gMe (n:Nat) (f:Nat->List Value) (m:Nat) (h:Nat->List Value):Nat->Option Blk:=look [bsR 0 n f,bcR 0 m h]
noncomputable def okG (A:AR) (f h:Nat->List Value):Bool:=isA (gMe A.n f A.m h) (gVa A)
def unG (A:AR) (f h:Nat->List Value):AR:=unA (gMe A.n f A.m h) (gVa A)
noncomputable def okGs (A:AR) (f h:Nat->List Value):Bool:=okG A f h&&Nat.ble (unG A f h).l.size 1000000
theorem unG_l (A:AR) (f h:Nat->List Value):(unG A f h).l=A.l:=rfl
theorem okG_eq {A:AR} {f h:Nat->List Value} (h1:okSl A.n f=true) (h2:okP A.m h=true):okG A f h=true :=
 isA_ac (src_bs 0 0 A.n A.m f h).1 (by rw[okSl_sg];exact h1) (src_bs 0 0 A.n A.m f h).2 (by rw[okP_sg];exact h2)
theorem unG_eq {A:AR} {f h:Nat->List Value} (hK:okR A.K) (hX:A.X.1<2^256) (hX':A.X.2<2^256):unG A f h=⟨A.k,A.K,A.l,A.n,slA f,A.m,pA h,A.g,A.X⟩:=by
 have:=unA_ac (k:=A.k) (lab:=A.l) (g:=A.g) hK hX hX' (src_bs 0 0 A.n A.m f h).1 (src_bs 0 0 A.n A.m f h).2
 rw[slA_sg,pA_sg] at this;exact this
theorem unG_arg {A:AR} (hA:ActO A) {f h:Nat->List Value} (hf:slA f=slA (slF A.S)) (hh:pA h=pA (ptF A.V)):unG A f h=A:=by
 obtain ⟨hK,hX,hX',hS,hV⟩:=hA
 rw[unG_eq hK hX hX',hf,hh,show slA (slF A.S)=A.S from funext fun j=>slA_slF (hS j),show pA (ptF A.V)=A.V from funext fun j=>pA_pt (hV j)]
def awG (A:AR):Bool:=true&&(isPt (ptV A.K)&&(true&&(true&&(isPrf (prV A.X.1 A.X.2)&&(whN A.n&&whN A.m)))))
theorem awG_eq (A:AR):awG A=true:=by unfold awG;rw[isPt_ptV,isPrf_prV,whN_true,whN_true];rfl
theorem okG_small {A:AR} (hn:A.n<=1000) (hm:A.m<=1000):okG A (slF A.S) (ptF A.V)=true:=okG_eq (okSl_slF hn) (okP_pt hm)
def tt12:Option Value:=some (.bool true)
def ff12:Option Value:=some (.bool false)
def twS (A:AR):Nat->List Value:=sg32 A.n (sg32 A.n (slF A.S))
def twC (A:AR):Nat->List Value:=sg9 A.m (sg9 A.m (sg9 A.m (ptF A.V)))
end Go.W

namespace Go.W
open Go
theorem pyB_byte (K:RP):∀b∈pyB K,b<256:=by
 intro b hb
 unfold pyB at hb
 split at hb
 ·rw[List.mem_singleton.1 hb];decide
 ·rcases List.mem_cons.1 hb with rfl | hb
  ·omega
  ·exact beL_byte _ _ b hb
theorem txB_byte (s:ByteArray):∀b∈txB s,b<256:=by
 intro b hb
 unfold txB at hb
 obtain ⟨x,_,rfl⟩:=List.mem_map.1 hb
 exact x.toNat_lt
theorem syS_byte (S:Nat->Nat):∀n,∀b∈syS S n,b<256
 | 0,b,h=>by cases h
 | n+1,b,h=>by
  rw[syS] at h
  rcases List.mem_append.1 h with h | h
  ·exact syS_byte S n b h
  ·exact beL_byte _ _ b h
theorem pyS_byte (V:Nat->RP):∀n,∀b∈pyS V n,b<256
 | 0,b,h=>by cases h
 | n+1,b,h=>by
  rw[pyS] at h
  rcases List.mem_append.1 h with h | h
  ·exact pyS_byte V n b h
  ·exact pyB_byte _ b h
theorem app_byte {l k:List Nat} (h1:∀b∈l,b<256) (h2:∀b∈k,b<256):∀b∈l++k,b<256:=fun b hb=>by
 rcases List.mem_append.1 hb with h | h
 ·exact h1 b h
 ·exact h2 b h
theorem one_byte {x:Nat} (h:x<256):∀b∈[x],b<256:=fun b hb=>by rw[List.mem_singleton.1 hb];exact h
theorem wr0_byte {a:AR} (h:Right a):(∀b∈wr0 a,b<256)∧(wr0 a).length<=4000:=by
 have pl:∀K:RP,(pyB K).length<=33:=fun K=>by rw[pyB_len];exact pbL_le K
 rcases h with⟨k,c1,c2,c3⟩ | ⟨k,c1,c2,c3,c4,c5,c6,c7,c8⟩ | ⟨k,c1,c2,c3,c4,c5,c6⟩ | ⟨k,c⟩ | ⟨k,c⟩
 ·rw[wr0_1 k]
  refine⟨app_byte (app_byte (one_byte (by decide)) (pyB_byte _)) (app_byte (beL_byte _ _) (txB_byte _)),?_⟩
  have:=pl a.K
  have:=lbl_size c2
  simp only[List.length_append,beL_len,txB_len,List.length_cons,List.length_nil];omega
 ·rw[wr0_2 k]
  unfold l1A l0A
  refine⟨app_byte (app_byte (app_byte (app_byte (one_byte (by decide)) (one_byte (by omega))) (syS_byte _ _)) (one_byte (by omega))) (pyS_byte _ _),?_⟩
  have:=pyL_le a.V a.m
  simp only[List.length_append,syS_len,pyS_len,List.length_cons,List.length_nil];omega
 ·rw[wr0_3 k]
  refine⟨app_byte (app_byte (app_byte (one_byte (by decide)) (one_byte (by omega))) (pyB_byte _)) (app_byte (beL_byte _ _) (beL_byte _ _)),?_⟩
  have:=pl a.K
  simp only[List.length_append,beL_len,List.length_cons,List.length_nil];omega
 ·rw[wr0_4 k]
  refine⟨app_byte (app_byte (one_byte (by decide)) (pyB_byte _)) (app_byte (beL_byte _ _) (beL_byte _ _)),?_⟩
  have:=pl a.K
  simp only[List.length_append,beL_len,List.length_cons,List.length_nil];omega
 ·have e:wr0 a=[5]:=by unfold wr0;rw[k];rfl
  rw[e];exact⟨one_byte (by decide),by decide⟩
theorem okY_li {l:List Nat} (h:∀b∈l,b<256) (n:Nat) (hn:n<=l.length):okY n (liF l)=true:=okY_iff.2 fun j hj=>by
 rw[bI_li,List.getD_eq_getElem?_getD,List.getElem?_eq_getElem (by omega),Option.getD_some]
 have:=h _ (List.getElem_mem (show j<l.length by omega))
 omega
theorem okY_sgF {n m:Nat} {f:Nat->List Value} (h:okY n f=true):okY n (sgF m f)=true:=okY_iff.2 fun j hj=>by
 rw[bI_sg];exact okY_iff.1 h j hj
theorem lsB_sg {n m:Nat} {f:Nat->List Value} {l:List Nat} (h:okY n f=true) (hf:Holds n f l):lsB n (sgF m f)=l:=rep_uniq (rep_ls (okY_sgF h)) (rep_sg m hf) rfl
theorem wrA_byte (A:AR):(∀b∈wrA A,b<256)∧(wrA A).length<=4000:=by
 by_cases h:ckE A=0
 ·rw[wrA_ok h];exact wr0_byte (ckE_iff.1 h)
 ·rw[wrA_no h];exact⟨fun b hb=>(by cases hb),(by decide)⟩
theorem holds_wr (A:AR):Holds (wrL A) (liF (wrA A)) (wrA A)∧okY (wrL A) (liF (wrA A))=true:=by
 rw[wrL_eq]
 exact⟨rep_li _,okY_li (wrA_byte A).1 _ (Nat.le_refl _)⟩
theorem hvy_no {A:AR} (h:hvyB A=false):A.l.size<=500∧A.n<=70∧A.m<=70:=by
 unfold hvyB at h
 simp only[Bool.or_eq_false_iff,decide_eq_false_iff_not] at h
 omega
theorem arg_eqs {A:AR} (hA:ActO A):unG A (slF A.S) (ptF A.V)=A∧unG A (twS A) (twC A)=A:=by
 refine⟨unG_arg hA rfl rfl,unG_arg hA ?_ ?_⟩
 ·unfold twS;rw[slA_sg,slA_sg]
 ·unfold twC;rw[pA_sg,pA_sg,pA_sg]
theorem arg_oks {A:AR} (h:hvyB A=false):okG A (slF A.S) (ptF A.V)=true∧okGs A (slF A.S) (ptF A.V)=true∧okG A (twS A) (twC A)=true∧okGs A (twS A) (twC A)=true:=by
 obtain ⟨h1,h2,h3⟩:=hvy_no h
 have a1:okG A (slF A.S) (ptF A.V)=true:=okG_small (by omega) (by omega)
 have a2:okG A (twS A) (twC A)=true:=okG_eq (by unfold twS;rw[okSl_sg,okSl_sg];exact okSl_slF (by omega)) (by unfold twC;rw[okP_sg,okP_sg,okP_sg];exact okP_pt (by omega))
 refine⟨a1,?_,a2,?_⟩
 ·unfold okGs;rw[a1,unG_l,Nat.ble_eq_true_of_le (by omega)];rfl
 ·unfold okGs;rw[a2,unG_l,Nat.ble_eq_true_of_le (by omega)];rfl
end Go.W

namespace Go.W
open Go
def tE:ByteArray:=⟨#[195,164,98]⟩
end Go.W

namespace Go.W
open Go
theorem wr0_pos {a:AR} (h:Right a):1<=(wr0 a).length:=by
 obtain ⟨r,e,_⟩:=wr0_hd h
 rw[e,List.length_cons];omega
end Go.W

namespace Go.W
open Go
theorem syS_congr {S Z:Nat->Nat}:∀n,(∀j,j<n->S j=Z j)->syS S n=syS Z n
 | 0,_=>rfl
 | n+1,h=>by rw[syS,syS,syS_congr n fun j hj=>h j (by omega),h n (by omega)]
theorem pyS_congr {V W:Nat->RP}:∀n,(∀j,j<n->V j=W j)->pyS V n=pyS W n
 | 0,_=>rfl
 | n+1,h=>by rw[pyS,pyS,pyS_congr n fun j hj=>h j (by omega),h n (by omega)]
theorem wr0_sam {a b:AR} (h:Sam a b):wr0 a=wr0 b:=by
 obtain ⟨e1,e2,e3,e4,e5,e6,e7,e8,e9⟩:=h
 unfold wr0
 rw[syS_congr a.n e5,pyS_congr a.m e7,e1,e2,e3,e4,e6,e8,e9]
theorem bI_upk (f:Nat->List Value) (k:Nat) (x:Int) (j:Nat):bI (updR f k [.int .u8 x]) j=if j=k then x else bI f j:=by
 show toI ((bif Nat.beq j k then [Value.int .u8 x] else f j).headD _)=_
 by_cases h:j=k
 ·rw[if_pos h,nbeq.2 h,cond_true];rfl
 ·rw[if_neg h,show Nat.beq j k=false from by rw[Bool.eq_false_iff,ne_eq,nbeq];exact h,cond_false];rfl
noncomputable def fbF (U:AR) (x:Int):Nat->List Value:=updR (twF (sgF (wrL U) (liF (wrA U)))) (0+0) [.int .u8 x]
noncomputable def fbC (U:AR) (x:Int):Bool:=whN (wrL U)&&Nat.ble (wrL U) 1000000&&okY (wrL U) (sgF (wrL U) (fbF U x))
noncomputable def fbL (U:AR) (x:Int):List Nat:=lsB (wrL U) (sgF (wrL U) (fbF U x))
noncomputable def kiTz (U:AR) (x:Int):Option Value :=
 req (whN (wrL U)&&szOk (wrL U) 1) (req (inR 0 (wrL U)) (req (Nat.blt 0 (wrL U)&&true) (req (fbC U x) (bif raE (fbL U x) != 0 then tt12 else bif (raA (fbL U x)).k==IntKind.i64.wrap x then tt12 else ff12))))
noncomputable def kiTy (A B UA UB:AR) (x:Int):Option Value :=
 bif ((wrL UA:Nat):Int)==0 then ff12 else req (inR 0 (wrL UA)) (req (Nat.blt 0 (wrL UA)&&true) (bif IntKind.i64.wrap (bI (liF (wrA UA)) (0+0)) != A.k then ff12 else
  req (whN (wrL UA)&&whN (wrL UB)&&Nat.ble (wrL UA) 9223372036854775807) (req (okG A (slF A.S) (ptF A.V)&&okG B (slF B.S) (ptF B.V))
   (bif !(eqR (wrL UA) (sgF (wrL UA) (liF (wrA UA))) (wrL UB) (sgF (wrL UB) (liF (wrA UB)))==smA UA UB) then ff12 else kiTz UA x))))
noncomputable def kiTq (UB:AR):Option Value:=bif ckE UB==0 then tt12 else bif ((wrL UB:Nat):Int)==0 then tt12 else ff12
noncomputable def kiTx (UA UB:AR):Option Value:=bif ckE UA==0 then kiTq UB else bif ((wrL UA:Nat):Int)==0 then kiTq UB else ff12
noncomputable def kiTa (A B UA UB:AR) (x:Int):Option Value :=
 req (awG A) (bif hvyB UA then tt12 else req (awG B) (bif hvyB UB then tt12 else req (okGs A (slF A.S) (ptF A.V)) (req (okGs B (slF B.S) (ptF B.V))
  (bif ckE UA != 0 then kiTx UA UB else bif ckE UB != 0 then kiTx UA UB else kiTy A B UA UB x))))
noncomputable def kiT (A B:AR) (x:Int):Option Value:=kiTa A B (unG A (slF A.S) (ptF A.V)) (unG B (slF B.S) (ptF B.V)) x
theorem wrL_no {A:AR} (h:ckE A≠0):((wrL A:Nat):Int)=0:=by rw[wrL_eq,wrA_no h];rfl
theorem kiTq_eq (B:AR):kiTq B=some (.bool true):=by
 unfold kiTq
 by_cases h:ckE B=0
 ·rw[h];rfl
 ·rw[beq_eq_false_iff_ne.2 h,cond_false,wrL_no h];rfl
theorem kiTx_eq (A B:AR):kiTx A B=some (.bool true):=by
 unfold kiTx
 rw[kiTq_eq]
 by_cases h:ckE A=0
 ·rw[h];rfl
 ·rw[beq_eq_false_iff_ne.2 h,cond_false,wrL_no h];rfl
theorem kiTz_eq {A:AR} (hR:Right A) {x:Int} (hx:0<=x∧x<256):kiTz A x=some (.bool true):=by
 have hc:=ckE_iff.2 hR
 have eW:wrA A=wr0 A:=wrA_ok hc
 have hlen:=(wr0_byte hR).2
 have hpos:=wr0_pos hR
 have eL:wrL A=(wr0 A).length:=by rw[wrL_eq,eW]
 obtain ⟨hH,hO⟩:=holds_wr A
 obtain ⟨X,rfl⟩:=Int.eq_ofNat_of_zero_le hx.1
 have hb:∀j,bI (fbF A ((X:Nat):Int)) j=if j=0 then ((X:Nat):Int) else bI (liF (wrA A)) j:=fun j=>by
  unfold fbF
  rw[bI_upk,bI_tw,bI_sg]
 have hZ:Holds (wrL A) (fbF A ((X:Nat):Int)) (X::(wr0 A).tail):=by
  refine⟨by rw[List.length_cons,List.length_tail];omega,fun j hj=>?_⟩
  rw[hb]
  cases j with
  | zero=>rw[if_pos rfl];rfl
  | succ j =>
   rw[if_neg (by omega),hH.2 (j+1) hj,eW]
   obtain ⟨r,e,_⟩:=wr0_hd hR
   rw[e];rfl
 have hZo:okY (wrL A) (fbF A ((X:Nat):Int))=true:=okY_iff.2 fun j hj=>by
  rw[hb]
  by_cases e:j=0
  ·rw[if_pos e];omega
  ·rw[if_neg e];exact okY_iff.1 hO j hj
 have hL:fbL A ((X:Nat):Int)=X::(wr0 A).tail:=lsB_sg hZo hZ
 have c1:fbC A ((X:Nat):Int)=true:=by
  unfold fbC
  rw[whN_true,okY_sgF hZo,Nat.ble_eq_true_of_le (by omega)];rfl
 have i0:inR 0 (wrL A)=true:=by unfold inR;rw[decide_eq_true (by omega),decide_eq_true (by omega)];rfl
 have b0:Nat.blt 0 (wrL A)=true:=by rw[Nat.blt_eq];omega
 unfold kiTz
 rw[whN_true,szOk_small (by omega),req_true (b:=true&&true) rfl,i0,req_true rfl,b0,req_true (b:=true&&true) rfl,c1,req_true rfl,hL]
 by_cases hr:isRd (X::(wr0 A).tail)
 ·obtain ⟨r1,r2,r3⟩:=raA_is hr
  obtain ⟨r,e,l1,l2⟩:=wr0_hd r1
  rw[r3] at e
  have hk:=(List.cons.inj e).1
  rw[raE_yes hr,show((0:Int) != 0)=false from rfl,cond_false,wrap_i64 (by omega),beq_iff_eq.2 (show(raA (X::(wr0 A).tail)).k=((X:Nat):Int) by omega)];rfl
 ·rw[raE_no hr];rfl
theorem kiT_eq {A B:AR} (hA:ActO A) (hB:ActO B) {x:Int} (hx:0<=x∧x<256):kiT A B x=some (.bool true):=by
 obtain ⟨u1,_⟩:=arg_eqs hA
 obtain ⟨u2,_⟩:=arg_eqs hB
 unfold kiT
 rw[u1,u2]
 unfold kiTa
 rw[awG_eq,awG_eq,req_true rfl,req_true rfl]
 cases hh:hvyB A with
 | true=>rfl
 | false =>
  cases hh2:hvyB B with
  | true=>rfl
  | false =>
   obtain ⟨o1,o2,_⟩:=arg_oks hh
   obtain ⟨p1,p2,_⟩:=arg_oks hh2
   rw[cond_false,cond_false,o2,p2,req_true rfl,req_true rfl,kiTx_eq]
   by_cases hc:ckE A=0
   rotate_left
   ·rw[bne_iff_ne.2 hc];rfl
   by_cases hc2:ckE B=0
   rotate_left
   ·rw[bne_iff_ne.2 hc2,hc];rfl
   have hR:=ckE_iff.1 hc
   have hR2:=ckE_iff.1 hc2
   have hw:Wsl A:=fun j _=>hA.2.2.2.1 j
   have hw2:Wsl B:=fun j _=>hB.2.2.2.1 j
   have eW:wrA A=wr0 A:=wrA_ok hc
   have eW2:wrA B=wr0 B:=wrA_ok hc2
   have hlen:=(wr0_byte hR).2
   have hpos:=wr0_pos hR
   have eL:wrL A=(wr0 A).length:=by rw[wrL_eq,eW]
   have i0:inR 0 (wrL A)=true:=by unfold inR;rw[decide_eq_true (by omega),decide_eq_true (by omega)];rfl
   have b0:Nat.blt 0 (wrL A)=true:=by rw[Nat.blt_eq];omega
   have hk:IntKind.i64.wrap (bI (liF (wrA A)) (0+0))=A.k:=by
    obtain ⟨r,e,l1,l2⟩:=wr0_hd hR
    rw[show(0+0:Nat)=0 from rfl,bI_li,eW,e]
    show IntKind.i64.wrap ((A.k.toNat:Nat):Int)=A.k
    rw[wrap_i64 (by omega)];omega
   have heq:eqR (wrL A) (sgF (wrL A) (liF (wrA A))) (wrL B) (sgF (wrL B) (liF (wrA B)))=smA A B:=by
    rw[rep_eqR (rep_sg _ (holds_wr A).1) (rep_sg _ (holds_wr B).1),eW,eW2,Bool.eq_iff_iff,decide_eq_true_eq,smA_iff]
    exact⟨fun e=>(wr0_uni (s:=[]) (t:=[]) hR hR2 hw hw2 (by rw[e])).1,wr0_sam⟩
   rw[hc,hc2,bne_self_eq_false,cond_false,cond_false]
   unfold kiTy
   rw[beq_eq_false_iff_ne.2 (show((wrL A:Nat):Int)≠0 by omega),cond_false,i0,req_true rfl,b0,req_true (b:=true&&true) rfl,hk,bne_self_eq_false,cond_false,whN_true,whN_true,Nat.ble_eq_true_of_le (by omega),req_true (b:=true&&true&&true) rfl,o1,p1,req_true (b:=true&&true) rfl,heq,beq_self_eq_true,Bool.not_true,cond_false]
   exact kiTz_eq hR hx
end Go.W

namespace Go.Proofs.Ytckbmhegopjnmaa
set_option maxRecDepth 100000
open Go.W
open Go.RowKit (Below)
noncomputable def akiS:Sums:=[(6,.me HvyF),(7,.me (BabF 5)),(11,.me ActF),(12,.me KbF),(10,.me (TwnF 5)),(9,.me (RacF 94 26)),(8,.pl Wk12F)]
theorem akiS_ok:SumsOk Try.prog akiS:=sums_consM hvy_msum (sums_consM aby_msum (sums_consM kac_msum (sums_consM kb_msum (sums_consM twn_msum (sums_consM ard_msum (sums_cons wk12_sum sums_nil))))))
noncomputable def akiC:Cfg:=⟨tab,akiS,97,[]⟩
theorem aki_ev (A B:AR) (x:Int) (es:Nat->TypeId) (er:Nat->Nat->TypeId):fnA akiC 60 Try.f4 (bodyOf Try.f4) (cArgsX [.ag (acR A),.ag (acR B),.c (.pl (.int .u8 x))] 0) (cMemX es er [.ag (acR A),.ag (acR B),.c (.pl (.int .u8 x))]) 0=kiT A B x:=by kernel_rfl
theorem aki_calls {v u:Value} {A B:AR} {x:Int} {W:World} (hv:ActW W A v) (hA:ActO A) (hu:ActW W B u) (hB:ActO B) (hx:(Lit.int .u8 x).wf=true):Calls Try.prog 4 #[v,u,.int .u8 x] W fun e W'=>e=.returned (.bool true)∧Below W.heap.size W W' :=
 lawX_sound (fuel:=60) (next:=0) (A:=[.ag (acR A),.ag (acR B),.c (.pl (.int .u8 x))]) Try.func4 (by kernel_rfl) (args':=[v,u,.int .u8 x])
  (LX_act hv (LX_act hu (LX_pl1 (r:=[]) trivial))) (shX_act hv (shX_act hu (shX_pl1 rfl (r:=[]) trivial))) (by kernel_rfl) (GOk_nil _) (by show 3<=Try.f4.ntmps;decide +kernel) rfl nofun
  fun es er=>⟨akiC,⟨mixed,tabOk,akiS_ok,noL⟩,rfl,(aki_ev A B x es er).trans (kiT_eq hA hB (by obtain ⟨n,h,rfl⟩:=wf_u8 hx;omega))⟩
end Go.Proofs.Ytckbmhegopjnmaa

namespace Go.W
open Go Go.RowKit Go.ChangeShapes Go.WideShapes Go.ChangeAt
section
variable {H:Type} {enc:TypeId×Value->H} {P:Program} {W:World} {r:Reach} {base b0:Nat} {held:Bool} {t:TypeId} {v:Value} {d:DataW H} {p:List MemPlace}
theorem open_actA {ti tb tn tu tp t8 t32 ts tg tl tr:TypeId} {fs fp fr:Array Field}
  (ht:P.underlying t=some (.struct fs)) (hfs:fs.toList.map (fun f=>(f.offset,f.type))=[(0,ti),(1,tp),(10,tg),(11,ts),(12,tl),(13,ti),(14,tr)])
  (hti:P.underlying ti=some (.int .i64)) (htp:P.underlying tp=some (.struct fp)) (hfp:fp.toList.map (fun f=>(f.offset,f.type))=[(0,tb),(1,tn),(5,tn)])
  (htb:P.underlying tb=some .bool) (htn:P.underlying tn=some (.array 4 tu)) (htu:P.underlying tu=some (.int .u64)) (htg:P.underlying tg=some .string)
  (hts:P.underlying ts=some (.slice t32)) (ht32:P.underlying t32=some (.array 32 t8)) (ht8:P.underlying t8=some (.int .u8)) (htl:P.underlying tl=some (.slice tp))
  (htr:P.underlying tr=some (.struct fr)) (hfr:fr.toList.map (fun f=>(f.offset,f.type))=[(0,tn),(4,tn)])
  (ci:P.cellsOf ti=1) (cp:P.cellsOf tp=9) (cb:P.cellsOf tb=1) (cn:P.cellsOf tn=4) (cu:P.cellsOf tu=1) (cg:P.cellsOf tg=1) (csl:P.cellsOf ts=1) (c32:P.cellsOf t32=32) (cb8:P.cellsOf t8=1) (cl:P.cellsOf tl=1) (cr:P.cellsOf tr=8) (ct:P.cellsOf t=22)
  (hv:Value.okWide P W r base t v) (h:DataW.Trod enc P W b0 (fun _=>true) held t v d p):∃A:AR,ActW W A v∧ActO A:=by
 obtain ⟨k,K,lab,s,c,g,X,n,m,S,V,e,_,hK,_,hs,hS,hc,hV,_,h1,h2⟩:=open_act ht hfs hti htp hfp htb htn htu htg hts ht32 ht8 htl htr hfr ci cp cb cn cu cg csl c32 cb8 cl cr ct hv h
 exact⟨⟨k,K,lab,n,S,m,V,g,X⟩,⟨s,c,e,hs,hc⟩,hK,h1,h2,hS,hV⟩
end
end Go.W
