/-
  Several texts in one: M110 Yg M111 Yi M112 M113 M92 M114 Yk W42.
-/
import Derived.Test.YtckbmhegopjnmaaZh
namespace Go.W
open Go
noncomputable def isAw (mm:Nat->Option Blk) (v:Value):Bool :=
 aggK v (fun l=>Nat.beq l.length 22&&(isI (nV 0 l)&&(isPt (cKey l)&&(isT (nV 10 l)&&(isI (nV 13 l)&&(isPrf (cPrf l) &&
  ((srcB mm k32 (nV 11 l)).1&&(srcB mm kP9 (nV 12 l)).1))))))) false
theorem isAw_some {mm:Nat->Option Blk} {v:Value} (h:isAw mm v=true):∃k K lab s c g X n f m q,v=acV k K lab s c g X∧okR K∧X.1<2^256∧X.2<2^256 ∧
  srcB mm k32 s=(true,n,f)∧srcB mm kP9 c=(true,m,q)∧unA mm v=⟨k,K,lab,n,slA f,m,pA q,g,X⟩:=by
 unfold isAw aggK at h
 split at h
 ·rename_i cs
  obtain ⟨l,hc⟩:∃l,cs=List.toArray l:=⟨cs.toList,by simp⟩
  subst hc
  rw[List.toList_toArray] at h
  simp only[Bool.and_eq_true] at h
  obtain ⟨hl,h0,hK,hT,hg,hX,h1,h3⟩:=h
  have hl:l.length=22:=nbeq.1 hl
  match l,hl with
  | [c0,c1,c2,c3,c4,c5,c6,c7,c8,c9,c10,c11,c12,c13,c14,c15,c16,c17,c18,c19,c20,c21],_ =>
   obtain ⟨k,e0⟩:∃k,c0=i64 k:=by
    have h0:isI c0=true:=h0
    unfold isI at h0
    split at h0
    ·exact⟨_,rfl⟩
    ·cases h0
   obtain ⟨lab,e1⟩:∃lab,c10=.string lab:=by
    have h0:isT c10=true:=hT
    unfold isT at h0
    split at h0
    ·exact⟨_,rfl⟩
    ·cases h0
   obtain ⟨g,e2⟩:∃k,c13=i64 k:=by
    have h0:isI c13=true:=hg
    unfold isI at h0
    split at h0
    ·exact⟨_,rfl⟩
    ·cases h0
   obtain ⟨K,oK,eK⟩:=isPt_some hK
   obtain ⟨X,oX,eX⟩:=isPrf_some hX
   have eK1:[c1,c2,c3,c4,c5,c6,c7,c8,c9]=ptC K:=congrArg (fun v:Value=>v.cells.toList) eK
   have eX1:[c14,c15,c16,c17,c18,c19,c20,c21]=prL X:=congrArg (fun v:Value=>v.cells.toList) eX
   have hv:Value.agg [c0,c1,c2,c3,c4,c5,c6,c7,c8,c9,c10,c11,c12,c13,c14,c15,c16,c17,c18,c19,c20,c21].toArray=acV k K lab c11 c12 g X:=by
    unfold acV
    congr 2
    show[c0]++([c1,c2,c3,c4,c5,c6,c7,c8,c9]++([c10]++(c11::c12::([c13]++[c14,c15,c16,c17,c18,c19,c20,c21]))))=_
    rw[e0,e1,e2,eK1,eX1];rfl
   refine⟨k,K,lab,c11,c12,g,X,(srcB mm k32 c11).2.1,(srcB mm k32 c11).2.2,(srcB mm kP9 c12).2.1,(srcB mm kP9 c12).2.2,hv,oK,oX.1,oX.2,?_,?_,?_⟩
   ·rw[<-show(srcB mm k32 c11).1=true from h1]
   ·rw[<-show(srcB mm kP9 c12).1=true from h3]
   ·show(⟨inV c0,unPt (cKey [c0,c1,c2,c3,c4,c5,c6,c7,c8,c9,c10,c11,c12,c13,c14,c15,c16,c17,c18,c19,c20,c21]),teV c10,_,_,_,_,inV c13,unPrf (cPrf [c0,c1,c2,c3,c4,c5,c6,c7,c8,c9,c10,c11,c12,c13,c14,c15,c16,c17,c18,c19,c20,c21])⟩:AR)=_
    rw[eK,eX,unPt_ptV oK,unPrf_prV oX.1 oX.2,e0,e1,e2];rfl
 ·cases h
def hvyB (A:AR):Bool:=decide (500<A.l.size)||(decide (70<A.n)||decide (70<A.m))
noncomputable def HvyF:List Value->(Nat->Option Blk)->Nat->List (Bool×Value×List (Nat×Blk))
 | [a],mm,_=>[(isAw mm a,.bool (hvyB (unA mm a)),[])]
 | _,_,_=>[]
def hvyT (lab:ByteArray) (n m:Nat):OR:=bif decide ((lab.size:Int) > 500) then some (.bool true,[]) else bif decide ((n:Int) > 70) then some (.bool true,[]) else some (.bool (decide ((m:Int) > 70)),[])
theorem hvyT_eq (k:Int) (K:RP) (lab:ByteArray) (n:Nat) (S:Nat->Nat) (m:Nat) (V:Nat->RP) (g:Int) (X:Nat×Nat):hvyT lab n m=some (.bool (hvyB ⟨k,K,lab,n,S,m,V,g,X⟩),[]):=by
 unfold hvyT hvyB
 simp only
 have e:∀(a b:Nat),decide ((a:Int) > (b:Int))=decide (b<a):=fun a b=>by
  by_cases h:b<a
  ·rw[decide_eq_true h,decide_eq_true (by omega)]
  ·rw[decide_eq_false h,decide_eq_false (by omega)]
 rw[show((500:Int))=((500:Nat):Int) from rfl,show((70:Int))=((70:Nat):Int) from rfl,e,e,e]
 cases decide (500<lab.size)<;>cases decide (70<n)<;>rfl
end Go.W

namespace Go.Proofs.Ytckbmhegopjnmaa
set_option maxRecDepth 100000
open Go.W
def hvyC:Cfg:=⟨tab,[],19,[]⟩
theorem hvy_ev (k:Int) (i:Bool) (x y:Nat) (lab:ByteArray) (n:Nat) (f:Nat->List Value) (m:Nat) (h:Nat->List Value) (g:Int) (c r:Nat) (es:Nat->TypeId) (er:Nat->Nat->TypeId) (id:Nat) :
  fnX hvyC 60 Try.f6 (bodyOf Try.f6) (cArgsX [.ag (acA k (i,x,y) lab n f m h g (c,r))] 0) (cMemX es er [.ag (acA k (i,x,y) lab n f m h g (c,r))]) 0 id=hvyT lab n m:=by kernel_rfl
theorem hvy_msum:MSum Try.prog 6 HvyF:=by
 intro w0 R fm w hm vs args' hl mm hsub id hlt v l hpick hnew
 match vs,hl,hpick with
 | [a],hl,hpick =>
  obtain ⟨hc,rfl,rfl⟩:=pick_one hpick
  obtain ⟨k,K,lab,s,c,g,X,n,f,m,q,ea,oK,oX,oX',hs,hq,eA⟩:=isAw_some hc
  rw[eA]
  clear eA hc hpick
  subst ea
  refine msum_atX (c:=bodyOf Try.f6) (fuel:=60) (next:=0) Try.func6 (by kernel_rfl) (by kernel_rfl) hm hl hsub hlt
   (A:=[.ag (acA k K lab n f m q g X)]) ⟨⟨_,rfl,acA_ok hs hq⟩,trivial⟩ (by kernel_rfl) (by show 1<=Try.f6.ntmps;decide +kernel) (by intro p hp;cases hp) (fun es er=>?_)
  refine⟨hvyC,⟨mixed,tabOk,sums_nil,noL⟩,rfl,?_⟩
  exact(hvy_ev k K.1 K.2.1 K.2.2 lab n f m q g X.1 X.2 es er id).trans (hvyT_eq _ _ _ _ _ _ _ _ _)
 | [],_,h=>simp[HvyF,pickM] at h
 | _::_::_,_,h=>simp[HvyF,pickM] at h
end Go.Proofs.Ytckbmhegopjnmaa

namespace Go.W
open Go
def wkF1:Nat->List Value:=lstF [.int .u8 5] 0 1
def wkF2:Nat->List Value:=lstF [.int .u8 5,.int .u8 0] 0 1
noncomputable def wk12T:Option Value :=
 req (okY 1 wkF1) (req (okY 2 wkF2) (bif raE (lsB 1 wkF1)==0 then bif (raA (lsB 1 wkF1)).k==5 then some (.bool (raE (lsB 2 wkF2)==7)) else some (.bool false) else some (.bool false)))
theorem raE_yes {L:List Nat} (h:isRd L):raE L=0:=by unfold raE;rw[hide_eq,raB_yes h,if_pos rfl]
theorem raE_no {L:List Nat} (h:¬isRd L):raE L=7:=by unfold raE;rw[hide_eq,raB_no h,if_neg (by decide)]
def acW:AR:=⟨5,zR,⟨#[]⟩,0,fun _=>0,0,fun _=>zR,0,(0,0)⟩
theorem acW_right:Right acW:=.inr (.inr (.inr (.inr ⟨rfl,rfl,rfl,rfl,rfl,rfl,rfl⟩)))
theorem wk12T_eq:wk12T=some (.bool true):=by
 have e1:lsB 1 wkF1=[5]:=by decide +kernel
 have e2:lsB 2 wkF2=[5,0]:=by decide +kernel
 have o1:okY 1 wkF1=true:=okY_iff.2 fun j hj=>by
  have:j=0:=by omega
  subst this;decide +kernel
 have o2:okY 2 wkF2=true:=okY_iff.2 fun j hj=>by
  have:j=0∨j=1:=by omega
  rcases this with rfl | rfl<;>decide +kernel
 have hw:Wsl acW:=fun j hj=>absurd hj (Nat.not_lt_zero _)
 have hr:isRd [5]:=⟨acW,acW_right,hw,rfl⟩
 have hn:¬isRd [5,0]:=by
  rintro ⟨a,ha,hwa,e⟩
  have:=(wr0_uni (s:=[0]) (t:=[]) acW_right ha hw hwa (by rw[e];rfl)).2
  cases this
 have hk:(raA [5]).k=5:=(raA_of acW_right hw rfl).1.symm
 unfold wk12T
 rw[e1,e2,o1,o2,req_true rfl,req_true rfl,raE_yes hr,raE_no hn,hk];rfl
def Wk12F:List Value->Option (Bool×Value)
 | []=>some (true,.bool true)
 | _=>none
end Go.W

namespace Go.Proofs.Ytckbmhegopjnmaa
set_option maxRecDepth 100000
open Go.W
noncomputable def wk12S:Sums:=[(9,.me (RacF 94 26))]
theorem wk12S_ok:SumsOk Try.prog wk12S:=sums_consM ard_msum sums_nil
noncomputable def wk12C:Cfg:=⟨tab,wk12S,26,[]⟩
theorem wk12Ok:CfgOk Try.prog wk12C (bodyOf Try.f8):=⟨mixed,tabOk,wk12S_ok,noL⟩
theorem wk12_ev:fnS wk12C 60 Try.f8 (bodyOf Try.f8) []=wk12T:=by kernel_rfl
theorem wk12_sum:Sum Try.prog 8 Wk12F:=by
 refine sum_of wk12Ok Try.func8 (by kernel_rfl) (by kernel_rfl) rfl (fuel:=60) fun args v h hpl=>?_
 unfold Wk12F at h
 split at h
 ·simp only[Option.some.injEq,Prod.mk.injEq] at h
  obtain ⟨_,rfl⟩:=h
  exact⟨Nat.zero_le _,wk12_ev.trans wk12T_eq,rfl⟩
 ·simp at h
end Go.Proofs.Ytckbmhegopjnmaa

namespace Go.W
open Go
def gVa (A:AR):Value:=acV A.k A.K A.l (bsS A.n) (bsC A.m) A.g A.X
def gMe (n:Nat) (f:Nat->List Value) (m:Nat) (h:Nat->List Value):Nat->Option Blk:=look [bsR 0 n f,bcR 0 m h]
noncomputable def okG (A:AR) (f h:Nat->List Value):Bool:=isA (gMe A.n f A.m h) (gVa A)
def unG (A:AR) (f h:Nat->List Value):AR:=unA (gMe A.n f A.m h) (gVa A)
noncomputable def okGs (A:AR) (f h:Nat->List Value):Bool:=okG A f h&&Nat.ble (unG A f h).l.size 1000000
theorem unG_l (A:AR) (f h:Nat->List Value):(unG A f h).l=A.l:=rfl
theorem okG_eq {A:AR} {f h:Nat->List Value} (h1:okSl A.n f=true) (h2:okP A.m h=true):okG A f h=true :=
 isA_ac (src_bs 0 0 A.n A.m f h).1 (by rw[okSl_sg];exact h1) (src_bs 0 0 A.n A.m f h).2 (by rw[okP_sg];exact h2)
theorem unG_eq {A:AR} {f h:Nat->List Value} (hK:okR A.K) (hX:A.X.1<2^256) (hX':A.X.2<2^256):unG A f h=⟨A.k,A.K,A.l,A.n,slA f,A.m,pA h,A.g,A.X⟩:=by
 have:=unA_ac (k:=A.k) (lab:=A.l) (g:=A.g) hK hX hX' (src_bs 0 0 A.n A.m f h).1 (src_bs 0 0 A.n A.m f h).2
 rw[slA_sg,pA_sg] at this;exact this
theorem unG_arg {A:AR} (hA:ActO A) {f h:Nat->List Value} (hf:slA f=slA (slF A.S)) (hh:pA h=pA (ptF A.V)):unG A f h=A:=by
 obtain ⟨hK,hX,hX',hS,hV⟩:=hA
 rw[unG_eq hK hX hX',hf,hh,show slA (slF A.S)=A.S from funext fun j=>slA_slF (hS j),show pA (ptF A.V)=A.V from funext fun j=>pA_pt (hV j)]
def awG (A:AR):Bool:=true&&(isPt (ptV A.K)&&(true&&(true&&(isPrf (prV A.X.1 A.X.2)&&(whN A.n&&whN A.m)))))
theorem awG_eq (A:AR):awG A=true:=by unfold awG;rw[isPt_ptV,isPrf_prV,whN_true,whN_true];rfl
theorem okG_small {A:AR} (hn:A.n<=1000) (hm:A.m<=1000):okG A (slF A.S) (ptF A.V)=true:=okG_eq (okSl_slF hn) (okP_pt hm)
theorem zeR_un:unG zeR (slF zeR.S) (ptF zeR.V)=zeR:=by
 refine unG_arg ⟨okR_z,by decide,by decide,fun _=>(show(0:Nat)<2^256 by decide),fun _=>okR_z⟩ rfl rfl
def tt12:Option Value:=some (.bool true)
def ff12:Option Value:=some (.bool false)
def twS (A:AR):Nat->List Value:=sg32 A.n (sg32 A.n (slF A.S))
def twC (A:AR):Nat->List Value:=sg9 A.m (sg9 A.m (sg9 A.m (ptF A.V)))
end Go.W

namespace Go.W
open Go
theorem pyB_byte (K:RP):∀b∈pyB K,b<256:=by
 intro b hb
 unfold pyB at hb
 split at hb
 ·rw[List.mem_singleton.1 hb];decide
 ·rcases List.mem_cons.1 hb with rfl | hb
  ·omega
  ·exact beL_byte _ _ b hb
theorem txB_byte (s:ByteArray):∀b∈txB s,b<256:=by
 intro b hb
 unfold txB at hb
 obtain ⟨x,_,rfl⟩:=List.mem_map.1 hb
 exact x.toNat_lt
theorem syS_byte (S:Nat->Nat):∀n,∀b∈syS S n,b<256
 | 0,b,h=>by cases h
 | n+1,b,h=>by
  rw[syS] at h
  rcases List.mem_append.1 h with h | h
  ·exact syS_byte S n b h
  ·exact beL_byte _ _ b h
theorem pyS_byte (V:Nat->RP):∀n,∀b∈pyS V n,b<256
 | 0,b,h=>by cases h
 | n+1,b,h=>by
  rw[pyS] at h
  rcases List.mem_append.1 h with h | h
  ·exact pyS_byte V n b h
  ·exact pyB_byte _ b h
theorem app_byte {l k:List Nat} (h1:∀b∈l,b<256) (h2:∀b∈k,b<256):∀b∈l++k,b<256:=fun b hb=>by
 rcases List.mem_append.1 hb with h | h
 ·exact h1 b h
 ·exact h2 b h
theorem one_byte {x:Nat} (h:x<256):∀b∈[x],b<256:=fun b hb=>by rw[List.mem_singleton.1 hb];exact h
theorem wr0_byte {a:AR} (h:Right a):(∀b∈wr0 a,b<256)∧(wr0 a).length<=4000:=by
 have pl:∀K:RP,(pyB K).length<=33:=fun K=>by rw[pyB_len];exact pbL_le K
 rcases h with⟨k,c1,c2,c3⟩ | ⟨k,c1,c2,c3,c4,c5,c6,c7,c8⟩ | ⟨k,c1,c2,c3,c4,c5,c6⟩ | ⟨k,c⟩ | ⟨k,c⟩
 ·rw[wr0_1 k]
  refine⟨app_byte (app_byte (one_byte (by decide)) (pyB_byte _)) (app_byte (beL_byte _ _) (txB_byte _)),?_⟩
  have:=pl a.K
  have:=lbl_size c2
  simp only[List.length_append,beL_len,txB_len,List.length_cons,List.length_nil];omega
 ·rw[wr0_2 k]
  unfold l1A l0A
  refine⟨app_byte (app_byte (app_byte (app_byte (one_byte (by decide)) (one_byte (by omega))) (syS_byte _ _)) (one_byte (by omega))) (pyS_byte _ _),?_⟩
  have:=pyL_le a.V a.m
  simp only[List.length_append,syS_len,pyS_len,List.length_cons,List.length_nil];omega
 ·rw[wr0_3 k]
  refine⟨app_byte (app_byte (app_byte (one_byte (by decide)) (one_byte (by omega))) (pyB_byte _)) (app_byte (beL_byte _ _) (beL_byte _ _)),?_⟩
  have:=pl a.K
  simp only[List.length_append,beL_len,List.length_cons,List.length_nil];omega
 ·rw[wr0_4 k]
  refine⟨app_byte (app_byte (one_byte (by decide)) (pyB_byte _)) (app_byte (beL_byte _ _) (beL_byte _ _)),?_⟩
  have:=pl a.K
  simp only[List.length_append,beL_len,List.length_cons,List.length_nil];omega
 ·have e:wr0 a=[5]:=by unfold wr0;rw[k];rfl
  rw[e];exact⟨one_byte (by decide),by decide⟩
theorem okY_li {l:List Nat} (h:∀b∈l,b<256) (n:Nat) (hn:n<=l.length):okY n (liF l)=true:=okY_iff.2 fun j hj=>by
 rw[bI_li,List.getD_eq_getElem?_getD,List.getElem?_eq_getElem (by omega),Option.getD_some]
 have:=h _ (List.getElem_mem (show j<l.length by omega))
 omega
theorem okY_sgF {n m:Nat} {f:Nat->List Value} (h:okY n f=true):okY n (sgF m f)=true:=okY_iff.2 fun j hj=>by
 rw[bI_sg];exact okY_iff.1 h j hj
theorem lsB_sg {n m:Nat} {f:Nat->List Value} {l:List Nat} (h:okY n f=true) (hf:Holds n f l):lsB n (sgF m f)=l:=rep_uniq (rep_ls (okY_sgF h)) (rep_sg m hf) rfl
theorem wrA_byte (A:AR):(∀b∈wrA A,b<256)∧(wrA A).length<=4000:=by
 by_cases h:ckE A=0
 ·rw[wrA_ok h];exact wr0_byte (ckE_iff.1 h)
 ·rw[wrA_no h];exact⟨fun b hb=>(by cases hb),(by decide)⟩
theorem holds_wr (A:AR):Holds (wrL A) (liF (wrA A)) (wrA A)∧okY (wrL A) (liF (wrA A))=true:=by
 rw[wrL_eq]
 exact⟨rep_li _,okY_li (wrA_byte A).1 _ (Nat.le_refl _)⟩
theorem hvy_no {A:AR} (h:hvyB A=false):A.l.size<=500∧A.n<=70∧A.m<=70:=by
 unfold hvyB at h
 simp only[Bool.or_eq_false_iff,decide_eq_false_iff_not] at h
 omega
theorem arg_eqs {A:AR} (hA:ActO A):unG A (slF A.S) (ptF A.V)=A∧unG A (twS A) (twC A)=A:=by
 refine⟨unG_arg hA rfl rfl,unG_arg hA ?_ ?_⟩
 ·unfold twS;rw[slA_sg,slA_sg]
 ·unfold twC;rw[pA_sg,pA_sg,pA_sg]
theorem arg_oks {A:AR} (h:hvyB A=false):okG A (slF A.S) (ptF A.V)=true∧okGs A (slF A.S) (ptF A.V)=true∧okG A (twS A) (twC A)=true∧okGs A (twS A) (twC A)=true:=by
 obtain ⟨h1,h2,h3⟩:=hvy_no h
 have a1:okG A (slF A.S) (ptF A.V)=true:=okG_small (by omega) (by omega)
 have a2:okG A (twS A) (twC A)=true:=okG_eq (by unfold twS;rw[okSl_sg,okSl_sg];exact okSl_slF (by omega)) (by unfold twC;rw[okP_sg,okP_sg,okP_sg];exact okP_pt (by omega))
 refine⟨a1,?_,a2,?_⟩
 ·unfold okGs;rw[a1,unG_l,Nat.ble_eq_true_of_le (by omega)];rfl
 ·unfold okGs;rw[a2,unG_l,Nat.ble_eq_true_of_le (by omega)];rfl
end Go.W

namespace Go.W
open Go
def tE:ByteArray:=⟨#[195,164,98]⟩
theorem mod_idx (x:Int) {m:Nat} (h0:1<=m) (h1:m<=1000000):∃j:Nat,j<m∧IntKind.i64.wrap ((IntKind.u64.wrap x).tmod (IntKind.u64.wrap ((m:Nat):Int)))=(j:Int):=by
 rw[wrap_u64,wrap_u64,show((m:Nat):Int) % 18446744073709551616=(m:Int) from by omega]
 have h2:0<=x % 18446744073709551616:=by omega
 rw[Int.tmod_eq_emod_of_nonneg h2]
 have h3:=Int.emod_nonneg (x % 18446744073709551616) (show((m:Nat):Int)≠0 by omega)
 have h4:=Int.emod_lt_of_pos (x % 18446744073709551616) (show(0:Int)<(m:Nat) by omega)
 exact⟨(x % 18446744073709551616 % ((m:Nat):Int)).toNat,by omega,by rw[wrap_i64 (by omega)];omega⟩
end Go.W

namespace Go.W
open Go
def zvA:Value:=acV 0 zR ⟨#[]⟩ nilS nilS 0 (0,0)
noncomputable def okZ:Bool:=isA (fun _=>none) zvA
def unZ:AR:=unA (fun _=>none) zvA
theorem okZ_eq:okZ=true:=isA_ac (n:=0) (f:=nilF) (m:=0) (q:=nilF) rfl (okSl_iff.2 ⟨by decide,fun j hj=>absurd hj (Nat.not_lt_zero _)⟩) rfl (okP_iff.2 ⟨by decide,fun j hj=>absurd hj (Nat.not_lt_zero _)⟩)
theorem unZ_eq:unZ=nlA 0 zR ⟨#[]⟩ 0 (0,0):=unA_ac (f:=nilF) (q:=nilF) okR_z (X:=(0,0)) (by decide) (by decide) rfl rfl
theorem unZ_z:Sam unZ zeR:=by
 rw[unZ_eq]
 exact⟨rfl,rfl,rfl,rfl,fun j hj=>absurd hj (Nat.not_lt_zero _),rfl,fun j hj=>absurd hj (Nat.not_lt_zero _),rfl,rfl⟩
noncomputable def moF (U:AR) (x:Int):Nat->List Value:=appF (wrL U) (twF (sgF (wrL U) (liF (wrA U)))) (lstF [.int .u8 x] 0 1)
noncomputable def moC (U:AR) (x:Int):Bool:=whN (wrL U+1)&&Nat.ble (wrL U+1) 1000000&&okY (wrL U+1) (sgF (wrL U+1) (moF U x))
noncomputable def moL (U:AR) (x:Int):List Nat:=lsB (wrL U+1) (sgF (wrL U+1) (moF U x))
noncomputable def cuC (U:AR) (n:Nat):Bool:=Nat.ble (0+n) (wrL U)&&((Nat.ble n n&&true)&&Nat.ble n (wrL U))&&Nat.ble n 1000000&&okY n (sgF (wrL U) (liF (wrA U)))
noncomputable def cuL (U:AR) (n:Nat):List Nat:=lsB n (sgF (wrL U) (liF (wrA U)))
noncomputable def spTc (U:AR) (x cc:Int):Option Value :=
 req (decide (0<=cc)&&decide (cc<=((wrL U:Nat):Int))) (req (Nat.ble cc.toNat (wrL U)) (req (cuC U cc.toNat) (bif raE (moL U x)==7 then (bif raE (cuL U cc.toNat)==7 then
  req (okG (raA (cuL U cc.toNat)) (slF (raA (cuL U cc.toNat)).S) (ptF (raA (cuL U cc.toNat)).V)&&okZ) (bif smA (unG (raA (cuL U cc.toNat)) (slF (raA (cuL U cc.toNat)).S) (ptF (raA (cuL U cc.toNat)).V)) unZ then tt12 else ff12) else ff12) else ff12)))
noncomputable def spTb (U:AR) (cut x:Int):Option Value :=
 req (whN (wrL U)&&szOk (wrL U) 1) (apB (wrL U) (req (moC U x) (bif decide (IntKind.u64.wrap ((wrL U:Nat):Int)=0) then none else spTc U x (IntKind.i64.wrap ((IntKind.u64.wrap cut).tmod (IntKind.u64.wrap ((wrL U:Nat):Int)))))))
noncomputable def spTa (A U:AR) (cut x:Int):Option Value :=
 req (awG A) (bif hvyB U then tt12 else req (okGs A (slF A.S) (ptF A.V)) (bif ckE U != 0 then (bif ((wrL U:Nat):Int)==0 then tt12 else ff12) else bif ((wrL U:Nat):Int)==0 then ff12 else spTb U cut x))
noncomputable def spT (A:AR) (cut x:Int):Option Value:=spTa A (unG A (slF A.S) (ptF A.V)) cut x
theorem wr0_pos {a:AR} (h:Right a):1<=(wr0 a).length:=by
 obtain ⟨r,e,_⟩:=wr0_hd h
 rw[e,List.length_cons];omega
theorem spT_eq {A:AR} (hA:ActO A) (cut:Int) {x:Int} (hx:0<=x∧x<256):spT A cut x=some (.bool true):=by
 obtain ⟨u1,_⟩:=arg_eqs hA
 unfold spT
 rw[u1]
 unfold spTa
 rw[awG_eq,req_true rfl]
 cases hh:hvyB A with
 | true=>rfl
 | false =>
  obtain ⟨o1,o2,o3,o4⟩:=arg_oks hh
  rw[cond_false,o2,req_true rfl]
  by_cases hc:ckE A=0
  rotate_left
  ·have hz:wrL A=0:=by rw[wrL_eq,wrA_no hc];rfl
   rw[bne_iff_ne.2 hc,cond_true,hz];rfl
  have hR:=ckE_iff.1 hc
  have hw:Wsl A:=fun j _=>hA.2.2.2.1 j
  have hlen:=(wrA_byte A).2
  have hpos:=wr0_pos hR
  have eW:wrA A=wr0 A:=wrA_ok hc
  have eL:wrL A=(wr0 A).length:=by rw[wrL_eq,eW]
  rw[eW] at hlen
  obtain ⟨hH,hO⟩:=holds_wr A
    -- one more
  obtain ⟨X,rfl⟩:=Int.eq_ofNat_of_zero_le hx.1
  have hM:Holds (wrL A+1) (moF A ((X:Nat):Int)) (wr0 A++[X]):=by
   refine rep_app ?_ (rep_lst [X])
   rw[<-eW]
   exact rep_congr hH fun j _=>by rw[bI_tw,bI_sg]
  have hMo:okY (wrL A+1) (moF A ((X:Nat):Int))=true:=okY_iff.2 fun j hj=>by
   rw[hM.2 j hj]
   have hb:∀b∈wr0 A++[X],b<256:=app_byte (wr0_byte hR).1 (one_byte (by omega))
   have hl:j<(wr0 A++[X]).length:=by rw[<-hM.1];exact hj
   rw[List.getD_eq_getElem?_getD,List.getElem?_eq_getElem hl,Option.getD_some]
   have:=hb _ (List.getElem_mem hl)
   omega
  have c1:moC A ((X:Nat):Int)=true:=by
   unfold moC
   rw[whN_true,okY_sgF hMo,Nat.ble_eq_true_of_le (by omega)];rfl
  have l1:moL A ((X:Nat):Int)=wr0 A++[X]:=lsB_sg hMo hM
  have n1:¬isRd (wr0 A++[X]):=by
   rintro ⟨a,ha,hwa,e⟩
   have:=(wr0_uni (s:=[X]) (t:=[]) hR ha hw hwa (by rw[e,List.append_nil])).2
   cases this
  have b1:((wrL A:Nat):Int)≠0:=by omega
  rw[hc,bne_self_eq_false,cond_false,beq_eq_false_iff_ne.2 b1,cond_false]
  unfold spTb
  rw[whN_true,szOk_small (by omega),req_true (b:=true&&true) rfl,apB_eq (by omega),c1,req_true rfl,decide_eq_false (by rw[wrap_u64];omega),cond_false]
  obtain ⟨j,hj,ej⟩:=mod_idx cut (m:=wrL A) (by omega) (by omega)
  rw[ej]
  unfold spTc
  rw[decide_eq_true (by omega),decide_eq_true (by omega),req_true (b:=true&&true) rfl,Int.toNat_natCast,Nat.ble_eq_true_of_le (by omega),req_true rfl]
    -- cut short
  have hOj:okY j (liF (wrA A))=true:=okY_iff.2 fun i hi=>okY_iff.1 hO i (by omega)
  have hHj:Holds j (liF (wrA A)) ((wr0 A).take j):=by
   refine⟨by rw[List.length_take];omega,fun i hi=>?_⟩
   rw[bI_li,eW,List.getD_eq_getElem?_getD,List.getD_eq_getElem?_getD,List.getElem?_take_of_lt hi]
  have l2:cuL A j=(wr0 A).take j:=lsB_sg hOj hHj
  have n2:¬isRd ((wr0 A).take j):=by
   rintro ⟨a,ha,hwa,e⟩
   have:=(wr0_uni (s:=(wr0 A).drop j) (t:=[]) ha hR hwa hw (by rw[e,List.take_append_drop,List.append_nil])).2
   have:=congrArg List.length this
   rw[List.length_drop] at this
   have:(wr0 A).length - j=0:=this
   omega
  have c2:cuC A j=true:=by
   unfold cuC
   rw[okY_sgF hOj,Nat.ble_eq_true_of_le (show 0+j<=wrL A by omega),Nat.ble_eq_true_of_le (Nat.le_refl j),Nat.ble_eq_true_of_le (show j<=wrL A by omega),Nat.ble_eq_true_of_le (show j<=1000000 by omega)];rfl
  rw[c2,req_true rfl,l1,l2,raE_no n1,raE_no n2,raA_no n2,zeR_un,okG_small (by decide) (by decide),okZ_eq,req_true (b:=true&&true) rfl,smA_iff.2 unZ_z.symm];rfl
end Go.W

namespace Go.Proofs.Ytckbmhegopjnmaa
set_option maxRecDepth 100000
open Go.W
open Go.RowKit (Below)
noncomputable def aspS:Sums:=[(6,.me HvyF),(7,.me (BabF 5)),(11,.me ActF),(10,.me (TwnF 5)),(9,.me (RacF 94 26)),(8,.pl Wk12F)]
theorem aspS_ok:SumsOk Try.prog aspS:=sums_consM hvy_msum (sums_consM aby_msum (sums_consM kac_msum (sums_consM twn_msum (sums_consM ard_msum (sums_cons wk12_sum sums_nil)))))
noncomputable def aspC:Cfg:=⟨tab,aspS,65,[]⟩
theorem asp_ev (A:AR) (cut x:Int) (es:Nat->TypeId) (er:Nat->Nat->TypeId):fnA aspC 60 Try.f3 (bodyOf Try.f3) (cArgsX [.ag (acR A),.c (.pl (i64 cut)),.c (.pl (.int .u8 x))] 0) (cMemX es er [.ag (acR A),.c (.pl (i64 cut)),.c (.pl (.int .u8 x))]) 0=spT A cut x:=by kernel_rfl
theorem asp_calls {v:Value} {A:AR} {cut x:Int} {W:World} (hv:ActW W A v) (hA:ActO A) (hx:(Lit.int .u8 x).wf=true):Calls Try.prog 3 #[v,.int .i64 cut,.int .u8 x] W fun e W'=>e=.returned (.bool true)∧Below W.heap.size W W' :=
 lawX_sound (fuel:=60) (next:=0) (A:=[.ag (acR A),.c (.pl (i64 cut)),.c (.pl (.int .u8 x))]) Try.func3 (by kernel_rfl) (args':=[v,.int .i64 cut,.int .u8 x])
  (LX_act hv (LX_pl1 (LX_pl1 (r:=[]) trivial))) (shX_act hv (shX_pl1 rfl (shX_pl1 rfl (r:=[]) trivial))) (by kernel_rfl) (GOk_nil _) (by show 3<=Try.f3.ntmps;decide +kernel) rfl nofun
  fun es er=>⟨aspC,⟨mixed,tabOk,aspS_ok,noL⟩,rfl,(asp_ev A cut x es er).trans (spT_eq hA cut (by obtain ⟨n,h,rfl⟩:=wf_u8 hx;omega))⟩
end Go.Proofs.Ytckbmhegopjnmaa

namespace Go.W
open Go Go.RowKit Go.ChangeShapes Go.WideShapes Go.ChangeAt
section
variable {H:Type} {enc:TypeId×Value->H} {P:Program} {W:World} {r:Reach} {base b0:Nat} {held:Bool} {t:TypeId} {v:Value} {d:DataW H} {p:List MemPlace}
theorem open_actA {ti tb tn tu tp t8 t32 ts tg tl tr:TypeId} {fs fp fr:Array Field}
  (ht:P.underlying t=some (.struct fs)) (hfs:fs.toList.map (fun f=>(f.offset,f.type))=[(0,ti),(1,tp),(10,tg),(11,ts),(12,tl),(13,ti),(14,tr)])
  (hti:P.underlying ti=some (.int .i64)) (htp:P.underlying tp=some (.struct fp)) (hfp:fp.toList.map (fun f=>(f.offset,f.type))=[(0,tb),(1,tn),(5,tn)])
  (htb:P.underlying tb=some .bool) (htn:P.underlying tn=some (.array 4 tu)) (htu:P.underlying tu=some (.int .u64)) (htg:P.underlying tg=some .string)
  (hts:P.underlying ts=some (.slice t32)) (ht32:P.underlying t32=some (.array 32 t8)) (ht8:P.underlying t8=some (.int .u8)) (htl:P.underlying tl=some (.slice tp))
  (htr:P.underlying tr=some (.struct fr)) (hfr:fr.toList.map (fun f=>(f.offset,f.type))=[(0,tn),(4,tn)])
  (ci:P.cellsOf ti=1) (cp:P.cellsOf tp=9) (cb:P.cellsOf tb=1) (cn:P.cellsOf tn=4) (cu:P.cellsOf tu=1) (cg:P.cellsOf tg=1) (csl:P.cellsOf ts=1) (c32:P.cellsOf t32=32) (cb8:P.cellsOf t8=1) (cl:P.cellsOf tl=1) (cr:P.cellsOf tr=8) (ct:P.cellsOf t=22)
  (hv:Value.okWide P W r base t v) (h:DataW.Trod enc P W b0 (fun _=>true) held t v d p):∃A:AR,ActW W A v∧ActO A:=by
 obtain ⟨k,K,lab,s,c,g,X,n,m,S,V,e,_,hK,_,hs,hS,hc,hV,_,h1,h2⟩:=open_act ht hfs hti htp hfp htb htn htu htg hts ht32 ht8 htl htr hfr ci cp cb cn cu cg csl c32 cb8 cl cr ct hv h
 exact⟨⟨k,K,lab,n,S,m,V,g,X⟩,⟨s,c,e,hs,hc⟩,hK,h1,h2,hS,hV⟩
end
end Go.W
