/-
  Several texts in one: Yf M112 M113 M92 M115 M83 M116 Ym.
-/
import Derived.Test.YtckbmhegopjnmaaGreatZi
namespace Go.Proofs.YtckbmhegopjnmaaGreat
set_option maxRecDepth 100000
open Go.W
noncomputable def rrdS:Sums:=[(39,.me (TakF 74 5)),(41,.me (NurF 74)),(40,.me (PorF 74)),(7,.me CkeF)]
theorem rrdS_ok:SumsOk Tryz.prog rrdS:=sums_consM tak_msum (sums_consM nur_msum (sums_consM por_msum (sums_consM rca_msum sums_nil)))
noncomputable def rrdC0:Cfg:=⟨tab,rrdS,154,[([1,1,1,0,1,0,1,1,1,0,1,0,1,0],fun _=>[])]⟩
theorem rrd_ev0 (es:Nat->TypeId) (er:Nat->Nat->TypeId) (m id:Nat) (g:Nat->List Value):fnX rrdC0 60 Tryz.f16 (bodyOf Tryz.f16) (cArgsX [.c (.sl kB m g)] 0) (cMemX es er [.c (.sl kB m g)]) 0 id=rdTr m g none:=by kernel_rfl
theorem rrd_at1:codeAt [1,1,1,0,1,0,1,1,1,0,1,0,1,0] (bodyOf Tryz.f16)=some (.loop (loopAt [1,1,1,0,1,0,1,1,1,0,1,0,1,0] (bodyOf Tryz.f16))):=by kernel_rfl
theorem rrd_at2:codeAt [1,1,1,0,1,0,1,1,1,0,1,1,1,1,0] (bodyOf Tryz.f16)=some (.loop (loopAt [1,1,1,0,1,0,1,1,1,0,1,1,1,1,0] (bodyOf Tryz.f16))):=by kernel_rfl
def rrdN1:List Nat:=[0,2,4,5,8,9]
def rrdN2:List Nat:=[0,2,4,5,8,11]
def rrdY:List Nat:=[0,2,4,5]
theorem rrd_r1 (kk:Int) (m:Nat) (g:Nat->List Value) (e0:Nat) (n:Int) (a:Int) (z:Bool) (F:Nat->List Value) (j:Nat):
  roundS rrdC0 60 [1,1,1,0,1,0,1,1,1,0,1,0,1,0,0] (loopAt [1,1,1,0,1,0,1,1,1,0,1,0,1,0] (bodyOf Tryz.f16)) rrdN1 [(0,0),(4,4),(12,12),(argId 0,argId 0),(bSl,nid 39 0)] 27 rrdY [(0,0),(4,4),(12,12),(argId 0,argId 0),(bSl,bSl)] 27
   (s1X 32 74 kk m g e0 n a z (bsS j) nilS [bsR 64 j F] 9 ((j:Nat):Int) 27)=
  bif decide (((j:Nat):Int)<n) then req (tkC m a 32) (req (szOk (j+1) 32) (req (true&&Nat.beq j j&&true&&true) (some (.normal,s1X 32 74 kk m g e0 n (tkA m a z 32) (tkZ m a z 32) (bsS (j+1)) nilS [bsR 64 (j+1) (appF j F (lstF (wt32 m g a z) 0 32))] 9 (IntKind.i64.wrap (((j:Nat):Int)+1)) 27))))
   else some (.exit 1,s1Y 32 74 kk m g e0 a z (bsS j) nilS [bsR 64 j F] 27):=by kernel_rfl
theorem rrd_r2 (kk:Int) (m:Nat) (g:Nat->List Value) (e0 k:Nat) (S:Nat->List Value) (n:Int) (a:Int) (z:Bool) (F:Nat->List Value) (j:Nat):
  roundS rrdC0 60 [1,1,1,0,1,0,1,1,1,0,1,1,1,1,0,0] (loopAt [1,1,1,0,1,0,1,1,1,0,1,1,1,1,0] (bodyOf Tryz.f16)) rrdN2 [(0,0),(4,4),(12,12),(argId 0,argId 0),(bSl,bSl),(bCo,nid 49 0)] 34 rrdY [(0,0),(4,4),(12,12),(argId 0,argId 0),(bSl,bSl),(bCo,bCo)] 34
   (s1X 32 74 kk m g e0 n a z (bsS k) (bsC j) [bsR 64 k S,bcR 26 j F] 11 ((j:Nat):Int) 34)=
  bif decide (((j:Nat):Int)<n) then (bif !z then req (qoC m g a) (req (szOk (j+1) 72) (req (true&&Nat.beq j j&&true&&true) (some (.normal,s1X 32 74 kk m g e0 n (rpR m g a z).2.1 (rpR m g a z).2.2 (bsS k) (bsC (j+1)) [bsR 64 k S,bcR 26 (j+1) (appF j F (lstF (ptC (rpR m g a z).1) 0 9))] 11 (IntKind.i64.wrap (((j:Nat):Int)+1)) 34))))
   else some (.exit 3,s1Y 32 74 kk m g e0 a z (bsS k) (bsC j) [bsR 64 k S,bcR 26 j F] 34)) else some (.exit 3,s1Y 32 74 kk m g e0 a z (bsS k) (bsC j) [bsR 64 k S,bcR 26 j F] 34):=by kernel_rfl
theorem rrd_l1 (kk:Int){m:Nat}{g:Nat->List Value}(e0:Nat) (hm:m<=1000000) (hg:okY m g=true){n:Nat}(hn:n<=255){q0:Int×Bool}(hq:inQ m q0):
  LoopOk Tryz.prog 154 (loopAt [1,1,1,0,1,0,1,1,1,0,1,0,1,0] (bodyOf Tryz.f16)) (atSt rrdN1 [(0,0),(4,4),(12,12),(argId 0,argId 0)] 27
   (s1X 32 74 kk m g e0 (n:Int) q0.1 q0.2 nilS nilS [] 9 0 27) (.exit 1)
   (s1Y 32 74 kk m g e0 (q1I m q0 n).1 (q1I m q0 n).2 (bsS n) nilS [bsR 64 n (slF (sVl m g q0))] 27)):=by
 refine loopW (fun _=>rrdC0) n (fun _ _=>⟨mixed,tabOk,rrdS_ok,noneL2⟩) (fun _=>rfl) rrd_at1 (m:=60) (nt:=fun _=>rrdN1) (ni:=fun _=>[(0,0),(4,4),(12,12),(argId 0,argId 0),(bSl,nid 39 0)]) (et:=fun _=>rrdY) (ei:=fun _=>[(0,0),(4,4),(12,12),(argId 0,argId 0),(bSl,bSl)]) (nx:=27) (ex:=27)
  (fun k=>s1X 32 74 kk m g e0 (n:Int) (q1I m q0 k).1 (q1I m q0 k).2 (bsS k) nilS [bsR 64 k (slF (sVl m g q0))] 9 ((k:Nat):Int) 27) ?_ (by intro h;cases h) ?_ ?_
 ·intro w0 R a w h
  exact nilCell_st (l1:=i64 kk::(ptC zR++[.string ⟨#[]⟩])) (l2:=nilS::i64 0::prL (0,0)) h (i:=12) rfl (id:=0) (k:=0) (by decide) (by decide) rfl k32 64 (slF (sVl m g q0)) (look_five _ _ _ _ _ _ rfl rfl) 27
 ·intro k hk
  have hin:=inQ_1I (m:=m) hq k
  refine⟨_,(rrd_r1 kk m g e0 (n:Int) _ _ _ k).trans ?_,stEq_mk rfl (mSame rfl (mSame rfl (mSame rfl (mSame rfl (mRow (row_s1 hg hq k) mNil)))))⟩
  rw[decide_eq_true (by omega),cond_true,tkC_in hin hm (by decide) (by decide),req_true rfl,szOk_mul (show(k+1)*32<=1000000 by omega),req_true rfl,bb3,req_true rfl,wrap_i64 (by omega)];rfl
 ·refine⟨_,(rrd_r1 kk m g e0 (n:Int) _ _ _ n).trans ?_,stEq_refl rfl⟩
  rw[decide_eq_false (by omega),cond_false]
theorem rrd_l2 (kk:Int){m:Nat}{g:Nat->List Value}(e0 k0:Nat) (S:Nat->List Value) (hm:m<=1000000) (hg:okY m g=true){n c:Nat}(hn:n<=255){q0:Int×Bool}(hq:inQ m q0) (hc:c<=n) (h1:∀j,j<c->(q2I m g q0 j).2=false) (h2:c=n∨(q2I m g q0 c).2=true):
  LoopOk Tryz.prog 154 (loopAt [1,1,1,0,1,0,1,1,1,0,1,1,1,1,0] (bodyOf Tryz.f16)) (atSt rrdN2 [(0,0),(4,4),(12,12),(argId 0,argId 0),(bSl,bSl)] 34
   (s1X 32 74 kk m g e0 (n:Int) q0.1 q0.2 (bsS k0) nilS [bsR 64 k0 S] 11 0 34) (.exit 3)
   (s1Y 32 74 kk m g e0 (q2I m g q0 c).1 (q2I m g q0 c).2 (bsS k0) (bsC c) [bsR 64 k0 S,bcR 26 c (ptF (pVl m g q0))] 34)):=by
 refine loopW (fun _=>rrdC0) c (fun _ _=>⟨mixed,tabOk,rrdS_ok,noneL2⟩) (fun _=>rfl) rrd_at2 (m:=60) (nt:=fun _=>rrdN2) (ni:=fun _=>[(0,0),(4,4),(12,12),(argId 0,argId 0),(bSl,bSl),(bCo,nid 49 0)]) (et:=fun _=>rrdY) (ei:=fun _=>[(0,0),(4,4),(12,12),(argId 0,argId 0),(bSl,bSl),(bCo,bCo)]) (nx:=34) (ex:=34)
  (fun k=>s1X 32 74 kk m g e0 (n:Int) (q2I m g q0 k).1 (q2I m g q0 k).2 (bsS k0) (bsC k) [bsR 64 k0 S,bcR 26 k (ptF (pVl m g q0))] 11 ((k:Nat):Int) 34) ?_ (by intro h;cases h) ?_ ?_
 ·intro w0 R a w h
  exact nilCell_st (l1:=i64 kk::(ptC zR++[.string ⟨#[]⟩,bsS k0])) (l2:=i64 0::prL (0,0)) h (i:=12) rfl (id:=0) (k:=1) (by decide) (by decide) rfl kP9 26 (ptF (pVl m g q0)) (look_six _ _ _ _ _ _ _ rfl rfl rfl) 34
 ·intro k hk
  have hin:=inQ_2I (m:=m) (g:=g) hq k
  refine⟨_,(rrd_r2 kk m g e0 k0 S (n:Int) _ _ _ k).trans ?_,stEq_mk rfl (mSame rfl (mSame rfl (mSame rfl (mSame rfl (mSame rfl (mRow (row_s2 q0 k) mNil))))))⟩
  rw[decide_eq_true (by omega),cond_true,not_cond (h1 k hk),qoC_in hg hin hm,req_true rfl,szOk_mul (show(k+1)*72<=1000000 by omega),req_true rfl,bb3,req_true rfl,wrap_i64 (by omega)];rfl
 ·refine⟨_,(rrd_r2 kk m g e0 k0 S (n:Int) _ _ _ c).trans ?_,stEq_refl rfl⟩
  rcases h2 with h2|h2
  ·rw[decide_eq_false (by omega),cond_false]
  ·rw[h2,Bool.not_true,cond_false]
   cases decide (((c:Nat):Int)<((n:Nat):Int))<;>rfl
noncomputable def rrdC2 (kk:Int) (m:Nat) (g:Nat->List Value) (e0 n:Nat) (q0:Int×Bool) (n2:Nat) (q2:Int×Bool) (c:Nat):Cfg:=⟨tab,rrdS,154,
 [([1,1,1,0,1,0,1,1,1,0,1,0,1,0],atSt rrdN1 [(0,0),(4,4),(12,12),(argId 0,argId 0)] 27 (s1X 32 74 kk m g e0 (n:Int) q0.1 q0.2 nilS nilS [] 9 0 27) (.exit 1)
   (s1Y 32 74 kk m g e0 (q1I m q0 n).1 (q1I m q0 n).2 (bsS n) nilS [bsR 64 n (slF (sVl m g q0))] 27)),
  ([1,1,1,0,1,0,1,1,1,0,1,1,1,1,0],atSt rrdN2 [(0,0),(4,4),(12,12),(argId 0,argId 0),(bSl,bSl)] 34 (s1X 32 74 kk m g e0 (n2:Int) q2.1 q2.2 (bsS n) nilS [bsR 64 n (slF (sVl m g q0))] 11 0 34) (.exit 3)
   (s1Y 32 74 kk m g e0 (q2I m g q2 c).1 (q2I m g q2 c).2 (bsS n) (bsC c) [bsR 64 n (slF (sVl m g q0)),bcR 26 c (ptF (pVl m g q2))] 34))]⟩
theorem rrd_ev2 (es:Nat->TypeId) (er:Nat->Nat->TypeId) (m id:Nat) (g:Nat->List Value) (kk:Int) (n:Nat) (q0:Int×Bool) (n2:Nat) (q2:Int×Bool) (c:Nat):
  fnX (rrdC2 kk m g (es (argId 0)) n q0 n2 q2 c) 60 Tryz.f16 (bodyOf Tryz.f16) (cArgsX [.c (.sl kB m g)] 0) (cMemX es er [.c (.sl kB m g)]) 0 id=rdTr m g
   (req (stEq (s1X 32 74 (rdKb m g) m g (es (argId 0)) (by0 (tkF m g (tkA m 0 false 1) (tkZ m 0 false 1) 1) 0) (tkA m (tkA m 0 false 1) (tkZ m 0 false 1) 1) (tkZ m (tkA m 0 false 1) (tkZ m 0 false 1) 1) nilS nilS [] 9 0 27)
     (s1X 32 74 kk m g (es (argId 0)) (n:Int) q0.1 q0.2 nilS nilS [] 9 0 27)) <|
    req (tkC m (q1I m q0 n).1 1) <|
    req (stEq (s1X 32 74 kk m g (es (argId 0)) (by0 (tkF m g (q1I m q0 n).1 (q1I m q0 n).2 1) 0) (tkA m (q1I m q0 n).1 (q1I m q0 n).2 1) (tkZ m (q1I m q0 n).1 (q1I m q0 n).2 1) (bsS n) nilS [bsR 64 n (slF (sVl m g q0))] 11 0 34)
     (s1X 32 74 kk m g (es (argId 0)) (n2:Int) q2.1 q2.2 (bsS n) nilS [bsR 64 n (slF (sVl m g q0))] 11 0 34)) <|
    rdE m (Go.W.look [bsR 64 n (slF (sVl m g q0)),bcR 26 c (ptF (pVl m g q2))]) (q2I m g q2 c).1 (q2I m g q2 c).2 (acV kk zR ⟨#[]⟩ (bsS n) (bsC c) 0 (0,0))
     (req (Nat.ble n n) (req (Nat.ble c c) (some (.tuple #[acV kk zR ⟨#[]⟩ (nSk id 0 n) (nSk id 1 c) 0 (0,0),.bool true],rwA 64 26 id n (slF (sVl m g q0)) c (ptF (pVl m g q2))))))):=by kernel_rfl
theorem rdd_msum:MSum Tryz.prog 16 (RwdF 64 26):=by
 intro w0 R fm w hm vs args' hl mm hsub id hlt v l hpick hnew
 match vs,hl,hpick with
 | [a],hl,hpick=>
  obtain ⟨hc,rfl,rfl⟩:=pick_one hpick
  simp only[Bool.and_eq_true]at hc
  obtain ⟨⟨h0,h1⟩,hg⟩:=hc
  have hm1:=Nat.le_of_ble_eq_true h1
  obtain ⟨m,g,hs⟩:∃m g,srcB mm kB a=(true,m,g):=⟨(srcB mm kB a).2.1,(srcB mm kB a).2.2,by rw[<-h0]⟩
  rw[hs]at hg hm1 hnew ⊢
  simp only at hg hm1 hnew ⊢
  have f1:fm (nid id 1)=none:=(hnew _ (List.mem_cons_self ..)).1 (by unfold nid;omega)
  have f0:fm (nid id 0)=none:=(hnew (nid id 0,_) (List.mem_cons_of_mem _ (List.mem_cons_self ..))).1 (by unfold nid;omega)
  have call:∀(r:OR),(∀es er,∃C,CfgOk Tryz.prog C (bodyOf Tryz.f16)∧C.n=Tryz.f16.ntmps∧fnX C 60 Tryz.f16 (bodyOf Tryz.f16) (cArgsX [.c (.sl kB m g)] 0) (cMemX es er [.c (.sl kB m g)]) 0 id=r)->
    ∀v l,r=some (v,l)->(∀p∈l,fm p.1=none)->Invokes Tryz.prog 16 args'.toArray w fun v' w'=>∃R':Nat->Pl->Prop,(∀i p,R i p->R' i p)∧V2 R' v v'∧MRel w0 R' (memF fm l) w':=by
   intro r hev v l hr hfree
   subst hr
   exact msum_atX (c:=bodyOf Tryz.f16) (fuel:=60) (next:=0) Tryz.func16 (by kernel_rfl) (by kernel_rfl) hm hl hsub hlt (A:=[.c (.sl kB m g)]) ⟨⟨hs,fun _ e=>by cases e⟩,trivial⟩ (by kernel_rfl) (by show 1<=Tryz.f16.ntmps;decide +kernel) hfree hev
  have hq1:=inQ_tk (inQ_00 m) (n:=1) (by decide)
  have c0:tkC m 0 1=true:=tkC_in (inQ_00 m) hm1 (by decide) (by decide)
  by_cases k2:rdKb m g=2
  ·-- a Post
   obtain ⟨q0,e0⟩:∃q0,q0=tkS m (tkS m q00 1) 1:=⟨_,rfl⟩
   obtain ⟨n,en⟩:∃n,n=byO (stO (lsB m g) (tkS m q00 1)):=⟨_,rfl⟩
   obtain ⟨qa,ea⟩:∃qa,qa=q1I m q0 n:=⟨_,rfl⟩
   obtain ⟨n2,en2⟩:∃n2,n2=byO (stO (lsB m g) qa):=⟨_,rfl⟩
   obtain ⟨q2,e2⟩:∃q2,q2=tkS m qa 1:=⟨_,rfl⟩
   have i0:inQ m q0:=by rw[e0];exact inQ_tk hq1 (n:=1) (by decide)
   have ia:inQ m qa:=by rw[ea];exact inQ_1I i0 n
   have i2:inQ m q2:=by rw[e2];exact inQ_tk ia (n:=1) (by decide)
   have ln:n<256:=by rw[en];exact byO_lt hg _
   have ln2:n2<256:=by rw[en2];exact byO_lt hg _
   obtain ⟨c,hc,hc1,hc2⟩:=rounds_of m g q2 n2
   have c1:tkC m (tkA m 0 false 1) 1=true:=tkC_in hq1 hm1 (by decide) (by decide)
   have c2:tkC m (q1I m q0 n).1 1=true:=by rw[<-ea];exact tkC_in ia hm1 (by decide) (by decide)
   have b1:by0 (tkF m g (tkA m 0 false 1) (tkZ m 0 false 1) 1) 0=((n:Nat):Int):=by rw[en];exact by0_by hg hq1
   have b2:by0 (tkF m g (q1I m q0 n).1 (q1I m q0 n).2 1) 0=((n2:Nat):Int):=by rw[en2,<-ea];exact by0_by hg ia
   have p0:tkA m (tkA m 0 false 1) (tkZ m 0 false 1) 1=q0.1∧tkZ m (tkA m 0 false 1) (tkZ m 0 false 1) 1=q0.2:=by rw[e0];exact⟨rfl,rfl⟩
   have p2:tkA m (q1I m q0 n).1 (q1I m q0 n).2 1=q2.1∧tkZ m (q1I m q0 n).1 (q1I m q0 n).2 1=q2.2:=by rw[e2,ea];exact⟨rfl,rfl⟩
   refine rd_done hlt f0 f1 (rd_2 hg 64 26 id k2 e0 en ea en2 e2 hc hc2) (call _ fun es er=>⟨rrdC2 (rdKb m g) m g (es (argId 0)) n q0 n2 q2 c,
    ⟨mixed,tabOk,rrdS_ok,consL (rrd_l1 (rdKb m g) (es (argId 0)) hm1 hg (by omega) i0) (oneL (rrd_l2 (rdKb m g) (es (argId 0)) n (slF (sVl m g q0)) hm1 hg (by omega) i2 hc hc1 hc2))⟩,rfl,(rrd_ev2 es er m id g (rdKb m g) n q0 n2 q2 c).trans ?_⟩)
   unfold rdTr
   rw[c0,req_true rfl,k2,show((2:Int)==1)=false from rfl,cond_false,show((2:Int)==2)=true from rfl,cond_true,c1,req_true rfl,b1,p0.1,p0.2,req_true (stEq_refl rfl),c2,req_true rfl,b2,p2.1,p2.2,req_true (stEq_refl rfl)]
  ·refine rd_done hlt f0 f1 (r:=rdTr m g none) (.inl ?_) (call _ fun es er=>⟨rrdC0,⟨mixed,tabOk,rrdS_ok,noneL2⟩,rfl,rrd_ev0 es er m id g⟩)
   unfold rdTr
   have nb:∀x:Int,rdKb m g≠x->(rdKb m g==x)=false:=fun x hx=>beq_eq_false_iff_ne.2 hx
   rw[c0,req_true rfl]
   by_cases k1:rdKb m g=1
   ·rw[show(rdKb m g==1)=true from beq_iff_eq.2 k1,cond_true];exact rd_1 hm1 hg k1
   rw[nb 1 k1,cond_false,nb 2 k2,cond_false]
   by_cases k3:rdKb m g=3
   ·rw[show(rdKb m g==3)=true from beq_iff_eq.2 k3,cond_true];exact rd_3 hm1 hg k3
   rw[nb 3 k3,cond_false]
   by_cases k4:rdKb m g=4
   ·rw[show(rdKb m g==4)=true from beq_iff_eq.2 k4,cond_true];exact rd_4 hm1 hg k4
   rw[nb 4 k4,cond_false]
   exact rd_5 hg ⟨k1,k2,k3,k4⟩
 | [],_,h=>simp[RwdF,pickM]at h
 | _::_::_,_,h=>simp[RwdF,pickM]at h
end Go.Proofs.YtckbmhegopjnmaaGreat

namespace Go.W
open Go
def gVa (A:AR):Value:=acV A.k A.K A.l (bsS A.n) (bsC A.m) A.g A.X
def gMe (n:Nat) (f:Nat->List Value) (m:Nat) (h:Nat->List Value):Nat->Option Blk:=look [bsR 0 n f,bcR 0 m h]
noncomputable def okG (A:AR) (f h:Nat->List Value):Bool:=isA (gMe A.n f A.m h) (gVa A)
def unG (A:AR) (f h:Nat->List Value):AR:=unA (gMe A.n f A.m h) (gVa A)
noncomputable def okGs (A:AR) (f h:Nat->List Value):Bool:=okG A f h&&Nat.ble (unG A f h).l.size 1000000
theorem unG_l (A:AR) (f h:Nat->List Value):(unG A f h).l=A.l:=rfl
theorem okG_eq {A:AR}{f h:Nat->List Value}(h1:okSl A.n f=true) (h2:okP A.m h=true):okG A f h=true:=
 isA_ac (src_bs 0 0 A.n A.m f h).1 (by rw[okSl_sg];exact h1) (src_bs 0 0 A.n A.m f h).2 (by rw[okP_sg];exact h2)
theorem unG_eq {A:AR}{f h:Nat->List Value}(hK:okR A.K) (hX:A.X.1<2^256) (hX':A.X.2<2^256):unG A f h=⟨A.k,A.K,A.l,A.n,slA f,A.m,pA h,A.g,A.X⟩:=by
 have:=unA_ac (k:=A.k) (lab:=A.l) (g:=A.g) hK hX hX' (src_bs 0 0 A.n A.m f h).1 (src_bs 0 0 A.n A.m f h).2
 rw[slA_sg,pA_sg]at this;exact this
theorem unG_arg {A:AR}(hA:ActO A){f h:Nat->List Value}(hf:slA f=slA (slF A.S)) (hh:pA h=pA (ptF A.V)):unG A f h=A:=by
 obtain ⟨hK,hX,hX',hS,hV⟩:=hA
 rw[unG_eq hK hX hX',hf,hh,show slA (slF A.S)=A.S from funext fun j=>slA_slF (hS j),show pA (ptF A.V)=A.V from funext fun j=>pA_pt (hV j)]
theorem right_ok {a:AR}(h:Right a) (hw:Wsl a):okR a.K∧a.X.1<2^256∧a.X.2<2^256∧a.n<=8∧a.m<=64∧a.l.size<=96∧(∀j,j<a.n->a.S j<2^256)∧∀j,j<a.m->okR (a.V j):=by
 have p:=pN_256
 rcases h with⟨_,c1,c2,c3,c4,c5,c6⟩|⟨_,c1,c2,c3,c4,c5,c6,c7,c8,c9⟩|⟨_,c1,c2,c3,c4,c5,c6,c7,c8⟩|⟨_,c1,c2,c3,c4,c6,c7,c8⟩|⟨_,c1,c2,c3,c4,c5,c6⟩
 ·exact⟨ck_okR (ful_ck c1),by rw[c6];decide,by rw[c6];decide,by omega,by omega,lbl_size c2,hw,fun j hj=>by omega⟩
 ·exact⟨by rw[c1];exact okR_z,by rw[c4];decide,by rw[c4];decide,c5,c7,by rw[c2];decide,hw,fun j hj=>ck_okR (alP_iff.1 c8 j hj)⟩
 ·exact⟨ck_okR (ful_ck c6),by omega,by omega,by omega,by omega,by rw[c1];decide,hw,fun j hj=>by omega⟩
 ·exact⟨ck_okR (ful_ck c6),by omega,by omega,by omega,by omega,by rw[c1];decide,hw,fun j hj=>by omega⟩
 ·exact⟨by rw[c1];exact okR_z,by rw[c6];decide,by rw[c6];decide,by omega,by omega,by rw[c2];decide,hw,fun j hj=>by omega⟩
theorem okG_small {A:AR}(hn:A.n<=1000) (hm:A.m<=1000):okG A (slF A.S) (ptF A.V)=true:=okG_eq (okSl_slF hn) (okP_pt hm)
theorem unG_right {a:AR}(h:Right a) (hw:Wsl a):Sam (unG a (slF a.S) (ptF a.V)) a:=by
 obtain ⟨h1,h2,h3,_,_,_,h4,h5⟩:=right_ok h hw
 rw[unG_eq h1 h2 h3]
 exact⟨rfl,rfl,rfl,rfl,fun j hj=>slA_slF (h4 j hj),rfl,fun j hj=>pA_pt (h5 j hj),rfl,rfl⟩
theorem zeR_un:unG zeR (slF zeR.S) (ptF zeR.V)=zeR:=by
 refine unG_arg ⟨okR_z,by decide,by decide,fun _=>(show(0:Nat)<2^256 by decide),fun _=>okR_z⟩ rfl rfl
theorem okG_read (L:List Nat):okG (raA L) (slF (raA L).S) (ptF (raA L).V)=true:=by
 by_cases h:isRd L
 ·obtain ⟨h1,h2,_⟩:=raA_is h
  obtain ⟨_,_,_,h3,h4,_⟩:=right_ok h1 h2
  exact okG_small (by omega) (by omega)
 ·rw[raA_no h];exact okG_small (by decide) (by decide)
theorem unG_read (L:List Nat):Sam (unG (raA L) (slF (raA L).S) (ptF (raA L).V)) (raA L):=by
 by_cases h:isRd L
 ·obtain ⟨h1,h2,_⟩:=raA_is h
  exact unG_right h1 h2
 ·rw[raA_no h,zeR_un];exact Sam.refl _
def tt12:Option Value:=some (.bool true)
def ff12:Option Value:=some (.bool false)
end Go.W

namespace Go.W
open Go
theorem pyB_byte (K:RP):∀b∈pyB K,b<256:=by
 intro b hb
 unfold pyB at hb
 split at hb
 ·rw[List.mem_singleton.1 hb];decide
 ·rcases List.mem_cons.1 hb with rfl|hb
  ·omega
  ·exact beL_byte _ _ b hb
theorem txB_byte (s:ByteArray):∀b∈txB s,b<256:=by
 intro b hb
 unfold txB at hb
 obtain ⟨x,_,rfl⟩:=List.mem_map.1 hb
 exact x.toNat_lt
theorem syS_byte (S:Nat->Nat):∀n,∀b∈syS S n,b<256
 | 0,b,h=>by cases h
 | n+1,b,h=>by
  rw[syS]at h
  rcases List.mem_append.1 h with h|h
  ·exact syS_byte S n b h
  ·exact beL_byte _ _ b h
theorem pyS_byte (V:Nat->RP):∀n,∀b∈pyS V n,b<256
 | 0,b,h=>by cases h
 | n+1,b,h=>by
  rw[pyS]at h
  rcases List.mem_append.1 h with h|h
  ·exact pyS_byte V n b h
  ·exact pyB_byte _ b h
theorem app_byte {l k:List Nat}(h1:∀b∈l,b<256) (h2:∀b∈k,b<256):∀b∈l++k,b<256:=fun b hb=>by
 rcases List.mem_append.1 hb with h|h
 ·exact h1 b h
 ·exact h2 b h
theorem one_byte {x:Nat}(h:x<256):∀b∈[x],b<256:=fun b hb=>by rw[List.mem_singleton.1 hb];exact h
theorem wr0_byte {a:AR}(h:Right a):(∀b∈wr0 a,b<256)∧(wr0 a).length<=4000:=by
 have pl:∀K:RP,(pyB K).length<=33:=fun K=>by rw[pyB_len];exact pbL_le K
 rcases h with⟨k,c1,c2,c3⟩|⟨k,c1,c2,c3,c4,c5,c6,c7,c8⟩|⟨k,c1,c2,c3,c4,c5,c6⟩|⟨k,c⟩|⟨k,c⟩
 ·rw[wr0_1 k]
  refine⟨app_byte (app_byte (one_byte (by decide)) (pyB_byte _)) (app_byte (beL_byte _ _) (txB_byte _)),?_⟩
  have:=pl a.K
  have:=lbl_size c2
  simp only[List.length_append,beL_len,txB_len,List.length_cons,List.length_nil];omega
 ·rw[wr0_2 k]
  unfold l1A l0A
  refine⟨app_byte (app_byte (app_byte (app_byte (one_byte (by decide)) (one_byte (by omega))) (syS_byte _ _)) (one_byte (by omega))) (pyS_byte _ _),?_⟩
  have:=pyL_le a.V a.m
  simp only[List.length_append,syS_len,pyS_len,List.length_cons,List.length_nil];omega
 ·rw[wr0_3 k]
  refine⟨app_byte (app_byte (app_byte (one_byte (by decide)) (one_byte (by omega))) (pyB_byte _)) (app_byte (beL_byte _ _) (beL_byte _ _)),?_⟩
  have:=pl a.K
  simp only[List.length_append,beL_len,List.length_cons,List.length_nil];omega
 ·rw[wr0_4 k]
  refine⟨app_byte (app_byte (one_byte (by decide)) (pyB_byte _)) (app_byte (beL_byte _ _) (beL_byte _ _)),?_⟩
  have:=pl a.K
  simp only[List.length_append,beL_len,List.length_cons,List.length_nil];omega
 ·have e:wr0 a=[5]:=by unfold wr0;rw[k];rfl
  rw[e];exact⟨one_byte (by decide),by decide⟩
theorem okY_li {l:List Nat}(h:∀b∈l,b<256) (n:Nat) (hn:n<=l.length):okY n (liF l)=true:=okY_iff.2 fun j hj=>by
 rw[bI_li,List.getD_eq_getElem?_getD,List.getElem?_eq_getElem (by omega),Option.getD_some]
 have:=h _ (List.getElem_mem (show j<l.length by omega))
 omega
theorem okY_sgF {n m:Nat}{f:Nat->List Value}(h:okY n f=true):okY n (sgF m f)=true:=okY_iff.2 fun j hj=>by
 rw[bI_sg];exact okY_iff.1 h j hj
theorem lsB_sg {n m:Nat}{f:Nat->List Value}{l:List Nat}(h:okY n f=true) (hf:Holds n f l):lsB n (sgF m f)=l:=rep_uniq (rep_ls (okY_sgF h)) (rep_sg m hf) rfl
theorem wrA_byte (A:AR):(∀b∈wrA A,b<256)∧(wrA A).length<=4000:=by
 by_cases h:ckE A=0
 ·rw[wrA_ok h];exact wr0_byte (ckE_iff.1 h)
 ·rw[wrA_no h];exact⟨fun b hb=>(by cases hb),(by decide)⟩
theorem holds_wr (A:AR):Holds (wrL A) (liF (wrA A)) (wrA A)∧okY (wrL A) (liF (wrA A))=true:=by
 rw[wrL_eq]
 exact⟨rep_li _,okY_li (wrA_byte A).1 _ (Nat.le_refl _)⟩
theorem smA_self (A:AR):smA A A=true:=smA_iff.2 (Sam.refl A)
end Go.W

namespace Go.W
open Go
def tA:ByteArray:=⟨#[65,100,97,32,76,46]⟩
def tE:ByteArray:=⟨#[195,164,98]⟩
end Go.W

namespace Go.W
open Go
theorem syS_congr {S Z:Nat->Nat}:∀n,(∀j,j<n->S j=Z j)->syS S n=syS Z n
 | 0,_=>rfl
 | n+1,h=>by rw[syS,syS,syS_congr n fun j hj=>h j (by omega),h n (by omega)]
theorem pyS_congr {V W:Nat->RP}:∀n,(∀j,j<n->V j=W j)->pyS V n=pyS W n
 | 0,_=>rfl
 | n+1,h=>by rw[pyS,pyS,pyS_congr n fun j hj=>h j (by omega),h n (by omega)]
theorem wr0_sam {a b:AR}(h:Sam a b):wr0 a=wr0 b:=by
 obtain ⟨e1,e2,e3,e4,e5,e6,e7,e8,e9⟩:=h
 unfold wr0
 rw[syS_congr a.n e5,pyS_congr a.m e7,e1,e2,e3,e4,e6,e8,e9]
end Go.W

namespace Go.W
def kbW (L:Nat):Bool:=true&&true&&true&&true&&Nat.beq L L&&true&&Nat.ble L L
theorem kbW_true (L:Nat):kbW L=true:=by unfold kbW;rw[Nat.beq_refl,bE (Nat.le_refl _)];rfl
end Go.W

namespace Go.W
open Go
def twN (n:Nat) (f:Nat->List Value):Nat->List Value:=sgF n (twF (sgF n f))
noncomputable def rbC (n:Nat) (f:Nat->List Value):Bool:=whN n&&Nat.ble n 1000000&&okY n (sgF n f)
noncomputable def rbL (n:Nat) (f:Nat->List Value):List Nat:=lsB n (sgF n f)
noncomputable def okR2 (L:List Nat):Bool:=okG (raA L) (slF (raA L).S) (ptF (raA L).V)
noncomputable def unR2 (L:List Nat):AR:=unG (raA L) (slF (raA L).S) (ptF (raA L).V)
noncomputable def reTe (n:Nat) (f:Nat->List Value) (L0:List Nat):Option Value:=
 req (kbW n&&Nat.ble n 1000000) (req (rbC n f) (bif raE L0==0 then req (okR2 L0&&okR2 L0) (bif smA (unR2 L0) (unR2 L0) then tt12 else ff12) else ff12))
noncomputable def reTd (n:Nat) (f:Nat->List Value) (L1 L0:List Nat):Option Value:=
 bif !(raB L0) then tt12 else req (okGs (raA L1) (slF (raA L1).S) (ptF (raA L1).V)) (bif ckE (unR2 L1) != 0 then ff12 else req (whN (wrL (unR2 L1))&&whN n&&Nat.ble (wrL (unR2 L1)) 9223372036854775807)
  (bif !(eqR (wrL (unR2 L1)) (sgF (wrL (unR2 L1)) (liF (wrA (unR2 L1)))) n (sgF n f)) then ff12 else reTe n f L0))
noncomputable def reTc (n:Nat) (f:Nat->List Value) (L1 L0:List Nat):Option Value:=
 req (okR2 L1&&okR2 L0) (bif !(smA (unR2 L1) (unR2 L0)) then ff12 else bif !(raB L0==(raE L1==0)) then ff12 else
  bif !(raB L0) then (bif raE L1 != 7 then ff12 else reTd n f L1 L0) else reTd n f L1 L0)
noncomputable def reTb (n:Nat) (f:Nat->List Value) (L1 L0:List Nat):Option Value:=
 req (rbC n (twF (sgF n f))) (req (rbC n f) (req (whN n&&whN n&&Nat.ble n 9223372036854775807) (bif !(eqR n (twN n f) n (sgF n f)) then ff12 else reTc n f L1 L0)))
noncomputable def reT (n:Nat) (f:Nat->List Value):Option Value:=
 bif decide ((n:Int) > 4000) then tt12 else req (whN n&&szOk n 1) (reTb n f (rbL n (twF (sgF n f))) (rbL n f))
theorem reTe_eq {n:Nat}{f:Nat->List Value}(hn:n<=4000) (hg:okY n f=true){L:List Nat}(hr:isRd L):reTe n f L=some (.bool true):=by
 unfold reTe rbC
 rw[kbW_true,whN_true,okY_sgF hg,Nat.ble_eq_true_of_le (show n<=1000000 by omega),req_true (b:=true&&true) rfl,req_true (b:=true&&true&&true) rfl,raE_yes hr,show okR2 L=true from okG_read L,smA_self];rfl
theorem reT_eq {n:Nat}{f:Nat->List Value}(hg:okY n f=true):reT n f=some (.bool true):=by
 unfold reT
 by_cases hn:(n:Int) > 4000
 ·rw[decide_eq_true hn];rfl
 have hn:n<=4000:=by omega
 have hH:=rep_ls hg
 have ht:okY n (twF (sgF n f))=true:=okY_iff.2 fun j hj=>by rw[bI_tw,bI_sg];exact okY_iff.1 hg j hj
 have hT:Holds n (twF (sgF n f)) (lsB n f):=rep_congr hH fun j _=>by rw[bI_tw,bI_sg]
 have l0:rbL n f=lsB n f:=lsB_sg hg hH
 have l1:rbL n (twF (sgF n f))=lsB n f:=lsB_sg ht hT
 have he:eqR n (twN n f) n (sgF n f)=true:=eqR_iff.2 ⟨rfl,fun j _=>by unfold twN;rw[bI_sg,bI_tw]⟩
 rw[decide_eq_false (by omega),cond_false,whN_true,szOk_small (by omega),req_true (b:=true&&true) rfl,l0,l1]
 unfold reTb rbC
 rw[whN_true,okY_sgF hg,okY_sgF ht,Nat.ble_eq_true_of_le (show n<=1000000 by omega),Nat.ble_eq_true_of_le (show n<=9223372036854775807 by omega),req_true (b:=true&&true&&true) rfl,req_true (b:=true&&true&&true) rfl,req_true (b:=true&&true&&true) rfl,he,Bool.not_true,cond_false]
 unfold reTc
 rw[show okR2 (lsB n f)=true from okG_read _,req_true (b:=true&&true) rfl,smA_self,Bool.not_true,cond_false]
 by_cases hr:isRd (lsB n f)
 ·rw[raB_yes hr,raE_yes hr,show(!(true==((0:Int)==0)))=false from rfl,cond_false,Bool.not_true,cond_false]
  unfold reTd
  obtain ⟨r1,r2,r3⟩:=raA_is hr
  have hs:=unG_read (lsB n f)
  have hR:Right (unR2 (lsB n f)):=Right_sam hs r1
  have hc:=ckE_iff.2 hR
  have hl:(raA (lsB n f)).l.size<=96:=(right_ok r1 r2).2.2.2.2.2.1
  have o:okGs (raA (lsB n f)) (slF (raA (lsB n f)).S) (ptF (raA (lsB n f)).V)=true:=by
   unfold okGs;rw[okG_read,unG_l,Nat.ble_eq_true_of_le (by omega)];rfl
  have eW:wrA (unR2 (lsB n f))=lsB n f:=(wrA_ok hc).trans ((wr0_sam hs).trans r3)
  have hq:eqR (wrL (unR2 (lsB n f))) (sgF (wrL (unR2 (lsB n f))) (liF (wrA (unR2 (lsB n f))))) n (sgF n f)=true:=by
   rw[rep_eqR (rep_sg _ (holds_wr _).1) (rep_sg _ hH),eW];exact decide_eq_true rfl
  have hb:=(wrA_byte (unR2 (lsB n f))).2
  rw[raB_yes hr,Bool.not_true,cond_false,o,req_true rfl,hc,bne_self_eq_false,cond_false,whN_true,whN_true,Nat.ble_eq_true_of_le (show wrL (unR2 (lsB n f))<=9223372036854775807 by rw[wrL_eq];omega),req_true (b:=true&&true&&true) rfl,hq,Bool.not_true,cond_false]
  exact reTe_eq hn hg hr
 ·unfold reTd
  rw[raB_no hr,raE_no hr];rfl
end Go.W

namespace Go.Proofs.YtckbmhegopjnmaaGreat
set_option maxRecDepth 100000
open Go.W
open Go.RowKit (Below)
noncomputable def areS:Sums:=[(8,.me (BabF 5)),(10,.me ActF),(12,.me KbF),(15,.me (TwnF 5)),(16,.me (RwdF 64 26)),(17,.me (SpoF 5)),(14,.me (RacF 64 26)),(11,.pl Wk12F)]
noncomputable def areC:Cfg:=⟨tab,areS,82,[]⟩
theorem are_ev (n:Nat) (f:Nat->List Value) (es:Nat->TypeId) (er:Nat->Nat->TypeId):fnA areC 60 Tryz.f4 (bodyOf Tryz.f4) (cArgsX [.c (.sl kB n f)] 0) (cMemX es er [.c (.sl kB n f)]) 0=reT n f:=by kernel_rfl
theorem areS_ok:SumsOk Tryz.prog areS:=sums_consM aby_msum (sums_consM kac_msum (sums_consM kb_msum (sums_consM twn_msum (sums_consM rdd_msum (sums_consM spo_msum (sums_consM ard_msum (sums_cons wk12_sum sums_nil)))))))
theorem are_calls {n:Nat}{f:Nat->List Value}{v:Value}{W:World}(hu:∀j,∃x:Nat,x<256∧f j=[.int .u8 (x:Int)]) (hv:SrcW W kB n f v):Calls Tryz.prog 4 #[v] W fun e W'=>e=.returned (.bool true)∧Below W.heap.size W W':=
 lawX_sound (fuel:=60) (next:=0) (A:=[.c (.sl kB n f)]) Tryz.func4 (by kernel_rfl) (args':=[v]) (LX_sl1 hv (r:=[]) trivial) (shX_sl1 (r:=[]) trivial) (by kernel_rfl) (GOk_nil _) (by show 1<=Tryz.f4.ntmps;decide +kernel) rfl nofun
  fun es er=>⟨areC,⟨mixed,tabOk,areS_ok,noL⟩,rfl,(are_ev n f es er).trans (reT_eq (okY_iff.2 fun j _=>by
   obtain ⟨x,h1,h2⟩:=hu j
   have e:bI f j=(x:Int):=by show toI ((f j).headD _)=_;rw[h2];rfl
   omega))⟩
end Go.Proofs.YtckbmhegopjnmaaGreat
