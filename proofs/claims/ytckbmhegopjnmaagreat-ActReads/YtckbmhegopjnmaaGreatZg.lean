/-
  Several texts in one: Ya M88 M89 W29 M81 M82 M90 W30 M91 Xa Xg Lo Fa Fb Fc Ca M95 M96 M97 W37 M98 M99 W38 M100 M28b M33.
-/
import Derived.Test.YtckbmhegopjnmaaGreatZf
namespace Go.Proofs.YtckbmhegopjnmaaGreat
set_option maxRecDepth 100000
open Go.W
def kseNt:List Nat:=[0,1,4,5]
def kseNi:List Nat:=[1500000,1500001]
def kseSt (n:Nat) (f:Nat->List Value) (m:Nat) (g:Nat->List Value) (e0 e1:Nat) (i:Int):St:=
 ⟨[(0,aSl 0 n),(1,aSl 1 m),(4,.bool false),(5,i64 i)],[(1500000,⟨.row k32 n f,e0,false⟩),(1500001,⟨.row k32 m g,e1,false⟩)],20⟩
def kseS:Sums:=[]
theorem kseS_ok:SumsOk Tryz.prog kseS:=sums_nil
def kseC0:Cfg:=⟨tab,kseS,26,[]⟩
theorem kse_at:codeAt [1,1,0,1,0] (bodyOf Tryz.f30)=some (.loop (loopAt [1,1,0,1,0] (bodyOf Tryz.f30))):=by kernel_rfl
theorem kse_r (n:Nat) (V:Nat->Nat) (m:Nat) (U:Nat->Nat) (e0 e1:Nat) (i:Nat):roundS kseC0 60 [1,1,0,1,0,0] (loopAt [1,1,0,1,0] (bodyOf Tryz.f30)) kseNt kseNi 20 kseNt kseNi 20 (kseSt n (slF V) m (slF U) e0 e1 (i:Int))=
  bif decide ((i:Int)<(n:Int)) then rdR i n (rdR i m (bif !(eqL (slC (V (0+i))) (slC (U (0+i)))) then some (.ret,kseSt n (slF V) m (slF U) e0 e1 (i:Int)) else some (.normal,kseSt n (slF V) m (slF U) e0 e1 (IntKind.i64.wrap ((i:Int)+1)))))
  else some (.exit 0,kseSt n (slF V) m (slF U) e0 e1 (i:Int)):=by kernel_rfl
noncomputable def kseC (n:Nat) (V U:Nat->Nat) (e0 e1:Nat) (e:Exit) (i:Int):Cfg:=⟨tab,kseS,26,[([1,1,0,1,0],atSt kseNt kseNi 20 (kseSt n (slF V) n (slF U) e0 e1 0) e (kseSt n (slF V) n (slF U) e0 e1 i))]⟩
theorem kse_ev0 (n:Nat) (f g:Nat->List Value) (V U:Nat->Nat) (es:Nat->Nat) (i:Int) (id:Nat):fnMS (kseC n V U (es 0) (es 1) (.exit 0) i) 60 Tryz.f30 (bodyOf Tryz.f30) (cArgs [.sl k32 n f,.sl k32 n g] 0) (cMem es [.sl k32 n f,.sl k32 n g] 0) 0 id=
  bif ((n:Nat):Int) != ((n:Nat):Int) then some (.bool false,[]) else req (stEq (kseSt n f n g (es 0) (es 1) 0) (kseSt n (slF V) n (slF U) (es 0) (es 1) 0)) (some (.bool true,[])):=by kernel_rfl
theorem kse_ev1 (n:Nat) (f g:Nat->List Value) (V U:Nat->Nat) (es:Nat->Nat) (i:Int) (id:Nat):fnMS (kseC n V U (es 0) (es 1) .ret i) 60 Tryz.f30 (bodyOf Tryz.f30) (cArgs [.sl k32 n f,.sl k32 n g] 0) (cMem es [.sl k32 n f,.sl k32 n g] 0) 0 id=
  bif ((n:Nat):Int) != ((n:Nat):Int) then some (.bool false,[]) else req (stEq (kseSt n f n g (es 0) (es 1) 0) (kseSt n (slF V) n (slF U) (es 0) (es 1) 0)) (some (.bool false,[])):=by kernel_rfl
theorem kse_ev2 (n:Nat) (f:Nat->List Value) (m:Nat) (g:Nat->List Value) (es:Nat->Nat) (id:Nat):fnMS ⟨tab,kseS,26,[([1,1,0,1,0],fun _=>[])]⟩ 60 Tryz.f30 (bodyOf Tryz.f30) (cArgs [.sl k32 n f,.sl k32 m g] 0) (cMem es [.sl k32 n f,.sl k32 m g] 0) 0 id=
  bif ((n:Nat):Int) != ((m:Nat):Int) then some (.bool false,[]) else none:=by kernel_rfl
theorem kse_msum:MSum Tryz.prog 30 SlsF:=by
 intro w0 R fm w hm vs args' hl mm hsub id hlt v l hpick hnew
 match vs,hl,hpick with
 | [a,b],hl,hpick=>
  obtain ⟨hc,rfl,rfl⟩:=pick_one hpick
  simp only[Bool.and_eq_true]at hc
  obtain ⟨⟨⟨ha,hb⟩,ho1⟩,ho2⟩:=hc
  generalize hqa:srcB mm k32 a=qa at ha ho1 ⊢
  generalize hqb:srcB mm k32 b=qb at hb ho2 ⊢
  obtain ⟨ok1,n,f⟩:=qa
  obtain ⟨ok2,m,g⟩:=qb
  simp only at ha hb ho1 ho2 ⊢
  subst ha hb
  have hn:=(okSl_iff.1 ho1).1
  refine msum_at (c:=bodyOf Tryz.f30) (fuel:=60) (next:=0) Tryz.func30 (by kernel_rfl) (by kernel_rfl) hm hl hsub hlt (A:=[.sl k32 n f,.sl k32 m g]) ⟨hqa,hqb,trivial⟩ (by show 2<=Tryz.f30.ntmps;decide +kernel) (.inl rfl) hnew (fun es=>?_)
  by_cases hnm:n=m
  ·subst hnm
   have rounds:∀(k:Nat) (e:Exit) (i:Int),k<=n->(∀j,j<k->slA f j=slA g j)->e≠.normal->roundS kseC0 60 [1,1,0,1,0,0] (loopAt [1,1,0,1,0] (bodyOf Tryz.f30)) kseNt kseNi 20 kseNt kseNi 20 (kseSt n (slF (slA f)) n (slF (slA g)) (es 0) (es 1) (k:Int))=some (e,kseSt n (slF (slA f)) n (slF (slA g)) (es 0) (es 1) i)->
     LoopOk Tryz.prog 26 (loopAt [1,1,0,1,0] (bodyOf Tryz.f30)) (atSt kseNt kseNi 20 (kseSt n (slF (slA f)) n (slF (slA g)) (es 0) (es 1) 0) e (kseSt n (slF (slA f)) n (slF (slA g)) (es 0) (es 1) i)):=by
    intro k e i hk hj he hlast
    refine loopE (fun _=>kseC0) k (fun _ _=>⟨mixed,tabOk,kseS_ok,noL⟩) (fun _=>rfl) kse_at (m:=60) (nt:=kseNt) (ni:=kseNi) (et:=kseNt) (ei:=kseNi) (nx:=20) (ex:=20) (fun i=>kseSt n (slF (slA f)) n (slF (slA g)) (es 0) (es 1) (i:Int)) rfl he ?_ ⟨_,hlast,stEq_refl rfl⟩
    intro i hi
    refine⟨_,?_,stEq_refl rfl⟩
    refine(kse_r n (slA f) n (slA g) (es 0) (es 1) i).trans ?_
    rw[decide_eq_true (by omega),cond_true,rdR_eq (by omega),rdR_eq (by omega),Nat.zero_add,eqL_sl (el_sl ho1 (by omega)).2 (el_sl ho2 (by omega)).2,hj i hi,decide_eq_true rfl,wrap_i64 (by omega)];rfl
   have hne:((((n:Nat):Int) != ((n:Nat):Int)):Bool)=false:=bne_self_eq_false _
   have hS:stEq (kseSt n f n g (es 0) (es 1) 0) (kseSt n (slF (slA f)) n (slF (slA g)) (es 0) (es 1) 0)=true:=stEq_mk rfl (mRow (row_sl ho1) (mRow (row_sl ho2) mNil))
   by_cases hall:∀j,j<n->slA f j=slA g j
   ·refine⟨kseC n (slA f) (slA g) (es 0) (es 1) (.exit 0) (n:Int),⟨mixed,tabOk,kseS_ok,oneL (rounds n (.exit 0) (n:Int) (Nat.le_refl _) hall (by intro h;cases h) ?_)⟩,rfl,?_⟩
    ·refine(kse_r n (slA f) n (slA g) _ _ n).trans ?_
     rw[decide_eq_false (by omega),cond_false]
    ·refine(kse_ev0 n f g _ _ es _ id).trans ?_
     rw[hne,cond_false,req_true hS,eqN_iff.2 ⟨rfl,hall⟩]
   ·obtain ⟨k,h1,h2,h3⟩:=first_ne hall
    refine⟨kseC n (slA f) (slA g) (es 0) (es 1) .ret (k:Int),⟨mixed,tabOk,kseS_ok,oneL (rounds k .ret (k:Int) (by omega) h3 (by intro h;cases h) ?_)⟩,rfl,?_⟩
    ·refine(kse_r n (slA f) n (slA g) _ _ k).trans ?_
     rw[decide_eq_true (by omega),cond_true,rdR_eq h1,rdR_eq h1,Nat.zero_add,eqL_sl (el_sl ho1 h1).2 (el_sl ho2 h1).2,decide_eq_false h2];rfl
    ·refine(kse_ev1 n f g _ _ es _ id).trans ?_
     have:eqN n (slA f) n (slA g)=false:=by rw[Bool.eq_false_iff,ne_eq,eqN_iff];exact fun h=>hall h.2
     rw[hne,cond_false,req_true hS,this]
  ·refine⟨⟨tab,kseS,26,[([1,1,0,1,0],fun _=>[])]⟩,⟨mixed,tabOk,kseS_ok,noneL2⟩,rfl,?_⟩
   refine(kse_ev2 n f m g es id).trans ?_
   have:eqN n (slA f) m (slA g)=false:=by rw[Bool.eq_false_iff,ne_eq,eqN_iff];exact fun h=>hnm h.1
   rw[show((((n:Nat):Int) != ((m:Nat):Int)):Bool)=true from by rw[bne_iff_ne];omega,cond_true,this]
 | [],_,h=>simp[SlsF,pickM]at h
 | [_],_,h=>simp[SlsF,pickM]at h
 | _::_::_::_,_,h=>simp[SlsF,pickM]at h
def kpeNt:List Nat:=[0,1,4,5]
def kpeNi:List Nat:=[1500000,1500001]
def kpeSt (n:Nat) (f:Nat->List Value) (m:Nat) (g:Nat->List Value) (e0 e1:Nat) (i:Int):St:=
 ⟨[(0,aSl 0 n),(1,aSl 1 m),(4,.bool false),(5,i64 i)],[(1500000,⟨.row kP9 n f,e0,false⟩),(1500001,⟨.row kP9 m g,e1,false⟩)],20⟩
def kpeS:Sums:=[(29,KpF)]
theorem kpeS_ok:SumsOk Tryz.prog kpeS:=sums_cons kp_sum sums_nil
def kpeC0:Cfg:=⟨tab,kpeS,27,[]⟩
theorem kpe_at:codeAt [1,1,0,1,0] (bodyOf Tryz.f31)=some (.loop (loopAt [1,1,0,1,0] (bodyOf Tryz.f31))):=by kernel_rfl
theorem kpe_r (n:Nat) (V:Nat->RP) (m:Nat) (U:Nat->RP) (e0 e1:Nat) (i:Nat):roundS kpeC0 60 [1,1,0,1,0,0] (loopAt [1,1,0,1,0] (bodyOf Tryz.f31)) kpeNt kpeNi 20 kpeNt kpeNi 20 (kpeSt n (ptF V) m (ptF U) e0 e1 (i:Int))=
  bif decide ((i:Int)<(n:Int)) then rdR i n (rdR i m (req (isPt (ptV (V (0+i)))&&isPt (ptV (U (0+i)))) (bif !(decide (unPt (ptV (V (0+i)))=unPt (ptV (U (0+i))))) then some (.ret,kpeSt n (ptF V) m (ptF U) e0 e1 (i:Int)) else some (.normal,kpeSt n (ptF V) m (ptF U) e0 e1 (IntKind.i64.wrap ((i:Int)+1))))))
  else some (.exit 0,kpeSt n (ptF V) m (ptF U) e0 e1 (i:Int)):=by kernel_rfl
noncomputable def kpeC (n:Nat) (V U:Nat->RP) (e0 e1:Nat) (e:Exit) (i:Int):Cfg:=⟨tab,kpeS,27,[([1,1,0,1,0],atSt kpeNt kpeNi 20 (kpeSt n (ptF V) n (ptF U) e0 e1 0) e (kpeSt n (ptF V) n (ptF U) e0 e1 i))]⟩
theorem kpe_ev0 (n:Nat) (f g:Nat->List Value) (V U:Nat->RP) (es:Nat->Nat) (i:Int) (id:Nat):fnMS (kpeC n V U (es 0) (es 1) (.exit 0) i) 60 Tryz.f31 (bodyOf Tryz.f31) (cArgs [.sl kP9 n f,.sl kP9 n g] 0) (cMem es [.sl kP9 n f,.sl kP9 n g] 0) 0 id=
  bif ((n:Nat):Int) != ((n:Nat):Int) then some (.bool false,[]) else req (stEq (kpeSt n f n g (es 0) (es 1) 0) (kpeSt n (ptF V) n (ptF U) (es 0) (es 1) 0)) (some (.bool true,[])):=by kernel_rfl
theorem kpe_ev1 (n:Nat) (f g:Nat->List Value) (V U:Nat->RP) (es:Nat->Nat) (i:Int) (id:Nat):fnMS (kpeC n V U (es 0) (es 1) .ret i) 60 Tryz.f31 (bodyOf Tryz.f31) (cArgs [.sl kP9 n f,.sl kP9 n g] 0) (cMem es [.sl kP9 n f,.sl kP9 n g] 0) 0 id=
  bif ((n:Nat):Int) != ((n:Nat):Int) then some (.bool false,[]) else req (stEq (kpeSt n f n g (es 0) (es 1) 0) (kpeSt n (ptF V) n (ptF U) (es 0) (es 1) 0)) (some (.bool false,[])):=by kernel_rfl
theorem kpe_ev2 (n:Nat) (f:Nat->List Value) (m:Nat) (g:Nat->List Value) (es:Nat->Nat) (id:Nat):fnMS ⟨tab,kpeS,27,[([1,1,0,1,0],fun _=>[])]⟩ 60 Tryz.f31 (bodyOf Tryz.f31) (cArgs [.sl kP9 n f,.sl kP9 m g] 0) (cMem es [.sl kP9 n f,.sl kP9 m g] 0) 0 id=
  bif ((n:Nat):Int) != ((m:Nat):Int) then some (.bool false,[]) else none:=by kernel_rfl
theorem kpe_msum:MSum Tryz.prog 31 PteF:=by
 intro w0 R fm w hm vs args' hl mm hsub id hlt v l hpick hnew
 match vs,hl,hpick with
 | [a,b],hl,hpick=>
  obtain ⟨hc,rfl,rfl⟩:=pick_one hpick
  simp only[Bool.and_eq_true]at hc
  obtain ⟨⟨⟨ha,hb⟩,ho1⟩,ho2⟩:=hc
  generalize hqa:srcB mm kP9 a=qa at ha ho1 ⊢
  generalize hqb:srcB mm kP9 b=qb at hb ho2 ⊢
  obtain ⟨ok1,n,f⟩:=qa
  obtain ⟨ok2,m,g⟩:=qb
  simp only at ha hb ho1 ho2 ⊢
  subst ha hb
  have hn:=(okP_iff.1 ho1).1
  refine msum_at (c:=bodyOf Tryz.f31) (fuel:=60) (next:=0) Tryz.func31 (by kernel_rfl) (by kernel_rfl) hm hl hsub hlt (A:=[.sl kP9 n f,.sl kP9 m g]) ⟨hqa,hqb,trivial⟩ (by show 2<=Tryz.f31.ntmps;decide +kernel) (.inl rfl) hnew (fun es=>?_)
  by_cases hnm:n=m
  ·subst hnm
   have rounds:∀(k:Nat) (e:Exit) (i:Int),k<=n->(∀j,j<k->pA f j=pA g j)->e≠.normal->roundS kpeC0 60 [1,1,0,1,0,0] (loopAt [1,1,0,1,0] (bodyOf Tryz.f31)) kpeNt kpeNi 20 kpeNt kpeNi 20 (kpeSt n (ptF (pA f)) n (ptF (pA g)) (es 0) (es 1) (k:Int))=some (e,kpeSt n (ptF (pA f)) n (ptF (pA g)) (es 0) (es 1) i)->
     LoopOk Tryz.prog 27 (loopAt [1,1,0,1,0] (bodyOf Tryz.f31)) (atSt kpeNt kpeNi 20 (kpeSt n (ptF (pA f)) n (ptF (pA g)) (es 0) (es 1) 0) e (kpeSt n (ptF (pA f)) n (ptF (pA g)) (es 0) (es 1) i)):=by
    intro k e i hk hj he hlast
    refine loopE (fun _=>kpeC0) k (fun _ _=>⟨mixed,tabOk,kpeS_ok,noL⟩) (fun _=>rfl) kpe_at (m:=60) (nt:=kpeNt) (ni:=kpeNi) (et:=kpeNt) (ei:=kpeNi) (nx:=20) (ex:=20) (fun i=>kpeSt n (ptF (pA f)) n (ptF (pA g)) (es 0) (es 1) (i:Int)) rfl he ?_ ⟨_,hlast,stEq_refl rfl⟩
    intro i hi
    refine⟨_,?_,stEq_refl rfl⟩
    refine(kpe_r n (pA f) n (pA g) (es 0) (es 1) i).trans ?_
    rw[decide_eq_true (by omega),cond_true,rdR_eq (by omega),rdR_eq (by omega),isPt_ptV,isPt_ptV,req_true (b:=true&&true) rfl,Nat.zero_add,hj i hi,decide_eq_true rfl,wrap_i64 (by omega)];rfl
   have hne:((((n:Nat):Int) != ((n:Nat):Int)):Bool)=false:=bne_self_eq_false _
   have hS:stEq (kpeSt n f n g (es 0) (es 1) 0) (kpeSt n (ptF (pA f)) n (ptF (pA g)) (es 0) (es 1) 0)=true:=stEq_mk rfl (mRow (row_pt ho1) (mRow (row_pt ho2) mNil))
   by_cases hall:∀j,j<n->pA f j=pA g j
   ·refine⟨kpeC n (pA f) (pA g) (es 0) (es 1) (.exit 0) (n:Int),⟨mixed,tabOk,kpeS_ok,oneL (rounds n (.exit 0) (n:Int) (Nat.le_refl _) hall (by intro h;cases h) ?_)⟩,rfl,?_⟩
    ·refine(kpe_r n (pA f) n (pA g) _ _ n).trans ?_
     rw[decide_eq_false (by omega),cond_false]
    ·refine(kpe_ev0 n f g _ _ es _ id).trans ?_
     rw[hne,cond_false,req_true hS,eqN_iff.2 ⟨rfl,hall⟩]
   ·obtain ⟨k,h1,h2,h3⟩:=first_ne hall
    refine⟨kpeC n (pA f) (pA g) (es 0) (es 1) .ret (k:Int),⟨mixed,tabOk,kpeS_ok,oneL (rounds k .ret (k:Int) (by omega) h3 (by intro h;cases h) ?_)⟩,rfl,?_⟩
    ·refine(kpe_r n (pA f) n (pA g) _ _ k).trans ?_
     rw[decide_eq_true (by omega),cond_true,rdR_eq h1,rdR_eq h1,isPt_ptV,isPt_ptV,req_true (b:=true&&true) rfl,Nat.zero_add,unPt_ptV (el_pt ho1 h1).2,unPt_ptV (el_pt ho2 h1).2,decide_eq_false h2];rfl
    ·refine(kpe_ev1 n f g _ _ es _ id).trans ?_
     have:eqN n (pA f) n (pA g)=false:=by rw[Bool.eq_false_iff,ne_eq,eqN_iff];exact fun h=>hall h.2
     rw[hne,cond_false,req_true hS,this]
  ·refine⟨⟨tab,kpeS,27,[([1,1,0,1,0],fun _=>[])]⟩,⟨mixed,tabOk,kpeS_ok,noneL2⟩,rfl,?_⟩
   refine(kpe_ev2 n f m g es id).trans ?_
   have:eqN n (pA f) m (pA g)=false:=by rw[Bool.eq_false_iff,ne_eq,eqN_iff];exact fun h=>hnm h.1
   rw[show((((n:Nat):Int) != ((m:Nat):Int)):Bool)=true from by rw[bne_iff_ne];omega,cond_true,this]
 | [],_,h=>simp[PteF,pickM]at h
 | [_],_,h=>simp[PteF,pickM]at h
 | _::_::_::_,_,h=>simp[PteF,pickM]at h
def kprK:Cfg:=⟨tab,[],17,[]⟩
theorem kprOk:CfgOk Tryz.prog kprK (bodyOf Tryz.f32):=⟨mixed,tabOk,sums_nil,noL⟩
theorem kpr_ev (a b c d:Nat):fnS kprK 60 Tryz.f32 (bodyOf Tryz.f32) [prV a b,prV c d]=bif eqV (num a) (num c) then some (.bool (eqV (num b) (num d))) else some (.bool false):=by kernel_rfl
theorem kpr_sum:Sum Tryz.prog 32 KprF:=by
 refine sum_of kprOk Tryz.func32 (by kernel_rfl) (by kernel_rfl) rfl (fuel:=60) fun args v h hpl=>?_
 unfold KprF at h
 split at h
 ·simp only[Option.some.injEq,Prod.mk.injEq,Bool.and_eq_true]at h
  obtain ⟨⟨h0,h1⟩,rfl⟩:=h
  obtain ⟨X,⟨hc,hr⟩,rfl⟩:=isPrf_some h0
  obtain ⟨Y,⟨hc2,hr2⟩,rfl⟩:=isPrf_some h1
  refine⟨by show 2<=Tryz.f32.ntmps;decide +kernel,(kpr_ev _ _ _ _).trans ?_,rfl⟩
  rw[unPrf_prV hc hr,unPrf_prV hc2 hr2,eqV_num,eqV_num,Nat.mod_eq_of_lt hc,Nat.mod_eq_of_lt hr,Nat.mod_eq_of_lt hc2,Nat.mod_eq_of_lt hr2]
  by_cases h1:X.1=Y.1
  ·rw[decide_eq_true h1,cond_true]
   congr 2
   rw[Bool.eq_iff_iff,decide_eq_true_eq,decide_eq_true_eq,Prod.mk.injEq]
   exact⟨fun h=>⟨h1,h⟩,fun h=>h.2⟩
  ·rw[decide_eq_false h1,decide_eq_false (fun h=>h1 (Prod.mk.inj h).1)];rfl
 ·simp at h
def rblK:Cfg:=⟨tab,[(44,PrimeF),(45,CmpF)],17,[]⟩
theorem rblOk:CfgOk Tryz.prog rblK (bodyOf Tryz.f24):=⟨mixed,tabOk,sums_cons PrimeR_sum (sums_cons CmpR_sum sums_nil),noL⟩
theorem rbl_ev (c r:Nat):fnS rblK 60 Tryz.f24 (bodyOf Tryz.f24) [prV c r]=
  req (isNum (num c)&&isNum (num (primeN 1))) (bif decide (cmpI (unnum (num c)) (unnum (num (primeN 1)))<0) then req (isNum (num r)&&isNum (num (primeN 1))) (some (.bool (decide (cmpI (unnum (num r)) (unnum (num (primeN 1)))<0)))) else some (.bool false)):=by kernel_rfl
theorem rbl_sum:Sum Tryz.prog 24 RblF:=by
 refine sum_of rblOk Tryz.func24 (by kernel_rfl) (by kernel_rfl) rfl (fuel:=60) fun args v h hpl=>?_
 unfold RblF at h
 split at h
 ·simp only[Option.some.injEq,Prod.mk.injEq]at h
  obtain ⟨h0,rfl⟩:=h
  obtain ⟨X,⟨hc,hr⟩,rfl⟩:=isPrf_some h0
  refine⟨by show 1<=Tryz.f24.ntmps;decide +kernel,(rbl_ev X.1 X.2).trans ?_,rfl⟩
  rw[isNum_num,isNum_num,isNum_num,req_true (b:=true&&true) rfl,req_true (b:=true&&true) rfl,unnum_lt hc,unnum_lt hr,unnum_lt (show primeN 1<2^256 from n1_lt),unPrf_prV hc hr,below_cmp,below_cmp]
  cases decide (X.1<pN)<;>rfl
 ·simp at h
noncomputable def kacS:Sums:=[(29,KpF),(30,SlsF),(31,PteF),(32,KprF)]
theorem kacS_ok:SumsOk Tryz.prog kacS:=sums_cons kp_sum (sums_consM kse_msum (sums_consM kpe_msum (sums_cons kpr_sum sums_nil)))
noncomputable def kacC:Cfg:=⟨tab,kacS,52,[]⟩
theorem kac_ev (k:Int) (i:Bool) (x y:Nat) (lab:ByteArray) (n:Nat) (f:Nat->List Value) (m:Nat) (h:Nat->List Value) (g:Int) (c r:Nat)
  (k2:Int) (i2:Bool) (x2 y2:Nat) (lab2:ByteArray) (n2:Nat) (f2:Nat->List Value) (m2:Nat) (h2:Nat->List Value) (g2:Int) (c2 r2:Nat) (es:Nat->TypeId) (er:Nat->Nat->TypeId) (id:Nat):
  fnX kacC 60 Tryz.f10 (bodyOf Tryz.f10) (cArgsX [.ag (acA k (i,x,y) lab n f m h g (c,r)),.ag (acA k2 (i2,x2,y2) lab2 n2 f2 m2 h2 g2 (c2,r2))] 0) (cMemX es er [.ag (acA k (i,x,y) lab n f m h g (c,r)),.ag (acA k2 (i2,x2,y2) lab2 n2 f2 m2 h2 g2 (c2,r2))]) 0 id=
  kacT k i x y lab n f m h g c r k2 i2 x2 y2 lab2 n2 f2 m2 h2 g2 c2 r2:=by kernel_rfl
theorem kac_msum:MSum Tryz.prog 10 ActF:=by
 intro w0 R fm w hm vs args' hl mm hsub id hlt v l hpick hnew
 match vs,hl,hpick with
 | [a,b],hl,hpick=>
  obtain ⟨hc,rfl,rfl⟩:=pick_one hpick
  simp only[Bool.and_eq_true]at hc
  obtain ⟨k,K,lab,s,c,g,X,n,f,m,q,ea,oK,oX,oX',hs,o1,hq,o2,eA⟩:=isA_some hc.1
  obtain ⟨k2,K2,lab2,s2,c2,g2,X2,n2,f2,m2,q2,eb,pK,pX,pX',hs2,p1,hq2,p2,eB⟩:=isA_some hc.2
  rw[eA,eB]
  clear eA eB hc
  subst ea eb
  refine msum_atX (c:=bodyOf Tryz.f10) (fuel:=60) (next:=0) Tryz.func10 (by kernel_rfl) (by kernel_rfl) hm hl hsub hlt
   (A:=[.ag (acA k K lab n f m q g X),.ag (acA k2 K2 lab2 n2 f2 m2 q2 g2 X2)]) ⟨⟨_,rfl,acA_ok hs hq⟩,⟨_,rfl,acA_ok hs2 hq2⟩,trivial⟩ (by kernel_rfl) (by show 2<=Tryz.f10.ntmps;decide +kernel) (by intro p hp;cases hp) (fun es er=>?_)
  refine⟨kacC,⟨mixed,tabOk,kacS_ok,noL⟩,rfl,?_⟩
  exact(kac_ev k K.1 K.2.1 K.2.2 lab n f m q g X.1 X.2 k2 K2.1 K2.2.1 K2.2.2 lab2 n2 f2 m2 q2 g2 X2.1 X2.2 es er id).trans (kacT_eq oK oX oX' o1 o2 pK pX pX' p1 p2)
 | [],_,h=>simp[ActF,pickM]at h
 | [_],_,h=>simp[ActF,pickM]at h
 | _::_::_::_,_,h=>simp[ActF,pickM]at h
end Go.Proofs.YtckbmhegopjnmaaGreat

namespace Go.W
open Go
theorem size_app (a b:ByteArray):(a++b).size=a.size+b.size:=ByteArray.size_append
theorem dec_behind (c r:ByteArray){p:Nat}(hp:p<r.size):decB (byt (c++r)) (c++r).size (c.size+p)=decB (byt r) r.size p:=by
 rw[size_app]
 exact decB_shift hp (by omega) (by omega) fun k hk=>by rw[byt_app,if_neg (by omega),show c.size+p+k-c.size=p+k from by omega]
theorem stp_behind (c r:ByteArray) (p:Nat):stp (c++r) (c.size+p)=c.size+stp r p:=by
 unfold stp
 rw[size_app]
 by_cases h:p<r.size
 ·rw[if_pos (by omega),if_pos h]
  show c.size+p+(decB _ _ _).2=_
  rw[dec_behind c r h]
  show _=c.size+(p+(decB _ _ _).2)
  omega
 ·rw[if_neg (by omega),if_neg h]
theorem psF_behind (c r:ByteArray) (p:Nat):∀j,psF (c++r) (c.size+p) j=c.size+psF r p j
 | 0=>rfl
 | j+1=>by
  show stp _ (psF _ _ j)=c.size+stp r (psF r p j)
  rw[psF_behind c r p j,stp_behind]
theorem ps_behind {c r:ByteArray}{m:Nat}(h:ps (c++r) m=c.size) (j:Nat):ps (c++r) (m+j)=c.size+ps r j:=by
 show psF _ 0 (m+j)=_
 rw[psF_add,show psF (c++r) 0 m=c.size+0 from h,psF_behind];rfl
theorem rc_behind {c r:ByteArray}{m:Nat}(h:ps (c++r) m=c.size){j:Nat}(hj:j<rN r):rc (c++r) (m+j)=rc r j:=by
 unfold rc
 rw[ps_behind h]
 show(decB _ _ _).1=(decB _ _ _).1
 rw[dec_behind c r ((rN_is r).1 j hj)]
theorem rN_behind {c r:ByteArray}{m:Nat}(h:ps (c++r) m=c.size) (h2:∀k,k<m->ps (c++r) k<c.size):rN (c++r)=m+rN r:=by
 apply rN_of
 refine⟨fun k hk=>?_,?_⟩
 ·rw[size_app]
  by_cases e:k<m
  ·have:=h2 k e;omega
  ·obtain ⟨j,rfl⟩:∃j,k=m+j:=⟨k-m,by omega⟩
   rw[ps_behind h]
   have:=(rN_is r).1 j (by omega)
   omega
 ·rw[ps_behind h,size_app,(rN_is r).2]
def right (s:ByteArray):Prop:=∀k,k<rN s->decB (byt s) s.size (ps s k)≠(65533,1)
theorem dec_ahead {a b:ByteArray}{p:Nat}(hp:p<a.size) (hv:decB (byt a) a.size p≠(65533,1)):decB (byt (a++b)) (a++b).size p=decB (byt a) a.size p:=
 decB_ext (by rw[size_app];omega) hp hv fun k hk=>by rw[byt_app,if_pos hk]
theorem ps_ahead {a b:ByteArray}(h:right a):∀k,k<=rN a->ps (a++b) k=ps a k
 | 0,_=>rfl
 | k+1,hk=>by
  have h1:=(rN_is a).1 k (by omega)
  rw[ps_succ,ps_succ,ps_ahead h k (by omega)]
  unfold stp
  rw[if_pos (by rw[size_app];omega),if_pos h1]
  show _+(decB _ _ _).2=_+(decB _ _ _).2
  rw[dec_ahead h1 (h k (by omega))]
theorem rc_ahead {a b:ByteArray}(h:right a){k:Nat}(hk:k<rN a):rc (a++b) k=rc a k:=by
 unfold rc
 rw[ps_ahead h k (by omega)]
 show(decB _ _ _).1=(decB _ _ _).1
 rw[dec_ahead ((rN_is a).1 k hk) (h k hk)]
theorem ps_join {a b:ByteArray}(h:right a):ps (a++b) (rN a)=a.size:=by rw[ps_ahead h _ (Nat.le_refl _),(rN_is a).2]
theorem rN_join {a b:ByteArray}(h:right a):rN (a++b)=rN a+rN b:=
 rN_behind (ps_join h) fun k hk=>by rw[ps_ahead h k (by omega)];exact(rN_is a).1 k hk
theorem rc_join {a b:ByteArray}(h:right a){j:Nat}(hj:j<rN b):rc (a++b) (rN a+j)=rc b j:=rc_behind (ps_join h) hj
theorem right_join {a b:ByteArray}(h:right a) (h2:right b):right (a++b):=by
 intro k hk
 rw[rN_join h]at hk
 by_cases e:k<rN a
 ·rw[ps_ahead h k (by omega),dec_ahead ((rN_is a).1 k e) (h k e)];exact h k e
 ·obtain ⟨j,rfl⟩:∃j,k=rN a+j:=⟨k-rN a,by omega⟩
  rw[ps_behind (ps_join h),dec_behind a b ((rN_is b).1 j (by omega))]
  exact h2 j (by omega)
def okC (r:Nat):Prop:=32<=r∧(r<127∨160<=r)∧r≠65533
def lbl (s:ByteArray):Prop:=1<=rN s∧rN s<=24∧(∀k,k<rN s->okC (rc s k))∧rc s 0≠32∧rc s (rN s-1)≠32
theorem lbl_right {s:ByteArray}(h:∀k,k<rN s->okC (rc s k)):right s:=by
 intro k hk e
 have h1:=(h k hk).2.2
 unfold rc dC at h1
 rw[e]at h1
 exact h1 rfl
noncomputable def lblB (s:ByteArray):Bool:=hide (@decide (lbl s) (Classical.propDecidable _))
theorem lblB_iff {s:ByteArray}:lblB s=true↔lbl s:=by
 unfold lblB;rw[hide_eq]
 exact⟨fun h=>@of_decide_eq_true _ (Classical.propDecidable _) h,fun h=>@decide_eq_true _ (Classical.propDecidable _) h⟩
end Go.W

namespace Go.W
open Go
theorem one_rune {s:ByteArray}{r:Nat}(h:runeAt (byt s) 0 r s.size):rN s=1∧right s∧rc s 0=r∧1<=s.size:=by
 have hw:=runeAt_w h
 have hd:decB (byt s) s.size 0=(r,s.size):=decB_rune h (by omega)
 have hp:ps s 1=s.size:=by
  rw[ps_succ,ps_zero]
  unfold stp
  rw[if_pos (by omega)]
  show 0+(decB _ _ _).2=_
  rw[hd,Nat.zero_add]
 have hN:rN s=1:=rN_of ⟨fun k hk=>by rw[show k=0 from by omega,ps_zero];omega,hp⟩
 refine⟨hN,fun k hk=>?_,?_,hw.1⟩
 ·rw[hN]at hk
  rw[show k=0 from by omega,ps_zero,hd]
  rintro e
  simp only[Prod.mk.injEq]at e
  obtain ⟨rfl,e⟩:=e
  rw[e]at h
  rcases h with⟨_,h1,h2⟩|⟨h1,_⟩|⟨h1,_⟩|⟨h1,_⟩<;>omega
 ·unfold rc
  rw[ps_zero]
  show(decB _ _ _).1=r
  rw[hd]
theorem u8n (n:Nat):(UInt8.ofNat n).toNat=n%256:=UInt8.toNat_ofNat'
def vld (r:Int):Prop:=0<=r∧r<=1114111∧¬(55296<=r∧r<57344)
theorem valid_vld {r:Int}:Utf8.valid r=true↔vld r:=by
 unfold Utf8.valid vld
 rw[Bool.or_eq_true,Bool.and_eq_true,Bool.and_eq_true,decide_eq_true_eq,decide_eq_true_eq,decide_eq_true_eq,decide_eq_true_eq]
 omega
theorem enc_rune {r:Int}(h:vld r):runeAt (byt (Utf8.encode r)) 0 r.toNat (Utf8.encode r).size:=by
 have hv:=valid_vld.2 h
 obtain ⟨h1,h2,h3⟩:=h
 obtain ⟨c,rfl⟩:=Int.eq_ofNat_of_zero_le h1
 unfold Utf8.encode
 simp only[hv,if_true,Int.toNat_natCast]
 by_cases c1:c<128
 ·rw[if_pos c1]
  refine .inl ⟨rfl,?_,?_⟩
  ·show(UInt8.ofNat c).toNat<128;rw[u8n];omega
  ·show c=(UInt8.ofNat c).toNat;rw[u8n];omega
 rw[if_neg c1]
 by_cases c2:c<2048
 ·rw[if_pos c2]
  have e0:byt ⟨#[UInt8.ofNat (192+c / 64),UInt8.ofNat (128+c%64)]⟩ 0=192+c / 64:=by show(UInt8.ofNat _).toNat=_;rw[u8n];omega
  have e1:byt ⟨#[UInt8.ofNat (192+c / 64),UInt8.ofNat (128+c%64)]⟩ (0+1)=128+c%64:=by show(UInt8.ofNat _).toNat=_;rw[u8n];omega
  exact .inr (.inl ⟨rfl,by rw[e0];omega,by rw[e1];omega,by rw[e0,e1];omega,by omega⟩)
 rw[if_neg c2]
 by_cases c3:c<65536
 ·rw[if_pos c3]
  have e0:byt ⟨#[UInt8.ofNat (224+c / 4096),UInt8.ofNat (128+c / 64%64),UInt8.ofNat (128+c%64)]⟩ 0=224+c / 4096:=by show(UInt8.ofNat _).toNat=_;rw[u8n];omega
  have e1:byt ⟨#[UInt8.ofNat (224+c / 4096),UInt8.ofNat (128+c / 64%64),UInt8.ofNat (128+c%64)]⟩ (0+1)=128+c / 64%64:=by show(UInt8.ofNat _).toNat=_;rw[u8n];omega
  have e2:byt ⟨#[UInt8.ofNat (224+c / 4096),UInt8.ofNat (128+c / 64%64),UInt8.ofNat (128+c%64)]⟩ (0+2)=128+c%64:=by show(UInt8.ofNat _).toNat=_;rw[u8n];omega
  exact .inr (.inr (.inl ⟨rfl,by rw[e0];omega,by rw[e1];omega,by rw[e2];omega,by rw[e0,e1,e2];omega,by omega,hv⟩))
 rw[if_neg c3]
 have e0:byt ⟨#[UInt8.ofNat (240+c / 262144),UInt8.ofNat (128+c / 4096%64),UInt8.ofNat (128+c / 64%64),UInt8.ofNat (128+c%64)]⟩ 0=240+c / 262144:=by show(UInt8.ofNat _).toNat=_;rw[u8n];omega
 have e1:byt ⟨#[UInt8.ofNat (240+c / 262144),UInt8.ofNat (128+c / 4096%64),UInt8.ofNat (128+c / 64%64),UInt8.ofNat (128+c%64)]⟩ (0+1)=128+c / 4096%64:=by show(UInt8.ofNat _).toNat=_;rw[u8n];omega
 have e2:byt ⟨#[UInt8.ofNat (240+c / 262144),UInt8.ofNat (128+c / 4096%64),UInt8.ofNat (128+c / 64%64),UInt8.ofNat (128+c%64)]⟩ (0+2)=128+c / 64%64:=by show(UInt8.ofNat _).toNat=_;rw[u8n];omega
 have e3:byt ⟨#[UInt8.ofNat (240+c / 262144),UInt8.ofNat (128+c / 4096%64),UInt8.ofNat (128+c / 64%64),UInt8.ofNat (128+c%64)]⟩ (0+3)=128+c%64:=by show(UInt8.ofNat _).toNat=_;rw[u8n];omega
 exact .inr (.inr (.inr ⟨rfl,by rw[e0];omega,by rw[e1];omega,by rw[e2];omega,by rw[e3];omega,by rw[e0,e1,e2,e3];omega,by omega,hv⟩))
def encs (l:Nat->Int):Nat->ByteArray
 | 0=>⟨#[]⟩
 | k+1=>encs l k++Utf8.encode (l k)
theorem rN_nil:rN ⟨#[]⟩=0:=rN_of ⟨fun _ h=>absurd h (Nat.not_lt_zero _),rfl⟩
theorem encs_all {l:Nat->Int}:∀{n:Nat},(∀k,k<n->vld (l k))->rN (encs l n)=n∧right (encs l n)∧(∀k,k<n->rc (encs l n) k=(l k).toNat)∧(encs l n).size<=4*n
 | 0,_=>⟨rN_nil,fun k hk=>by rw[show rN (encs l 0)=0 from rN_nil]at hk;exact absurd hk (Nat.not_lt_zero _),fun _ h=>absurd h (Nat.not_lt_zero _),Nat.zero_le _⟩
 | n+1,h=>by
  obtain ⟨h1,h2,h3,h4⟩:=encs_all (n:=n) fun k hk=>h k (by omega)
  have he:=enc_rune (h n (by omega))
  obtain ⟨k1,k2,k3,_⟩:=one_rune he
  have hw:=runeAt_w he
  refine⟨?_,right_join h2 k2,fun k hk=>?_,?_⟩
  ·show rN (encs l n++_)=_;rw[rN_join h2,h1,k1]
  ·show rc (encs l n++_) k=_
   by_cases e:k<n
   ·rw[rc_ahead h2 (by omega)];exact h3 k e
   ·rw[show k=rN (encs l n)+0 from by omega,rc_join h2 (by omega),k3,h1,Nat.add_zero]
  ·show(encs l n++_).size<=_;rw[size_app];omega
theorem lbl_encs {l:Nat->Int}{n:Nat}(h:∀k,k<n->vld (l k)):lbl (encs l n)↔1<=n∧n<=24∧(∀k,k<n->okC (l k).toNat)∧(l 0).toNat≠32∧(l (n-1)).toNat≠32:=by
 obtain ⟨h1,h2,h3,_⟩:=encs_all h
 unfold lbl
 rw[h1]
 constructor
 ·rintro ⟨k1,k2,k3,k4,k5⟩
  rw[h3 _ (by omega)]at k4 k5
  exact⟨k1,k2,fun k hk=>by rw[<-h3 k hk];exact k3 k hk,k4,k5⟩
 ·rintro ⟨k1,k2,k3,k4,k5⟩
  rw[h3 _ (by omega),h3 _ (by omega)]
  exact⟨k1,k2,fun k hk=>by rw[h3 k hk];exact k3 k hk,k4,k5⟩
end Go.W

namespace Go.W
open Go.RowKit (Below)
section
variable {GL:Glob}{w0:Wb GL}{R:Nat->Pl->Prop}{fm:Nat->Option Blk}{w:World}
theorem MRel.nilRow (h:MRel w0 R fm w){i:Nat}(hi:fm i=none) (hsm:i<1000000) (ks:List CK) (f:Nat->List Value) (e:TypeId):
  MRel w0 (fun j p=>R j p∨(j=i∧p=⟨none,0,0⟩)) (upd fm i ⟨.row ks 0 f,e,true⟩) w:=
 h.view hi hsm (.inr (.inl rfl)) (fun _ h=>by simp at h) fun _ _ hp=>⟨_,hp,rfl⟩
end
section
variable {P:Program} [Laid P]
theorem invokes_nil {g:FuncId}{args':List Value}{w:World}{w0:Wb (lay P)}{R:Nat->Pl->Prop}{fm:Nat->Option Blk}{id:Nat}(hid:id<60000) (hfree:fm (nid id 0)=none){ks:List CK}{e:TypeId}{f:Nat->List Value}
  {v v2:Value}(hv:∀R':Nat->Pl->Prop,(∀v',V2 R' (.slice none 0 0) v'->V1 R' (nSl id 0) v')->∀v',V2 R' v v'->V2 R' v2 v')
  (h:Invokes P g args'.toArray w fun v' w'=>∃R':Nat->Pl->Prop,(∀i p,R i p->R' i p)∧V2 R' v v'∧MRel w0 R' (memF fm []) w'):
  Invokes P g args'.toArray w fun v' w'=>∃R':Nat->Pl->Prop,(∀i p,R i p->R' i p)∧V2 R' v2 v'∧MRel w0 R' (memF fm [(nid id 0,⟨.row ks 0 f,e,true⟩)]) w':=by
 have step:∀v' w',(∃R':Nat->Pl->Prop,(∀i p,R i p->R' i p)∧V2 R' v v'∧MRel w0 R' (memF fm []) w')->∃R':Nat->Pl->Prop,(∀i p,R i p->R' i p)∧V2 R' v2 v'∧MRel w0 R' (memF fm [(nid id 0,⟨.row ks 0 f,e,true⟩)]) w':=by
  rintro v' w' ⟨R',h1,h2,h3⟩
  have hlo:loose (nid id 0)=true:=by unfold loose nid;simp;omega
  refine⟨_,fun i p hp=>.inl (h1 i p hp),hv _ ?_ v' (V2_mono (fun i p hp=>.inl hp) h2),MRel.nilRow h3 hfree (by unfold nid;omega) ks f e⟩
  intro u hu
  have:u=.slice none 0 0:=(V2_plain (v:=.slice none 0 0) rfl).1 hu
  subst this
  refine⟨⟨none,0,0⟩,.inr ⟨rfl,rfl⟩,?_⟩
  unfold SlOk
  rw[if_pos hlo]
  exact⟨rfl,rfl,Nat.le_refl _,rfl,rfl,none,rfl⟩
 unfold Invokes at h ⊢
 revert h
 split
 ·exact fun h=>step _ _ h
 ·intro h
  refine Calls.mono h ?_
  intro ex w'
  split
  ·exact fun h=>step _ _ h
  ·exact fun h=>h
 ·exact fun h=>h
theorem invokes_nilT {g:FuncId}{args':List Value}{w:World}{w0:Wb (lay P)}{R:Nat->Pl->Prop}{fm:Nat->Option Blk}{id:Nat}(hid:id<60000) (hfree:fm (nid id 0)=none){ks:List CK}{e:TypeId}{f:Nat->List Value}{rest:List Value}
  (h:Invokes P g args'.toArray w fun v' w'=>∃R':Nat->Pl->Prop,(∀i p,R i p->R' i p)∧V2 R' (.tuple (.slice none 0 0::rest).toArray) v'∧MRel w0 R' (memF fm []) w'):
  Invokes P g args'.toArray w fun v' w'=>∃R':Nat->Pl->Prop,(∀i p,R i p->R' i p)∧V2 R' (.tuple (nSl id 0::rest).toArray) v'∧MRel w0 R' (memF fm [(nid id 0,⟨.row ks 0 f,e,true⟩)]) w':=by
 refine invokes_nil hid hfree ?_ h
 intro R' hR v' hv
 obtain ⟨vs',rfl,hl⟩:=hv
 refine⟨vs',rfl,?_⟩
 match hvs:vs'.toList,hl with
 | [],hl=>exact hl.elim
 | u::us,hl=>exact⟨hR u hl.1,hl.2⟩
theorem invokes_eqv {g:FuncId}{args':List Value}{w:World}{w0:Wb (lay P)}{R:Nat->Pl->Prop}{fm:Nat->Option Blk}{i:Nat}{ks:List CK}{n:Nat}{e:TypeId}{o:Bool}{f f':Nat->List Value}(hf:∀j,j<n->nrmK ks (f j)=nrmK ks (f' j)){v:Value}
  (h:Invokes P g args'.toArray w fun v' w'=>∃R':Nat->Pl->Prop,(∀i p,R i p->R' i p)∧V2 R' v v'∧MRel w0 R' (memF fm [(i,⟨.row ks n f,e,o⟩)]) w'):
  Invokes P g args'.toArray w fun v' w'=>∃R':Nat->Pl->Prop,(∀i p,R i p->R' i p)∧V2 R' v v'∧MRel w0 R' (memF fm [(i,⟨.row ks n f',e,o⟩)]) w':=by
 have step:∀v' w',(∃R':Nat->Pl->Prop,(∀i p,R i p->R' i p)∧V2 R' v v'∧MRel w0 R' (memF fm [(i,⟨.row ks n f,e,o⟩)]) w')->∃R':Nat->Pl->Prop,(∀i p,R i p->R' i p)∧V2 R' v v'∧MRel w0 R' (memF fm [(i,⟨.row ks n f',e,o⟩)]) w':=by
  rintro v' w' ⟨R',h1,h2,h3⟩
  refine⟨R',h1,h2,?_⟩
  have h4:=h3.recell (i:=i) (f':=f') (upd_same _ _ _) (rowL_congr ks n 0 fun j _ hj=>hf j (by omega))
  have e1:upd (memF fm [(i,⟨.row ks n f,e,o⟩)]) i ⟨.row ks n f',e,o⟩=memF fm [(i,⟨.row ks n f',e,o⟩)]:=by
   funext j
   show upd (upd fm i _) i _ j=upd fm i _ j
   by_cases e2:i=j
   ·subst e2;rw[upd_same,upd_same]
   ·rw[upd_ne _ _ e2,upd_ne _ _ e2,upd_ne _ _ e2]
  rw[e1]at h4;exact h4
 unfold Invokes at h ⊢
 revert h
 split
 ·exact fun h=>step _ _ h
 ·intro h
  refine Calls.mono h ?_
  intro ex w'
  split
  ·exact fun h=>step _ _ h
  ·exact fun h=>h
 ·exact fun h=>h
theorem new_any {fm mm:Nat->Option Blk}{i id:Nat}{blk blk':Blk}(h:∀p∈[(i,blk)],(nid id 0<=p.1∧p.1<nid id 8->fm p.1=none)∧(¬(nid id 0<=p.1∧p.1<nid id 8)->(mm p.1).isSome=true)):∀p∈[(i,blk')],(nid id 0<=p.1∧p.1<nid id 8->fm p.1=none)∧(¬(nid id 0<=p.1∧p.1<nid id 8)->(mm p.1).isSome=true):=by
 intro p hp
 rw[List.mem_singleton]at hp
 subst hp
 exact h (i,blk) (List.mem_singleton.2 rfl)
theorem new_free {fm mm:Nat->Option Blk}{id:Nat}{blk:Blk}{l:List (Nat×Blk)}(h:∀p∈(nid id 0,blk)::l,(nid id 0<=p.1∧p.1<nid id 8->fm p.1=none)∧(¬(nid id 0<=p.1∧p.1<nid id 8)->(mm p.1).isSome=true)):fm (nid id 0)=none:=
 (h _ (List.mem_cons_self ..)).1 ⟨Nat.le_refl _,by unfold nid;omega⟩
end
end Go.W

namespace Go.W
def pkOk (n s:Int):Prop:=1<=s∧s<=7∧0<=n∧n<2^(8*s.toNat)
instance (n s:Int):Decidable (pkOk n s):=by unfold pkOk;infer_instance
def pkY (n s:Int) (k:Nat):Nat:=n.toNat / 2^(8*(s.toNat-1-k))%256
def pkJ (m:Nat) (g:Nat->List Value) (n s:Int) (j:Nat):Int:=if j<m then bI g j else ((pkY n s (j-m):Nat):Int)
noncomputable def pkR (m:Nat) (g:Nat->List Value) (n s:Int):Nat->List Value:=fun j=>[.int .u8 (hide (pkJ m g n s j))]
theorem bI_pk (m:Nat) (g:Nat->List Value) (n s:Int) (j:Nat):bI (pkR m g n s) j=pkJ m g n s j:=by
 show hide _=_;rw[hide_eq]
theorem nrm_pk (m:Nat) (g:Nat->List Value) (n s:Int) (j:Nat):nrmK kB (pkR m g n s j)=[.int .u8 (pkJ m g n s j)]:=by
 rw[nrm_kB,bI_pk]
theorem shr_n {n:Int}(hn:0<=n){k:Nat}(hk:k<=64):iShr .i64 n ((k:Nat):Int)=((n.toNat / 2^k:Nat):Int):=by
 unfold iShr
 rw[show min ((k:Nat):Int).toNat IntKind.i64.bits=k from by show min k 64=k;omega]
 obtain ⟨x,rfl⟩:=Int.eq_ofNat_of_zero_le hn
 rw[Int.fdiv_eq_ediv_of_nonneg _ (Int.le_of_lt (Int.pow_pos (by decide)))]
 show((x:Int) / 2^k)=((x / 2^k:Nat):Int)
 rw[Int.natCast_ediv,Int.natCast_pow];rfl
noncomputable def okY (m:Nat) (f:Nat->List Value):Bool:=hide (@decide (∀j,j<m->0<=bI f j∧bI f j<256) (Classical.propDecidable _))
theorem okY_iff {m:Nat}{f:Nat->List Value}:okY m f=true↔∀j,j<m->0<=bI f j∧bI f j<256:=by
 unfold okY;rw[hide_eq]
 exact⟨fun h=>@of_decide_eq_true _ (Classical.propDecidable _) h,fun h=>@decide_eq_true _ (Classical.propDecidable _) h⟩
def gtE0 (m:Nat) (at' s:Int):Int:=if ¬(1<=s∧s<=7∧0<=at'∧at'<=(m:Int)) then 1 else if (m:Int)-at'<s then 7 else 0
def gtV (f:Nat->List Value) (a:Nat):Nat->Nat
 | 0=>0
 | k+1=>gtV f a k*256+(bI f (a+k)).toNat
noncomputable def gtE (m:Nat) (at' s:Int):Int:=hide (gtE0 m at' s)
noncomputable def gtN (m:Nat) (f:Nat->List Value) (at' s:Int):Int:=hide (if gtE0 m at' s=0 then ((gtV f at'.toNat s.toNat:Nat):Int) else 0)
noncomputable def gtX (m:Nat) (at' s:Int):Int:=hide (if gtE0 m at' s=0 then at'+s else 0)
noncomputable def GetF:List Value->(Nat->Option Blk)->Nat->List (Bool×Value×List (Nat×Blk))
 | [b,.int .i64 at',.int .i64 s],mm,_=>[((srcB mm kB b).1&&(okY (srcB mm kB b).2.1 (srcB mm kB b).2.2&&Nat.ble (srcB mm kB b).2.1 1000000),
   .tuple #[i64 (gtN (srcB mm kB b).2.1 (srcB mm kB b).2.2 at' s),i64 (gtX (srcB mm kB b).2.1 at' s),i64 (gtE (srcB mm kB b).2.1 at' s)],[])]
 | _,_,_=>[]
theorem gtV_congr {f g:Nat->List Value}{a:Nat}:∀k,(∀j,a<=j->j<a+k->bI f j=bI g j)->gtV f a k=gtV g a k
 | 0,_=>rfl
 | k+1,h=>by rw[gtV,gtV,gtV_congr k (fun j h1 h2=>h j h1 (by omega)),h (a+k) (by omega) (by omega)]
theorem gtV_lt {m:Nat}{f:Nat->List Value}(h:∀j,j<m->0<=bI f j∧bI f j<256){a:Nat}:∀k,a+k<=m->gtV f a k<2^(8*k)
 | 0,_=>Nat.lt_of_lt_of_le Nat.zero_lt_one (Nat.le_refl 1)
 | k+1,hk=>by
  have h1:=gtV_lt h (a:=a) k (by omega)
  have h2:=h (a+k) (by omega)
  rw[gtV,show 8*(k+1)=8*k+8 from by omega,Nat.pow_add]
  have:(2:Nat)^8=256:=by decide
  rw[this]
  have:(gtV f a k+1)*256<=2^(8*k)*256:=Nat.mul_le_mul_right _ h1
  omega
noncomputable def ppL (m k:Nat):Nat:=hide (if k<=16384 then m+4+k else 0)
noncomputable def ppE (k:Nat):Int:=hide (if k<=16384 then 0 else 4)
def ppJ (m:Nat) (g:Nat->List Value) (k:Nat) (p:Nat->List Value) (j:Nat):Int:=if j<m+4 then pkJ m g (k:Nat) 4 j else bI p (j-(m+4))
noncomputable def ppR (m:Nat) (g:Nat->List Value) (k:Nat) (p:Nat->List Value):Nat->List Value:=fun j=>[.int .u8 (hide (ppJ m g k p j))]
theorem bI_pp (m:Nat) (g:Nat->List Value) (k:Nat) (p:Nat->List Value) (j:Nat):bI (ppR m g k p) j=ppJ m g k p j:=by
 show hide _=_;rw[hide_eq]
noncomputable def PtpF (e:Nat):List Value->(Nat->Option Blk)->Nat->List (Bool×Value×List (Nat×Blk))
 | [b,p],mm,id=>[((srcB mm kB b).1&&(srcB mm kB p).1&&Nat.ble (srcB mm kB b).2.1 900000,
   .tuple #[nSl id (ppL (srcB mm kB b).2.1 (srcB mm kB p).2.1),i64 (ppE (srcB mm kB p).2.1)],rw1 e id (ppL (srcB mm kB b).2.1 (srcB mm kB p).2.1) (ppR (srcB mm kB b).2.1 (srcB mm kB b).2.2 (srcB mm kB p).2.1 (srcB mm kB p).2.2))]
 | _,_,_=>[]
def gpE0 (m:Nat) (f:Nat->List Value) (at':Int):Int:=
 if gtE0 m at' 4≠0 then gtE0 m at' 4 else if (16384:Int)<(gtV f at'.toNat 4:Nat)∨(m:Int)-(at'+4)<(gtV f at'.toNat 4:Nat) then 7 else 0
noncomputable def gpE (m:Nat) (f:Nat->List Value) (at':Int):Int:=hide (gpE0 m f at')
noncomputable def gpL (m:Nat) (f:Nat->List Value) (at':Int):Nat:=hide (if gpE0 m f at'=0 then gtV f at'.toNat 4 else 0)
noncomputable def gpX (m:Nat) (f:Nat->List Value) (at':Int):Int:=hide (if gpE0 m f at'=0 then at'+4+((gtV f at'.toNat 4:Nat):Int) else 0)
noncomputable def gpR (f:Nat->List Value) (at':Int):Nat->List Value:=fun j=>[.int .u8 (hide (bI f (at'.toNat+4+j)))]
theorem bI_gp (f:Nat->List Value) (at':Int) (j:Nat):bI (gpR f at') j=bI f (at'.toNat+4+j):=by
 show hide _=_;rw[hide_eq]
noncomputable def GtpF (e:Nat):List Value->(Nat->Option Blk)->Nat->List (Bool×Value×List (Nat×Blk))
 | [b,.int .i64 at'],mm,id=>[((srcB mm kB b).1&&(okY (srcB mm kB b).2.1 (srcB mm kB b).2.2&&Nat.ble (srcB mm kB b).2.1 1000000),
   .tuple #[nSl id (gpL (srcB mm kB b).2.1 (srcB mm kB b).2.2 at'),i64 (gpX (srcB mm kB b).2.1 (srcB mm kB b).2.2 at'),i64 (gpE (srcB mm kB b).2.1 (srcB mm kB b).2.2 at')],
   rw1 e id (gpL (srcB mm kB b).2.1 (srcB mm kB b).2.2 at') (gpR (srcB mm kB b).2.2 at'))]
 | _,_,_=>[]
noncomputable def spF (f:Nat->List Value):Nat->List Value:=fun j=>[.int .u8 (hide (IntKind.u8.wrap (bI f j+101)))]
def spM (f:Nat->List Value) (k:Nat):Nat->List Value:=fun j=>[.int .u8 (if j<k then IntKind.u8.wrap (bI f j+101) else bI f j)]
theorem spM_zero (f:Nat->List Value){m:Nat}:∀j,j<m->nrmK kB (f j)=nrmK kB (spM f 0 j):=fun j _=>by
 rw[nrm_kB,nrm_kB];congr 2
theorem spM_all (f:Nat->List Value) (m:Nat):∀j,j<m->nrmK kB (spM f m j)=nrmK kB (spF f j):=fun j hj=>by
 rw[nrm_kB,nrm_kB]
 show[Value.int .u8 (if j<m then _ else _)]=[Value.int .u8 (hide _)]
 rw[if_pos hj,hide_eq]
theorem bI_upd (f:Nat->List Value) (k:Nat) (x:Int) (j:Nat):bI (updR f k [.int .u8 x]) j=if j=k then x else bI f j:=by
 show toI ((bif Nat.beq j k then [Value.int .u8 x] else f j).headD _)=_
 by_cases h:j=k
 ·rw[if_pos h,nbeq.2 h,cond_true];rfl
 ·rw[if_neg h,show Nat.beq j k=false from by rw[Bool.eq_false_iff,ne_eq,nbeq];exact h,cond_false];rfl
theorem bI_spM (f:Nat->List Value) (k j:Nat):bI (spM f k) j=if j<k then IntKind.u8.wrap (bI f j+101) else bI f j:=rfl
theorem spM_step (f:Nat->List Value) (k:Nat){m:Nat}:∀j,j<m->nrmK kB (updR (spM f k) k [.int .u8 (IntKind.u8.wrap (bI (spM f k) k+101))] j)=nrmK kB (spM f (k+1) j):=fun j _=>by
 rw[nrm_kB,nrm_kB,bI_upd,bI_spM,bI_spM,bI_spM]
 congr 2
 by_cases h:j=k
 ·subst h
  rw[if_pos rfl,if_neg (by omega),if_pos (by omega)]
 ·rw[if_neg h]
  by_cases h2:j<k
  ·rw[if_pos h2,if_pos (by omega)]
  ·rw[if_neg h2,if_neg (by omega)]
noncomputable def SpoF (e:Nat):List Value->(Nat->Option Blk)->Nat->List (Bool×Value×List (Nat×Blk))
 | [v],mm,_=>[((srcW mm kB e v).1&&Nat.ble (srcW mm kB e v).2.2.1 1000000,.tuple #[],[((srcW mm kB e v).2.1,⟨.row kB (srcW mm kB e v).2.2.1 (spF (srcW mm kB e v).2.2.2),e,true⟩)])]
 | _,_,_=>[]
end Go.W

namespace Go.W
def apB {α:Type}(L:Nat) (x:Option α):Option α:=req (szOk (L+1) 1) (req (Nat.beq L L&&true&&true) x)
theorem apB_eq {α:Type}{L:Nat}(h:L<=1000000) (x:Option α):apB L x=x:=by
 unfold apB
 rw[szOk_small (by omega),req_true rfl,Nat.beq_refl,req_true (b:=true&&true&&true) rfl]
theorem pk_step (m:Nat) (g:Nat->List Value) (n s:Int) (k:Nat):∀j,j<m+k+1->nrmK kB (appF (m+k) (pkR m g n s) (lstF [.int .u8 ((n.toNat / 2^(8*(s.toNat-1-k))%256:Nat):Int)] 0 1) j)=nrmK kB (pkR m g n s j):=
 app_row (ks:=kB) (fun _ _=>rfl) (by
  rw[nrm_pk]
  unfold pkJ pkY
  rw[if_neg (by omega),show m+k-m=k from by omega];rfl)
theorem iOr_i {a b:Nat}(ha:a<9223372036854775808) (hb:b<9223372036854775808):iOr .i64 (a:Int) (b:Int)=((a ||| b:Nat):Int):=by
 have e:(BitVec.ofInt IntKind.i64.bits (a:Int) ||| BitVec.ofInt IntKind.i64.bits (b:Int)).toNat=a ||| b:=by
  show(BitVec.ofInt 64 (a:Int) ||| BitVec.ofInt 64 (b:Int)).toNat=a ||| b
  rw[BitVec.toNat_or,BitVec.ofInt_natCast,BitVec.ofInt_natCast,BitVec.toNat_ofNat,BitVec.toNat_ofNat,Nat.mod_eq_of_lt (by omega),Nat.mod_eq_of_lt (by omega)]
 have h:a ||| b<2^63:=Nat.or_lt_two_pow (by omega) (by omega)
 unfold iOr
 rw[e,wrap_i64 (by omega)]
theorem or_byt {a c:Nat}(hc:c<256):a*256 ||| c=a*256+c:=by
 have h:=Nat.shiftLeft_add_eq_or_of_lt (i:=8) (b:=c) (by omega) a
 rw[Nat.shiftLeft_eq]at h
 exact h.symm
theorem get8 {x c:Nat}(hx:x<281474976710656) (hc:c<256):iOr .i64 (iShl .i64 (x:Int) 8) (IntKind.i64.wrap (c:Int))=((x*256+c:Nat):Int):=by
 have e:iShl .i64 (x:Int) 8=((x*256:Nat):Int):=by
  unfold iShl
  show IntKind.i64.wrap ((x:Int)*2^8)=_
  rw[wrap_i64 (by omega)];omega
 rw[e,wrap_i64 (by omega),iOr_i (by omega) (by omega),or_byt hc]
def bdI {α:Type}(i:Int) (m:Nat) (x:Option α):Option α:=req (inR i m) (req (Nat.blt i.toNat m&&true) x)
theorem bdI_eq {α:Type}{k m:Nat}(h:k<m) (x:Option α):bdI (k:Int) m x=x:=rdR_eq h x
def gtErr (e:Int):Option (Value×List (Nat×Blk)):=some (.tuple #[i64 0,i64 0,i64 e],[])
def gtT (m:Nat) (a s:Int) (x:Option (Value×List (Nat×Blk))):Option (Value×List (Nat×Blk)):=
 bif decide (s<1) then gtErr 1 else bif decide (s > 7) then gtErr 1 else bif decide (a<0) then gtErr 1 else bif decide (a > (m:Int)) then gtErr 1 else bif decide (IntKind.i64.wrap ((m:Int)-a)<s) then gtErr 7 else x
theorem gtT_eq {m:Nat}(hm:m<=1000000) (a s:Int) (x:Option (Value×List (Nat×Blk))):gtT m a s x=if gtE0 m a s=0 then x else gtErr (gtE0 m a s):=by
 unfold gtT gtE0
 by_cases h1:s<1
 ·rw[decide_eq_true h1,cond_true,if_pos (show ¬(1<=s∧s<=7∧0<=a∧a<=(m:Int)) by omega),if_neg (by decide)]
 by_cases h2:s > 7
 ·rw[decide_eq_false h1,decide_eq_true h2,if_pos (show ¬(1<=s∧s<=7∧0<=a∧a<=(m:Int)) by omega),if_neg (by decide)];rfl
 by_cases h3:a<0
 ·rw[decide_eq_false h1,decide_eq_false h2,decide_eq_true h3,if_pos (show ¬(1<=s∧s<=7∧0<=a∧a<=(m:Int)) by omega),if_neg (by decide)];rfl
 by_cases h4:a > (m:Int)
 ·rw[decide_eq_false h1,decide_eq_false h2,decide_eq_false h3,decide_eq_true h4,if_pos (show ¬(1<=s∧s<=7∧0<=a∧a<=(m:Int)) by omega),if_neg (by decide)];rfl
 rw[decide_eq_false h1,decide_eq_false h2,decide_eq_false h3,decide_eq_false h4,wrap_i64 (by omega),if_neg (show ¬¬(1<=s∧s<=7∧0<=a∧a<=(m:Int)) by omega)]
 by_cases h5:(m:Int)-a<s
 ·rw[decide_eq_true h5,if_pos h5,if_neg (by decide)];rfl
 ·rw[decide_eq_false h5,if_neg h5,if_pos rfl];rfl
theorem gtE0_ok {m:Nat}{a s:Int}(h:gtE0 m a s=0):1<=s∧s<=7∧0<=a∧a+s<=(m:Int):=by
 unfold gtE0 at h
 split at h
 ·simp at h
 ·split at h
  ·simp at h
  ·omega
def ppErr:Option (Value×List (Nat×Blk)):=some (.tuple #[.slice none 0 0,i64 4],[])
def kb3 (k:Nat):Bool:=true&&Nat.ble k k&&true
theorem kb3_true (k:Nat):kb3 k=true:=by unfold kb3;rw[bE (Nat.le_refl _)];rfl
def apK {α:Type}(L k:Nat) (x:Option α):Option α:=req (kb3 k) (req (szOk (L+k) 1) (req (Nat.beq L L&&true&&true) x))
theorem apK_eq {α:Type}{L k:Nat}(h:L+k<=2000000) (x:Option α):apK L k x=x:=by
 unfold apK
 rw[kb3_true,req_true rfl,szOk_small h,req_true rfl,Nat.beq_refl,req_true (b:=true&&true&&true) rfl]
theorem pk_len (k:Nat) (h:k<=16384):pkOk (k:Int) 4:=⟨by decide,by decide,by omega,by show(k:Int)<2^32;omega⟩
theorem pp_row (m:Nat) (g:Nat->List Value) (k:Nat) (p:Nat->List Value):∀j,j<m+4+k->nrmK kB (appF (m+4) (pkR m (sgF m g) (k:Nat) 4) (sgF k p) j)=nrmK kB (ppR m g k p j):=fun j hj=>by
 rw[nrm_kB,nrm_kB,bI_pp]
 unfold ppJ
 have hb:bI (appF (m+4) (pkR m (sgF m g) (k:Nat) 4) (sgF k p)) j=if j<m+4 then bI (pkR m (sgF m g) (k:Nat) 4) j else bI (sgF k p) (j-(m+4)):=by
  by_cases h:j<m+4
  ·rw[if_pos h]
   show toI (List.headD (bif Nat.blt j (m+4) then _ else _) _)=_
   rw[bL h,cond_true];rfl
  ·rw[if_neg h]
   show toI (List.headD (bif Nat.blt j (m+4) then _ else _) _)=_
   rw[show Nat.blt j (m+4)=false from by rw[Bool.eq_false_iff,ne_eq,Nat.blt_eq];omega,cond_false];rfl
 rw[hb,bI_sg,bI_pk]
 by_cases h:j<m+4
 ·rw[if_pos h,if_pos h]
  unfold pkJ
  rw[bI_sg]
 ·rw[if_neg h,if_neg h]
def sgA (l c m:Nat) (f:Nat->List Value):Nat->List Value:=segF ⟨0,l,c,kB,m,f,0,false,[]⟩
theorem bI_sgA (l c m:Nat) (f:Nat->List Value) (j:Nat):bI (sgA l c m f) j=bI f (l+j):=rfl
def kbT (l c m:Nat):Bool:=(true&&Nat.ble (l+c) m)&&(true&&Nat.ble c c&&true&&Nat.ble c (m-l))
theorem kbT_true {l c m:Nat}(h:l+c<=m):kbT l c m=true:=by
 unfold kbT
 rw[bE h,bE (Nat.le_refl c),bE (show c<=m-l by omega)];rfl
noncomputable def gtk (m:Nat) (g:Nat->List Value):Bool:=kb4 m&&(okY m (sgF m g)&&Nat.ble m 1000000)
theorem gtk_true {m:Nat}{g:Nat->List Value}(hm:m<=1000000) (h:∀j,j<m->0<=bI g j∧bI g j<256):gtk m g=true:=by
 unfold gtk
 rw[kb4_true,okY_iff.2 (fun j hj=>by rw[bI_sg];exact h j hj),bE hm];rfl
def gpErr (e:Int):Option (Value×List (Nat×Blk)):=some (.tuple #[.slice none 0 0,i64 0,i64 e],[])
def gpS (e m:Nat) (g:Nat->List Value) (X N:Int) (id:Nat):Option (Value×List (Nat×Blk)):=
 req (decide (0<=IntKind.i64.wrap (X+N))&&decide (IntKind.i64.wrap (X+N)<=(m:Int))) (req (decide (0<=X)&&decide (X<=(((IntKind.i64.wrap (X+N)).toNat:Nat):Int))) (req (Nat.ble (IntKind.i64.wrap (X+N)).toNat m)
  (req (kbT X.toNat ((IntKind.i64.wrap (X+N)).toNat-X.toNat) m&&szOk ((IntKind.i64.wrap (X+N)).toNat-X.toNat) 1) (req (Nat.ble ((IntKind.i64.wrap (X+N)).toNat-X.toNat) ((IntKind.i64.wrap (X+N)).toNat-X.toNat))
   (some (.tuple #[nSl id ((IntKind.i64.wrap (X+N)).toNat-X.toNat),i64 (IntKind.i64.wrap (X+N)),i64 0],rw1 e id ((IntKind.i64.wrap (X+N)).toNat-X.toNat) (twF (sgA X.toNat ((IntKind.i64.wrap (X+N)).toNat-X.toNat) m g))))))))
theorem gpE0_ok {m:Nat}{f:Nat->List Value}{a:Int}(h:gpE0 m f a=0):gtE0 m a 4=0∧(0<=a∧a+4<=(m:Int))∧gtV f a.toNat 4<=16384∧a.toNat+4+gtV f a.toNat 4<=m:=by
 unfold gpE0 at h
 split at h
 ·rename_i h1;exact absurd h h1
 ·rename_i h1
  have h1:gtE0 m a 4=0:=Decidable.not_not.1 h1
  obtain ⟨_,_,h2,h3⟩:=gtE0_ok h1
  split at h
  ·simp at h
  ·rename_i h4
   exact⟨h1,⟨h2,h3⟩,by omega,by omega⟩
theorem gt_hid {m:Nat}{g:Nat->List Value}{a s:Int}(h:gtE0 m a s=0):gtE m a s=0∧gtX m a s=a+s∧gtN m g a s=((gtV g a.toNat s.toNat:Nat):Int):=by
 unfold gtE gtX gtN
 rw[hide_eq,hide_eq,hide_eq,if_pos h,if_pos h]
 exact⟨h,rfl,rfl⟩
theorem gtV_sg (m:Nat) (g:Nat->List Value) (a k:Nat):gtV (sgF m g) a k=gtV g a k:=gtV_congr k fun j _ _=>bI_sg m g j
theorem gp_bad {e m:Nat}{g:Nat->List Value}{a:Int}(hm:m<=1000000) (hok:¬gpE0 m g a=0) (id:Nat):
  (bif gtE m a 4 != 0 then gpErr (gtE m a 4) else bif decide (gtN m (sgF m g) a 4 > 16384) then gpErr 7 else bif decide (gtN m (sgF m g) a 4 > IntKind.i64.wrap ((m:Int)-gtX m a 4)) then gpErr 7 else gpS e m g (gtX m a 4) (gtN m (sgF m g) a 4) id)=
  some (.tuple #[.slice none 0 0,i64 0,i64 (gpE0 m g a)],[]):=by
 by_cases h0:gtE0 m a 4=0
 ·obtain ⟨e1,e2,e3⟩:=gt_hid (g:=sgF m g) h0
  rw[gtV_sg,show((4:Int).toNat)=4 from rfl]at e3
  obtain ⟨_,_,h4,h5⟩:=gtE0_ok h0
  have hx:(16384:Int)<(gtV g a.toNat 4:Nat)∨(m:Int)-(a+4)<(gtV g a.toNat 4:Nat):=by
   refine Decidable.byContradiction fun hx=>hok ?_
   unfold gpE0
   rw[if_neg (fun h=>h h0),if_neg hx]
  have hE:gpE0 m g a=7:=by
   unfold gpE0
   rw[if_neg (fun h=>h h0),if_pos hx]
  rw[hE,e1,e2,e3,wrap_i64 (by omega)]
  by_cases h6:(16384:Int)<(gtV g a.toNat 4:Nat)
  ·rw[decide_eq_true (show((gtV g a.toNat 4:Nat):Int) > 16384 from h6)];rfl
  ·have h7:(m:Int)-(a+4)<(gtV g a.toNat 4:Nat):=hx.resolve_left h6
   rw[decide_eq_false (show ¬((gtV g a.toNat 4:Nat):Int) > 16384 from h6),decide_eq_true (show((gtV g a.toNat 4:Nat):Int) > (m:Int)-(a+4) from h7)];rfl
 ·have hE:gpE0 m g a=gtE0 m a 4:=by unfold gpE0;rw[if_pos h0]
  have e1:gtE m a 4=gtE0 m a 4:=by unfold gtE;rw[hide_eq]
  rw[hE,e1,show(gtE0 m a 4 != 0)=true from by rw[bne_iff_ne];exact h0];rfl
end Go.W

namespace Go.W
open Go
def bq (s:ByteArray) (i:Int):Int:=((s.data.toList.getD i.toNat 0).toNat:Int)
theorem bq_byt (s:ByteArray) (k:Nat):bq s (k:Int)=(byt s k:Int):=rfl
def zz2:Option Value:=some (.tuple #[i64 0,i64 0])
def r1fin (least r n:Int):Option Value:=
 bif decide (r<least) then zz2 else bif decide (r>=55296) then (bif decide (r<57344) then zz2 else bif decide (r > 1114111) then zz2 else some (.tuple #[i64 r,i64 n])) else bif decide (r > 1114111) then zz2 else some (.tuple #[i64 r,i64 n])
def r1cn (s:ByteArray) (i:Int) (x:Option Value):Option Value:=req (inR i s.size) (bif iAnd .u8 (bq s i) 192 != 128 then zz2 else req (inR i s.size) x)
def r1nx (s:ByteArray) (r i:Int):Int:=iOr .i64 (iShl .i64 r 6) (IntKind.i64.wrap (iAnd .u8 (bq s i) 63))
def r1c (s:ByteArray):Int:=IntKind.i64.wrap (bq s 0)
def r1T2 (s:ByteArray):Option Value:=bif decide ((s.size:Int)<2) then zz2 else r1cn s 1 (r1fin 128 (r1nx s (iAnd .i64 (r1c s) 31) 1) 2)
def r1T3 (s:ByteArray):Option Value:=bif decide ((s.size:Int)<3) then zz2 else r1cn s 1 (r1cn s 2 (r1fin 2048 (r1nx s (r1nx s (iAnd .i64 (r1c s) 15) 1) 2) 3))
def r1T4 (s:ByteArray):Option Value:=bif decide ((s.size:Int)<4) then zz2 else r1cn s 1 (r1cn s 2 (r1cn s 3 (r1fin 65536 (r1nx s (r1nx s (r1nx s (iAnd .i64 (r1c s) 7) 1) 2) 3) 4)))
def r1Y (s:ByteArray):Option Value:=bif decide (r1c s>=240) then (bif decide (r1c s<248) then r1T4 s else zz2) else zz2
def r1X (s:ByteArray):Option Value:=bif decide (r1c s>=224) then (bif decide (r1c s<240) then r1T3 s else r1Y s) else r1Y s
def r1T (s:ByteArray):Option Value:=req (inR 0 s.size) (bif decide (r1c s<128) then some (.tuple #[i64 (r1c s),i64 1]) else bif decide (r1c s>=192) then (bif decide (r1c s<224) then r1T2 s else r1X s) else r1X s)
theorem iAnd_i {a b:Nat}(ha:a<9223372036854775808) (hb:b<9223372036854775808):iAnd .i64 (a:Int) (b:Int)=((a &&& b:Nat):Int):=by
 have e:(BitVec.ofInt IntKind.i64.bits (a:Int) &&& BitVec.ofInt IntKind.i64.bits (b:Int)).toNat=a &&& b:=by
  show(BitVec.ofInt 64 (a:Int) &&& BitVec.ofInt 64 (b:Int)).toNat=a &&& b
  rw[BitVec.toNat_and,BitVec.ofInt_natCast,BitVec.ofInt_natCast,BitVec.toNat_ofNat,BitVec.toNat_ofNat,Nat.mod_eq_of_lt (by omega),Nat.mod_eq_of_lt (by omega)]
 have h:a &&& b<=a:=Nat.and_le_left
 unfold iAnd
 rw[e,wrap_i64 (by omega)]
theorem iAnd_b8 {a b:Nat}(ha:a<256) (hb:b<256):iAnd .u8 (a:Int) (b:Int)=((a &&& b:Nat):Int):=by
 have e:(BitVec.ofInt IntKind.u8.bits (a:Int) &&& BitVec.ofInt IntKind.u8.bits (b:Int)).toNat=a &&& b:=by
  show(BitVec.ofInt 8 (a:Int) &&& BitVec.ofInt 8 (b:Int)).toNat=a &&& b
  rw[BitVec.toNat_and,BitVec.ofInt_natCast,BitVec.ofInt_natCast,BitVec.toNat_ofNat,BitVec.toNat_ofNat,Nat.mod_eq_of_lt (by omega),Nat.mod_eq_of_lt (by omega)]
 have h:a &&& b<=a:=Nat.and_le_left
 unfold iAnd
 rw[e,wrap_u8];omega
theorem and192:∀x,x<256->x &&& 192=x / 64*64:=by decide +kernel
theorem cont_and {x:Nat}(h:x<256):(iAnd .u8 (x:Int) 192 != 128)=!(x / 64==2):=by
 rw[show(192:Int)=((192:Nat):Int) from rfl,iAnd_b8 h (by omega),and192 x h]
 have:x / 64<4:=by omega
 generalize x / 64=y at *
 match y,this with
 | 0,_=>rfl
 | 1,_=>rfl
 | 2,_=>rfl
 | 3,_=>rfl
theorem or_six {a c:Nat}(hc:c<64):a*64 ||| c=a*64+c:=by
 have h:=Nat.shiftLeft_add_eq_or_of_lt (i:=6) (b:=c) (by omega) a
 rw[Nat.shiftLeft_eq]at h
 exact h.symm
theorem nx_six {x c:Nat}(hx:x<281474976710656) (hc:c<256):iOr .i64 (iShl .i64 (x:Int) 6) (IntKind.i64.wrap (iAnd .u8 (c:Int) 63))=((x*64+c%64:Nat):Int):=by
 have e:iShl .i64 (x:Int) 6=((x*64:Nat):Int):=by
  unfold iShl
  show IntKind.i64.wrap ((x:Int)*2^6)=_
  rw[wrap_i64 (by omega)];omega
 have e2:c &&& 63=c%64:=Nat.and_two_pow_sub_one_eq_mod c 6
 rw[e,show(63:Int)=((63:Nat):Int) from rfl,iAnd_b8 hc (by omega),e2,wrap_i64 (by omega),iOr_i (by omega) (by omega),or_six (by omega)]
theorem r1nx_eq (s:ByteArray){x:Nat}(hx:x<281474976710656) (k:Nat):r1nx s (x:Int) (k:Int)=((x*64+byt s k%64:Nat):Int):=by
 unfold r1nx;rw[bq_byt,nx_six hx (byt_lt s k)]
theorem r1cn_eq (s:ByteArray){k:Nat}(hk:k<s.size) (x:Option Value):r1cn s (k:Int) x=if byt s k / 64=2 then x else zz2:=by
 have hin:inR (k:Int) s.size=true:=by unfold inR;rw[decide_eq_true (by omega),decide_eq_true (by omega)];rfl
 unfold r1cn
 rw[hin,req_true rfl,req_true rfl,bq_byt,cont_and (byt_lt s k)]
 by_cases h:byt s k / 64=2
 ·rw[if_pos h,h];rfl
 ·rw[if_neg h,show(byt s k / 64==2)=false from beq_eq_false_iff_ne.2 h];rfl
theorem r1c_eq (s:ByteArray):r1c s=(byt s 0:Int):=by
 have:=byt_lt s 0
 show IntKind.i64.wrap (bq s ((0:Nat):Int))=_
 rw[bq_byt,wrap_i64 (by omega)]
instance (r:Int):Decidable (vld r):=by unfold vld;infer_instance
theorem r1fin_eq {least r n:Nat}:r1fin (least:Int) (r:Int) (n:Int)=if least<=r∧vld (r:Int) then some (.tuple #[i64 (r:Int),i64 (n:Int)]) else zz2:=by
 unfold r1fin vld
 by_cases h1:r<least
 ·rw[decide_eq_true (by omega),if_neg (by omega)];rfl
 rw[decide_eq_false (by omega),cond_false]
 by_cases h2:55296<=r
 ·rw[decide_eq_true (by omega),cond_true]
  by_cases h3:r<57344
  ·rw[decide_eq_true (by omega),if_neg (by omega)];rfl
  ·rw[decide_eq_false (by omega),cond_false]
   by_cases h4:r > 1114111
   ·rw[decide_eq_true (by omega),if_neg (by omega)];rfl
   ·rw[decide_eq_false (by omega),if_pos (by omega)];rfl
 ·rw[decide_eq_false (by omega),cond_false]
  by_cases h4:r > 1114111
  ·rw[decide_eq_true (by omega),if_neg (by omega)];rfl
  ·rw[decide_eq_false (by omega),if_pos (by omega)];rfl
noncomputable def r1R (s:ByteArray):Int:=hide (if decB (byt s) s.size 0=(65533,1) then 0 else (dC s 0:Int))
noncomputable def r1W (s:ByteArray):Int:=hide (if decB (byt s) s.size 0=(65533,1) then 0 else (dW s 0:Int))
noncomputable def R1F:List Value->Option (Bool×Value)
 | [.string s]=>some (Nat.blt 0 s.size&&Nat.ble s.size 1000000,.tuple #[i64 (r1R s),i64 (r1W s)])
 | _=>none
theorem r1_none {s:ByteArray}(hs:0<s.size) (h:∀r w,w<=s.size->¬runeAt (byt s) 0 r w):zz2=some (.tuple #[i64 (r1R s),i64 (r1W s)]):=by
 have e:decB (byt s) s.size 0=(65533,1):=by
  rcases decB_cases (b:=byt s) hs with⟨h1,_⟩|⟨r,w,_,h1,h2⟩
  ·exact h1
  ·exact absurd h1 (h r w (by omega))
 unfold r1R r1W
 rw[hide_eq,hide_eq,if_pos e,if_pos e];rfl
theorem r1_some {s:ByteArray}{r w:Nat}(h:runeAt (byt s) 0 r w) (hw:w<=s.size):some (.tuple #[i64 (r:Int),i64 (w:Int)])=some (Value.tuple #[i64 (r1R s),i64 (r1W s)]):=by
 have e:=decB_rune h (n:=s.size) (by omega)
 have hne:decB (byt s) s.size 0≠(65533,1):=by
  rw[e];intro e2
  simp only[Prod.mk.injEq]at e2
  obtain ⟨rfl,rfl⟩:=e2
  rcases h with⟨_,h1,h2⟩|⟨h1,_⟩|⟨h1,_⟩|⟨h1,_⟩<;>omega
 unfold r1R r1W dC dW
 rw[hide_eq,hide_eq,if_neg hne,if_neg hne,e]
theorem r1T_eq {s:ByteArray}(hs:0<s.size):r1T s=some (.tuple #[i64 (r1R s),i64 (r1W s)]):=by
 have hb0:=byt_lt s 0
 have hin:inR 0 s.size=true:=by unfold inR;rw[decide_eq_true (by omega),decide_eq_true (by omega)];rfl
 have e31:∀n:Nat,∀k,(n=2^k-1)->n<256->iAnd .i64 (byt s 0:Int) (n:Int)=((byt s 0%2^k:Nat):Int):=by
  intro n k e hn
  rw[iAnd_i (by omega) (by omega),e,Nat.and_two_pow_sub_one_eq_mod]
 unfold r1T
 rw[hin,req_true rfl,r1c_eq]
 by_cases c1:byt s 0<128
 ·rw[decide_eq_true (by omega),cond_true]
  exact r1_some (.inl ⟨rfl,c1,rfl⟩) hs
 rw[decide_eq_false (by omega),cond_false]
 have hX:192<=byt s 0∧byt s 0<224∨¬(192<=byt s 0∧byt s 0<224):=Decidable.em _
 rcases hX with c2|c2
 ·rw[decide_eq_true (by omega),decide_eq_true (by omega),cond_true,cond_true]
  unfold r1T2
  by_cases h2:s.size<2
  ·rw[decide_eq_true (by omega),cond_true]
   refine r1_none hs fun r w hw h=>?_
   simp only[runeAt,Nat.zero_add]at h
   rcases h with⟨rfl,h1,_⟩|⟨rfl,h1,_⟩|⟨rfl,h1,_⟩|⟨rfl,h1,_⟩<;>omega
  rw[decide_eq_false (by omega),cond_false,r1c_eq,show iAnd .i64 (byt s 0:Int) 31=_ from e31 31 5 rfl (by omega)]
  show r1cn s ((1:Nat):Int) (r1fin ((128:Nat):Int) (r1nx s _ ((1:Nat):Int)) ((2:Nat):Int))=_
  rw[r1cn_eq s (by omega),r1nx_eq s (by omega),r1fin_eq]
  have hb1:=byt_lt s 1
  by_cases k1:byt s 1 / 64=2
  ·rw[if_pos k1]
   by_cases k2:128<=byt s 0%2^5*64+byt s 1%64
   ·rw[if_pos ⟨k2,by unfold vld;omega⟩]
    exact r1_some (.inr (.inl ⟨rfl,by omega,k1,rfl,k2⟩)) (by omega)
   ·rw[if_neg (fun h=>k2 h.1)]
    refine r1_none hs fun r w hw h=>?_
    simp only[runeAt,Nat.zero_add]at h
    rcases h with⟨rfl,h1,_⟩|⟨rfl,h1,_,h3,h4⟩|⟨rfl,h1,_⟩|⟨rfl,h1,_⟩<;>omega
  ·rw[if_neg k1]
   refine r1_none hs fun r w hw h=>?_
   simp only[runeAt,Nat.zero_add]at h
   rcases h with⟨rfl,h1,_⟩|⟨rfl,h1,h2,_⟩|⟨rfl,h1,_⟩|⟨rfl,h1,_⟩<;>omega
 have eX:(bif decide ((byt s 0:Int)>=192) then (bif decide ((byt s 0:Int)<224) then r1T2 s else r1X s) else r1X s)=r1X s:=by
  by_cases h:byt s 0<192
  ·rw[decide_eq_false (by omega),cond_false]
  ·rw[decide_eq_true (by omega),decide_eq_false (by omega)];rfl
 rw[eX]
 unfold r1X
 rw[r1c_eq]
 have hY:224<=byt s 0∧byt s 0<240∨¬(224<=byt s 0∧byt s 0<240):=Decidable.em _
 rcases hY with c3|c3
 ·rw[decide_eq_true (by omega),decide_eq_true (by omega),cond_true,cond_true]
  unfold r1T3
  by_cases h2:s.size<3
  ·rw[decide_eq_true (by omega),cond_true]
   refine r1_none hs fun r w hw h=>?_
   simp only[runeAt,Nat.zero_add]at h
   rcases h with⟨rfl,h1,_⟩|⟨rfl,h1,_⟩|⟨rfl,h1,_⟩|⟨rfl,h1,_⟩<;>omega
  rw[decide_eq_false (by omega),cond_false,r1c_eq,show iAnd .i64 (byt s 0:Int) 15=_ from e31 15 4 rfl (by omega)]
  show r1cn s ((1:Nat):Int) (r1cn s ((2:Nat):Int) (r1fin ((2048:Nat):Int) (r1nx s (r1nx s _ ((1:Nat):Int)) ((2:Nat):Int)) ((3:Nat):Int)))=_
  rw[r1cn_eq s (by omega),r1cn_eq s (by omega),r1nx_eq s (by omega),r1nx_eq s (by omega),r1fin_eq]
  have hb1:=byt_lt s 1
  have hb2:=byt_lt s 2
  by_cases k1:byt s 1 / 64=2
  ·rw[if_pos k1]
   by_cases k2:byt s 2 / 64=2
   ·rw[if_pos k2]
    have er:(byt s 0%2^4*64+byt s 1%64)*64+byt s 2%64=byt s 0%16*4096+byt s 1%64*64+byt s 2%64:=by omega
    rw[er]
    by_cases k3:2048<=byt s 0%16*4096+byt s 1%64*64+byt s 2%64∧vld ((byt s 0%16*4096+byt s 1%64*64+byt s 2%64:Nat):Int)
    ·rw[if_pos k3]
     exact r1_some (.inr (.inr (.inl ⟨rfl,by omega,k1,k2,rfl,k3.1,valid_vld.2 k3.2⟩))) (by omega)
    ·rw[if_neg k3]
     refine r1_none hs fun r w hw h=>?_
     simp only[runeAt,Nat.zero_add]at h
     rcases h with⟨rfl,h1,_⟩|⟨rfl,h1,_⟩|⟨rfl,h1,_,_,h3,h4,h5⟩|⟨rfl,h1,_⟩
     ·omega
     ·omega
     ·exact k3 (by rw[<-h3];exact⟨h4,valid_vld.1 h5⟩)
     ·omega
   ·rw[if_neg k2]
    refine r1_none hs fun r w hw h=>?_
    simp only[runeAt,Nat.zero_add]at h
    rcases h with⟨rfl,h1,_⟩|⟨rfl,h1,h2,_⟩|⟨rfl,h1,_,h3,_⟩|⟨rfl,h1,_⟩<;>omega
  ·rw[if_neg k1]
   refine r1_none hs fun r w hw h=>?_
   simp only[runeAt,Nat.zero_add]at h
   rcases h with⟨rfl,h1,_⟩|⟨rfl,h1,h2,_⟩|⟨rfl,h1,h3,_⟩|⟨rfl,h1,_⟩<;>omega
 have eY:(bif decide ((byt s 0:Int)>=224) then (bif decide ((byt s 0:Int)<240) then r1T3 s else r1Y s) else r1Y s)=r1Y s:=by
  by_cases h:byt s 0<224
  ·rw[decide_eq_false (by omega),cond_false]
  ·rw[decide_eq_true (by omega),decide_eq_false (by omega)];rfl
 rw[eY]
 unfold r1Y
 rw[r1c_eq]
 have hZ:240<=byt s 0∧byt s 0<248∨¬(240<=byt s 0∧byt s 0<248):=Decidable.em _
 rcases hZ with c4|c4
 ·rw[decide_eq_true (by omega),decide_eq_true (by omega),cond_true,cond_true]
  unfold r1T4
  by_cases h2:s.size<4
  ·rw[decide_eq_true (by omega),cond_true]
   refine r1_none hs fun r w hw h=>?_
   simp only[runeAt,Nat.zero_add]at h
   rcases h with⟨rfl,h1,_⟩|⟨rfl,h1,_⟩|⟨rfl,h1,_⟩|⟨rfl,h1,_⟩<;>omega
  rw[decide_eq_false (by omega),cond_false,r1c_eq,show iAnd .i64 (byt s 0:Int) 7=_ from e31 7 3 rfl (by omega)]
  show r1cn s ((1:Nat):Int) (r1cn s ((2:Nat):Int) (r1cn s ((3:Nat):Int) (r1fin ((65536:Nat):Int) (r1nx s (r1nx s (r1nx s _ ((1:Nat):Int)) ((2:Nat):Int)) ((3:Nat):Int)) ((4:Nat):Int))))=_
  rw[r1cn_eq s (by omega),r1cn_eq s (by omega),r1cn_eq s (by omega),r1nx_eq s (by omega),r1nx_eq s (by omega),r1nx_eq s (by omega),r1fin_eq]
  have hb1:=byt_lt s 1
  have hb2:=byt_lt s 2
  have hb3:=byt_lt s 3
  by_cases k1:byt s 1 / 64=2
  ·rw[if_pos k1]
   by_cases k2:byt s 2 / 64=2
   ·rw[if_pos k2]
    by_cases k4:byt s 3 / 64=2
    ·rw[if_pos k4]
     have er:((byt s 0%2^3*64+byt s 1%64)*64+byt s 2%64)*64+byt s 3%64=byt s 0%8*262144+byt s 1%64*4096+byt s 2%64*64+byt s 3%64:=by omega
     rw[er]
     by_cases k3:65536<=byt s 0%8*262144+byt s 1%64*4096+byt s 2%64*64+byt s 3%64∧vld ((byt s 0%8*262144+byt s 1%64*4096+byt s 2%64*64+byt s 3%64:Nat):Int)
     ·rw[if_pos k3]
      exact r1_some (.inr (.inr (.inr ⟨rfl,by omega,k1,k2,k4,rfl,k3.1,valid_vld.2 k3.2⟩))) (by omega)
     ·rw[if_neg k3]
      refine r1_none hs fun r w hw h=>?_
      simp only[runeAt,Nat.zero_add]at h
      rcases h with⟨rfl,h1,_⟩|⟨rfl,h1,_⟩|⟨rfl,h1,_⟩|⟨rfl,h1,_,_,_,h3,h4,h5⟩
      ·omega
      ·omega
      ·omega
      ·exact k3 (by rw[<-h3];exact⟨h4,valid_vld.1 h5⟩)
    ·rw[if_neg k4]
     refine r1_none hs fun r w hw h=>?_
     simp only[runeAt,Nat.zero_add]at h
     rcases h with⟨rfl,h1,_⟩|⟨rfl,h1,h2,_⟩|⟨rfl,h1,_⟩|⟨rfl,h1,_,_,h3,_⟩<;>omega
   ·rw[if_neg k2]
    refine r1_none hs fun r w hw h=>?_
    simp only[runeAt,Nat.zero_add]at h
    rcases h with⟨rfl,h1,_⟩|⟨rfl,h1,h2,_⟩|⟨rfl,h1,_⟩|⟨rfl,h1,_,h3,_⟩<;>omega
  ·rw[if_neg k1]
   refine r1_none hs fun r w hw h=>?_
   simp only[runeAt,Nat.zero_add]at h
   rcases h with⟨rfl,h1,_⟩|⟨rfl,h1,h2,_⟩|⟨rfl,h1,h3,_⟩|⟨rfl,h1,h3,_⟩<;>omega
 have eZ:(bif decide ((byt s 0:Int)>=240) then (bif decide ((byt s 0:Int)<248) then r1T4 s else zz2) else zz2)=zz2:=by
  by_cases h:byt s 0<240
  ·rw[decide_eq_false (by omega),cond_false]
  ·rw[decide_eq_true (by omega),decide_eq_false (by omega)];rfl
 rw[eZ]
 refine r1_none hs fun r w hw h=>?_
 simp only[runeAt,Nat.zero_add]at h
 rcases h with⟨rfl,h1,_⟩|⟨rfl,h1,h2,_⟩|⟨rfl,h1,h3,_⟩|⟨rfl,h1,h3,_⟩<;>omega
end Go.W

namespace Go.W
def mapSlot (t:Nat) (v:Value) (l:List (Nat×Value)):List (Nat×Value):=l.map fun p=>bif Nat.beq p.1 t then (p.1,v) else p
theorem look_mapSlot {t:Nat}{v:Value}:∀{l:List (Nat×Value)}{x:Nat}{u:Value},look (mapSlot t v l) x=some u->(x=t∧u=v∧(look l t).isSome=true)∨(x≠t∧look l x=some u)
 | [],x,u,h=>by simp[mapSlot,look]at h
 | (y,w)::l,x,u,h=>by
  have h:look ((bif Nat.beq y t then (y,v) else (y,w))::mapSlot t v l) x=some u:=h
  by_cases hy:y=t
  ·subst hy
   rw[nbeq.2 rfl,cond_true,look_cons]at h
   by_cases hx:y=x
   ·subst hx
    rw[upd_same]at h
    cases h
    exact .inl ⟨rfl,rfl,by rw[look_cons,upd_same];rfl⟩
   ·rw[upd_ne _ _ hx]at h
    rcases look_mapSlot h with⟨h1,_,_⟩|⟨h1,h2⟩
    ·exact absurd h1.symm hx
    ·exact .inr ⟨h1,by rw[look_cons,upd_ne _ _ hx];exact h2⟩
  ·rw[show Nat.beq y t=false from by rw[Bool.eq_false_iff,ne_eq,nbeq];exact hy,cond_false,look_cons]at h
   by_cases hx:y=x
   ·subst hx
    rw[upd_same]at h
    cases h
    exact .inr ⟨hy,by rw[look_cons,upd_same]⟩
   ·rw[upd_ne _ _ hx]at h
    rcases look_mapSlot h with⟨h1,h2,h3⟩|⟨h1,h2⟩
    ·exact .inl ⟨h1,h2,by rw[look_cons,upd_ne _ _ hy];exact h3⟩
    ·exact .inr ⟨h1,by rw[look_cons,upd_ne _ _ hx];exact h2⟩
section
variable {GL:Glob}{w0:Wb GL}{n:Nat}{R:Nat->Pl->Prop}{a:Act}{w:World}
theorem Rel.nilSlot {s:St}(h:Rel w0 n R s.f a w){t B:Nat}(ht:look s.slots t=some (.slice none 0 0)) (hB:look s.mem B=none) (hlo:loose B=true) (hsm:B<1000000) (ks:List CK) (f:Nat->List Value) (e:TypeId) (nx:Nat):
  ∃R',Rel w0 n R' (St.f ⟨mapSlot t (.slice (some ⟨B,0,none⟩) 0 0) s.slots,(B,⟨.row ks 0 f,e,true⟩)::s.mem,nx⟩) a w:=by
 refine⟨_,h.defers,h.size,?_,MRel.nilRow h.m hB hsm ks f e⟩
 intro x u hx
 rcases look_mapSlot hx with⟨rfl,rfl,_⟩|⟨_,h2⟩
 ·obtain ⟨v',h3,h4⟩:=h.slot x _ ht
  have:v'=.slice none 0 0:=(V2_plain (v:=.slice none 0 0) rfl).1 h4
  subst this
  refine⟨_,h3,⟨none,0,0⟩,.inr ⟨rfl,rfl⟩,?_⟩
  unfold SlOk
  rw[if_pos hlo]
  exact⟨rfl,rfl,Nat.le_refl _,rfl,rfl,none,rfl⟩
 ·obtain ⟨v',h3,h4⟩:=h.slot x u h2
  exact⟨v',h3,V2_mono (fun _ _ hp=>.inl hp) h4⟩
end
theorem loopW {P:Program} [Laid P] {code:Code}{n:Nat}(C:Nat->Cfg) (N:Nat) (hC:∀k,k<=N->CfgOk P (C k) code) (hn:∀k,(C k).n=n){p:List Nat}(hp:codeAt p code=some (.loop (loopAt p code))){m:Nat}{ts:List Nat}{is:Ren}{tx:Nat}{nt et:Nat->List Nat}{ni ei:Nat->Ren}{nx ex:Nat}(st:Nat->St){e:Exit}{s0 sf:St}
  (h0:∀(w0:Wb (lay P)) (R:Nat->Pl->Prop) (a:Act) (w:World),Rel w0 n R s0.f a w->∃R',Rel w0 n R' (st 0).f a w) (he:e≠.normal)
  (step:∀k,k<N->∃s,roundS (C k) m (p++[0]) (loopAt p code) (nt k) (ni k) nx (et k) (ei k) ex (st k)=some (.normal,s)∧stEq s (st (k+1))=true)
  (last:∃s,roundS (C N) m (p++[0]) (loopAt p code) (nt N) (ni N) nx (et N) (ei N) ex (st N)=some (e,s)∧stEq s sf=true):
  LoopOk P n (loopAt p code) (atSt ts is tx s0 e sf):=by
 refine atSt_ok fun w0 R a w hrel=>?_
 obtain ⟨R,hrel⟩:=h0 w0 R a w hrel
 have hx:codeAt (p++[0]) code=some (loopAt p code):=by rw[codeAt_app,hp];rfl
 have key:∀j,j<=N->∀(R:Nat->Pl->Prop) (a:Act) (w:World),Rel w0 n R (st (N-j)).f a w->Code.rounds P (loopAt p code) (fun e' a' w'=>e'=e∧∃R',Rel w0 n R' sf.f a' w') (j+1) a w:=by
  intro j
  induction j with
  | zero=>
   intro _ R a w hr
   rw[rounds_succ]
   obtain ⟨s,h1,h2⟩:=last
   have hs:=round_sound (hC N (Nat.le_refl _)) hx h1 (w0:=w0) (R:=R) (a:=a) (w:=w) (by rw[hn];exact hr)
   rw[hn]at hs
   refine wp_mono hs ?_
   rintro e' a' w' ⟨rfl,R',hr'⟩
   cases e' with
   | normal=>exact absurd rfl he
   | _=>exact⟨rfl,R',hr'.eqv h2⟩
  | succ j ih=>
   intro hj R a w hr
   rw[rounds_succ]
   obtain ⟨s,h1,h2⟩:=step (N-(j+1)) (by omega)
   have hs:=round_sound (hC (N-(j+1)) (by omega)) hx h1 (w0:=w0) (R:=R) (a:=a) (w:=w) (by rw[hn];exact hr)
   rw[hn]at hs
   refine wp_mono hs ?_
   rintro e' a' w' ⟨rfl,R',hr'⟩
   refine ih (by omega) R' a' w' ?_
   rw[show N-j=N-(j+1)+1 from by omega]
   exact hr'.eqv h2
 exact wp_loop_rounds (N+1) (key N (Nat.le_refl N) R a w (by rw[Nat.sub_self];exact hrel))
end Go.W

namespace Go.W
open Go
noncomputable def lLbF:List Value->Option (Bool×Value)
 | [.string s]=>some (Nat.ble s.size 1000000,.bool (lblB s))
 | _=>none
noncomputable def lbE (s:ByteArray):Int:=hide (if lblB s then 0 else 8)
noncomputable def lChF:List Value->Option (Bool×Value)
 | [.string s]=>some (Nat.ble s.size 1000000,i64 (lbE s))
 | _=>none
theorem lbE_yes {s:ByteArray}(h:lbl s):lbE s=0:=by unfold lbE;rw[hide_eq,lblB_iff.2 h];rfl
theorem lbE_no {s:ByteArray}(h:¬lbl s):lbE s=8:=by
 unfold lbE;rw[hide_eq,show lblB s=false from by rw[Bool.eq_false_iff,ne_eq,lblB_iff];exact h];rfl
theorem dec_from (s:ByteArray){p:Nat}(hp:p<s.size):decB (byt (s.extract p s.size)) (s.extract p s.size).size 0=decB (byt s) s.size p:=by
 rw[size_cut (Nat.le_refl _)]
 exact decB_shift hp (by omega) (by omega) fun k hk=>by rw[Nat.zero_add,byt_cut _ _ _ _ (by omega)]
theorem r1W_at (s:ByteArray){p:Nat}(hp:p<s.size):r1W (s.extract p s.size)=if decB (byt s) s.size p=(65533,1) then 0 else (dW s p:Int):=by
 unfold r1W dW;rw[hide_eq,dec_from s hp]
theorem r1R_at (s:ByteArray){p:Nat}(hp:p<s.size):r1R (s.extract p s.size)=if decB (byt s) s.size p=(65533,1) then 0 else (dC s p:Int):=by
 unfold r1R dC;rw[hide_eq,dec_from s hp]
def rdx {α:Type}(s:ByteArray) (p:Int) (x:Option α):Option α:=req (decide (0<=p)&&decide (p<=(s.size:Int))) (req (Nat.blt 0 (s.extract p.toNat s.size).size&&Nat.ble (s.extract p.toNat s.size).size 1000000) x)
theorem rdx_eq {α:Type}{s:ByteArray}{p:Nat}(hp:p<s.size) (hs:s.size<=1000000) (x:Option α):rdx s (p:Int) x=x:=by
 unfold rdx
 rw[decide_eq_true (by omega),decide_eq_true (by omega),req_true (b:=true&&true) rfl,Int.toNat_natCast,size_cut (Nat.le_refl _),Nat.ble_eq_true_of_le (by omega),show Nat.blt 0 (s.size-p)=true from by rw[Nat.blt_eq];omega,req_true (b:=true&&true) rfl]
instance (r:Nat):Decidable (okC r):=by unfold okC;infer_instance
noncomputable def lbQ {α:Type}(s:ByteArray) (p:Int) (no yes:α):α:=
 bif r1W (s.extract p.toNat s.size)==0 then no else bif decide (r1R (s.extract p.toNat s.size)<32) then no else
  bif decide (r1R (s.extract p.toNat s.size)>=127) then (bif decide (r1R (s.extract p.toNat s.size)<160) then no else bif r1R (s.extract p.toNat s.size)==65533 then no else yes) else bif r1R (s.extract p.toNat s.size)==65533 then no else yes
theorem okC_no {r:Nat}(h:¬(32<=r∧(r<127∨160<=r)∧r≠65533)):¬okC r:=h
theorem okC_yes {r:Nat}(h:32<=r∧(r<127∨160<=r)∧r≠65533):okC r:=h
theorem lbQ_eq {α:Type}{s:ByteArray}{p:Nat}(hp:p<s.size) (no yes:α):lbQ s (p:Int) no yes=if okC (dC s p) then yes else no:=by
 unfold lbQ
 rw[Int.toNat_natCast,r1W_at s hp,r1R_at s hp]
 have h1:=dW_le hp
 by_cases e:decB (byt s) s.size p=(65533,1)
 ·have e2:dC s p=65533:=by unfold dC;rw[e]
  rw[if_pos e,if_pos e,if_neg (okC_no (by omega))];rfl
 rw[if_neg e,if_neg e,show(((dW s p:Nat):Int)==0)=false from beq_eq_false_iff_ne.2 (by omega),cond_false]
 by_cases h2:dC s p<32
 ·rw[decide_eq_true (by omega),cond_true,if_neg (okC_no (by omega))]
 rw[decide_eq_false (by omega),cond_false]
 by_cases h3:dC s p<127
 ·rw[decide_eq_false (by omega),cond_false,show(((dC s p:Nat):Int)==65533)=false from beq_eq_false_iff_ne.2 (by omega),cond_false,if_pos (okC_yes (by omega))]
 rw[decide_eq_true (by omega),cond_true]
 by_cases h4:dC s p<160
 ·rw[decide_eq_true (by omega),cond_true,if_neg (okC_no (by omega))]
 rw[decide_eq_false (by omega),cond_false]
 by_cases h5:dC s p=65533
 ·rw[h5,if_neg (okC_no (by omega))];rfl
 ·rw[show(((dC s p:Nat):Int)==65533)=false from beq_eq_false_iff_ne.2 (by omega),cond_false,if_pos (okC_yes (by omega))]
def goodTo (s:ByteArray) (k:Nat):Prop:=okC (rc s k)∧k<24
instance (s:ByteArray) (k:Nat):Decidable (goodTo s k):=by unfold goodTo;infer_instance
theorem good_or (s:ByteArray):∀n,(∀k,k<n->goodTo s k)∨∃k,k<n∧¬goodTo s k∧∀j,j<k->goodTo s j
 | 0=>.inl fun k h=>absurd h (Nat.not_lt_zero _)
 | n+1=>by
  rcases good_or s n with h|⟨k,h1,h2⟩
  ·by_cases e:goodTo s n
   ·left
    intro k hk
    by_cases e2:k=n
    ·rw[e2];exact e
    ·exact h k (by omega)
   ·exact .inr ⟨n,by omega,e,h⟩
  ·exact .inr ⟨k,by omega,h2⟩
theorem first_or (p:Nat->Prop):∀n,(∀k,k<n->p k)∨∃k,k<n∧¬p k∧∀j,j<k->p j
 | 0=>.inl fun k h=>absurd h (Nat.not_lt_zero _)
 | n+1=>by
  rcases first_or p n with h|⟨k,h1,h2⟩
  ·by_cases e:p n
   ·left
    intro k hk
    by_cases e2:k=n
    ·rw[e2];exact e
    ·exact h k (by omega)
   ·exact .inr ⟨n,by omega,e,h⟩
  ·exact .inr ⟨k,by omega,h2⟩
def goodL (s:ByteArray) (k:Nat):Prop:=goodTo s k∧(k=0->rc s k≠32)
instance (s:ByteArray) (k:Nat):Decidable (goodL s k):=by unfold goodL;infer_instance
theorem lbl_end {s:ByteArray}(h:∀k,k<rN s->goodL s k):lbl s↔1<=rN s∧rc s (rN s-1)≠32:=by
 constructor
 ·exact fun hl=>⟨hl.1,hl.2.2.2.2⟩
 ·rintro ⟨h1,h2⟩
  have:=(h (rN s-1) (by omega)).1.2
  exact⟨h1,by omega,fun k hk=>(h k hk).1.1,(h 0 (by omega)).2 rfl,h2⟩
theorem not_lblL {s:ByteArray}{k:Nat}(hk:k<rN s) (h:¬goodL s k):¬lbl s:=fun hl=>h ⟨⟨hl.2.2.1 k hk,by have:=hl.2.1;omega⟩,fun e=>by rw[e];exact hl.2.2.2.1⟩
noncomputable def msB (r:Int):Bool:=hide (decide (32<=r∧(r<127∨159<r)∧r≠65533))
noncomputable def lMsF:List Value->Option (Bool×Value)
 | [.int .i32 r]=>some (true,.bool (msB r))
 | _=>none
noncomputable def msT (r:Int):Option Value:=
 bif decide (r>=32) then (bif decide (r<127) then some (.bool (r != 65533)) else (bif decide (r > 159) then some (.bool (r != 65533)) else some (.bool false))) else some (.bool false)
theorem msT_eq (r:Int):msT r=some (.bool (msB r)):=by
 unfold msT msB
 rw[hide_eq]
 have e:∀b:Bool,(b=decide (32<=r∧(r<127∨159<r)∧r≠65533))->some (Value.bool b)=some (.bool (decide (32<=r∧(r<127∨159<r)∧r≠65533))):=fun b h=>by rw[h]
 by_cases h1:r>=32
 ·rw[decide_eq_true h1,cond_true]
  by_cases h2:r<127
  ·rw[decide_eq_true h2,cond_true]
   apply e
   rw[Bool.eq_iff_iff,bne_iff_ne,decide_eq_true_iff];omega
  ·rw[decide_eq_false h2,cond_false]
   by_cases h3:r > 159
   ·rw[decide_eq_true h3,cond_true]
    apply e
    rw[Bool.eq_iff_iff,bne_iff_ne,decide_eq_true_iff];omega
   ·rw[decide_eq_false h3,cond_false]
    apply e
    rw[eq_comm,decide_eq_false_iff_not];omega
 ·rw[decide_eq_false h1,cond_false]
  apply e
  rw[eq_comm,decide_eq_false_iff_not];omega
theorem msB_ok (r:Nat):msB (r:Int)=decide (okC r):=by
 unfold msB;rw[hide_eq]
 apply decide_eq_decide.2
 unfold okC;omega
theorem not_lbl {s:ByteArray}{k:Nat}(hk:k<rN s) (h:¬goodTo s k):¬lbl s:=fun hl=>h ⟨hl.2.2.1 k hk,by have:=hl.2.1;omega⟩
theorem rune_ends {s:ByteArray}{p:Nat}(hp:p<s.size) (hv:decB (byt s) s.size p≠(65533,1)):(dC s p=32↔byt s p=32)∧(dC s p=32↔byt s (p+dW s p-1)=32):=by
 unfold dC dW
 rcases decB_cases (b:=byt s) hp with⟨h,_⟩|⟨r,w,h,h1,h2⟩
 ·exact absurd h hv
 rw[h]
 rcases h1 with⟨rfl,k1,k2⟩|⟨rfl,k1,k2,k3,k4⟩|⟨rfl,k1,k2,k3,k4,k5,_⟩|⟨rfl,k1,k2,k3,k4,k5,k6,_⟩
 ·simp only[Nat.add_sub_cancel];omega
 ·show(r=32↔byt s p=32)∧(r=32↔byt s (p+2-1)=32)
  rw[show p+2-1=p+1 from rfl];omega
 ·show(r=32↔byt s p=32)∧(r=32↔byt s (p+3-1)=32)
  rw[show p+3-1=p+2 from rfl];omega
 ·show(r=32↔byt s p=32)∧(r=32↔byt s (p+4-1)=32)
  rw[show p+4-1=p+3 from rfl];omega
def lbT (s:ByteArray) (n:Int):Option Value:=
 bif decide (n > 0) then req (inR 0 s.size) (bif bq s 0 != 32 then req (inR (IntKind.i64.wrap ((s.size:Int)-1)) s.size) (some (.bool (bq s (IntKind.i64.wrap ((s.size:Int)-1)) != 32))) else some (.bool false)) else some (.bool false)
theorem lbT_eq {s:ByteArray}(hs:s.size<=1000000) (h:∀k,k<rN s->goodTo s k):lbT s ((rN s:Nat):Int)=some (.bool (lblB s)):=by
 have hok:∀k,k<rN s->okC (rc s k):=fun k hk=>(h k hk).1
 have hr:=lbl_right hok
 unfold lbT
 by_cases h0:rN s=0
 ·rw[h0,show lblB s=false from by rw[Bool.eq_false_iff,ne_eq,lblB_iff];exact fun hl=>by have:=hl.1;omega];rfl
 have h24:rN s<=24:=by have:=(h (rN s-1) (by omega)).2;omega
 have hp0:=(rN_is s).1 0 (by omega)
 rw[ps_zero]at hp0
 have hpl:=(rN_is s).1 (rN s-1) (by omega)
 have hpe:=ps_lt hpl
 rw[show rN s-1+1=rN s from by omega,(rN_is s).2]at hpe
 have e1:=(rune_ends hp0 (by have:=hr 0 (by omega);rw[ps_zero]at this;exact this)).1
 have e2:=(rune_ends hpl (hr _ (by omega))).2
 rw[<-hpe.2]at e2
 have hin0:inR 0 s.size=true:=by unfold inR;rw[decide_eq_true (by omega),decide_eq_true (by omega)];rfl
 have hinl:inR ((s.size-1:Nat):Int) s.size=true:=by unfold inR;rw[decide_eq_true (by omega),decide_eq_true (by omega)];rfl
 rw[decide_eq_true (by omega),cond_true,hin0,req_true rfl,wrap_i64 (by omega),show(s.size:Int)-1=((s.size-1:Nat):Int) from by omega,hinl,req_true rfl,show bq s 0=(byt s 0:Int) from rfl,bq_byt]
 have eb:∀x:Nat,(((x:Nat):Int) != 32)=!(decide (x=32)):=fun x=>by
  by_cases hx:x=32
  ·subst hx;rfl
  ·rw[decide_eq_false hx]
   show((x:Int) != 32)=true
   rw[bne_iff_ne];omega
 rw[eb,eb]
 have hlb:lblB s=(!(decide (byt s 0=32))&&!(decide (byt s (s.size-1)=32))):=by
  rw[Bool.eq_iff_iff,lblB_iff,Bool.and_eq_true,Bool.not_eq_true',Bool.not_eq_true',decide_eq_false_iff_not,decide_eq_false_iff_not,<-e1,<-e2]
  have er0:rc s 0=dC s 0:=rfl
  exact⟨fun hl=>⟨er0▸hl.2.2.2.1,hl.2.2.2.2⟩,fun hl=>⟨by omega,h24,hok,er0▸hl.1,hl.2⟩⟩
 rw[hlb]
 cases decide (byt s 0=32)<;>rfl
theorem rwS_list (n:Nat) (g:Nat->List Value):(rowS n g).data.toList=(nsL g 0 n).map (fun n=>UInt8.ofNat n.toNat):=by
 have key:∀(l:List Int) (r:ByteArray),(l.foldl (fun r n=>r.push (UInt8.ofNat n.toNat)) r).data.toList=r.data.toList++l.map (fun n=>UInt8.ofNat n.toNat):=by
  intro l
  induction l with
  | nil=>intro r;simp
  | cons x l ih=>
   intro r
   rw[List.foldl_cons,ih]
   show(r.data.push _).toList++_=_
   rw[Array.toList_push,List.map_cons,List.append_assoc];rfl
 unfold rowS
 rw[key];rfl
theorem rwS_size (n:Nat) (g:Nat->List Value):(rowS n g).size=n:=by
 show(rowS n g).data.size=n
 rw[<-Array.length_toList,rwS_list,List.length_map,nsL_len]
theorem nsL_at (g:Nat->List Value):∀(n lo j:Nat),j<n->(nsL g lo n)[j]?=some (bI g (lo+j))
 | 0,_,_,h=>absurd h (Nat.not_lt_zero _)
 | n+1,lo,0,_=>rfl
 | n+1,lo,j+1,h=>by
  have:=nsL_at g n (lo+1) j (by omega)
  rw[show lo+(j+1)=lo+1+j from by omega,<-this];rfl
theorem rwS_byt {n:Nat}{g:Nat->List Value}{j:Nat}(h:j<n):byt (rowS n g) j=(bI g j).toNat%256:=by
 unfold byt
 rw[rwS_list,List.getD_eq_getElem?_getD,List.getElem?_map,nsL_at g n 0 j h,Nat.zero_add]
 show(UInt8.ofNat _).toNat=_
 exact UInt8.toNat_ofNat'
end Go.W

namespace Go.Proofs.YtckbmhegopjnmaaGreat
set_option maxRecDepth 100000
open Go.W
def r1Cf:Cfg:=⟨tab,[],82,[]⟩
theorem r1Ok:CfgOk Tryz.prog r1Cf (bodyOf Tryz.f43):=⟨mixed,tabOk,sums_nil,noL⟩
theorem r1_ev (s:ByteArray):fnS r1Cf 60 Tryz.f43 (bodyOf Tryz.f43) [.string s]=r1T s:=by kernel_rfl
theorem r1_sum:Sum Tryz.prog 43 R1F:=by
 refine sum_of r1Ok Tryz.func43 (by kernel_rfl) (by kernel_rfl) rfl (fuel:=60) fun args v h hpl=>?_
 unfold R1F at h
 split at h
 ·rename_i s
  simp only[Option.some.injEq,Prod.mk.injEq,Bool.and_eq_true,Nat.blt_eq]at h
  obtain ⟨⟨h1,_⟩,rfl⟩:=h
  exact⟨by show 1<=Tryz.f43.ntmps;decide +kernel,(r1_ev s).trans (r1T_eq h1),rfl⟩
 ·simp at h
noncomputable def lbS:Sums:=[(43,R1F)]
theorem lbS_ok:SumsOk Tryz.prog lbS:=sums_cons r1_sum sums_nil
noncomputable def lbC0:Cfg:=⟨tab,lbS,58,[]⟩
theorem lbOk0:CfgOk Tryz.prog lbC0 (bodyOf Tryz.f22):=⟨mixed,tabOk,lbS_ok,noL⟩
theorem lb_at:codeAt [1,1,0,1,0] (bodyOf Tryz.f22)=some (.loop (loopAt [1,1,0,1,0] (bodyOf Tryz.f22))):=by kernel_rfl
def lbNt:List Nat:=[0,3,4]
def lbSt (s:ByteArray) (n p:Int):St:=⟨[(0,.string s),(3,i64 n),(4,i64 p)],[],3⟩
def lbE0 (s:ByteArray) (n:Int):St:=⟨[(0,.string s),(3,i64 n)],[],3⟩
def lbX:St:=⟨[(2,.bool false)],[],3⟩
theorem lb_rA (s:ByteArray) (n p:Int):roundS lbC0 60 [1,1,0,1,0,0] (loopAt [1,1,0,1,0] (bodyOf Tryz.f22)) lbNt [] 3 [0,3] [] 3 (lbSt s n p)=
  bif decide (p<(s.size:Int)) then rdx s p (lbQ s p (some (.ret,lbE0 s n)) (bif decide (IntKind.i64.wrap (n+1) > 24) then some (.ret,lbE0 s (IntKind.i64.wrap (n+1))) else some (.normal,lbSt s (IntKind.i64.wrap (n+1)) (IntKind.i64.wrap (p+r1W (s.extract p.toNat s.size)))))) else some (.exit 0,lbE0 s n):=by kernel_rfl
theorem lb_rB (s:ByteArray) (n p:Int):roundS lbC0 60 [1,1,0,1,0,0] (loopAt [1,1,0,1,0] (bodyOf Tryz.f22)) lbNt [] 3 [2] [] 3 (lbSt s n p)=
  bif decide (p<(s.size:Int)) then rdx s p (lbQ s p (some (.ret,lbX)) (bif decide (IntKind.i64.wrap (n+1) > 24) then some (.ret,lbX) else some (.normal,lbSt s (IntKind.i64.wrap (n+1)) (IntKind.i64.wrap (p+r1W (s.extract p.toNat s.size)))))) else none:=by kernel_rfl
theorem lb_next {s:ByteArray}{k:Nat}(hk:k<rN s) (hs:s.size<=1000000) (hg:goodTo s k):lbSt s (IntKind.i64.wrap ((k:Int)+1)) (IntKind.i64.wrap ((ps s k:Int)+r1W (s.extract (ps s k:Int).toNat s.size)))=lbSt s ((k+1:Nat):Int) (ps s (k+1):Int):=by
 have h1:=(rN_is s).1 k hk
 have h2:=ps_lt h1
 have h3:=ps_le s (k+1)
 have h4:decB (byt s) s.size (ps s k)≠(65533,1):=fun e=>by
  have h5:=hg.1.2.2
  unfold rc dC at h5
  rw[e]at h5;exact h5 rfl
 rw[Int.toNat_natCast,r1W_at s h1,if_neg h4,wrap_i64 (by have:=hg.2;omega),wrap_i64 (by omega),h2.2,Int.natCast_add (ps s k)];rfl
theorem lb_loopA {s:ByteArray}(hs:s.size<=1000000) (hg:∀k,k<rN s->goodTo s k):LoopOk Tryz.prog 58 (loopAt [1,1,0,1,0] (bodyOf Tryz.f22)) (atSt lbNt [] 3 (lbSt s 0 0) (.exit 0) (lbE0 s ((rN s:Nat):Int))):=by
 refine loopE (fun _=>lbC0) (rN s) (fun _ _=>lbOk0) (fun _=>rfl) lb_at (m:=60) (nt:=lbNt) (ni:=[]) (et:=[0,3]) (ei:=[]) (nx:=3) (ex:=3) (fun k=>lbSt s (k:Int) (ps s k:Int)) rfl (by intro h;cases h) ?_ ?_
 ·intro k hk
  have h1:=(rN_is s).1 k hk
  refine⟨_,?_,stEq_refl rfl⟩
  refine(lb_rA s _ _).trans ?_
  rw[decide_eq_true (by omega),cond_true,rdx_eq h1 hs,lbQ_eq h1,if_pos (show okC (dC s (ps s k)) from (hg k hk).1),lb_next hk hs (hg k hk),decide_eq_false (by rw[wrap_i64 (by have:=(hg k hk).2;omega)];have:=(hg k hk).2;omega)];rfl
 ·refine⟨_,?_,stEq_refl rfl⟩
  refine(lb_rA s _ _).trans ?_
  rw[(rN_is s).2,decide_eq_false (by omega),cond_false]
theorem lb_loopB {s:ByteArray}(hs:s.size<=1000000){m:Nat}(hm:m<rN s) (hb:¬goodTo s m) (hg:∀k,k<m->goodTo s k):LoopOk Tryz.prog 58 (loopAt [1,1,0,1,0] (bodyOf Tryz.f22)) (atSt lbNt [] 3 (lbSt s 0 0) .ret lbX):=by
 refine loopE (fun _=>lbC0) m (fun _ _=>lbOk0) (fun _=>rfl) lb_at (m:=60) (nt:=lbNt) (ni:=[]) (et:=[2]) (ei:=[]) (nx:=3) (ex:=3) (fun k=>lbSt s (k:Int) (ps s k:Int)) rfl (by intro h;cases h) ?_ ?_
 ·intro k hk
  have h1:=(rN_is s).1 k (by omega)
  refine⟨_,?_,stEq_refl rfl⟩
  refine(lb_rB s _ _).trans ?_
  rw[decide_eq_true (by omega),cond_true,rdx_eq h1 hs,lbQ_eq h1,if_pos (show okC (dC s (ps s k)) from (hg k hk).1),lb_next (by omega) hs (hg k hk),decide_eq_false (by rw[wrap_i64 (by have:=(hg k hk).2;omega)];have:=(hg k hk).2;omega)];rfl
 ·have h1:=(rN_is s).1 m hm
  refine⟨lbX,?_,stEq_refl rfl⟩
  refine(lb_rB s _ _).trans ?_
  rw[decide_eq_true (by omega),cond_true,rdx_eq h1 hs,lbQ_eq h1]
  by_cases hc:okC (rc s m)
  ·have h24:¬m<24:=fun h=>hb ⟨hc,h⟩
   have hN:=rN_le s
   rw[if_pos (show okC (dC s (ps s m)) from hc),decide_eq_true (by rw[wrap_i64 (by omega)];omega),cond_true]
  ·rw[if_neg (show ¬okC (dC s (ps s m)) from hc)]
noncomputable def lbCA (s:ByteArray) (n:Int):Cfg:=⟨tab,lbS,58,[([1,1,0,1,0],atSt lbNt [] 3 (lbSt s 0 0) (.exit 0) (lbE0 s n))]⟩
noncomputable def lbCB (s:ByteArray):Cfg:=⟨tab,lbS,58,[([1,1,0,1,0],atSt lbNt [] 3 (lbSt s 0 0) .ret lbX)]⟩
theorem lb_evA (s:ByteArray) (n:Int):fnS (lbCA s n) 60 Tryz.f22 (bodyOf Tryz.f22) [.string s]=req (stEq (lbSt s 0 0) (lbSt s 0 0)) (lbT s n):=by kernel_rfl
theorem lb_evB (s:ByteArray):fnS (lbCB s) 60 Tryz.f22 (bodyOf Tryz.f22) [.string s]=req (stEq (lbSt s 0 0) (lbSt s 0 0)) (some (.bool false)):=by kernel_rfl
theorem lb_sum:Sum Tryz.prog 22 lLbF:=by
 refine sum_per (c:=bodyOf Tryz.f22) Tryz.func22 (by kernel_rfl) (by kernel_rfl) (fuel:=60) fun args v h hpl=>?_
 unfold lLbF at h
 split at h
 ·rename_i s
  simp only[Option.some.injEq,Prod.mk.injEq]at h
  obtain ⟨h1,rfl⟩:=h
  have h1:=Nat.le_of_ble_eq_true h1
  rcases good_or s (rN s) with hg|⟨m,hm,hb,hg⟩
  ·refine⟨lbCA s _,⟨mixed,tabOk,lbS_ok,oneL (lb_loopA h1 hg)⟩,rfl,by show 1<=Tryz.f22.ntmps;decide +kernel,(lb_evA s _).trans ?_,rfl⟩
   rw[req_true (stEq_refl rfl),lbT_eq h1 hg]
  ·refine⟨lbCB s,⟨mixed,tabOk,lbS_ok,oneL (lb_loopB h1 hm hb hg)⟩,rfl,by show 1<=Tryz.f22.ntmps;decide +kernel,(lb_evB s).trans ?_,rfl⟩
   rw[req_true (stEq_refl rfl),show lblB s=false from by rw[Bool.eq_false_iff,ne_eq,lblB_iff];exact not_lbl hm hb]
 ·simp at h
end Go.Proofs.YtckbmhegopjnmaaGreat

namespace Go.Proofs.YtckbmhegopjnmaaGreat
set_option maxRecDepth 100000
open Go.W
def lmsC:Cfg:=⟨tab,[],17,[]⟩
theorem lmsOk:CfgOk Tryz.prog lmsC (bodyOf Tryz.f90):=⟨mixed,tabOk,sums_nil,noL⟩
theorem lms_ev (n:Int):fnS lmsC 60 Tryz.f90 (bodyOf Tryz.f90) [.int .i32 n]=msT n:=by kernel_rfl
theorem lms_sum:Sum Tryz.prog 90 lMsF:=by
 refine sum_of lmsOk Tryz.func90 (by kernel_rfl) (by kernel_rfl) rfl (fuel:=60) fun args v h hpl=>?_
 unfold lMsF at h
 split at h
 ·rename_i n
  simp only[Option.some.injEq,Prod.mk.injEq]at h
  obtain ⟨_,rfl⟩:=h
  exact⟨by show 1<=Tryz.f90.ntmps;decide +kernel,(lms_ev n).trans (msT_eq n),rfl⟩
 ·simp at h
noncomputable def lckS:Sums:=[(90,lMsF)]
theorem lckS_ok:SumsOk Tryz.prog lckS:=sums_cons lms_sum sums_nil
noncomputable def lckC0:Cfg:=⟨tab,lckS,36,[]⟩
theorem lckOk0:CfgOk Tryz.prog lckC0 (bodyOf Tryz.f70):=⟨mixed,tabOk,lckS_ok,noL⟩
theorem lck_at:codeAt [1,1,1,0,1,0] (bodyOf Tryz.f70)=some (.loop (loopAt [1,1,1,0,1,0] (bodyOf Tryz.f70))):=by kernel_rfl
def lckNt:List Nat:=[3,4,8]
def lckSt (s:ByteArray) (n l:Int) (p:Nat):St:=⟨[(3,i64 n),(4,.int .i32 l),(8,.pointer (some ⟨4,0,none⟩))],[(4,⟨.itr s p,0,true⟩)],5⟩
def lckE (n l:Int):St:=⟨[(3,i64 n),(4,.int .i32 l)],[],5⟩
def lckX:St:=⟨[(2,i64 8)],[],5⟩
noncomputable def lckQ {α:Type}(s:ByteArray) (p:Nat) (n:Int) (no yes:α):α:=
 bif n==24 then no else bif !(msB (dcC s p)) then no else bif n==0 then (bif dcC s p==32 then no else yes) else yes
theorem lck_rA (s:ByteArray) (n l:Int) (p:Nat):roundS lckC0 60 [1,1,1,0,1,0,0] (loopAt [1,1,1,0,1,0] (bodyOf Tryz.f70)) lckNt [(4,4)] 5 [3,4] [] 5 (lckSt s n l p)=
  bif Nat.blt p s.size then lckQ s p n (some (.ret,lckE n l)) (some (.normal,lckSt s (IntKind.i64.wrap (n+1)) (dcC s p) (p+dcW s p))) else some (.exit 0,lckE n l):=by kernel_rfl
theorem lck_rB (s:ByteArray) (n l:Int) (p:Nat):roundS lckC0 60 [1,1,1,0,1,0,0] (loopAt [1,1,1,0,1,0] (bodyOf Tryz.f70)) lckNt [(4,4)] 5 [2] [] 5 (lckSt s n l p)=
  bif Nat.blt p s.size then lckQ s p n (some (.ret,lckX)) (some (.normal,lckSt s (IntKind.i64.wrap (n+1)) (dcC s p) (p+dcW s p))) else none:=by kernel_rfl
theorem lckQ_eq {α:Type}{s:ByteArray}{k:Nat}(h24:k<=24) (no yes:α):lckQ s (ps s k) (k:Int) no yes=if goodL s k then yes else no:=by
 unfold lckQ
 rw[dcC_dC,msB_ok,show((k:Int)==24)=decide (k=24) from by rw[Bool.eq_iff_iff,beq_iff_eq,decide_eq_true_iff];omega,show((k:Int)==0)=decide (k=0) from by rw[Bool.eq_iff_iff,beq_iff_eq,decide_eq_true_iff];omega,
  show(((dC s (ps s k):Nat):Int)==32)=decide (rc s k=32) from by rw[Bool.eq_iff_iff,beq_iff_eq,decide_eq_true_iff];unfold rc;omega]
 by_cases h1:k=24
 ·rw[decide_eq_true h1,cond_true,if_neg fun h=>by have:=h.1.2;omega]
 rw[decide_eq_false h1,cond_false]
 by_cases h2:okC (rc s k)
 ·rw[show decide (okC (dC s (ps s k)))=true from decide_eq_true h2,Bool.not_true,cond_false]
  by_cases h3:k=0
  ·rw[decide_eq_true h3,cond_true]
   by_cases h4:rc s k=32
   ·rw[decide_eq_true h4,cond_true,if_neg fun h=>h.2 h3 h4]
   ·rw[decide_eq_false h4,cond_false,if_pos ⟨⟨h2,by omega⟩,fun _=>h4⟩]
  ·rw[decide_eq_false h3,cond_false,if_pos ⟨⟨h2,by omega⟩,fun h=>absurd h h3⟩]
 ·rw[show decide (okC (dC s (ps s k)))=false from decide_eq_false h2,Bool.not_false,cond_true,if_neg fun h=>h2 h.1.1]
def lckL (s:ByteArray):Nat->Int
 | 0=>0
 | k+1=>dcC s (ps s k)
theorem lck_next {s:ByteArray}{k:Nat}(hk:k<rN s) (hs:s.size<=1000000):lckSt s (IntKind.i64.wrap ((k:Int)+1)) (dcC s (ps s k)) (ps s k+dcW s (ps s k))=lckSt s ((k+1:Nat):Int) (lckL s (k+1)) (ps s (k+1)):=by
 have hN:=rN_le s
 have h1:=(rN_is s).1 k hk
 have h2:=ps_lt h1
 rw[wrap_i64 (by omega),dcW_dW,<-h2.2];rfl
theorem lck_loopA {s:ByteArray}(hs:s.size<=1000000) (hg:∀k,k<rN s->goodL s k):LoopOk Tryz.prog 36 (loopAt [1,1,1,0,1,0] (bodyOf Tryz.f70)) (atSt lckNt [(4,4)] 5 (lckSt s 0 0 0) (.exit 0) (lckE ((rN s:Nat):Int) (lckL s (rN s)))):=by
 have hN:=rN_le s
 refine loopE (fun _=>lckC0) (rN s) (fun _ _=>lckOk0) (fun _=>rfl) lck_at (m:=60) (nt:=lckNt) (ni:=[(4,4)]) (et:=[3,4]) (ei:=[]) (nx:=5) (ex:=5) (fun k=>lckSt s (k:Int) (lckL s k) (ps s k)) rfl (by intro h;cases h) ?_ ?_
 ·intro k hk
  have h1:=(rN_is s).1 k hk
  refine⟨_,?_,stEq_refl rfl⟩
  refine(lck_rA s _ _ _).trans ?_
  rw[show Nat.blt (ps s k) s.size=true from by rw[Nat.blt_eq];exact h1,cond_true,lckQ_eq (by have:=(hg k hk).1.2;omega),if_pos (hg k hk),lck_next hk hs]
 ·refine⟨_,?_,stEq_refl rfl⟩
  refine(lck_rA s _ _ _).trans ?_
  rw[(rN_is s).2,show Nat.blt s.size s.size=false from by rw[Bool.eq_false_iff,ne_eq,Nat.blt_eq];omega,cond_false]
theorem lck_loopB {s:ByteArray}(hs:s.size<=1000000){m:Nat}(hm:m<rN s) (hb:¬goodL s m) (hg:∀k,k<m->goodL s k):LoopOk Tryz.prog 36 (loopAt [1,1,1,0,1,0] (bodyOf Tryz.f70)) (atSt lckNt [(4,4)] 5 (lckSt s 0 0 0) .ret lckX):=by
 have hN:=rN_le s
 have hm24:m<=24:=by
  rcases Nat.lt_or_ge 24 m with h|h
  ·have:=(hg 24 h).1.2;omega
  ·exact h
 refine loopE (fun _=>lckC0) m (fun _ _=>lckOk0) (fun _=>rfl) lck_at (m:=60) (nt:=lckNt) (ni:=[(4,4)]) (et:=[2]) (ei:=[]) (nx:=5) (ex:=5) (fun k=>lckSt s (k:Int) (lckL s k) (ps s k)) rfl (by intro h;cases h) ?_ ?_
 ·intro k hk
  have h1:=(rN_is s).1 k (by omega)
  refine⟨_,?_,stEq_refl rfl⟩
  refine(lck_rB s _ _ _).trans ?_
  rw[show Nat.blt (ps s k) s.size=true from by rw[Nat.blt_eq];exact h1,cond_true,lckQ_eq (by have:=(hg k hk).1.2;omega),if_pos (hg k hk),lck_next (by omega) hs]
 ·have h1:=(rN_is s).1 m hm
  refine⟨lckX,?_,stEq_refl rfl⟩
  refine(lck_rB s _ _ _).trans ?_
  rw[show Nat.blt (ps s m) s.size=true from by rw[Nat.blt_eq];exact h1,cond_true,lckQ_eq hm24,if_neg hb]
noncomputable def lckCA (s:ByteArray) (n l:Int):Cfg:=⟨tab,lckS,36,[([1,1,1,0,1,0],atSt lckNt [(4,4)] 5 (lckSt s 0 0 0) (.exit 0) (lckE n l))]⟩
noncomputable def lckCB (s:ByteArray):Cfg:=⟨tab,lckS,36,[([1,1,1,0,1,0],atSt lckNt [(4,4)] 5 (lckSt s 0 0 0) .ret lckX)]⟩
theorem lck_evA (s:ByteArray) (n l:Int):fnS (lckCA s n l) 60 Tryz.f70 (bodyOf Tryz.f70) [.string s]=req (stEq (lckSt s 0 0 0) (lckSt s 0 0 0)) (bif n==0 then some (i64 8) else bif l==32 then some (i64 8) else some (i64 0)):=by kernel_rfl
theorem lck_evB (s:ByteArray):fnS (lckCB s) 60 Tryz.f70 (bodyOf Tryz.f70) [.string s]=req (stEq (lckSt s 0 0 0) (lckSt s 0 0 0)) (some (i64 8)):=by kernel_rfl
theorem lck_sum:Sum Tryz.prog 70 lChF:=by
 refine sum_per (c:=bodyOf Tryz.f70) Tryz.func70 (by kernel_rfl) (by kernel_rfl) (fuel:=60) fun args v h hpl=>?_
 unfold lChF at h
 split at h
 ·rename_i s
  simp only[Option.some.injEq,Prod.mk.injEq]at h
  obtain ⟨h1,rfl⟩:=h
  have h1:=Nat.le_of_ble_eq_true h1
  rcases first_or (goodL s) (rN s) with hg|⟨m,hm,hb,hg⟩
  ·refine⟨lckCA s _ _,⟨mixed,tabOk,lckS_ok,oneL (lck_loopA h1 hg)⟩,rfl,by show 1<=Tryz.f70.ntmps;decide +kernel,(lck_evA s _ _).trans ?_,rfl⟩
   rw[req_true (stEq_refl rfl)]
   cases e:rN s with
   | zero=>rw[lbE_no fun hl=>by have:=hl.1;omega];rfl
   | succ k=>
    rw[show(((k+1:Nat):Int)==0)=false from beq_eq_false_iff_ne.2 (by omega),cond_false]
    show(bif dcC s (ps s k)==32 then _ else _)=_
    rw[dcC_dC]
    have he:=lbl_end hg
    rw[e]at he
    by_cases h3:rc s k=32
    ·rw[lbE_no fun hl=>(he.1 hl).2 h3,show(((dC s (ps s k):Nat):Int)==32)=true from beq_iff_eq.2 (by unfold rc at h3;omega)];rfl
    ·rw[lbE_yes (he.2 ⟨by omega,h3⟩),show(((dC s (ps s k):Nat):Int)==32)=false from beq_eq_false_iff_ne.2 (by unfold rc at h3;omega)];rfl
  ·refine⟨lckCB s,⟨mixed,tabOk,lckS_ok,oneL (lck_loopB h1 hm hb hg)⟩,rfl,by show 1<=Tryz.f70.ntmps;decide +kernel,(lck_evB s).trans ?_,rfl⟩
   rw[req_true (stEq_refl rfl),lbE_no (not_lblL hm hb)]
 ·simp at h
end Go.Proofs.YtckbmhegopjnmaaGreat

namespace Go.Proofs.YtckbmhegopjnmaaGreat
set_option maxRecDepth 100000
open Go.W
open Go.RowKit (Below)
def OfC:Cfg:=⟨tab,[],28,[]⟩
theorem OfOk:CfgOk Tryz.prog OfC (bodyOf Tryz.f80):=⟨mixed,tabOk,sums_nil,noL⟩
theorem Of_ev (a0 a1 a2 a3 a4 a5 a6 a7 b0 b1 b2 b3 b4 b5 b6 b7 c0 c1 c2 c3 c4 c5 c6 c7 d0 d1 d2 d3 d4 d5 d6 d7:Nat):fnS OfC 100 Tryz.f80 (bodyOf Tryz.f80) [by32 a0 a1 a2 a3 a4 a5 a6 a7 b0 b1 b2 b3 b4 b5 b6 b7 c0 c1 c2 c3 c4 c5 c6 c7 d0 d1 d2 d3 d4 d5 d6 d7]=OfT a0 a1 a2 a3 a4 a5 a6 a7 b0 b1 b2 b3 b4 b5 b6 b7 c0 c1 c2 c3 c4 c5 c6 c7 d0 d1 d2 d3 d4 d5 d6 d7:=by kernel_rfl
theorem Of_sum:Sum Tryz.prog 80 OfF:=by
 refine sum_of OfOk Tryz.func80 (by kernel_rfl) (by kernel_rfl) rfl (fuel:=100) fun args v h _=>?_
 unfold OfF at h
 split at h
 ·simp only[Option.some.injEq,Prod.mk.injEq]at h
  obtain ⟨h1,rfl⟩:=h
  obtain ⟨X,hX,rfl,h2⟩:=isB32_some h1
  refine⟨by show 1<=Tryz.f80.ntmps;decide +kernel,?_,rfl⟩
  rw[h2]
  obtain ⟨a,b,c,d,k0,k1,k2,k3,e1,e2⟩:=digits hX
  rw[e2,e1,bytesV_by32 k0 k1 k2]
  refine(Of_ev (d / 2^56%256) (d / 2^48%256) (d / 2^40%256) (d / 2^32%256) (d / 2^24%256) (d / 2^16%256) (d / 2^8%256) (d%256) (c / 2^56%256) (c / 2^48%256) (c / 2^40%256) (c / 2^32%256) (c / 2^24%256) (c / 2^16%256) (c / 2^8%256) (c%256) (b / 2^56%256) (b / 2^48%256) (b / 2^40%256) (b / 2^32%256) (b / 2^24%256) (b / 2^16%256) (b / 2^8%256) (b%256) (a / 2^56%256) (a / 2^48%256) (a / 2^40%256) (a / 2^32%256) (a / 2^24%256) (a / 2^16%256) (a / 2^8%256) (a%256)).trans ?_
  unfold OfT
  rw[of8_dig k0,of8_dig k1,of8_dig k2,of8_dig k3]
  rfl
 ·simp at h
end Go.Proofs.YtckbmhegopjnmaaGreat

namespace Go.Proofs.YtckbmhegopjnmaaGreat
set_option maxRecDepth 100000
open Go.W
open Go.RowKit (Below)
def PrimeC:Cfg:=⟨tab,[],11,[]⟩
theorem PrimeOk:CfgOk Tryz.prog PrimeC (bodyOf Tryz.f93):=⟨mixed,tabOk,sums_nil,noL⟩
theorem Prime_ev (w:Int):fnS PrimeC 60 Tryz.f93 (bodyOf Tryz.f93) [i64 w]=PrimeT w:=by kernel_rfl
theorem Prime_sum:Sum Tryz.prog 93 PrimeF:=by
 refine sum_of PrimeOk Tryz.func93 (by kernel_rfl) (by kernel_rfl) rfl (fuel:=60) fun args v h _=>?_
 unfold PrimeF at h
 split at h
 ·simp only[Option.some.injEq,Prod.mk.injEq,true_and]at h
  subst h
  exact⟨by show 1<=Tryz.f93.ntmps;decide +kernel,(Prime_ev _).trans (PrimeT_eq _),rfl⟩
 ·simp at h
def gapC:Cfg:=⟨tab,[],7,[]⟩
theorem gapOk:CfgOk Tryz.prog gapC (bodyOf Tryz.f125):=⟨mixed,tabOk,sums_nil,noL⟩
theorem gap_ev (w:Int):fnS gapC 60 Tryz.f125 (bodyOf Tryz.f125) [i64 w]=gapT w:=by kernel_rfl
theorem gap_sum:Sum Tryz.prog 125 GapF:=by
 refine sum_of gapOk Tryz.func125 (by kernel_rfl) (by kernel_rfl) rfl (fuel:=60) fun args v h _=>?_
 unfold GapF at h
 split at h
 ·simp only[Option.some.injEq,Prod.mk.injEq,true_and]at h
  subst h
  exact⟨by show 1<=Tryz.f125.ntmps;decide +kernel,(gap_ev _).trans (gapT_eq _),rfl⟩
 ·simp at h
def knownC:Cfg:=⟨tab,[],9,[]⟩
theorem knownOk:CfgOk Tryz.prog knownC (bodyOf Tryz.f109):=⟨mixed,tabOk,sums_nil,noL⟩
theorem known_ev (w:Int):fnS knownC 60 Tryz.f109 (bodyOf Tryz.f109) [i64 w]=okT w:=by kernel_rfl
theorem known_sum:Sum Tryz.prog 109 okF:=by
 refine sum_of knownOk Tryz.func109 (by kernel_rfl) (by kernel_rfl) rfl (fuel:=60) fun args v h _=>?_
 unfold okF at h
 split at h
 ·simp only[Option.some.injEq,Prod.mk.injEq,true_and]at h
  subst h
  exact⟨by show 1<=Tryz.f109.ntmps;decide +kernel,(known_ev _).trans (okT_eq _),rfl⟩
 ·simp at h
def lowerC:Cfg:=⟨tab,[(93,PrimeF),(124,SubF)],18,[]⟩
theorem lowerOk:CfgOk Tryz.prog lowerC (bodyOf Tryz.f119):=⟨mixed,tabOk,sums_cons Prime_sum (sums_cons Sub_sum sums_nil),noL⟩
theorem lower_ev (w:Int) (A:Nat):fnS lowerC 60 Tryz.f119 (bodyOf Tryz.f119) [i64 w,num A]=lowT w (num A):=by kernel_rfl
theorem lower_sum:Sum Tryz.prog 119 LowF:=by
 refine sum_of lowerOk Tryz.func119 (by kernel_rfl) (by kernel_rfl) rfl (fuel:=60) fun args v h _=>?_
 unfold LowF at h
 split at h
 ·simp only[Option.some.injEq,Prod.mk.injEq,Bool.and_eq_true]at h
  obtain ⟨⟨hw,h1⟩,rfl⟩:=h
  obtain ⟨A,hA,rfl⟩:=isNum_some h1
  exact⟨by show 2<=Tryz.f119.ntmps;decide +kernel,(lower_ev _ _).trans (by rw[lowT_eq hw hA,unnum_lt hA]),rfl⟩
 ·simp at h
def RedT (w:Int) (a:Value):Option Value:=bif !(okW w) then some (num 0) else req (okW w&&isNum a) (some (num (unnum a%primeN w)))
theorem RedT_eq {w:Int}{A:Nat}(hA:A<2^256):RedT w (num A)=some (num (redN w A)):=by
 unfold RedT redN
 by_cases h:okW w=true
 ·rw[h,isNum_num,unnum_lt hA,if_pos rfl];rfl
 ·rw[if_neg h,show okW w=false from Bool.eq_false_iff.2 h];rfl
def RedC:Cfg:=⟨tab,[(109,okF),(119,LowF)],12,[]⟩
theorem RedOk:CfgOk Tryz.prog RedC (bodyOf Tryz.f110):=⟨mixed,tabOk,sums_cons known_sum (sums_cons lower_sum sums_nil),noL⟩
theorem Red_ev (w:Int) (A:Nat):fnS RedC 60 Tryz.f110 (bodyOf Tryz.f110) [i64 w,num A]=RedT w (num A):=by kernel_rfl
theorem Red_sum:Sum Tryz.prog 110 RedF:=by
 refine sum_of RedOk Tryz.func110 (by kernel_rfl) (by kernel_rfl) rfl (fuel:=60) fun args v h _=>?_
 unfold RedF at h
 split at h
 ·simp only[Option.some.injEq,Prod.mk.injEq]at h
  obtain ⟨h1,rfl⟩:=h
  obtain ⟨A,hA,rfl⟩:=isNum_some h1
  exact⟨by show 2<=Tryz.f110.ntmps;decide +kernel,(Red_ev _ _).trans (by rw[RedT_eq hA,unnum_lt hA]),rfl⟩
 ·simp at h
def upNt:List Nat:=[0,6,7,8]
def upNi:List Nat:=[2,9]
def upSt (w:Int) (s:List Value) (c:Nat):St:=
 ⟨[(0,i64 w),(6,ptr 2),(7,ptr 9),(8,u64 c)],[(2,⟨[u64 0,u64 0,u64 0,u64 0],24,true⟩),(9,⟨s,24,true⟩)],12⟩
noncomputable def upC0:Cfg:=⟨tab,[(129,AddF),(125,GapF)],25,[]⟩
theorem upOk0:CfgOk Tryz.prog upC0 (bodyOf Tryz.f130):=⟨mixed,tabOk,sums_cons Add_sum (sums_cons gap_sum sums_nil),noL⟩
theorem up_at:codeAt [1,1,0,0] (bodyOf Tryz.f130)=some (.loop (loopAt [1,1,0,0] (bodyOf Tryz.f130))):=by kernel_rfl
theorem up_r (w:Int) (T c:Nat):roundS upC0 60 [1,1,0,0,0] (loopAt [1,1,0,0] (bodyOf Tryz.f130)) upNt upNi 12 upNt upNi 12 (upSt w (cells4 T) c)=
  upR (num T) (num (hideN (gapN w))) c (fun t d=>some (.normal,upSt w (cells4 t) d)) (some (.exit 0,upSt w (cells4 T) c)):=by kernel_rfl
noncomputable def upC (w:Int) (T c L:Nat):Cfg:=⟨tab,[(129,AddF)],25,[([1,1,0,0],atSt upNt upNi 12 (upSt w (cells4 T) c) (.exit 0) (upSt w (cells4 L) 0))]⟩
theorem addUp_ev (w:Int) (A B T c L:Nat):fnS (upC w T c L) 60 Tryz.f130 (bodyOf Tryz.f130) [i64 w,num A,num B]=
  r2 (num A) (num B) (req (stEq (upSt w (cells4 (unnum (num A)+unnum (num B))) ((unnum (num A)+unnum (num B)) / 2^256)) (upSt w (cells4 T) c)) (some (num L))):=by kernel_rfl
theorem addUp_sum:Sum Tryz.prog 130 AddUpF:=by
 intro args v h
 unfold AddUpF at h
 split at h
 ·rename_i w a0 b0
  simp only[Option.some.injEq,Prod.mk.injEq,Bool.and_eq_true]at h
  obtain ⟨⟨⟨hw,h1⟩,h2⟩,rfl⟩:=h
  obtain ⟨A,hA,rfl⟩:=isNum_some h1
  obtain ⟨B,hB,rfl⟩:=isNum_some h2
  rw[unnum_lt hA,unnum_lt hB]
  obtain ⟨_,_,hs,_⟩:=primeN_small hw
  rw[<-gap_small hw]at hs
  obtain ⟨n,hn,hlt,hne⟩:=up_first hs (show A+B<2^256+2^256 by omega)
  have hL:LoopOk Tryz.prog 25 (loopAt [1,1,0,0] (bodyOf Tryz.f130)) (atSt upNt upNi 12 (upSt w (cells4 (A+B)) ((A+B) / 2^256)) (.exit 0) (upSt w (cells4 (upN (gapN w) (A+B))) 0)):=by
   refine atSt_ok fun w0 R a W hrel=>?_
   refine loop_rounds (R:=R) (C:=upC0) upOk0 up_at (m:=60) (nt:=upNt) (ni:=upNi) (et:=upNt) (ei:=upNi) (nx:=12) (ex:=12) (e:=.exit 0) (sf:=upSt w (cells4 (upN (gapN w) (A+B))) 0)
    (fun k=>upSt w (cells4 (upS (gapN w) (A+B) k)) (upS (gapN w) (A+B) k / 2^256)) n (by intro h;cases h) ?_ ?_ hrel
   ·intro k hk
    refine(up_r _ _ _).trans ?_
    rw[hideN_eq]
    exact(upR_eq hs (hne k hk) (fun t d=>some (Exit.normal,upSt w (cells4 t) d)) _)
   ·refine(up_r _ _ _).trans ?_
    rw[hn,Nat.div_eq_of_lt hlt,upR_out]
  have hOk:CfgOk Tryz.prog (upC w (A+B) ((A+B) / 2^256) (upN (gapN w) (A+B))) (bodyOf Tryz.f130):=⟨mixed,tabOk,sums_cons Add_sum sums_nil,oneL hL⟩
  refine sum_at hOk Tryz.func130 (by kernel_rfl) (by kernel_rfl) rfl (fuel:=60) (by show 3<=Tryz.f130.ntmps;decide +kernel) ?_ rfl
  refine(addUp_ev w A B _ _ _).trans ?_
  rw[r2_num,unnum_lt hA,unnum_lt hB,req_true (stEq_refl rfl)]
 ·simp at h
def FAddT (w:Int) (a b:Value):Option Value:=
 bif !(okW w) then some (num 0) else req (okW w&&isNum a&&isNum b)<|req (okW w&&isNum (num (upN (gapN w) (unnum a+unnum b))))<|some (num (unnum (num (upN (gapN w) (unnum a+unnum b)))%primeN w))
theorem FAddT_eq {w:Int}{A B:Nat}(hA:A<2^256) (hB:B<2^256):FAddT w (num A) (num B)=some (num (faddN w A B)):=by
 unfold FAddT faddN redN
 by_cases h:okW w=true
 ·obtain ⟨hp,_,hs,_⟩:=primeN_small h
  rw[<-gap_small h]at hs hp
  obtain ⟨_,_,hlt,_⟩:=up_first hs (show A+B<2^256+2^256 by omega)
  rw[h,isNum_num,isNum_num,isNum_num,unnum_lt hA,unnum_lt hB,unnum_lt hlt,if_pos rfl,up_mod hp hs (by omega)];rfl
 ·rw[if_neg h,show okW w=false from Bool.eq_false_iff.2 h];rfl
def FAddC:Cfg:=⟨tab,[(109,okF),(130,AddUpF),(119,LowF)],17,[]⟩
theorem FAddOk:CfgOk Tryz.prog FAddC (bodyOf Tryz.f126):=⟨mixed,tabOk,sums_cons known_sum (sums_cons addUp_sum (sums_cons lower_sum sums_nil)),noL⟩
theorem FAdd_ev (w:Int) (A B:Nat):fnS FAddC 60 Tryz.f126 (bodyOf Tryz.f126) [i64 w,num A,num B]=FAddT w (num A) (num B):=by kernel_rfl
theorem FAdd_sum:Sum Tryz.prog 126 FAddF:=by
 refine sum_of FAddOk Tryz.func126 (by kernel_rfl) (by kernel_rfl) rfl (fuel:=60) fun args v h _=>?_
 unfold FAddF at h
 split at h
 ·simp only[Option.some.injEq,Prod.mk.injEq,Bool.and_eq_true]at h
  obtain ⟨⟨h1,h2⟩,rfl⟩:=h
  obtain ⟨A,hA,rfl⟩:=isNum_some h1
  obtain ⟨B,hB,rfl⟩:=isNum_some h2
  exact⟨by show 3<=Tryz.f126.ntmps;decide +kernel,(FAdd_ev _ _ _).trans (by rw[FAddT_eq hA hB,unnum_lt hA,unnum_lt hB]),rfl⟩
 ·simp at h
def dnNt:List Nat:=[0,6,7,8]
def dnNi:List Nat:=[2,12]
def dnSt (w:Int) (s:List Value) (c:Nat):St:=
 ⟨[(0,i64 w),(6,ptr 2),(7,ptr 12),(8,u64 c)],[(2,⟨[u64 0,u64 0,u64 0,u64 0],24,true⟩),(12,⟨s,24,true⟩)],15⟩
noncomputable def dnC0:Cfg:=⟨tab,[(124,SubF),(125,GapF)],31,[]⟩
theorem dnOk0:CfgOk Tryz.prog dnC0 (bodyOf Tryz.f113):=⟨mixed,tabOk,sums_cons Sub_sum (sums_cons gap_sum sums_nil),noL⟩
theorem dn_at:codeAt [1,1,1,0,0] (bodyOf Tryz.f113)=some (.loop (loopAt [1,1,1,0,0] (bodyOf Tryz.f113))):=by kernel_rfl
theorem dn_r (w:Int) (T c:Nat):roundS dnC0 60 [1,1,1,0,0,0] (loopAt [1,1,1,0,0] (bodyOf Tryz.f113)) dnNt dnNi 15 dnNt dnNi 15 (dnSt w (cells4 T) c)=
  dnR (num T) (num (hideN (gapN w))) c (fun t d=>some (.normal,dnSt w (cells4 t) d)) (some (.exit 0,dnSt w (cells4 T) c)):=by kernel_rfl
noncomputable def dnC (w:Int) (T c L:Nat):Cfg:=⟨tab,[(109,okF),(124,SubF),(119,LowF)],31,[([1,1,1,0,0],atSt dnNt dnNi 15 (dnSt w (cells4 T) c) (.exit 0) (dnSt w (cells4 L) 0))]⟩
theorem FSub_ev (w:Int) (A B T c L:Nat):fnS (dnC w T c L) 60 Tryz.f113 (bodyOf Tryz.f113) [i64 w,num A,num B]=
  bif !(okW w) then some (num 0) else r2 (num A) (num B) (req (stEq (dnSt w (cells4 (2^256+unnum (num A)-unnum (num B))) (if unnum (num A)<unnum (num B) then 1 else 0)) (dnSt w (cells4 T) c)) (req (okW w&&isNum (num L)) (some (num (unnum (num L)%primeN w))))):=by kernel_rfl
def dnC1:Cfg:=⟨tab,[(109,okF),(124,SubF)],31,[([1,1,1,0,0],fun _=>[])]⟩
theorem FSub_ev0 (w:Int) (A B:Nat):fnS dnC1 60 Tryz.f113 (bodyOf Tryz.f113) [i64 w,num A,num B]=bif !(okW w) then some (num 0) else r2 (num A) (num B) none:=by kernel_rfl
theorem FSub_sum:Sum Tryz.prog 113 FSubF:=by
 intro args v h
 unfold FSubF at h
 split at h
 ·rename_i w a0 b0
  simp only[Option.some.injEq,Prod.mk.injEq,Bool.and_eq_true]at h
  obtain ⟨⟨h1,h2⟩,rfl⟩:=h
  obtain ⟨A,hA,rfl⟩:=isNum_some h1
  obtain ⟨B,hB,rfl⟩:=isNum_some h2
  rw[unnum_lt hA,unnum_lt hB]
  by_cases hw:okW w=true
  ·obtain ⟨hp,_,hs,_⟩:=primeN_small hw
   rw[<-gap_small hw]at hs hp
   obtain ⟨n,hn0,hn,hne⟩:=dn_first hs hA hB
   have hlt:=dn_lt hs hA hB
   have hL:LoopOk Tryz.prog 31 (loopAt [1,1,1,0,0] (bodyOf Tryz.f113)) (atSt dnNt dnNi 15 (dnSt w (cells4 (2^256+A-B)) (if A<B then 1 else 0)) (.exit 0) (dnSt w (cells4 (dnN (gapN w) A B)) 0)):=by
    refine atSt_ok fun w0 R a W hrel=>?_
    refine loop_rounds (R:=R) (C:=dnC0) dnOk0 dn_at (m:=60) (nt:=dnNt) (ni:=dnNi) (et:=dnNt) (ei:=dnNi) (nx:=15) (ex:=15) (e:=.exit 0) (sf:=dnSt w (cells4 (dnN (gapN w) A B)) 0)
     (fun k=>dnSt w (cells4 (dnS (gapN w) A B k).1) (dnS (gapN w) A B k).2) n (by intro h;cases h) ?_ ?_ hrel
    ·intro k hk
     refine(dn_r _ _ _).trans ?_
     rw[hideN_eq]
     exact(dnR_eq hs (hne k hk) (fun t d=>some (Exit.normal,dnSt w (cells4 t) d)) _)
    ·refine(dn_r _ _ _).trans ?_
     rw[hn0,<-hn,cells4_mod];rfl
   have hOk:CfgOk Tryz.prog (dnC w (2^256+A-B) (if A<B then 1 else 0) (dnN (gapN w) A B)) (bodyOf Tryz.f113):=⟨mixed,tabOk,sums_cons known_sum (sums_cons Sub_sum (sums_cons lower_sum sums_nil)),oneL hL⟩
   refine sum_at hOk Tryz.func113 (by kernel_rfl) (by kernel_rfl) rfl (fuel:=60) (by show 3<=Tryz.f113.ntmps;decide +kernel) ?_ rfl
   refine(FSub_ev w A B _ _ _).trans ?_
   rw[r2_num,unnum_lt hA,unnum_lt hB,req_true (stEq_refl rfl),hw,isNum_num,req_true (b:=true&&true) rfl,unnum_lt hlt,dn_mod hp hs hA hB]
   unfold fsubN;rw[redN_ok hw];rfl
  ·have hw':okW w=false:=Bool.eq_false_iff.2 hw
   have hOk:CfgOk Tryz.prog dnC1 (bodyOf Tryz.f113):=⟨mixed,tabOk,sums_cons known_sum (sums_cons Sub_sum sums_nil),noneL2⟩
   refine sum_at hOk Tryz.func113 (by kernel_rfl) (by kernel_rfl) rfl (fuel:=60) (by show 3<=Tryz.f113.ntmps;decide +kernel) ?_ rfl
   refine(FSub_ev0 w A B).trans ?_
   unfold fsubN;rw[hw',redN_no hw];rfl
 ·simp at h
end Go.Proofs.YtckbmhegopjnmaaGreat

namespace Go.Proofs.YtckbmhegopjnmaaGreat
set_option maxRecDepth 100000
open Go.W
open Go.RowKit (Below)
def fnNt:List Nat:=[2,3,4]
def fnNi:List Nat:=[0,1,2]
def fnSt (lo hi:List Value):St:=
 ⟨[(2,ptr 0),(3,ptr 1),(4,ptr 2)],[(0,⟨lo,24,true⟩),(1,⟨hi,24,true⟩),(2,⟨[u64 0,u64 0,u64 0,u64 0],24,true⟩)],3⟩
noncomputable def fnC0:Cfg:=⟨tab,[(125,GapF),(121,MulF),(129,AddF)],33,[]⟩
theorem fnOk0:CfgOk Tryz.prog fnC0 (bodyOf Tryz.f123):=⟨mixed,tabOk,sums_cons gap_sum (sums_cons Mul_sum (sums_cons Add_sum sums_nil)),noL⟩
theorem fn_at:codeAt [1,0,0] (bodyOf Tryz.f123)=some (.loop (loopAt [1,0,0] (bodyOf Tryz.f123))):=by kernel_rfl
theorem fn_r (lo hi:Nat):roundS fnC0 60 [1,0,0,0] (loopAt [1,0,0] (bodyOf Tryz.f123)) fnNt fnNi 3 fnNt fnNi 3 (fnSt (cells4 lo) (cells4 hi))=
  fdR (num lo) (num hi) (num (hideN (gapN 1))) (fun x y=>some (.normal,fnSt (cells4 x) (cells4 y))) (some (.exit 0,fnSt (cells4 lo) (cells4 hi))):=by kernel_rfl
noncomputable def fnC (lo hi L:Nat):Cfg:=⟨tab,[],33,[([1,0,0],atSt fnNt fnNi 3 (fnSt (cells4 lo) (cells4 hi)) (.exit 0) (fnSt (cells4 L) (cells4 0)))]⟩
theorem foldN_ev (lo hi L:Nat):fnS (fnC lo hi L) 60 Tryz.f123 (bodyOf Tryz.f123) [num lo,num hi]=
  req (stEq (fnSt (cells4 lo) (cells4 hi)) (fnSt (cells4 lo) (cells4 hi))) (some (num L)):=by kernel_rfl
theorem foldN_sum:Sum Tryz.prog 123 FoldNF:=by
 intro args v h
 obtain ⟨lo,hi,hlo,hhi,rfl,rfl⟩:=arg2 (f:=fun x y=>num (fdGo sN 4 (unnum x) (unnum y))) h
 rw[unnum_lt hlo,unnum_lt hhi]
 have hs:sN<2^129:=by decide
 obtain ⟨n,hn,hne⟩:=fdK_first hlo hhi hs
 have hlt:=fdK_lt hlo hhi hs
 rw[fdGo_at hlo hhi hn hne]
 have hL:LoopOk Tryz.prog 33 (loopAt [1,0,0] (bodyOf Tryz.f123)) (atSt fnNt fnNi 3 (fnSt (cells4 lo) (cells4 hi)) (.exit 0) (fnSt (cells4 (fdK sN lo hi n).1) (cells4 0))):=by
  refine atSt_ok fun w0 R a W hrel=>?_
  refine loop_rounds (R:=R) (C:=fnC0) fnOk0 fn_at (m:=60) (nt:=fnNt) (ni:=fnNi) (et:=fnNt) (ei:=fnNi) (nx:=3) (ex:=3) (e:=.exit 0) (sf:=fnSt (cells4 (fdK sN lo hi n).1) (cells4 0))
   (fun k=>fnSt (cells4 (fdK sN lo hi k).1) (cells4 (fdK sN lo hi k).2)) n (by intro h;cases h) ?_ ?_ hrel
  ·intro k hk
   refine(fn_r _ _).trans ?_
   rw[hideN_eq,show gapN 1=sN from rfl]
   exact(fdR_eq (hlt k).1 (hlt k).2 hs (hne k hk) (fun x y=>some (Exit.normal,fnSt x y)) _)
  ·refine(fn_r _ _).trans ?_
   rw[hn,fdR_out]
 have hOk:CfgOk Tryz.prog (fnC lo hi (fdK sN lo hi n).1) (bodyOf Tryz.f123):=⟨mixed,tabOk,sums_nil,oneL hL⟩
 refine sum_at hOk Tryz.func123 (by kernel_rfl) (by kernel_rfl) rfl (fuel:=60) (by show 2<=Tryz.f123.ntmps;decide +kernel) ?_ rfl
 refine(foldN_ev lo hi _).trans ?_
 rw[req_true (stEq_refl rfl)]
noncomputable def fpC:Cfg:=⟨tab,[(118,Mul64H),(129,AddF),(130,AddUpF)],75,[]⟩
theorem fpOk:CfgOk Tryz.prog fpC (bodyOf Tryz.f122):=⟨mixed,tabOk,sums_cons (Mul64H_eq▸Mul64_sum) (sums_cons Add_sum (sums_cons addUp_sum sums_nil)),noL⟩
theorem foldP_ev (L h0 h1 h2 h3:Nat):fnS fpC 60 Tryz.f122 (bodyOf Tryz.f122) [num L,numd h0 h1 h2 h3]=fpT (num L) h0 h1 h2 h3:=by kernel_rfl
theorem foldP_sum:Sum Tryz.prog 122 FoldPF:=by
 refine sum_of fpOk Tryz.func122 (by kernel_rfl) (by kernel_rfl) rfl (fuel:=60) fun args v h _=>?_
 obtain ⟨lo,hi,hlo,hhi,rfl,rfl⟩:=arg2 (f:=fun x y=>num (fpN (unnum x) (unnum y))) h
 refine⟨by show 2<=Tryz.f122.ntmps;decide +kernel,?_,rfl⟩
 obtain ⟨y0,y1,y2,y3,k0,k1,k2,k3,e3,e4⟩:=digits hhi
 rw[unnum_lt hlo,unnum_lt hhi,e4]
 refine(foldP_ev _ _ _ _ _).trans ?_
 rw[fpT_eq hlo k0 k1 k2 k3,e3]
def FMulT (w:Int) (a b:Value):Option Value:=r2 a b <|
 bif w==0 then (r2 (mL a b) (mH a b)<|req (okW w&&isNum (num (fpN (unnum (mL a b)) (unnum (mH a b)))))<|some (num (unnum (num (fpN (unnum (mL a b)) (unnum (mH a b))))%primeN w)))
 else bif w==1 then (r2 (mL a b) (mH a b)<|req (okW w&&isNum (num (fdGo sN 4 (unnum (mL a b)) (unnum (mH a b)))))<|some (num (unnum (num (fdGo sN 4 (unnum (mL a b)) (unnum (mH a b))))%primeN w)))
 else some (num 0)
theorem FMulT_eq {w:Int}{A B:Nat}(hA:A<2^256) (hB:B<2^256):FMulT w (num A) (num B)=some (num (fmulN w A B)):=by
 unfold FMulT fmulN
 have hAB:A*B<2^256*2^256:=Nat.mul_lt_mul'' hA hB
 have hH:A*B / 2^256<2^256:=Nat.div_lt_of_lt_mul hAB
 have hLo:A*B%2^256<2^256:=Nat.mod_lt _ (by decide)
 have hz:A*B / 2^256*2^256+A*B%2^256=A*B:=by rw[Nat.mul_comm];exact Nat.div_add_mod _ _
 rw[r2_num,mL_num,mH_num hA hB,r2_num,unnum_num,unnum_lt hH]
 by_cases h0:w=0
 ·subst h0
  obtain ⟨h1,h2⟩:=fp_mod hLo hH
  rw[hz]at h2
  rw[show((0:Int)==0)=true from rfl,cond_true,isNum_num,unnum_lt h1,redN_ok ok0,prime0,h2,req_true (b:=okW 0&&true) rfl]
 ·rw[show(w==0)=false from beq_eq_false_iff_ne.2 h0]
  by_cases h1:w=1
  ·subst h1
   obtain ⟨h1,h2⟩:=fdGo_mod hLo hH
   rw[hz]at h2
   rw[show((1:Int)==1)=true from rfl,cond_false,cond_true,r2_num,isNum_num,unnum_lt h1,redN_ok (w:=1) rfl,show primeN 1=pN from rfl,h2,req_true (b:=okW 1&&true) rfl]
  ·rw[show(w==1)=false from beq_eq_false_iff_ne.2 h1,redN_no (by rw[okW_iff];omega),cond_false,cond_false]
def FMulC:Cfg:=⟨tab,[(121,MulF),(122,FoldPF),(123,FoldNF),(119,LowF)],31,[]⟩
theorem FMulOk:CfgOk Tryz.prog FMulC (bodyOf Tryz.f112):=⟨mixed,tabOk,sums_cons Mul_sum (sums_cons foldP_sum (sums_cons foldN_sum (sums_cons lower_sum sums_nil))),noL⟩
theorem FMul_ev (w:Int) (A B:Nat):fnS FMulC 60 Tryz.f112 (bodyOf Tryz.f112) [i64 w,num A,num B]=FMulT w (num A) (num B):=by kernel_rfl
theorem FMul_sum:Sum Tryz.prog 112 FMulF:=by
 refine sum_of FMulOk Tryz.func112 (by kernel_rfl) (by kernel_rfl) rfl (fuel:=60) fun args v h _=>?_
 unfold FMulF at h
 split at h
 ·simp only[Option.some.injEq,Prod.mk.injEq,Bool.and_eq_true]at h
  obtain ⟨⟨h1,h2⟩,rfl⟩:=h
  obtain ⟨A,hA,rfl⟩:=isNum_some h1
  obtain ⟨B,hB,rfl⟩:=isNum_some h2
  exact⟨by show 3<=Tryz.f112.ntmps;decide +kernel,(FMul_ev _ _ _).trans (by rw[FMulT_eq hA hB,unnum_lt hA,unnum_lt hB]),rfl⟩
 ·simp at h
end Go.Proofs.YtckbmhegopjnmaaGreat

namespace Go.Proofs.YtckbmhegopjnmaaGreat
set_option maxRecDepth 100000
open Go.W
open Go.RowKit (Below)
def pwNt:List Nat:=[0,4,5,6,7,8]
def pwNi:List Nat:=[0,1,2,7]
def pwSt (w:Int) (A E O:Nat) (i:Int):St:=
 ⟨[(0,i64 w),(4,ptr 0),(5,ptr 1),(6,ptr 2),(7,ptr 7),(8,i64 i)],[(0,⟨cells4 A,24,true⟩),(1,⟨cells4 E,24,true⟩),(2,⟨[u64 0,u64 0,u64 0,u64 0],24,true⟩),(7,⟨cells4 O,24,true⟩)],13⟩
def pwC0:Cfg:=⟨tab,[(112,FMulF),(106,BitF)],34,[]⟩
theorem pwOk0:CfgOk Tryz.prog pwC0 (bodyOf Tryz.f111):=⟨mixed,tabOk,sums_cons FMul_sum (sums_cons Bit_sum sums_nil),noL⟩
theorem pw_at:codeAt [1,1,1,0,1,0] (bodyOf Tryz.f111)=some (.loop (loopAt [1,1,1,0,1,0] (bodyOf Tryz.f111))):=by kernel_rfl
theorem pw_r (w:Int) (A E O:Nat) (i:Int):roundS pwC0 60 [1,1,1,0,1,0,0] (loopAt [1,1,1,0,1,0] (bodyOf Tryz.f111)) pwNt pwNi 13 pwNt pwNi 13 (pwSt w A E O i)=
  bif decide (i>=0) then powR w (num A) (num E) (num O) i (fun o=>some (.normal,pwSt w A E o (IntKind.i64.wrap (i-1)))) else some (.exit 0,pwSt w A E O i):=by kernel_rfl
noncomputable def pwC (w:Int) (A E O:Nat) (i:Int):Cfg:=⟨tab,[(109,okF),(120,LenF)],34,[([1,1,1,0,1,0],atSt pwNt pwNi 13 (pwSt w A E 1 i) (.exit 0) (pwSt w A E O (-1)))]⟩
theorem Pow_ev (w:Int) (A E O:Nat) (i:Int):fnS (pwC w A E O i) 60 Tryz.f111 (bodyOf Tryz.f111) [i64 w,num A,num E]=
  bif !(okW w) then some (num 0) else req (isNum (num E)) (req (stEq (pwSt w A E 1 (IntKind.i64.wrap (((bitLen (unnum (num E)):Nat):Int)-1))) (pwSt w A E 1 i)) (some (num O))):=by kernel_rfl
def pwC1:Cfg:=⟨tab,[(109,okF),(120,LenF)],34,[([1,1,1,0,1,0],fun _=>[])]⟩
theorem Pow_ev0 (w:Int) (A E:Nat):fnS pwC1 60 Tryz.f111 (bodyOf Tryz.f111) [i64 w,num A,num E]=bif !(okW w) then some (num 0) else req (isNum (num E)) none:=by kernel_rfl
theorem Pow_sum:Sum Tryz.prog 111 PowF:=by
 intro args v h
 unfold PowF at h
 split at h
 ·rename_i w a0 e0
  simp only[Option.some.injEq,Prod.mk.injEq,Bool.and_eq_true]at h
  obtain ⟨⟨h1,h2⟩,rfl⟩:=h
  obtain ⟨A,hA,rfl⟩:=isNum_some h1
  obtain ⟨E,hE,rfl⟩:=isNum_some h2
  rw[unnum_lt hA,unnum_lt hE]
  by_cases hw:okW w=true
  ·obtain ⟨_,hp,_,hp2⟩:=primeN_small hw
   have hl:bitLen E<=256:=bitLen_lt hE
   have hE2:E<2^bitLen E:=(bitLen_spec E).1
   have hL:LoopOk Tryz.prog 34 (loopAt [1,1,1,0,1,0] (bodyOf Tryz.f111)) (atSt pwNt pwNi 13 (pwSt w A E 1 ((bitLen E:Int)-1)) (.exit 0) (pwSt w A E (pwM A E (primeN w) 256) (-1))):=by
    refine atSt_ok fun w0 R a W hrel=>?_
    refine loop_rounds (R:=R) (C:=pwC0) pwOk0 pw_at (m:=60) (nt:=pwNt) (ni:=pwNi) (et:=pwNt) (ei:=pwNi) (nx:=13) (ex:=13) (e:=.exit 0) (sf:=pwSt w A E (pwM A E (primeN w) 256) (-1))
     (fun k=>pwSt w A E (pwM A E (primeN w) (256-bitLen E+k)) ((bitLen E:Int)-1-(k:Int))) (bitLen E) (by intro h;cases h) ?_ ?_ ?_
    ·intro k hk
     refine(pw_r _ _ _ _ _).trans ?_
     have e:(bitLen E:Int)-1-(k:Int)=255-((256-bitLen E+k:Nat):Int):=by omega
     rw[decide_eq_true (by omega),cond_true,e,powR_eq hw hA hE (by omega),wrap_i64 (by omega)]
     congr 3
     omega
    ·refine(pw_r _ _ _ _ _).trans ?_
     have e:(bitLen E:Int)-1-((bitLen E:Nat):Int)=-1:=by omega
     rw[e,show 256-bitLen E+bitLen E=256 from by omega];rfl
    ·have:pwM A E (primeN w) (256-bitLen E+0)=1:=by
      unfold pwM
      rw[show 256-(256-bitLen E+0)=bitLen E from by omega,Nat.div_eq_of_lt hE2,Nat.pow_zero,Nat.mod_eq_of_lt (by omega)]
     rw[this,show(bitLen E:Int)-1-((0:Nat):Int)=(bitLen E:Int)-1 from by omega];exact hrel
   have hOk:CfgOk Tryz.prog (pwC w A E (pwM A E (primeN w) 256) ((bitLen E:Int)-1)) (bodyOf Tryz.f111):=⟨mixed,tabOk,sums_cons known_sum (sums_cons Len_sum sums_nil),oneL hL⟩
   refine sum_at hOk Tryz.func111 (by kernel_rfl) (by kernel_rfl) rfl (fuel:=60) (by show 3<=Tryz.f111.ntmps;decide +kernel) ?_ rfl
   refine(Pow_ev w A E _ _).trans ?_
   rw[isNum_num,req_true rfl,unnum_lt hE,wrap_i64 (by omega),req_true (stEq_refl rfl),pwM_last,hw,powN_ok hw hE];rfl
  ·have hw':okW w=false:=Bool.eq_false_iff.2 hw
   have hOk:CfgOk Tryz.prog pwC1 (bodyOf Tryz.f111):=⟨mixed,tabOk,sums_cons known_sum (sums_cons Len_sum sums_nil),noneL2⟩
   refine sum_at hOk Tryz.func111 (by kernel_rfl) (by kernel_rfl) rfl (fuel:=60) (by show 3<=Tryz.f111.ntmps;decide +kernel) ?_ rfl
   refine(Pow_ev0 w A E).trans ?_
   rw[hw',powN_no hw];rfl
 ·simp at h
def RootE (r ra:Value):Option Value:=
 r2 r r<|bif !(eqV (num (fmulN 0 (unnum r) (unnum r))) ra) then some (.tuple #[num 0,.bool false]) else req (isNum r) <|
  bif bitI (unnum r) 0==1 then (r2 (num 0) r<|some (.tuple #[num (fsubN 0 (unnum (num 0)) (unnum r)),.bool true])) else some (.tuple #[r,.bool true])
theorem RootE_eq {R B:Nat}(hR:R<2^256) (hB:B<2^256):RootE (num R) (num B)=
  some (.tuple #[num (if fmulN 0 R R=B then (if R%2=1 then fsubN 0 0 R else R) else 0),.bool (decide (fmulN 0 R R=B))]):=by
 unfold RootE
 have hm:fmulN 0 R R<2^256:=redN_lt _
 rw[r2_num,unnum_lt hR,eqV_num,Nat.mod_eq_of_lt hm,Nat.mod_eq_of_lt hB,unnum_lt (show 0<2^256 by decide),r2_num,isNum_num,req_true rfl]
 by_cases h:fmulN 0 R R=B
 ·rw[if_pos h,decide_eq_true h]
  have e:bitI R 0=((R%2:Nat):Int):=by
   have:=bitI_nat (A:=R) (n:=0) (by omega)
   rw[show((0:Nat):Int)=0 from rfl]at this
   rw[this];unfold bitN;rw[Nat.pow_zero,Nat.div_one]
  rw[e]
  rcases Nat.mod_two_eq_zero_or_one R with h0|h1
  ·rw[h0,if_neg (by decide)];rfl
  ·rw[h1,if_pos rfl];rfl
 ·rw[if_neg h,decide_eq_false h];rfl
def RootT (a:Value):Option Value:=
 req (isNum a)<|r2 (rRed 0 a) (num qP)<|RootE (num (powN 0 (unnum (rRed 0 a)) (unnum (num qP)))) (rRed 0 a)
theorem RootT_eq {A:Nat}(hA:A<2^256):RootT (num A)=some (rootV A):=by
 unfold RootT rRed rootV rootNum rootIs rootR
 rw[isNum_num,req_true rfl,r2_num,unnum_lt hA,unnum_lt (redN_lt A),unnum_lt qP_lt]
 exact RootE_eq (powN_lt qP_lt) (redN_lt _)
def RootC:Cfg:=⟨tab,[(110,RedF),(111,PowF),(106,BitF),(112,FMulF),(113,FSubF)],23,[]⟩
theorem RootOk:CfgOk Tryz.prog RootC (bodyOf Tryz.f96):=⟨mixed,tabOk,sums_cons Red_sum (sums_cons Pow_sum (sums_cons Bit_sum (sums_cons FMul_sum (sums_cons FSub_sum sums_nil)))),noL⟩
theorem Root_ev (A:Nat):fnS RootC 100 Tryz.f96 (bodyOf Tryz.f96) [num A]=RootT (num A):=by kernel_rfl
theorem Root_sum:Sum Tryz.prog 96 RootF:=by
 refine sum_of RootOk Tryz.func96 (by kernel_rfl) (by kernel_rfl) rfl (fuel:=100) fun args v h _=>?_
 obtain ⟨A,hA,rfl,rfl⟩:=arg1 (f:=fun x=>rootV (unnum x)) h
 exact⟨by show 1<=Tryz.f96.ntmps;decide +kernel,(Root_ev A).trans (by rw[RootT_eq hA,unnum_lt hA]),rfl⟩
def ReadT (w:Int) (b:Value) (X:Nat):Option Value:=
 bif !(okW w) then some (.tuple #[num 0,i64 1]) else req (isB32 b)<|r2 (num X) (num (primeN w))<|bif decide (cI (num X) (num (primeN w))>=0) then some (.tuple #[num 0,i64 2]) else some (.tuple #[num X,i64 0])
theorem ReadT_eq (w:Int){b:Value}(hb:isB32 b=true){X:Nat}(hX:X<2^256):ReadT w b X=some (readV w X):=by
 unfold ReadT readV readN readE
 by_cases h:okW w=true
 ·obtain ⟨_,hp,_,_⟩:=primeN_small h
  rw[h,hb,req_true rfl,r2_num,cI_num hX hp,if_pos rfl,if_pos rfl]
  by_cases hlt:X<primeN w
  ·rw[if_pos hlt,if_pos hlt,decide_eq_false (by unfold cmpI;rw[if_pos hlt];decide)];rfl
  ·rw[if_neg hlt,if_neg hlt,decide_eq_true (by unfold cmpI;rw[if_neg hlt];split<;>decide)];rfl
 ·rw[if_neg h,if_neg h,show okW w=false from Bool.eq_false_iff.2 h];rfl
def ReadC:Cfg:=⟨tab,[(109,okF),(80,OfF),(92,CmpF),(93,PrimeF)],20,[]⟩
theorem ReadOk:CfgOk Tryz.prog ReadC (bodyOf Tryz.f95):=⟨mixed,tabOk,sums_cons known_sum (sums_cons Of_sum (sums_cons Cmp_sum (sums_cons Prime_sum sums_nil))),noL⟩
theorem Read_ev (w:Int) (A:Nat):fnS ReadC 100 Tryz.f95 (bodyOf Tryz.f95) [i64 w,bytesV A]=ReadT w (bytesV A) (unbytes (bytesV A)):=by kernel_rfl
theorem Read_sum:Sum Tryz.prog 95 ReadF:=by
 refine sum_of ReadOk Tryz.func95 (by kernel_rfl) (by kernel_rfl) rfl (fuel:=100) fun args v h _=>?_
 unfold ReadF at h
 split at h
 ·simp only[Option.some.injEq,Prod.mk.injEq]at h
  obtain ⟨h1,rfl⟩:=h
  obtain ⟨X,hX,rfl,h2⟩:=isB32_some h1
  exact⟨by show 2<=Tryz.f95.ntmps;decide +kernel,(Read_ev _ _).trans (by rw[h2,ReadT_eq _ h1 hX]),rfl⟩
 ·simp at h
end Go.Proofs.YtckbmhegopjnmaaGreat

namespace Go.Proofs.YtckbmhegopjnmaaGreat
set_option maxRecDepth 100000
open Go.W
open Go.RowKit (Below)
noncomputable def caddC:Cfg:=⟨tab,[(126,FAddF)],8,[]⟩
theorem caddOk:CfgOk Tryz.prog caddC (bodyOf Tryz.f114):=⟨mixed,tabOk,(sums_cons FAdd_sum sums_nil),noL⟩
theorem cadd_ev (A:Nat) (B:Nat):fnS caddC 60 Tryz.f114 (bodyOf Tryz.f114) [(num A),(num B)]=r2 (num A) (num B) (some (av (num A) (num B))):=by kernel_rfl
theorem cadd_sum:Sum Tryz.prog 114 AvF:=by
 refine sum_of caddOk Tryz.func114 (by kernel_rfl) (by kernel_rfl) rfl (fuel:=60) fun args v h _=>?_
 unfold AvF at h
 split at h
 ·simp only[Option.some.injEq,Prod.mk.injEq,Bool.and_eq_true]at h
  obtain ⟨⟨h0,h1⟩,rfl⟩:=h
  obtain ⟨A,hA,rfl⟩:=isNum_some h0
  obtain ⟨B,hB,rfl⟩:=isNum_some h1
  exact⟨by show 2<=Tryz.f114.ntmps;decide +kernel,(cadd_ev A B).trans (by rw[r2_num]),rfl⟩
 ·simp at h
noncomputable def csubC:Cfg:=⟨tab,[(113,FSubF)],8,[]⟩
theorem csubOk:CfgOk Tryz.prog csubC (bodyOf Tryz.f115):=⟨mixed,tabOk,(sums_cons FSub_sum sums_nil),noL⟩
theorem csub_ev (A:Nat) (B:Nat):fnS csubC 60 Tryz.f115 (bodyOf Tryz.f115) [(num A),(num B)]=r2 (num A) (num B) (some (sv (num A) (num B))):=by kernel_rfl
theorem csub_sum:Sum Tryz.prog 115 SvF:=by
 refine sum_of csubOk Tryz.func115 (by kernel_rfl) (by kernel_rfl) rfl (fuel:=60) fun args v h _=>?_
 unfold SvF at h
 split at h
 ·simp only[Option.some.injEq,Prod.mk.injEq,Bool.and_eq_true]at h
  obtain ⟨⟨h0,h1⟩,rfl⟩:=h
  obtain ⟨A,hA,rfl⟩:=isNum_some h0
  obtain ⟨B,hB,rfl⟩:=isNum_some h1
  exact⟨by show 2<=Tryz.f115.ntmps;decide +kernel,(csub_ev A B).trans (by rw[r2_num]),rfl⟩
 ·simp at h
noncomputable def cmulC:Cfg:=⟨tab,[(112,FMulF)],8,[]⟩
theorem cmulOk:CfgOk Tryz.prog cmulC (bodyOf Tryz.f108):=⟨mixed,tabOk,(sums_cons FMul_sum sums_nil),noL⟩
theorem cmul_ev (A:Nat) (B:Nat):fnS cmulC 60 Tryz.f108 (bodyOf Tryz.f108) [(num A),(num B)]=r2 (num A) (num B) (some (mv (num A) (num B))):=by kernel_rfl
theorem cmul_sum:Sum Tryz.prog 108 MvF:=by
 refine sum_of cmulOk Tryz.func108 (by kernel_rfl) (by kernel_rfl) rfl (fuel:=60) fun args v h _=>?_
 unfold MvF at h
 split at h
 ·simp only[Option.some.injEq,Prod.mk.injEq,Bool.and_eq_true]at h
  obtain ⟨⟨h0,h1⟩,rfl⟩:=h
  obtain ⟨A,hA,rfl⟩:=isNum_some h0
  obtain ⟨B,hB,rfl⟩:=isNum_some h1
  exact⟨by show 2<=Tryz.f108.ntmps;decide +kernel,(cmul_ev A B).trans (by rw[r2_num]),rfl⟩
 ·simp at h
noncomputable def ctrnC:Cfg:=⟨tab,[(115,SvF)],6,[]⟩
theorem ctrnOk:CfgOk Tryz.prog ctrnC (bodyOf Tryz.f98):=⟨mixed,tabOk,(sums_cons csub_sum sums_nil),noL⟩
theorem ctrn_ev (A:Nat):fnS ctrnC 60 Tryz.f98 (bodyOf Tryz.f98) [(num A)]=r2 (num 0) (num A) (some (sv (num 0) (num A))):=by kernel_rfl
theorem ctrn_sum:Sum Tryz.prog 98 TrnF:=by
 refine sum_of ctrnOk Tryz.func98 (by kernel_rfl) (by kernel_rfl) rfl (fuel:=60) fun args v h _=>?_
 unfold TrnF at h
 split at h
 ·simp only[Option.some.injEq,Prod.mk.injEq]at h
  obtain ⟨h0,rfl⟩:=h
  obtain ⟨A,hA,rfl⟩:=isNum_some h0
  exact⟨by show 1<=Tryz.f98.ntmps;decide +kernel,(ctrn_ev A).trans (by rw[r2_num]),rfl⟩
 ·simp at h
noncomputable def clowC:Cfg:=⟨tab,[(92,CmpF),(93,PrimeF)],7,[]⟩
theorem clowOk:CfgOk Tryz.prog clowC (bodyOf Tryz.f107):=⟨mixed,tabOk,(sums_cons Cmp_sum (sums_cons Prime_sum sums_nil)),noL⟩
theorem clow_ev (A:Nat):fnS clowC 60 Tryz.f107 (bodyOf Tryz.f107) [(num A)]=lowPT (num A):=by kernel_rfl
theorem clow_sum:Sum Tryz.prog 107 LowPF:=by
 refine sum_of clowOk Tryz.func107 (by kernel_rfl) (by kernel_rfl) rfl (fuel:=60) fun args v h _=>?_
 unfold LowPF at h
 split at h
 ·simp only[Option.some.injEq,Prod.mk.injEq]at h
  obtain ⟨h0,rfl⟩:=h
  obtain ⟨A,hA,rfl⟩:=isNum_some h0
  rw[unnum_lt hA]
  exact⟨by show 1<=Tryz.f107.ntmps;decide +kernel,(clow_ev A).trans (lowPT_eq hA),rfl⟩
 ·simp at h
noncomputable def csqC:Cfg:=⟨tab,[(108,MvF),(114,AvF)],10,[]⟩
theorem csqOk:CfgOk Tryz.prog csqC (bodyOf Tryz.f97):=⟨mixed,tabOk,(sums_cons cmul_sum (sums_cons cadd_sum sums_nil)),noL⟩
theorem csq_ev (A:Nat):fnS csqC 60 Tryz.f97 (bodyOf Tryz.f97) [(num A)]=sqT (num A):=by kernel_rfl
theorem csq_sum:Sum Tryz.prog 97 SqAF:=by
 refine sum_of csqOk Tryz.func97 (by kernel_rfl) (by kernel_rfl) rfl (fuel:=60) fun args v h _=>?_
 unfold SqAF at h
 split at h
 ·simp only[Option.some.injEq,Prod.mk.injEq]at h
  obtain ⟨h0,rfl⟩:=h
  obtain ⟨A,hA,rfl⟩:=isNum_some h0
  rw[unnum_lt hA]
  exact⟨by show 1<=Tryz.f97.ntmps;decide +kernel,(csq_ev A).trans (sqT_eq hA),rfl⟩
 ·simp at h
noncomputable def cisC:Cfg:=⟨tab,[(108,MvF),(107,LowPF),(97,SqAF)],27,[]⟩
theorem cisOk:CfgOk Tryz.prog cisC (bodyOf Tryz.f91):=⟨mixed,tabOk,(sums_cons cmul_sum (sums_cons clow_sum (sums_cons csq_sum sums_nil))),noL⟩
theorem cis_ev (ip:Bool) (Xp Yp:Nat):fnS cisC 60 Tryz.f91 (bodyOf Tryz.f91) [(ptV (ip,Xp,Yp))]=isPT ip (num Xp) (num Yp):=by kernel_rfl
theorem cis_sum:Sum Tryz.prog 91 CkF:=by
 refine sum_of cisOk Tryz.func91 (by kernel_rfl) (by kernel_rfl) rfl (fuel:=60) fun args v h _=>?_
 unfold CkF at h
 split at h
 ·simp only[Option.some.injEq,Prod.mk.injEq]at h
  obtain ⟨h0,rfl⟩:=h
  obtain ⟨⟨ip,Xp,Yp⟩,⟨hXp,hYp⟩,rfl⟩:=isPt_some h0
  rw[unPt_ptV (r:=(ip,Xp,Yp)) ⟨hXp,hYp⟩]
  exact⟨by show 1<=Tryz.f91.ntmps;decide +kernel,(cis_ev ip Xp Yp).trans (isPT_eq hXp hYp),rfl⟩
 ·simp at h
noncomputable def cchkC:Cfg:=⟨tab,[(91,CkF)],5,[]⟩
theorem cchkOk:CfgOk Tryz.prog cchkC (bodyOf Tryz.f71):=⟨mixed,tabOk,(sums_cons cis_sum sums_nil),noL⟩
theorem cchk_ev (p:RP):fnS cchkC 60 Tryz.f71 (bodyOf Tryz.f71) [(ptV p)]=chkT (ptV p):=by kernel_rfl
theorem cchk_sum:Sum Tryz.prog 71 CChkF:=by
 refine sum_of cchkOk Tryz.func71 (by kernel_rfl) (by kernel_rfl) rfl (fuel:=60) fun args v h _=>?_
 unfold CChkF at h
 split at h
 ·simp only[Option.some.injEq,Prod.mk.injEq]at h
  obtain ⟨h0,rfl⟩:=h
  obtain ⟨p,hp,rfl⟩:=isPt_some h0
  rw[unPt_ptV hp]
  exact⟨by show 1<=Tryz.f71.ntmps;decide +kernel,(cchk_ev p).trans (chkT_eq hp),rfl⟩
 ·simp at h
end Go.Proofs.YtckbmhegopjnmaaGreat

namespace Go.W
open Go
def NonF:List Value->Option (Bool×Value)
 | [p]=>some (isPt p,.bool (decide (unPt p=zR)))
 | _=>none
def NprF:List Value->Option (Bool×Value)
 | [p]=>some (isPrf p,.bool (decide (unPrf p=(0,0))))
 | _=>none
def fulB (K:RP):Bool:=!K.1&&ckR K
def FulF:List Value->Option (Bool×Value)
 | [p]=>some (isPt p,.bool (fulB (unPt p)))
 | _=>none
def nonT (i:Bool) (x y:Nat):Option Value:=bif !i then (bif eqV (num x) (num 0) then some (.bool (eqV (num y) (num 0))) else some (.bool false)) else some (.bool false)
theorem nonT_eq {i:Bool}{x y:Nat}(h:okR (i,x,y)):nonT i x y=some (.bool (decide ((i,x,y)=zR))):=by
 unfold nonT zR
 rw[eqV_num,eqV_num,Nat.mod_eq_of_lt h.1,Nat.mod_eq_of_lt h.2,Nat.zero_mod]
 cases i<;>by_cases hx:x=0<;>by_cases hy:y=0<;>simp[hx,hy]
def nprT (x y:Nat):Option Value:=bif eqV (num x) (num 0) then some (.bool (eqV (num y) (num 0))) else some (.bool false)
theorem nprT_eq {x y:Nat}(hx:x<2^256) (hy:y<2^256):nprT x y=some (.bool (decide ((x,y)=(0,0)))):=by
 unfold nprT
 rw[eqV_num,eqV_num,Nat.mod_eq_of_lt hx,Nat.mod_eq_of_lt hy,Nat.zero_mod]
 by_cases hx:x=0<;>by_cases hy:y=0<;>simp[hx,hy]
def keyd (k:Int):Bool:=decide (k=1)||decide (k=3)||decide (k=4)
def prfd (k:Int):Bool:=decide (k=3)||decide (k=4)
def bare (a:AR):Bool:=(keyd a.k||decide (a.K=zR))&&((decide (a.k=1)||decide (a.l=⟨#[]⟩))&&((decide (a.k=2)||decide (a.n+a.m=0))&&((decide (a.k=3)||decide (a.g=0))&&(prfd a.k||decide (a.X=(0,0))))))
noncomputable def ckE (a:AR):Int:=
 if a.k<1∨5<a.k then 19 else if bare a=false then 1 else
 if a.k=1 then (if fulB a.K=false then 3 else if lblB a.l=false then 8 else 0) else
 if a.k=2 then (if 8<a.n∨a.m<1∨64<a.m then 4 else if alP a.V a.m=false∨(a.V 0).1=true then 3 else 0) else
 if a.k=5 then 0 else
 if a.k=3∧(a.g<1∨8<a.g) then 1 else if fulB a.K=false then 3 else if ¬(a.X.1<pN∧a.X.2<pN) then 2 else 0
noncomputable def CkeF:List Value->(Nat->Option Blk)->Nat->List (Bool×Value×List (Nat×Blk))
 | [a],mm,_=>[(isA mm a&&Nat.ble (unA mm a).l.size 1000000,i64 (ckE (unA mm a)),[])]
 | _,_,_=>[]
abbrev OR:=Option (Value×List (Nat×Blk))
def cE (e:Int):OR:=some (i64 e,[])
def tNon (i:Bool) (x y:Nat) (K:OR):OR:=req (isPt (ptV (i,x,y))) (bif !decide (unPt (ptV (i,x,y))=zR) then cE 1 else K)
def tLab (lab:ByteArray) (K:OR):OR:=bif !(lab==⟨#[]⟩) then cE 1 else K
def tLen (n m:Nat) (K:OR):OR:=bif decide (IntKind.i64.wrap ((n:Int)+(m:Int)) > 0) then cE 1 else K
def tAg (g:Int) (K:OR):OR:=bif g != 0 then cE 1 else K
def tPr (c r:Nat) (K:OR):OR:=req (isPrf (prV c r)) (bif !decide (unPrf (prV c r)=(0,0)) then cE 1 else K)
def tFul (i:Bool) (x y:Nat) (K:OR):OR:=req (isPt (ptV (i,x,y))) (bif !fulB (unPt (ptV (i,x,y))) then cE 3 else K)
noncomputable def tLb (lab:ByteArray) (K:OR):OR:=req (Nat.ble lab.size 1000000) (bif !lblB lab then cE 8 else K)
def tBel (c r:Nat) (K:OR):OR:=req (isPrf (prV c r)) (bif !(decide ((unPrf (prV c r)).1<pN)&&decide ((unPrf (prV c r)).2<pN)) then cE 2 else K)
noncomputable def tCom (n m:Nat) (h:Nat->List Value) (K:OR):OR:=bif decide ((n:Int) > 8) then cE 4 else bif decide ((m:Int)<1) then cE 4 else bif decide ((m:Int) > 64) then cE 4 else
 req (whN m&&okP m (sg9 m h)) (bif !alP (pA (sg9 m h)) m then cE 3 else rdR 0 m (bif toB ((h (0+0)).headD (.bool false)) then cE 3 else K))
noncomputable def rckT (k:Int) (i:Bool) (x y:Nat) (lab:ByteArray) (n:Nat) (m:Nat) (h:Nat->List Value) (g:Int) (c r:Nat):OR:=match k with
 | .negSucc j=>bif decide (Int.negSucc j<1) then cE 19 else tNon i x y (tLab lab (tLen n m (tAg g (tPr c r (cE 0)))))
 | .ofNat 0=>cE 19
 | .ofNat 1=>tLen n m (tAg g (tPr c r (tFul i x y (tLb lab (cE 0)))))
 | .ofNat 2=>tNon i x y (tLab lab (tAg g (tPr c r (tCom n m h (cE 0)))))
 | .ofNat 3=>tLab lab (tLen n m (bif decide (g<1) then cE 1 else bif decide (g > 8) then cE 1 else tFul i x y (tBel c r (cE 0))))
 | .ofNat 4=>tLab lab (tLen n m (tAg g (tFul i x y (tBel c r (cE 0)))))
 | .ofNat 5=>tNon i x y (tLab lab (tLen n m (tAg g (tPr c r (cE 0)))))
 | .ofNat (j+6)=>bif decide (Int.ofNat (j+6) > 5) then cE 19 else tNon i x y (tLab lab (tLen n m (tAg g (tPr c r (cE 0)))))
theorem tNon_eq {i:Bool}{x y:Nat}(h:okR (i,x,y)) (K:OR):tNon i x y K=if (i,x,y)=zR then K else cE 1:=by
 unfold tNon;rw[isPt_ptV,req_true rfl,unPt_ptV h]
 by_cases e:(i,x,y)=zR
 ·rw[decide_eq_true e,if_pos e];rfl
 ·rw[decide_eq_false e,if_neg e];rfl
theorem tLab_eq (lab:ByteArray) (K:OR):tLab lab K=if lab=⟨#[]⟩ then K else cE 1:=by
 unfold tLab;rw[txt_eq]
 by_cases e:lab=⟨#[]⟩
 ·rw[decide_eq_true e,if_pos e];rfl
 ·rw[decide_eq_false e,if_neg e];rfl
theorem tLen_eq {n m:Nat}(hn:n<=1000) (hm:m<=1000) (K:OR):tLen n m K=if n+m=0 then K else cE 1:=by
 unfold tLen;rw[wrap_i64 (by omega)]
 by_cases e:n+m=0
 ·rw[decide_eq_false (by omega),if_pos e];rfl
 ·rw[decide_eq_true (by omega),if_neg e];rfl
theorem tAg_eq (g:Int) (K:OR):tAg g K=if g=0 then K else cE 1:=by
 unfold tAg
 by_cases e:g=0
 ·rw[if_pos e,e];rfl
 ·rw[if_neg e,bne_iff_ne.2 e];rfl
theorem tPr_eq {c r:Nat}(hc:c<2^256) (hr:r<2^256) (K:OR):tPr c r K=if (c,r)=(0,0) then K else cE 1:=by
 unfold tPr;rw[isPrf_prV,req_true rfl,unPrf_prV hc hr]
 by_cases e:(c,r)=(0,0)
 ·rw[decide_eq_true e,if_pos e];rfl
 ·rw[decide_eq_false e,if_neg e];rfl
theorem tFul_eq {i:Bool}{x y:Nat}(h:okR (i,x,y)) (K:OR):tFul i x y K=if fulB (i,x,y)=false then cE 3 else K:=by
 unfold tFul;rw[isPt_ptV,req_true rfl,unPt_ptV h]
 cases fulB (i,x,y)<;>rfl
theorem tLb_eq {lab:ByteArray}(h:lab.size<=1000000) (K:OR):tLb lab K=if lblB lab=false then cE 8 else K:=by
 unfold tLb;rw[Nat.ble_eq_true_of_le h,req_true rfl]
 cases lblB lab<;>rfl
theorem tBel_eq {c r:Nat}(hc:c<2^256) (hr:r<2^256) (K:OR):tBel c r K=if ¬(c<pN∧r<pN) then cE 2 else K:=by
 unfold tBel;rw[isPrf_prV,req_true rfl,unPrf_prV hc hr]
 by_cases e:c<pN
 ·by_cases e2:r<pN
  ·rw[decide_eq_true e,decide_eq_true e2,if_neg (not_not_intro ⟨e,e2⟩)];rfl
  ·rw[decide_eq_true e,decide_eq_false e2,if_pos (fun h=>e2 h.2)];rfl
 ·rw[decide_eq_false e,if_pos (fun h=>e h.1)];rfl
theorem toB_pt {n:Nat}{f:Nat->List Value}(h:okP n f=true){j:Nat}(hj:j<n):toB ((f j).headD (.bool false))=(pA f j).1:=by
 have h1:=row_pt h j hj
 have h2:(nrmK kP9 (f j)).headD (.bool false)=.bool (toB ((f j).headD (.bool false))):=by
  cases f j<;>rfl
 rw[h1]at h2
 have h3:Value.bool (pA f j).1=.bool (toB ((f j).headD (.bool false))):=h2
 cases h3;rfl
theorem tCom_eq {n m:Nat}{h:Nat->List Value}(ho:okP m h=true) (K:OR):tCom n m h K=if 8<n∨m<1∨64<m then cE 4 else if alP (pA h) m=false∨(pA h 0).1=true then cE 3 else K:=by
 unfold tCom
 by_cases e1:8<n
 ·rw[decide_eq_true (by omega),if_pos (.inl e1)];rfl
 ·rw[decide_eq_false (by omega),cond_false]
  by_cases e2:m<1
  ·rw[decide_eq_true (by omega),if_pos (.inr (.inl e2))];rfl
  ·rw[decide_eq_false (by omega),cond_false]
   by_cases e3:64<m
   ·rw[decide_eq_true (by omega),if_pos (.inr (.inr e3))];rfl
   ·rw[decide_eq_false (by omega),cond_false,if_neg (by omega),whN_true,okP_sg,ho,req_true (b:=true&&true) rfl,pA_sg,rdR_eq (by omega),toB_pt ho (show 0+0<m by omega)]
    cases ha:alP (pA h) m
    ·rw[if_pos (.inl rfl)];rfl
    ·cases hb:(pA h 0).1
     ·rw[if_neg (by intro h;rcases h with h|h<;>cases h)];rfl
     ·rw[if_pos (.inr rfl)];rfl
theorem cE_if {p:Prop} [Decidable p] (a b:Int):(if p then cE a else cE b)=cE (if p then a else b):=by
 by_cases h:p
 ·rw[if_pos h,if_pos h]
 ·rw[if_neg h,if_neg h]
section
variable {K:RP}{lab:ByteArray}{n m:Nat}{S:Nat->Nat}{h:Nat->List Value}{g:Int}{X:Nat×Nat}
theorem rckT_eq (oK:okR K) (hc:X.1<2^256) (hr:X.2<2^256) (hn:n<=1000) (ho:okP m h=true) (hl:lab.size<=1000000):∀k:Int,rckT k K.1 K.2.1 K.2.2 lab n m h g X.1 X.2=cE (ckE ⟨k,K,lab,n,S,m,pA h,g,X⟩):=by
 obtain ⟨i,x,y⟩:=K
 obtain ⟨c,r⟩:=X
 have hm:=(okP_iff.1 ho).1
 have out:∀k:Int,(k<1∨5<k)->cE (ckE ⟨k,(i,x,y),lab,n,S,m,pA h,g,(c,r)⟩)=cE 19:=by
  intro k hk;unfold ckE;rw[if_pos hk]
 intro k
 match k with
 | .negSucc j=>
  have hk:Int.negSucc j<1:=by omega
  rw[out _ (.inl hk)];unfold rckT;simp only[decide_eq_true hk,cond_true]
 | .ofNat 0=>rw[out _ (.inl (by decide))];rfl
 | .ofNat (j+6)=>
  have hk:Int.ofNat (j+6) > 5:=by show((j+6:Nat):Int) > 5;omega
  rw[out _ (.inr hk)];unfold rckT;simp only[decide_eq_true hk,cond_true]
 | .ofNat 1=>
  unfold rckT;simp only[tLen_eq hn hm,tAg_eq,tPr_eq hc hr,tFul_eq oK,tLb_eq hl,cE_if]
  congr 1
  by_cases p3:(n=0∧m=0)<;>by_cases p4:g=0<;>by_cases p5:(c,r)=((0,0):Nat×Nat)<;>simp[ckE,bare,keyd,prfd,p3,p4,p5]
 | .ofNat 2=>
  unfold rckT;simp only[tNon_eq oK,tLab_eq,tAg_eq,tPr_eq hc hr,tCom_eq ho,cE_if]
  congr 1
  by_cases p1:(i,x,y)=zR<;>by_cases p2:lab=⟨#[]⟩<;>by_cases p4:g=0<;>by_cases p5:(c,r)=((0,0):Nat×Nat)<;>simp[ckE,bare,keyd,prfd,p1,p2,p4,p5]
 | .ofNat 3=>
  have e:∀a:OR,(bif decide (g<1) then cE 1 else bif decide (g > 8) then cE 1 else a)=if g<1∨8<g then cE 1 else a:=by
   intro a
   by_cases e1:g<1
   ·rw[decide_eq_true e1,if_pos (.inl e1)];rfl
   ·by_cases e2:8<g
    ·rw[decide_eq_false e1,decide_eq_true e2,if_pos (.inr e2)];rfl
    ·rw[decide_eq_false e1,decide_eq_false e2,if_neg (by omega)];rfl
  unfold rckT;simp only[tLab_eq,tLen_eq hn hm,tFul_eq oK,tBel_eq hc hr,e,cE_if]
  congr 1
  by_cases p2:lab=⟨#[]⟩<;>by_cases p3:(n=0∧m=0)<;>simp[ckE,bare,keyd,prfd,p2,p3]
 | .ofNat 4=>
  unfold rckT;simp only[tLab_eq,tLen_eq hn hm,tAg_eq,tFul_eq oK,tBel_eq hc hr,cE_if]
  congr 1
  by_cases p2:lab=⟨#[]⟩<;>by_cases p3:(n=0∧m=0)<;>by_cases p4:g=0<;>simp[ckE,bare,keyd,prfd,p2,p3,p4]
 | .ofNat 5=>
  unfold rckT;simp only[tNon_eq oK,tLab_eq,tLen_eq hn hm,tAg_eq,tPr_eq hc hr,cE_if]
  congr 1
  by_cases p1:(i,x,y)=zR<;>by_cases p2:lab=⟨#[]⟩<;>by_cases p3:(n=0∧m=0)<;>by_cases p4:g=0<;>by_cases p5:(c,r)=((0,0):Nat×Nat)<;>simp[ckE,bare,keyd,prfd,p1,p2,p3,p4,p5]
end
end Go.W

namespace Go.W
open Go
def nSk (id j n:Nat):Value:=.slice (some ⟨nid id j,0,none⟩) n n
def rwA (t32 tP id n:Nat) (f:Nat->List Value) (m:Nat) (h:Nat->List Value):List (Nat×Blk):=[(nid id 1,⟨.row kP9 m h,tP,true⟩),(nid id 0,⟨.row k32 n f,t32,true⟩)]
end Go.W

namespace Go.W
open Go
noncomputable def liF (l:List Nat):Nat->List Value:=fun j=>[.int .u8 (hide ((l.getD j 0:Nat):Int))]
theorem bI_li (l:List Nat) (j:Nat):bI (liF l) j=((l.getD j 0:Nat):Int):=by show hide _=_;rw[hide_eq]
def Holds (n:Nat) (f:Nat->List Value) (l:List Nat):Prop:=n=l.length∧∀j,j<n->bI f j=((l.getD j 0:Nat):Int)
theorem rep_li (l:List Nat):Holds l.length (liF l) l:=⟨rfl,fun j _=>bI_li l j⟩
theorem rep_row {n:Nat}{f:Nat->List Value}{l:List Nat}(h:Holds n f l):∀j,j<n->nrmK kB (f j)=nrmK kB (liF l j):=fun j hj=>by rw[nrm_kB,nrm_kB,h.2 j hj,bI_li]
theorem rep_app {n m:Nat}{f g:Nat->List Value}{l k:List Nat}(h:Holds n f l) (h2:Holds m g k):Holds (n+m) (appF n f g) (l++k):=by
 obtain ⟨rfl,h⟩:=h
 obtain ⟨rfl,h2⟩:=h2
 refine⟨List.length_append.symm,fun j hj=>?_⟩
 rw[bI_app]
 by_cases hl:j<l.length
 ·rw[if_pos hl,h j hl,List.getD_eq_getElem?_getD,List.getD_eq_getElem?_getD,List.getElem?_append_left hl]
 ·rw[if_neg hl,h2 _ (by omega),List.getD_eq_getElem?_getD,List.getD_eq_getElem?_getD,List.getElem?_append_right (by omega)]
theorem rep_sg {n:Nat}{f:Nat->List Value}{l:List Nat}(m:Nat) (h:Holds n f l):Holds n (sgF m f) l:=⟨h.1,fun j hj=>by rw[bI_sg];exact h.2 j hj⟩
theorem rep_congr {n:Nat}{f g:Nat->List Value}{l:List Nat}(h:Holds n f l) (e:∀j,j<n->bI g j=bI f j):Holds n g l:=⟨h.1,fun j hj=>(e j hj).trans (h.2 j hj)⟩
def byV (l:List Nat):List Value:=l.map fun x=>.int .u8 ((x:Nat):Int)
theorem rep_lst (l:List Nat):Holds l.length (lstF (byV l) 0 1) l:=by
 refine⟨rfl,fun j hj=>?_⟩
 refine bI_lst ?_
 show(l.map _)[j]?=_
 rw[List.getElem?_map,List.getElem?_eq_getElem hj,List.getD_eq_getElem?_getD,List.getElem?_eq_getElem hj];rfl
def lsB (n:Nat) (f:Nat->List Value):List Nat:=(List.range n).map fun j=>(bI f j).toNat
theorem lsB_len (n:Nat) (f:Nat->List Value):(lsB n f).length=n:=by unfold lsB;rw[List.length_map,List.length_range]
theorem rep_ls {n:Nat}{f:Nat->List Value}(h:okY n f=true):Holds n f (lsB n f):=by
 refine⟨(lsB_len n f).symm,fun j hj=>?_⟩
 have h1:=okY_iff.1 h j hj
 unfold lsB
 rw[List.getD_eq_getElem?_getD,List.getElem?_map,List.getElem?_range hj]
 show bI f j=(((bI f j).toNat:Nat):Int)
 omega
theorem rep_uniq {n m:Nat}{f:Nat->List Value}{l k:List Nat}(h:Holds n f l) (h2:Holds m f k) (e:n=m):l=k:=by
 subst e
 refine List.ext_getElem (by rw[<-h.1,<-h2.1]) fun j h3 h4=>?_
 have a:=h.2 j (by rw[h.1];exact h3)
 have b:=h2.2 j (by rw[h.1];exact h3)
 rw[a]at b
 rw[List.getD_eq_getElem?_getD,List.getElem?_eq_getElem h3,List.getD_eq_getElem?_getD,List.getElem?_eq_getElem h4]at b
 exact Int.ofNat_inj.1 b
theorem rep_eqR {n m:Nat}{f g:Nat->List Value}{l k:List Nat}(h:Holds n f l) (h2:Holds m g k):eqR n f m g=decide (l=k):=by
 rw[Bool.eq_iff_iff,eqR_iff,decide_eq_true_eq]
 constructor
 ·rintro ⟨rfl,e⟩
  refine rep_uniq h (rep_congr h2 fun j hj=>e j hj) rfl
 ·rintro rfl
  have:n=m:=by rw[h.1,h2.1]
  subst this
  exact⟨rfl,fun j hj=>by rw[h.2 j hj,h2.2 j hj]⟩
def beL:Nat->Nat->List Nat
 | 0,_=>[]
 | n+1,X=>beL n (X / 256)++[X%256]
theorem beL_len:∀n X,(beL n X).length=n
 | 0,_=>rfl
 | n+1,X=>by rw[beL,List.length_append,beL_len n];rfl
theorem bytesL_be:∀n X,bytesL n X=byV (beL n X)
 | 0,_=>rfl
 | n+1,X=>by rw[bytesL,beL,bytesL_be n,byV,byV,List.map_append];rfl
theorem beL_byte:∀n X,∀b∈beL n X,b<256
 | 0,_,b,h=>by cases h
 | n+1,X,b,h=>by
  rw[beL]at h
  rcases List.mem_append.1 h with h|h
  ·exact beL_byte n _ b h
  ·rw[List.mem_singleton.1 h];exact Nat.mod_lt _ (by decide)
def deL (l:List Nat):Nat:=l.foldl (fun a b=>a*256+b) 0
theorem deL_snoc (l:List Nat) (b:Nat):deL (l++[b])=deL l*256+b:=by unfold deL;rw[List.foldl_append];rfl
theorem deL_be:∀n X,X<256^n->deL (beL n X)=X
 | 0,X,h=>by simp at h;subst h;rfl
 | n+1,X,h=>by
  rw[beL,deL_snoc,deL_be n _ (by rw[Nat.pow_succ]at h;omega)];omega
theorem be_deL (l:List Nat):∀n,l.length=n->(∀b∈l,b<256)->beL n (deL l)=l∧deL l<256^n:=by
 intro n
 induction n generalizing l with
 | zero=>intro h _;have:l=[]:=List.length_eq_zero_iff.1 h;subst this;exact⟨rfl,by decide⟩
 | succ n ih=>
  intro h hb
  obtain ⟨k,b,rfl⟩:∃k b,l=k++[b]:=⟨l.dropLast,l.getLast (by intro e;subst e;simp at h),(List.dropLast_concat_getLast _).symm⟩
  have hk:k.length=n:=by simpa using h
  obtain ⟨i1,i2⟩:=ih k hk (fun x hx=>hb x (List.mem_append_left _ hx))
  have hb':=hb b (by simp)
  rw[deL_snoc,beL,show(deL k*256+b) / 256=deL k by omega,show(deL k*256+b)%256=b by omega,i1]
  exact⟨rfl,by rw[Nat.pow_succ];omega⟩
def pyB (K:RP):List Nat:=if K.1=true then [0] else (2+K.2.2%2)::beL 32 K.2.1
theorem pyB_len (K:RP):(pyB K).length=pbL K:=by
 unfold pyB pbL;split
 ·rfl
 ·rw[List.length_cons,beL_len]
theorem rep_pb (K:RP):Holds (pbL K) (pbR K) (pyB K):=by
 unfold pyB pbL pbR
 split
 ·exact rep_lst [0]
 ·have h1:Holds 1 (lstF [hdY K.2.2] 0 1) [2+K.2.2%2]:=rep_lst [2+K.2.2%2]
  have h2:Holds 32 (lstF (bytesL 32 K.2.1) 0 1) (beL 32 K.2.1):=by
   rw[bytesL_be]
   have:=rep_lst (beL 32 K.2.1)
   rw[beL_len]at this;exact this
  have h3:=rep_app h1 h2
  rw[List.singleton_append]at h3
  unfold pbF;exact h3
def txB (s:ByteArray):List Nat:=s.data.toList.map UInt8.toNat
theorem txB_len (s:ByteArray):(txB s).length=s.size:=by unfold txB;rw[List.length_map,Array.length_toList];rfl
theorem rep_str (s:ByteArray):Holds s.size (strF s) (txB s):=by
 refine⟨(txB_len s).symm,fun j hj=>?_⟩
 show((s.data.toList.getD j 0).toNat:Int)=_
 unfold txB
 have hl:j<s.data.toList.length:=by rw[Array.length_toList];exact hj
 rw[List.getD_eq_getElem?_getD,List.getD_eq_getElem?_getD,List.getElem?_map,List.getElem?_eq_getElem hl];rfl
def syS (S:Nat->Nat):Nat->List Nat
 | 0=>[]
 | n+1=>syS S n++beL 32 (S n)
theorem syS_len (S:Nat->Nat):∀n,(syS S n).length=32*n
 | 0=>rfl
 | n+1=>by rw[syS,List.length_append,syS_len S n,beL_len];omega
def pyS (V:Nat->RP):Nat->List Nat
 | 0=>[]
 | n+1=>pyS V n++pyB (V n)
def wr0 (a:AR):List Nat:=
 if a.k=1 then 1::(pyB a.K++(beL 4 a.l.size++txB a.l)) else
 if a.k=2 then 2::a.n::(syS a.S a.n++(a.m::pyS a.V a.m)) else
 if a.k=3 then 3::a.g.toNat::(pyB a.K++(beL 32 a.X.1++beL 32 a.X.2)) else
 if a.k=4 then 4::(pyB a.K++(beL 32 a.X.1++beL 32 a.X.2)) else [5]
noncomputable def wrA (a:AR):List Nat:=hide (if ckE a=0 then wr0 a else [])
theorem wrA_ok {a:AR}(h:ckE a=0):wrA a=wr0 a:=by unfold wrA;rw[hide_eq,if_pos h]
theorem wrA_no {a:AR}(h:ckE a≠0):wrA a=[]:=by unfold wrA;rw[hide_eq,if_neg h]
noncomputable def wrL (a:AR):Nat:=hide (wrA a).length
theorem wrL_eq (a:AR):wrL a=(wrA a).length:=by unfold wrL;rw[hide_eq]
noncomputable def BabF (e:Nat):List Value->(Nat->Option Blk)->Nat->List (Bool×Value×List (Nat×Blk))
 | [a],mm,id=>[(isA mm a&&Nat.ble (unA mm a).l.size 1000000,.tuple #[nSl id (wrL (unA mm a)),i64 (ckE (unA mm a))],rw1 e id (wrL (unA mm a)) (liF (wrA (unA mm a))))]
 | _,_,_=>[]
end Go.W

namespace Go.W
open Go.RowKit (Below)
section
variable {P:Program} [Laid P]
theorem msum_atV {g:FuncId}{fn:Func}{c:Code}(hf:P.funcs[g]?=some fn) (hname:(fn.name=="runtime.NumGoroutine")=false) (hb:fn.body=some c){fuel next:Nat}
  {w0:Wb (lay P)}{R:Nat->Pl->Prop}{fm:Nat->Option Blk}{w:World}(hm:MRel w0 R fm w){vs args':List Value}(hl:LR (V2 R) vs args'){mm:Nat->Option Blk}(hsub:∀b blk,mm b=some blk->fm b=some blk){id:Nat}(hlt:id<60000)
  {A:List AV}(hA:AOkX mm vs A) (hnum:numOk ((flatX A 0).map (·.1))=true) (hlen:A.length<=fn.ntmps){v:Value}{l:List (Nat×Blk)}(hl1:l=[]∨∃blk,l=[(nid id 0,blk)])
  (hnew:∀p∈l,(nid id 0<=p.1∧p.1<nid id 8->fm p.1=none)∧(¬(nid id 0<=p.1∧p.1<nid id 8)->(mm p.1).isSome=true))
  (hev0:∀es er,∃C,CfgOk P C c∧C.n=fn.ntmps∧fnMS C fuel fn c (cArgsX A 0) (cMemX es er A) next id=some (v,l)):
  Invokes P g args'.toArray w fun v' w'=>∃R':Nat->Pl->Prop,(∀i p,R i p->R' i p)∧V2 R' v v'∧MRel w0 R' (memF fm l) w':=by
 obtain ⟨hx,hsh⟩:=args_cells hm hsub hA hl
 rw[<-flatX_snd A 0]at hx
 obtain ⟨es,er,pl,hW⟩:=LW_of hnum hx
 have hmC:=callee_relX hm.below.gok hW hnum
 have hargs:LR (V2 (RcL w pl (flatX A 0))) (cArgsX A 0) args':=args_vals hW hsh fun x hx hp=>.inl ⟨x.2,hx,hp,rfl⟩
 obtain ⟨C,hC,hn,hev⟩:=hev0 es er
 exact msum_core2 hf hname hb hm hlt hl1 (fun p hp=>(hnew p hp).1) hmC hargs (by rw[cArgsX_len];exact hlen) hC hn hev
end
end Go.W

namespace Go.W
open Go
def b1 (k:Int):Nat->List Value:=lstF [.int .u8 (IntKind.u8.wrap k)] 0 1
def qN2 (c r:Nat) (K:OR):OR:=req (isNum (num c)) (req (isNum (num r)) K)
def apN {α:Type}(L m:Nat) (K:Option α):Option α:=req (szOk (L+m) 1) (req (Nat.beq L L&&true&&true) K)
theorem apN_eq {α:Type}{L m:Nat}(h:L+m<=2000000) (K:Option α):apN L m K=K:=by
 unfold apN
 rw[szOk_small h,req_true rfl,Nat.beq_refl,req_true (b:=true&&true&&true) rfl]
theorem holds_b1 {k:Nat}(h:k<256):Holds 1 (b1 (k:Int)) [k]:=by
 unfold b1
 rw[wrap_u8,Int.emod_eq_of_lt (by omega) (by omega)]
 exact rep_lst [k]
theorem holds_sl (X:Nat):Holds 32 (lstF (slC X) 0 1) (beL 32 X):=by
 unfold slC
 rw[bytesL_be]
 have:=rep_lst (beL 32 X)
 rw[beL_len]at this;exact this
theorem qN2_eq (c r:Nat) (K:OR):qN2 c r K=K:=by unfold qN2;rw[isNum_num,isNum_num,req_true rfl,req_true rfl]
def l0A (n:Nat):List Nat:=[2,n]
def l1A (n:Nat) (S:Nat->Nat) (m:Nat):List Nat:=(l0A n++syS S n)++[m]
theorem l1A_len (n:Nat) (S:Nat->Nat) (m:Nat):(l1A n S m).length=2+32*n+1:=by
 unfold l1A l0A;rw[List.length_append,List.length_append,syS_len];rfl
def pyL (V:Nat->RP):Nat->Nat
 | 0=>0
 | k+1=>pyL V k+pbL (V k)
theorem pyS_len (V:Nat->RP):∀k,(pyS V k).length=pyL V k
 | 0=>rfl
 | k+1=>by rw[pyS,List.length_append,pyS_len V k,pyB_len];rfl
theorem pyL_le (V:Nat->RP):∀k,pyL V k<=33*k
 | 0=>Nat.le_refl _
 | k+1=>by have:=pyL_le V k;have:=pbL_le (V k);rw[pyL];omega
end Go.W

namespace Go.W
open Go
def Right (a:AR):Prop:=
 (a.k=1∧fulB a.K=true∧lblB a.l=true∧a.n=0∧a.m=0∧a.g=0∧a.X=(0,0))∨
 (a.k=2∧a.K=zR∧a.l=⟨#[]⟩∧a.g=0∧a.X=(0,0)∧a.n<=8∧1<=a.m∧a.m<=64∧alP a.V a.m=true∧(a.V 0).1=false)∨
 (a.k=3∧a.l=⟨#[]⟩∧a.n=0∧a.m=0∧1<=a.g∧a.g<=8∧fulB a.K=true∧a.X.1<pN∧a.X.2<pN)∨
 (a.k=4∧a.l=⟨#[]⟩∧a.n=0∧a.m=0∧a.g=0∧fulB a.K=true∧a.X.1<pN∧a.X.2<pN)∨
 (a.k=5∧a.K=zR∧a.l=⟨#[]⟩∧a.n=0∧a.m=0∧a.g=0∧a.X=(0,0))
theorem ckE_iff {a:AR}:ckE a=0↔Right a:=by
 obtain ⟨k,K,l,n,S,m,V,g,X⟩:=a
 unfold Right
 by_cases hk:k<1∨5<k
 ·constructor
  ·intro h;unfold ckE at h;rw[if_pos hk]at h;cases h
  ·rintro (h|h|h|h|h)<;>(have:=h.1;simp only at this;omega)
 ·have:k=1∨k=2∨k=3∨k=4∨k=5:=by omega
  rcases this with rfl|rfl|rfl|rfl|rfl
  ·simp only[ckE,bare,keyd,prfd]
   by_cases p3:n=0∧m=0<;>by_cases p4:g=0<;>by_cases p5:X=(0,0)<;>cases fulB K<;>cases lblB l<;>simp[p3,p4,p5]<;>(intro e;exact absurd e (fun e=>p3 (by simpa using e)))
  ·simp only[ckE,bare,keyd,prfd]
   by_cases p1:K=zR<;>by_cases p2:l=⟨#[]⟩<;>by_cases p4:g=0<;>by_cases p5:X=(0,0)<;>simp[p1,p2,p4,p5]
   by_cases q1:8<n∨m<1∨64<m
   ·rw[if_pos (by omega)];constructor
    ·intro h;cases h
    ·intro h;omega
   ·rw[if_neg (by omega)]
    cases alP V m<;>cases (V 0).1<;>simp<;>omega
  ·simp only[ckE,bare,keyd,prfd]
   by_cases q:g<1∨8<g
   ·have q2:¬(1<=g∧g<=8):=by omega
    by_cases p2:l=⟨#[]⟩<;>by_cases p3:n=0∧m=0<;>simp[p2,p3,q]<;>(intros;omega)
   ·have q2:1<=g∧g<=8:=by omega
    by_cases r:X.1<pN<;>by_cases r2:X.2<pN<;>by_cases p2:l=⟨#[]⟩<;>by_cases p3:n=0∧m=0<;>cases fulB K<;>simp[p2,p3,q,q2.1,q2.2,r,r2]<;>(intro a b;exact p3 ⟨a,b⟩)
  ·simp only[ckE,bare,keyd,prfd]
   by_cases r:X.1<pN<;>by_cases r2:X.2<pN<;>by_cases p2:l=⟨#[]⟩<;>by_cases p3:n=0∧m=0<;>by_cases p4:g=0<;>cases fulB K<;>simp[p2,p3,p4,r,r2]<;>(intro a b;exact p3 ⟨a,b⟩)
  ·simp only[ckE,bare,keyd,prfd]
   by_cases p1:K=zR<;>by_cases p2:l=⟨#[]⟩<;>by_cases p3:n=0∧m=0<;>by_cases p4:g=0<;>by_cases p5:X=(0,0)<;>simp[p1,p2,p3,p4,p5]<;>(intro a b;exact p3 ⟨a,b⟩)
theorem dW_4 (s:ByteArray) (p:Nat) (h:p<s.size):dW s p<=4:=by
 unfold dW
 rcases decB_cases (b:=byt s) h with⟨e,_⟩|⟨r,w,e,h2,_⟩
 ·rw[e];show 1<=4;omega
 ·rw[e]
  show w<=4
  unfold runeAt at h2;omega
theorem ps_4 (s:ByteArray):∀k,ps s k<=4*k
 | 0=>Nat.le_refl _
 | k+1=>by
  have ih:=ps_4 s k
  rw[ps_succ];unfold stp
  by_cases h:ps s k<s.size
  ·rw[if_pos h];have:=dW_4 s _ h;omega
  ·rw[if_neg h];omega
theorem lbl_size {s:ByteArray}(h:lblB s=true):s.size<=96:=by
 obtain ⟨_,h2,_⟩:=lblB_iff.1 h
 have:=ps_4 s (rN s)
 rw[ps_rN (Nat.le_refl _)]at this;omega
theorem beL4 (k:Nat):beL 4 k=[k / 256 / 256 / 256%256,k / 256 / 256%256,k / 256%256,k%256]:=rfl
theorem holds_pp {m k:Nat}{g p:Nat->List Value}{l q:List Nat}(h:Holds m g l) (h2:Holds k p q) (hk:k<=16384):Holds (ppL m k) (ppR m g k p) (l++(beL 4 k++q)):=by
 obtain ⟨rfl,h⟩:=h
 obtain ⟨rfl,h2⟩:=h2
 have e:ppL l.length q.length=l.length+4+q.length:=by unfold ppL;rw[hide_eq,if_pos hk]
 refine⟨by rw[e,List.length_append,List.length_append,beL_len];omega,fun j hj=>?_⟩
 rw[e]at hj
 rw[bI_pp]
 unfold ppJ pkJ
 by_cases h3:j<l.length
 ·rw[if_pos (by omega),if_pos h3,h j h3,List.getD_eq_getElem?_getD,List.getD_eq_getElem?_getD,List.getElem?_append_left h3]
 ·by_cases h4:j<l.length+4
  ·rw[if_pos h4,if_neg h3,List.getD_eq_getElem?_getD,List.getElem?_append_right (by omega),List.getElem?_append_left (by rw[beL_len];omega),beL4]
   obtain ⟨t,rfl⟩:∃t,j=l.length+t:=⟨j-l.length,by omega⟩
   rw[show l.length+t-l.length=t by omega]
   have ht:t=0∨t=1∨t=2∨t=3:=by omega
   have d8:(2:Nat)^8=256:=by decide
   have d16:(2:Nat)^16=65536:=by decide
   have d24:(2:Nat)^24=16777216:=by decide
   rcases ht with rfl|rfl|rfl|rfl
   ·show((q.length / 2^24%256:Nat):Int)=((q.length / 256 / 256 / 256%256:Nat):Int)
    rw[d24];omega
   ·show((q.length / 2^16%256:Nat):Int)=((q.length / 256 / 256%256:Nat):Int)
    rw[d16];omega
   ·show((q.length / 2^8%256:Nat):Int)=((q.length / 256%256:Nat):Int)
    rw[d8]
   ·show((q.length / 2^0%256:Nat):Int)=((q.length%256:Nat):Int)
    rw[Nat.pow_zero,Nat.div_one]
  ·rw[if_neg h4,h2 _ (by omega),List.getD_eq_getElem?_getD,List.getD_eq_getElem?_getD,List.getElem?_append_right (by omega),List.getElem?_append_right (by rw[beL_len];omega),beL_len,show j-l.length-4=j-(l.length+4) by omega]
theorem holds_pf {L:Nat}{F:Nat->List Value}{l:List Nat}{c r:Nat}(h:Holds L F l) (hc:c<2^256) (hr:r<2^256):Holds (L+32+32) (appF (L+32) (appF L F (lstF (bytesL 32 (unnum (num c))) 0 1)) (lstF (bytesL 32 (unnum (num r))) 0 1)) (l++(beL 32 c++beL 32 r)):=by
 rw[unnum_lt hc,unnum_lt hr]
 have:=rep_app (rep_app h (holds_sl c)) (holds_sl r)
 rw[List.append_assoc]at this;exact this
theorem holds_5 (a:AR) (h:a.k=5):Holds 1 (b1 5) (wr0 a):=by
 have e:wr0 a=[5]:=by unfold wr0;rw[h];rfl
 rw[e];exact holds_b1 (k:=5) (by decide)
theorem holds_pt1 (K:RP){L:Nat}{F:Nat->List Value}{l:List Nat}(h:Holds L F l):Holds (L+pbL K) (appF L F (sgF (pbL K) (pbR K))) (l++pyB K):=rep_app h (rep_sg _ (rep_pb K))
theorem wr0_4 {a:AR}(h:a.k=4):wr0 a=([4]++pyB a.K)++(beL 32 a.X.1++beL 32 a.X.2):=by unfold wr0;rw[h,if_neg (by decide),if_neg (by decide),if_neg (by decide),if_pos rfl,List.append_assoc];rfl
theorem wr0_3 {a:AR}(h:a.k=3):wr0 a=(([3]++[a.g.toNat])++pyB a.K)++(beL 32 a.X.1++beL 32 a.X.2):=by unfold wr0;rw[h,if_neg (by decide),if_neg (by decide),if_pos rfl,List.append_assoc];rfl
theorem wr0_2 {a:AR}(h:a.k=2):wr0 a=l1A a.n a.S a.m++pyS a.V a.m:=by unfold wr0 l1A l0A;rw[h,if_neg (by decide),if_pos rfl,List.append_assoc,List.append_assoc];rfl
theorem wr0_1 {a:AR}(h:a.k=1):wr0 a=([1]++pyB a.K)++(beL 4 a.l.size++txB a.l):=by unfold wr0;rw[h,if_pos rfl,List.append_assoc];rfl
end Go.W

namespace Go.W
open Go.RowKit (Below)
section
variable {GL:Glob}{w0:Wb GL}{R:Nat->Pl->Prop}{fm:Nat->Option Blk}{w:World}
theorem MRel.retell (h:MRel w0 R fm w){i:Nat}{blk0 blk1:Blk}(hi:fm i=some blk0) (h0:∀s pos,blk0≠⟨.itr s pos,0,true⟩) (hown:blk1.own=false) (hmem:MemOk w0 R w i blk1)
  (hin:∀j p q b blk,R i p->R j q->p.a=some b->q.a=some b->i≠j->fm j=some blk->blk.own=true->weak blk1):MRel w0 R (upd fm i blk1) w:=by
 have hx:∀j blk,upd fm i blk1 j=some blk->i≠j->fm j=some blk:=fun j blk hj hne=>by rw[upd_ne _ _ hne]at hj;exact hj
 refine⟨h.below,h.func,?_,?_,?_,h.anc,fun i1 p1 b1 h1 h2=>(h.there i1 p1 b1 h1 h2).mono (fun s pos hs=>by
  have e1:i≠i1:=by
   rintro rfl
   rw[hi]at hs;exact h0 s pos (Option.some.inj hs)
  rw[upd_ne _ _ e1]) rfl,?_⟩
 ·intro i0 j0 p q b h5 h6 ha hb hne blk hblk ho blk' hblk'
  by_cases e1:i=i0
  ·subst e1;rw[upd_same]at hblk;cases hblk;rw[hown]at ho;cases ho
  ·have hblk:=hx _ _ hblk e1
   by_cases e2:i=j0
   ·subst e2;rw[upd_same]at hblk';cases hblk'
    exact hin _ _ _ _ _ h6 h5 hb ha e1 hblk ho
   ·exact h.inj _ _ _ _ _ h5 h6 ha hb hne _ hblk ho _ (hx _ _ hblk' e2)
 ·intro j blk hj
  by_cases e1:i=j
  ·subst e1;rw[upd_same]at hj;cases hj;exact hmem
  ·exact h.mem j blk (hx _ _ hj e1)
 ·intro j p hp hlt
  by_cases e1:i=j
  ·subst e1;rw[upd_same];rfl
  ·rw[upd_ne _ _ e1];exact h.dom j p hp hlt
 ·intro j p hp hge
  obtain ⟨h2,h3⟩:=h.fro j p hp hge
  refine⟨h2,fun k q hk hq blk hblk=>?_⟩
  by_cases e1:i=k
  ·subst e1;rw[upd_same]at hblk;cases hblk;exact hown
  ·exact h3 k q hk hq blk (hx _ _ hblk e1)
theorem MRel.disown (h:MRel w0 R fm w){i:Nat}{ks:List CK}{n:Nat}{f f':Nat->List Value}{e:TypeId}(hi:fm i=some ⟨.row ks n f,e,true⟩) (hf:∀j,j<n->nrmK ks (f j)=nrmK ks (f' j)):MRel w0 R (upd fm i ⟨.row ks n f',e,false⟩) w:=by
 refine h.retell hi (by rintro s pos e;cases e) rfl ?_ ?_
 ·obtain ⟨p,hp,hc⟩:=memOk_row h hi
  refine⟨p,hp,?_⟩
  have hl:rowL ks f 0 n=rowL ks f' 0 n:=rowL_congr ks n 0 fun j _ hj=>hf j (by omega)
  cases hpa:p.a with
  | none=>
   rw[hpa]at hc
   have hc:rowL ks f 0 n=[]:=hc
   exact hl.symm.trans hc
  | some b=>
   rw[hpa]at hc
   obtain ⟨cs,fz,k1,k2,k3⟩:=hc
   have k2:LP R (rowL ks f 0 n) (cs.toList.drop p.d):=k2
   rw[hl]at k2
   exact⟨cs,fz,k1,k2,fun ho=>by cases ho⟩
 ·intro j p q b blk h5 h6 ha hb hne hblk ho
  have:=(h.inj _ _ _ _ _ h6 h5 hb ha (Ne.symm hne) _ hblk ho _ hi).1
  cases this
theorem MRel.asRow (h:MRel w0 R fm w){i j l cnt sz m:Nat}{e0 e:TypeId}{ks:List CK}{g f':Nat->List Value}(hi:fm i=some ⟨.tail j l cnt sz,e0,false⟩) (hj:fm j=some ⟨.row ks m g,e,false⟩) (hsz:ks.length=sz) (hlm:l+cnt<=m) (hij:i≠j)
  (h0:cnt≠0) (hf:∀x,x<cnt->nrmK ks (g (l+x))=nrmK ks (f' x)):MRel w0 R (upd fm i ⟨.row ks cnt f',e,false⟩) w:=by
 obtain ⟨p,q,hp,hq,hcase,_⟩:∃p q,R j p∧R i q∧(cnt=0∨(q.a=p.a∧q.d=p.d+l*sz∧q.c+l<=p.c))∧false=false:=h.mem i _ hi
 obtain ⟨a1,a2,a3⟩:=hcase.resolve_left h0
 obtain ⟨p',hp',hc⟩:=memOk_row h hj
 have:=h.func _ _ _ hp hp';subst this
 have hl:rowL ks g l cnt=rowL ks f' 0 cnt:=by
  have:=rowL_shift ks g l cnt 0
  rw[Nat.add_zero]at this
  rw[<-this]
  exact rowL_congr ks cnt 0 fun x _ hx=>hf x (by omega)
 refine h.retell hi (by rintro s pos e;cases e) rfl ?_ ?_
 ·refine⟨q,hq,?_⟩
  rw[a1]
  cases hpa:p.a with
  | none=>
   rw[hpa]at hc
   have hc:rowL ks g 0 m=[]:=hc
   have h1:=rowL_len ks g m 0
   rw[hc]at h1
   have h2:=rowL_len ks f' cnt 0
   have h3:cnt*ks.length<=m*ks.length:=Nat.mul_le_mul_right _ (by omega)
   have h1:0=m*ks.length:=h1
   exact List.length_eq_zero_iff.1 (by show(rowL ks f' 0 cnt).length=0;omega)
  | some b=>
   obtain ⟨cs,fz,k1,k2,k3,_⟩:=row_cells h hj hp hpa
   refine⟨cs,fz,k1,LP_plain (rowL_pl _ _ _ _) ?_,fun ho=>by cases ho⟩
   show List.take (rowL ks f' 0 cnt).length _=rowL ks f' 0 cnt
   rw[rowL_len,<-hl,a2,<-List.drop_drop,<-hsz]
   have e2:=congrArg (fun z=>(List.drop (l*ks.length) z).take (cnt*ks.length)) k2
   rw[List.drop_take,List.take_take,Nat.min_eq_left (by rw[<-Nat.sub_mul];exact Nat.mul_le_mul_right _ (by omega)),rowL_drop ks g l m 0 (by omega),Nat.zero_add,rowL_take ks g cnt (m-l) l (by omega)]at e2
   exact e2
 ·intro j2 p2 q2 b blk h5 h6 ha hb hne hblk ho
  have:=h.func _ _ _ h5 hq;subst this
  have hja:p.a=some b:=by rw[<-a1];exact ha
  by_cases e1:j2=j
  ·subst e1;rw[hj]at hblk;cases hblk;cases ho
  ·have h7:=(h.inj _ _ _ _ _ h6 hp hb hja e1 _ hblk ho _ hj).2
   have h7:rowL ks g 0 m=[]:=h7
   refine⟨rfl,?_⟩
   have h1:=rowL_len ks g m 0
   rw[h7]at h1
   have h2:=rowL_len ks f' cnt 0
   have h3:cnt*ks.length<=m*ks.length:=Nat.mul_le_mul_right _ (by omega)
   have h1:0=m*ks.length:=h1
   exact List.length_eq_zero_iff.1 (by show(rowL ks f' 0 cnt).length=0;omega)
end
section
variable {P:Program}
theorem invokes_mono {g:FuncId}{args':List Value}{w:World}{A B:Value->World->Prop}(hAB:∀v' w',A v' w'->B v' w') (h:Invokes P g args'.toArray w A):Invokes P g args'.toArray w B:=by
 unfold Invokes at h ⊢
 revert h
 split
 ·exact fun h=>hAB _ _ h
 ·intro h
  refine Calls.mono h ?_
  intro ex w'
  split
  ·exact fun h=>hAB _ _ h
  ·exact fun h=>h
 ·exact fun h=>h
end
end Go.W

namespace Go.W
open Go
def tkB (m:Nat) (a:Int) (bad:Bool) (n:Int):Bool:=!bad&&decide (n<=(m:Int)-a)
noncomputable def tkA (m:Nat) (a:Int) (bad:Bool) (n:Int):Int:=hide (if tkB m a bad n=true then a+n else a)
noncomputable def tkZ (m:Nat) (a:Int) (bad:Bool) (n:Int):Bool:=hide (!tkB m a bad n)
noncomputable def tkF (m:Nat) (g:Nat->List Value) (a:Int) (bad:Bool) (n:Int):Nat->List Value:=fun x=>[.int .u8 (hide (if tkB m a bad n=true then bI g (a.toNat+x) else 0))]
noncomputable def tkE (m:Nat) (a:Int) (bad:Bool) (n:Int) (ej t8:Nat):Nat:=hide (if tkB m a bad n=true then ej else t8)
theorem bI_tk (m:Nat) (g:Nat->List Value) (a:Int) (bad:Bool) (n:Int) (x:Nat):bI (tkF m g a bad n) x=if tkB m a bad n=true then bI g (a.toNat+x) else 0:=by show hide _=_;rw[hide_eq]
def rdL (j m:Nat) (a:Int) (bad:Bool):List Value:=[.slice (some ⟨j,0,none⟩) m m,i64 a,.bool bad]
def zB:Nat->List Value:=fun _=>[.int .u8 0]
def tkQ (tR e i j m m' c:Nat) (ks:List CK) (a:Int):Bool:=Nat.beq e tR&&!(Nat.beq i j)&&!(loose i)&&loose j&&Nat.beq m m'&&Nat.beq m c&&ksEq ks kB&&decide (0<=a)&&decide (a<=(m:Int))&&Nat.ble m 1000000
theorem pick_three {b1 b2 b3:Bool}{v1 v2 v3 u:Value}{l1 l2 l3 m:List (Nat×Blk)}(h:pickM [(b1,v1,l1),(b2,v2,l2),(b3,v3,l3)]=some (u,m)):(b1=true∧u=v1∧m=l1)∨(b2=true∧u=v2∧m=l2)∨(b3=true∧u=v3∧m=l3):=by
 simp only[pickM]at h
 cases b1 with
 | true=>rw[cond_true]at h;cases h;exact .inl ⟨rfl,rfl,rfl⟩
 | false=>
  rw[cond_false]at h
  cases b2 with
  | true=>rw[cond_true]at h;cases h;exact .inr (.inl ⟨rfl,rfl,rfl⟩)
  | false=>
   rw[cond_false]at h
   obtain ⟨h1,h2⟩:=cond_some.1 h
   cases h2;exact .inr (.inr ⟨h1,rfl,rfl⟩)
noncomputable def TakF (tR t8:Nat):List Value->(Nat->Option Blk)->Nat->List (Bool×Value×List (Nat×Blk))
 | [.pointer (some ⟨i,0,none⟩),.int .i64 n],mm,id=>(match mm i with
  | some ⟨.lst [.slice (some ⟨j,0,none⟩) m c,.int .i64 a,.bool bad],e,true⟩=>(match mm j with
   | some ⟨.row ks m' g,ej,false⟩=>
    [(decide (n=0)&&(!bad&&tkQ tR e i j m m' c ks a),.slice (some ⟨nid id 0,0,none⟩) 0 0,[(nid id 0,⟨.tail j a.toNat 0 1,t8,false⟩),(i,⟨.lst (rdL j m a false),tR,true⟩)]),
     (decide (n=0)&&(bad&&tkQ tR e i j m m' c ks a),.slice (some ⟨nid id 0,0,none⟩) 0 0,[(nid id 0,⟨.row kB 0 zB,t8,true⟩),(i,⟨.lst (rdL j m a true),tR,true⟩)]),
     (tkQ tR e i j m m' c ks a&&decide (1<=n)&&decide (n<=100000),
     .slice (some ⟨nid id 0,0,none⟩) n.toNat n.toNat,[(nid id 0,⟨.row kB n.toNat (tkF m g a bad n),tkE m a bad n ej t8,false⟩),(i,⟨.lst (rdL j m (tkA m a bad n) (tkZ m a bad n)),tR,true⟩)])]
   | _=>[])
  | _=>[])
 | _,_,_=>[]
abbrev RR:=Option (Value×List (Nat×Blk)×List Value)
def mkN1 (n:Int):Bool:=decide (n=n)&&decide ((0:Int)<=n)&&szOk n.toNat 1&&true&&true&&true&&true&&true
theorem mkN1_true {n:Int}(h0:0<=n) (h:n<=1000000):mkN1 n=true:=by
 unfold mkN1
 rw[decide_eq_true rfl,decide_eq_true h0,szOk_small (by omega)];rfl
def ob3 (m:Nat):Bool:=(Nat.beq m m&&Nat.beq m m)&&true
theorem ob3_true (m:Nat):ob3 m=true:=by unfold ob3;rw[Nat.beq_refl];rfl
def tkNo (t8 id m:Nat) (a n:Int):RR:=req (mkN1 n) (req (ob3 m) (req (Nat.ble n.toNat n.toNat) (some (.slice (some ⟨nid id 0,0,none⟩) n.toNat n.toNat,[(nid id 0,⟨.row kB n.toNat zB,t8,true⟩)],[i64 a,.bool true]))))
def tkYes (t8 id j m:Nat) (a n:Int):RR:=
 req (decide (0<=IntKind.i64.wrap (a+n))&&decide (IntKind.i64.wrap (a+n)<=(m:Int))) (req (decide (0<=IntKind.i64.wrap (IntKind.i64.wrap (a+n)-n))&&decide (IntKind.i64.wrap (IntKind.i64.wrap (a+n)-n)<=((IntKind.i64.wrap (a+n)).toNat:Int)))
  (req (Nat.ble (IntKind.i64.wrap (a+n)).toNat m) (req (ob3 m) (some (.slice (some ⟨nid id 0,0,none⟩) ((IntKind.i64.wrap (a+n)).toNat-(IntKind.i64.wrap (IntKind.i64.wrap (a+n)-n)).toNat) (m-(IntKind.i64.wrap (IntKind.i64.wrap (a+n)-n)).toNat),
   [(nid id 0,⟨.tail j (IntKind.i64.wrap (IntKind.i64.wrap (a+n)-n)).toNat ((IntKind.i64.wrap (a+n)).toNat-(IntKind.i64.wrap (IntKind.i64.wrap (a+n)-n)).toNat) 1,t8,false⟩)],[i64 (IntKind.i64.wrap (a+n)),.bool false])))))
theorem tkNo_eq {t8 id m:Nat}{a n:Int}(h0:0<=n) (h:n<=1000000):tkNo t8 id m a n=some (.slice (some ⟨nid id 0,0,none⟩) n.toNat n.toNat,[(nid id 0,⟨.row kB n.toNat zB,t8,true⟩)],[i64 a,.bool true]):=by
 unfold tkNo;rw[mkN1_true h0 h,ob3_true,Nat.ble_eq_true_of_le (Nat.le_refl _),req_true rfl,req_true rfl,req_true rfl]
theorem tkYes_eq {t8 id j m:Nat}{a n:Int}(h0:0<=n) (ha:0<=a) (hm:m<=1000000) (h:a+n<=m):tkYes t8 id j m a n=some (.slice (some ⟨nid id 0,0,none⟩) n.toNat (m-a.toNat),[(nid id 0,⟨.tail j a.toNat n.toNat 1,t8,false⟩)],[i64 (a+n),.bool false]):=by
 have w1:IntKind.i64.wrap (a+n)=a+n:=by
  have:=wrap_i64 (n:=a+n) (by omega);exact this
 unfold tkYes
 rw[w1,show a+n-n=a by omega,wrap_i64 (n:=a) (by omega),decide_eq_true (by omega),decide_eq_true (by omega),decide_eq_true (by omega),decide_eq_true (by omega),Nat.ble_eq_true_of_le (by omega),ob3_true,req_true (b:=true&&true) rfl,req_true (b:=true&&true) rfl,req_true rfl,req_true rfl,show(a+n).toNat-a.toNat=n.toNat by omega]
section
variable {R:Nat->Pl->Prop}
theorem V2_cap {x n c c':Nat}{v':Value}(hl:loose x=true) (h:V2 R (.slice (some ⟨x,0,none⟩) n c) v') (hc:c'<=c):V2 R (.slice (some ⟨x,0,none⟩) n c') v':=by
 obtain ⟨p,hp,hs⟩:=V2_slice h
 have key:SlOk ⟨x,0,none⟩ n c' p v':=by
  unfold SlOk at hs ⊢
  rw[if_pos hl]at hs ⊢
  obtain ⟨a,b,c1,d⟩:=hs
  refine⟨a,b,by omega,d⟩
 have h0:V0 R (.slice (some ⟨x,0,none⟩) n c') v':=⟨p,hp,key⟩
 exact V2_of_V0 h0
end
def tkC (m:Nat) (a n:Int):Bool:=Nat.beq m m&&Nat.beq m m&&true&&decide (0<=a)&&decide (a<=(m:Int))&&Nat.ble m 1000000&&decide (1<=n)&&decide (n<=100000)
theorem tkC_true {m:Nat}{a n:Int}(h0:0<=a) (h1:a<=m) (hm:m<=1000000) (hn:1<=n) (hn2:n<=100000):tkC m a n=true:=by
 unfold tkC
 rw[Nat.beq_refl,decide_eq_true h0,decide_eq_true h1,Nat.ble_eq_true_of_le hm,decide_eq_true hn,decide_eq_true hn2];rfl
noncomputable def tkL (m:Nat) (g:Nat->List Value) (a:Int) (bad:Bool) (n:Int):List Nat:=lsB n.toNat (tkF m g a bad n)
theorem okY_tk {m:Nat}{g:Nat->List Value}(h:okY m g=true){a:Int}(ha:0<=a){bad:Bool}{n:Int}:okY n.toNat (tkF m g a bad n)=true:=by
 rw[okY_iff]
 intro j hj
 rw[bI_tk]
 by_cases hb:tkB m a bad n=true
 ·rw[if_pos hb]
  unfold tkB at hb
  rw[Bool.and_eq_true,decide_eq_true_eq]at hb
  exact okY_iff.1 h _ (by omega)
 ·rw[if_neg hb];omega
theorem lsB_byte {n:Nat}{f:Nat->List Value}(h:okY n f=true):∀b∈lsB n f,b<256:=by
 intro b hb
 unfold lsB at hb
 obtain ⟨j,hj,rfl⟩:=List.mem_map.1 hb
 have:=okY_iff.1 h j (List.mem_range.1 hj);omega
def v32 (f:Nat->List Value):Value:=.agg (rowL kB f 0 32).toArray
theorem rowL_ls {n:Nat}{f:Nat->List Value}(h:okY n f=true):∀k lo,lo+k<=n->rowL kB f lo k=byV ((List.range' lo k).map fun j=>(bI f j).toNat)
 | 0,_,_=>rfl
 | k+1,lo,hk=>by
  rw[rowL,rowL_ls h k (lo+1) (by omega),List.range'_succ,List.map_cons,nrm_kB]
  have:=okY_iff.1 h lo (by omega)
  show[Value.int .u8 (bI f lo)]++_=.int .u8 (((bI f lo).toNat:Nat):Int)::_
  rw[Int.toNat_of_nonneg this.1];rfl
theorem v32_eq {f:Nat->List Value}(h:okY 32 f=true):v32 f=bytesV (deL (lsB 32 f))∧deL (lsB 32 f)<2^256:=by
 have e:=rowL_ls h 32 0 (by omega)
 have h1:=be_deL (lsB 32 f) 32 (lsB_len 32 f) (lsB_byte h)
 have p:(256:Nat)^32=2^256:=by decide
 refine⟨?_,by rw[<-p];exact h1.2⟩
 unfold v32 bytesV
 rw[e,bytesL_be,h1.1]
 unfold lsB
 rw[List.range_eq_range']
noncomputable def rnN (m:Nat) (g:Nat->List Value) (a:Int) (bad:Bool):Nat:=hide (deL (tkL m g a bad 32))
noncomputable def NurF (tR:Nat):List Value->(Nat->Option Blk)->Nat->List (Bool×Value×List (Nat×Blk))
 | [.pointer (some ⟨i,0,none⟩)],mm,_=>(match mm i with
  | some ⟨.lst [.slice (some ⟨j,0,none⟩) m c,.int .i64 a,.bool bad],e,true⟩=>(match mm j with
   | some ⟨.row ks m' g,_,false⟩=>[(Nat.beq e tR&&!(Nat.beq i j)&&!(loose i)&&loose j&&Nat.beq m m'&&Nat.beq m c&&ksEq ks kB&&decide (0<=a)&&decide (a<=(m:Int))&&Nat.ble m 1000000&&okY m g,
     num (rnN m g a bad),[(i,⟨.lst (rdL j m (tkA m a bad 32) (tkZ m a bad 32)),tR,true⟩)])]
   | _=>[])
  | _=>[])
 | _,_,_=>[]
noncomputable def nurT (m:Nat) (g:Nat->List Value) (a:Int) (bad:Bool):RR:=
 req (tkC m a 32) (req (isB32 (v32 (tkF m g a bad 32))) (req (ob3 m) (some (num (unbytes (v32 (tkF m g a bad 32))),[],[i64 (tkA m a bad 32),.bool (tkZ m a bad 32)]))))
theorem nurT_eq {m:Nat}{g:Nat->List Value}{a:Int}{bad:Bool}(h0:0<=a) (h1:a<=m) (hm:m<=1000000) (hg:okY m g=true):nurT m g a bad=some (num (rnN m g a bad),[],[i64 (tkA m a bad 32),.bool (tkZ m a bad 32)]):=by
 obtain ⟨e,hl⟩:=v32_eq (okY_tk hg h0 (bad:=bad) (n:=32))
 unfold nurT rnN
 rw[tkC_true h0 h1 hm (by decide) (by decide),req_true rfl,e,isB32_bytesV,req_true rfl,ob3_true,req_true rfl,unbytes_bytesV,Nat.mod_eq_of_lt hl,hide_eq];rfl
theorem tkA_le {m:Nat}{a:Int}{bad:Bool}{n:Int}(h0:0<=a) (h1:a<=m) (hn:0<=n):0<=tkA m a bad n∧tkA m a bad n<=m:=by
 unfold tkA;rw[hide_eq]
 by_cases hb:tkB m a bad n=true
 ·rw[if_pos hb]
  unfold tkB at hb
  rw[Bool.and_eq_true,decide_eq_true_eq]at hb
  omega
 ·rw[if_neg hb];exact⟨h0,h1⟩
noncomputable def p1F (m:Nat) (g:Nat->List Value) (a:Int) (bad:Bool):Nat->List Value:=lstF [.int .u8 (bI (tkF m g a bad 1) (0+0))] 0 1
noncomputable def p33 (m:Nat) (g:Nat->List Value) (a:Int) (bad:Bool):Nat->List Value:=sgF 33 (appF 1 (p1F m g a bad) (sgF 32 (tkF m g (tkA m a bad 1) (tkZ m a bad 1) 32)))
noncomputable def rpR (m:Nat) (g:Nat->List Value) (a:Int) (bad:Bool):RP×Int×Bool:=
 hide (if bI (tkF m g a bad 1) 0≠0∨tkZ m a bad 1=true then ((rdS 33 (p33 m g a bad)).1,tkA m (tkA m a bad 1) (tkZ m a bad 1) 32,tkZ m (tkA m a bad 1) (tkZ m a bad 1) 32||(rdS 33 (p33 m g a bad)).2 != 0)
  else ((rdS 1 (p1F m g a bad)).1,tkA m a bad 1,tkZ m a bad 1||(rdS 1 (p1F m g a bad)).2 != 0))
noncomputable def PorF (tR:Nat):List Value->(Nat->Option Blk)->Nat->List (Bool×Value×List (Nat×Blk))
 | [.pointer (some ⟨i,0,none⟩)],mm,_=>(match mm i with
  | some ⟨.lst [.slice (some ⟨j,0,none⟩) m c,.int .i64 a,.bool bad],e,true⟩=>(match mm j with
   | some ⟨.row ks m' g,_,false⟩=>[(Nat.beq e tR&&!(Nat.beq i j)&&!(loose i)&&loose j&&Nat.beq m m'&&Nat.beq m c&&ksEq ks kB&&decide (0<=a)&&decide (a<=(m:Int))&&Nat.ble m 1000000&&okY m g,
     ptV (rpR m g a bad).1,[(i,⟨.lst (rdL j m (rpR m g a bad).2.1 (rpR m g a bad).2.2),tR,true⟩)])]
   | _=>[])
  | _=>[])
 | _,_,_=>[]
noncomputable def porE (m:Nat) (z:Bool) (a:Int) (X:RP×Int):RR:=bif z then req (ob3 m) (some (ptV X.1,[],[i64 a,.bool true])) else req (ob3 m) (some (ptV X.1,[],[i64 a,.bool (X.2 != 0)]))
noncomputable def por33 (m:Nat) (g:Nat->List Value) (a:Int) (bad:Bool):RR:=
 req (tkC m (tkA m a bad 1) 32) (req (rdOk 33 (p33 m g a bad)) (porE m (tkZ m (tkA m a bad 1) (tkZ m a bad 1) 32) (tkA m (tkA m a bad 1) (tkZ m a bad 1) 32) (rdS 33 (p33 m g a bad))))
noncomputable def porT (m:Nat) (g:Nat->List Value) (a:Int) (bad:Bool):RR:=
 req (tkC m a 1) (bif bI (tkF m g a bad 1) (0+0) != 0 then por33 m g a bad else bif tkZ m a bad 1 then por33 m g a bad else porE m (tkZ m a bad 1) (tkA m a bad 1) (rdS 1 (p1F m g a bad)))
theorem porE_eq (m:Nat) (z:Bool) (a:Int) (X:RP×Int):porE m z a X=some (ptV X.1,[],[i64 a,.bool (z||X.2 != 0)]):=by
 unfold porE;rw[ob3_true,req_true rfl,req_true rfl];cases z<;>rfl
theorem okY_33 {m:Nat}{g:Nat->List Value}(h:okY m g=true){a:Int}(h0:0<=a) (h1:a<=m) (bad:Bool):okY 33 (p33 m g a bad)=true:=by
 have k1:=okY_iff.1 (okY_tk h h0 (bad:=bad) (n:=1))
 have k2:=okY_iff.1 (okY_tk h (tkA_le h0 h1 (by decide)).1 (bad:=tkZ m a bad 1) (n:=32) (a:=tkA m a bad 1))
 rw[okY_iff]
 intro j hj
 unfold p33
 rw[bI_sg,bI_app]
 by_cases hj1:j<1
 ·rw[if_pos hj1]
  have:j=0:=by omega
  subst this
  unfold p1F
  rw[bI_lst (x:=bI (tkF m g a bad 1) (0+0)) rfl]
  exact k1 0 (by decide)
 ·rw[if_neg hj1,bI_sg]
  exact k2 (j-1) (by show j-1<32;omega)
theorem b32_okA {f:Nat->List Value}(h:okY 33 f=true):isB32 (b32V f)=true∧unbytes (b32V f)=deL ((List.range' 1 32).map fun j=>(bI f j).toNat):=by
 have e:=rowL_ls h 32 1 (by omega)
 have hl:((List.range' 1 32).map fun j=>(bI f j).toNat).length=32:=by rw[List.length_map,List.length_range']
 have hb:∀b∈((List.range' 1 32).map fun j=>(bI f j).toNat),b<256:=by
  intro b hb
  obtain ⟨j,hj,rfl⟩:=List.mem_map.1 hb
  have:=okY_iff.1 h j (by have:=List.mem_range'_1.1 hj;omega);omega
 have h1:=be_deL _ 32 hl hb
 have p:(256:Nat)^32=2^256:=by decide
 have e2:b32V f=bytesV (deL ((List.range' 1 32).map fun j=>(bI f j).toNat)):=by
  unfold b32V bytesV
  rw[e,bytesL_be,h1.1]
 rw[e2]
 exact⟨isB32_bytesV _,by rw[unbytes_bytesV,Nat.mod_eq_of_lt (p▸h1.2)]⟩
theorem porT_eq {m:Nat}{g:Nat->List Value}{a:Int}{bad:Bool}(h0:0<=a) (h1:a<=m) (hm:m<=1000000) (hg:okY m g=true):porT m g a bad=some (ptV (rpR m g a bad).1,[],[i64 (rpR m g a bad).2.1,.bool (rpR m g a bad).2.2]):=by
 have hA:=tkA_le (m:=m) (bad:=bad) (n:=1) h0 h1 (by decide)
 have e33:por33 m g a bad=some (ptV (rdS 33 (p33 m g a bad)).1,[],[i64 (tkA m (tkA m a bad 1) (tkZ m a bad 1) 32),.bool (tkZ m (tkA m a bad 1) (tkZ m a bad 1) 32||(rdS 33 (p33 m g a bad)).2 != 0)]):=by
  unfold por33 rdOk
  rw[tkC_true hA.1 hA.2 hm (by decide) (by decide),req_true rfl,(b32_okA (okY_33 hg h0 h1 bad)).1,Bool.or_true,req_true rfl,porE_eq]
 unfold porT
 rw[tkC_true h0 h1 hm (by decide) (by decide),req_true rfl,porE_eq,e33]
 unfold rpR
 rw[hide_eq]
 by_cases c1:bI (tkF m g a bad 1) 0=0
 ·rw[show(bI (tkF m g a bad 1) (0+0) != 0)=false from by rw[bne_eq_false_iff_eq];exact c1,cond_false]
  cases c2:tkZ m a bad 1
  ·rw[cond_false,if_neg (by rintro (h|h);exact h c1;cases h)]
  ·rw[cond_true,if_pos (.inr rfl)]
 ·rw[show(bI (tkF m g a bad 1) (0+0) != 0)=true from bne_iff_ne.2 c1,cond_true,if_pos (.inl c1)]
end Go.W

namespace Go.W
theorem ck_aff {r:RP}(h:ckR r=true) (hi:r.1=false):toPt r=.aff (zP r.2.1) (zP r.2.2)∧r.2.1<pP∧r.2.2<pP:=by
 obtain ⟨i,X,Y⟩:=r
 simp only at hi
 subst hi
 unfold ckR at h
 rw[if_neg Bool.false_ne_true]at h
 obtain ⟨hX,hY,_⟩:=(show X<pP∧Y<pP∧_ from of_decide_eq_true h)
 exact⟨rfl,hX,hY⟩
end Go.W

namespace Go.W
def hdF (c:Int) (X:Nat):Nat->List Value:=pbF (.int .u8 c) (bytesL 32 X)
theorem hdF_b (c:Int) (X:Nat):b32V (hdF c X)=bytesV X:=by kernel_rfl
theorem hdF_0 (c:Int) (X:Nat):bI (hdF c X) 0=c:=by kernel_rfl
theorem rdS_hd {c:Int}{X:Nat}(hX:lt6 X) (hc:c=2∨c=3):rdS 33 (hdF c X)=rdX X c:=by
 unfold rdS
 rw[hide_eq,hdF_0,hdF_b,unbytes_bytesV,Nat.mod_eq_of_lt hX,if_neg (fun h=>absurd h.1 (by decide)),if_pos ⟨rfl,hc⟩]
def ptyF (p:Value):Nat->List Value:=pbF (hdY (unPt p).2.2) (bytesL 32 (unPt p).2.1)
theorem bI_hd (Y:Nat) (l:List Value):bI (pbF (hdY Y) l) 0=((2+Y%2:Nat):Int):=rfl
end Go.W
