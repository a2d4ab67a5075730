/-
  Several texts in one: Vc W45 M127 Yo M125 M126 M128 M129 M130 Yp M131 M132 Yr M111 Yi M112 M113 M92 M115 M79 M117 M118 Yn.
-/
import Derived.Test.YtckbmhegopjnmaaZg
namespace Go.Proofs.Ytckbmhegopjnmaa
set_option maxRecDepth 100000
open Go.W
def iszC:Cfg:=⟨tab,[],9,[]⟩
theorem iszOk:CfgOk Try.prog iszC (bodyOf Try.f73):=⟨mixed,tabOk,sums_nil,noL⟩
theorem isz_ev (s:Int):fnS iszC 60 Try.f73 (bodyOf Try.f73) [i64 s]=bif decide (1<=s) then some (.bool (decide (s<=7))) else some (.bool false):=by kernel_rfl
theorem isz_sum:Sum Try.prog 73 IszF:=by
 refine sum_of iszOk Try.func73 (by kernel_rfl) (by kernel_rfl) rfl (fuel:=60) fun args v h hpl=>?_
 unfold IszF at h
 split at h
 ·simp only[Option.some.injEq,Prod.mk.injEq] at h
  rename_i s
  obtain ⟨_,rfl⟩:=h
  refine⟨by show 1<=Try.f73.ntmps;decide +kernel,(isz_ev s).trans ?_,rfl⟩
  cases decide (1<=s)<;>rfl
 ·simp at h
def copC:Cfg:=⟨tab,[],17,[]⟩
theorem copOk:CfgOk Try.prog copC (bodyOf Try.f71):=⟨mixed,tabOk,sums_nil,noL⟩
theorem cop_ev (m:Nat) (g:Nat->List Value) (k:Int) (es:Nat->Nat) (id:Nat):fnMS copC 60 Try.f71 (bodyOf Try.f71) (cArgs [.sl kB m g,.pl (i64 k)] 0) (cMem es [.sl kB m g,.pl (i64 k)] 0) 0 id =
  req (mkC (m:Int) (IntKind.i64.wrap ((m:Int)+k))) (req (kb3 m) (req (kb3 m) (req (Nat.ble m m) (some (nSl id m,rw1 5 id m (cpR m g)))))):=by kernel_rfl
theorem cop_msum:MSum Try.prog 71 (CopF 5):=by
 refine msum_of copOk Try.func71 (by kernel_rfl) (by kernel_rfl) rfl (fuel:=60) (next:=0) fun vs mm id v l hpick hlt=>?_
 unfold CopF at hpick
 split at hpick
 ·rename_i b k
  obtain ⟨hc,rfl,rfl⟩:=pick_one hpick
  simp only[Bool.and_eq_true,decide_eq_true_eq] at hc
  obtain ⟨ha,hm,h0,h1⟩:=hc
  generalize hqa:srcB mm kB b=qa at ha hm ⊢
  obtain ⟨ok1,m,g⟩:=qa
  simp only at ha hm ⊢
  subst ha
  have hm:=Nat.le_of_ble_eq_true hm
  refine⟨[.sl kB m g,.pl (i64 k)],⟨hqa,rfl,rfl,trivial⟩,by show 2<=Try.f71.ntmps;decide +kernel,.inr ⟨_,rfl⟩,fun es=>?_⟩
  refine(cop_ev m g k es id).trans ?_
  rw[mkC_true h0 (by omega),req_true rfl,kb3_true,req_true rfl,req_true rfl,bE (Nat.le_refl _),req_true rfl]
 ·simp[pickM] at hpick
def laiC0:Cfg:=⟨tab,[],23,[]⟩
theorem laiOk0:CfgOk Try.prog laiC0 (bodyOf Try.f70):=⟨mixed,tabOk,sums_nil,noL⟩
theorem lai_at:codeAt [1,0,1,0] (bodyOf Try.f70)=some (.loop (loopAt [1,0,1,0] (bodyOf Try.f70))):=by kernel_rfl
def laiNt:List Nat:=[0,1,7]
def laiNi:Ren:=[(999999,nid 13 0),(1400000,1400000)]
def laiEi:Ren:=[(999999,999999),(1400000,1400000)]
def laiSt (n:Int) (L:Nat) (F:Nat->List Value) (i:Int):St:=⟨[(0,.slice (some ⟨999999,0,none⟩) L L),(1,i64 n),(7,i64 i)],[(999999,⟨.row kB L F,5,true⟩),(1400000,⟨.lst [],5,false⟩)],4⟩
theorem lai_r (n:Int) (L:Nat) (F:Nat->List Value) (i:Int):roundS laiC0 60 [1,0,1,0,0] (loopAt [1,0,1,0] (bodyOf Try.f70)) laiNt laiNi 4 laiNt laiEi 4 (laiSt n L F i) =
  bif decide (i>=0) then bif decide (IntKind.i64.wrap (8*i)<0) then none else apB L (some (.normal,laiSt n (L+1) (appF L F (lstF [.int .u8 (IntKind.u8.wrap (iShr .i64 n (IntKind.i64.wrap (8*i))))] 0 1)) (IntKind.i64.wrap (i - 1))))
  else some (.exit 0,laiSt n L F i):=by kernel_rfl
theorem lai_loop {m:Nat} {g:Nat->List Value} {n s:Int} (hm:m<=900000) (hok:pkOk n s):LoopOk Try.prog 23 (loopAt [1,0,1,0] (bodyOf Try.f70)) (atSt laiNt laiEi 4 (laiSt n m (pkR m g n s) (s - 1)) (.exit 0) (laiSt n (m+s.toNat) (pkR m g n s) (-1))):=by
 obtain ⟨h1,h7,hn,_⟩:=hok
 refine loopE (fun _=>laiC0) s.toNat (fun _ _=>laiOk0) (fun _=>rfl) lai_at (m:=60) (nt:=laiNt) (ni:=laiNi) (et:=laiNt) (ei:=laiEi) (nx:=4) (ex:=4) (fun k=>laiSt n (m+k) (pkR m g n s) (s - 1 - (k:Int))) (by show laiSt _ _ _ _=laiSt _ _ _ _;rw[Nat.add_zero,Int.natCast_zero,Int.sub_zero]) (by intro h;cases h) ?_ ?_
 ·intro k hk
  have hi:s - 1 - (k:Int)=((s.toNat - 1 - k:Nat):Int):=by omega
  refine⟨_,?_,stEq_mk (sl:=[(0,.slice (some ⟨999999,0,none⟩) (m+k+1) (m+k+1)),(1,i64 n),(7,i64 (s - 1 - ((k+1:Nat):Int)))]) rfl (mRow (pk_step m g n s k) (mSame rfl mNil))⟩
  refine(lai_r n (m+k) _ _).trans ?_
  rw[decide_eq_true (by omega),cond_true,hi,sh8i (by omega),decide_eq_false (by omega),cond_false,apB_eq (by omega),<-sh8i (show s.toNat - 1 - k<=7 by omega),byt_i hn (by omega),wrap_i64 (by omega),show((s.toNat - 1 - k:Nat):Int) - 1=s - 1 - ((k+1:Nat):Int) from by omega];rfl
 ·refine⟨_,?_,stEq_refl rfl⟩
  refine(lai_r n (m+s.toNat) _ _).trans ?_
  rw[show s - 1 - ((s.toNat:Nat):Int)=-1 from by omega,decide_eq_false (by omega),cond_false]
noncomputable def laiC (n:Int) (m:Nat) (F:Nat->List Value) (s:Int) (L:Nat):Cfg:=⟨tab,[],23,[([1,0,1,0],atSt laiNt laiEi 4 (laiSt n m F (s - 1)) (.exit 0) (laiSt n L F (-1)))]⟩
theorem lai_ev (m:Nat) (g:Nat->List Value) (n s:Int) (F:Nat->List Value) (L:Nat) (es:Nat->Nat):fnT (laiC n m F s L) 60 Try.f70 (bodyOf Try.f70) (.slice (some ⟨999999,0,none⟩) m m::cArgs [.pl (i64 n),.pl (i64 s)] 1) ((999999,⟨.row kB m g,5,true⟩)::(1400000,⟨.lst [],5,false⟩)::cMem es [.pl (i64 n),.pl (i64 s)] 1) 0 5 =
  req (stEq (laiSt n m g (IntKind.i64.wrap (s - 1))) (laiSt n m F (s - 1))) (req (Nat.ble L L&&Nat.beq L L&&true) (some (L,⟨.row kB L F,5,true⟩))):=by kernel_rfl
theorem lai_msum:MSum Try.prog 70 (LaiF 5):=by
 intro w0 R fm w hm vs args' hl mm hsub id hlt v l hpick hnew
 unfold LaiF at hpick
 split at hpick
 ·rename_i b n s
  obtain ⟨hc,rfl,rfl⟩:=pick_one hpick
  simp only[Bool.and_eq_true] at hc
  obtain ⟨ha,hle,hok⟩:=hc
  generalize hqa:srcW mm kB 5 b=qa at ha hle hnew ⊢
  obtain ⟨ok1,i,m,g⟩:=qa
  simp only at ha hle hnew ⊢
  subst ha
  have hle:=Nat.le_of_ble_eq_true hle
  have hok:=pkB_iff.1 hok
  refine msum_take (c:=bodyOf Try.f70) (fuel:=60) (next:=0) Try.func70 (by kernel_rfl) (by kernel_rfl) hm hl hsub hlt hqa (A:=[.pl (i64 n),.pl (i64 s)]) ⟨rfl,rfl,rfl,rfl,trivial⟩ rfl (by show 3<=Try.f70.ntmps;decide +kernel) (new_free hnew) (fun es=>?_)
  refine⟨laiC n m (pkR m g n s) s (m+s.toNat),⟨mixed,tabOk,sums_nil,oneL (lai_loop hle hok)⟩,rfl,?_⟩
  refine(lai_ev m g n s _ _ es).trans ?_
  rw[wrap_i64 (by have:=hok.1;have:=hok.2.1;omega)]
  refine(req_true (stEq_mk (sl:=[(0,.slice (some ⟨999999,0,none⟩) m m),(1,i64 n),(7,i64 (s - 1))]) rfl (mRow (pk_id m g n s) (mSame rfl mNil)))).trans ?_
  rw[bE (Nat.le_refl _),Nat.beq_refl,req_true (b:=true&&true&&true) rfl]
 ·simp[pickM] at hpick
noncomputable def gbtS:Sums:=[(73,IszF)]
theorem gbtS_ok:SumsOk Try.prog gbtS:=sums_cons isz_sum sums_nil
noncomputable def gbtC0:Cfg:=⟨tab,gbtS,50,[]⟩
theorem gbtOk0:CfgOk Try.prog gbtC0 (bodyOf Try.f50):=⟨mixed,tabOk,gbtS_ok,noL⟩
theorem gbt_at:codeAt [1,1,1,1,0,1,0] (bodyOf Try.f50)=some (.loop (loopAt [1,1,1,1,0,1,0] (bodyOf Try.f50))):=by kernel_rfl
def gbtNt:List Nat:=[6,7,36,37,38]
def gbtNi:Ren:=[(1500000,1500000),(nid 29 0,nid 29 0)]
def gbtSt (m:Nat) (g:Nat->List Value) (e0 l c:Nat) (q x i:Int):St:=⟨[(6,i64 x),(7,i64 q),(36,.slice (some ⟨nid 29 0,0,none⟩) c (m - l)),(37,i64 ((c:Nat):Int)),(38,i64 i)],[(1500000,⟨.row kB m g,e0,false⟩),(nid 29 0,⟨.tail 1500000 l c 1,5,false⟩)],32⟩
theorem gbt_r (m:Nat) (g:Nat->List Value) (e0 l c:Nat) (q x i:Int):roundS gbtC0 60 [1,1,1,1,0,1,0,0] (loopAt [1,1,1,1,0,1,0] (bodyOf Try.f50)) gbtNt gbtNi 32 gbtNt gbtNi 32 (gbtSt m g e0 l c q x i) =
  bif decide (i<((c:Nat):Int)) then bdT i l c m (some (.normal,gbtSt m g e0 l c q (iOr .i64 (iShl .i64 x 8) (IntKind.i64.wrap (bI g (l+i.toNat)))) (IntKind.i64.wrap (i+1)))) else some (.exit 0,gbtSt m g e0 l c q x i):=by kernel_rfl
theorem gbt_loop {m:Nat} {g:Nat->List Value} {e0:Nat} {a s:Int} (hg:∀j,j<m->0<=bI g j∧bI g j<256) (hok:gtE0 m a s=0):LoopOk Try.prog 50 (loopAt [1,1,1,1,0,1,0] (bodyOf Try.f50)) (atSt gbtNt gbtNi 32 (gbtSt m g e0 a.toNat s.toNat (a+s) 0 0) (.exit 0) (gbtSt m g e0 a.toNat s.toNat (a+s) ((gtV g a.toNat s.toNat:Nat):Int) s)):=by
 obtain ⟨h1,h7,ha,hs⟩:=gtE0_ok hok
 refine loopE (fun _=>gbtC0) s.toNat (fun _ _=>gbtOk0) (fun _=>rfl) gbt_at (m:=60) (nt:=gbtNt) (ni:=gbtNi) (et:=gbtNt) (ei:=gbtNi) (nx:=32) (ex:=32) (fun k=>gbtSt m g e0 a.toNat s.toNat (a+s) ((gtV g a.toNat k:Nat):Int) (k:Int)) rfl (by intro h;cases h) ?_ ?_
 ·intro k hk
  refine⟨_,?_,stEq_refl rfl⟩
  refine(gbt_r m g e0 a.toNat s.toNat (a+s) _ _).trans ?_
  have hx:gtV g a.toNat k<2^(8*k):=gtV_lt hg (a:=a.toNat) k (by omega)
  have hx:gtV g a.toNat k<281474976710656:=Nat.lt_of_lt_of_le hx (Nat.le_trans (Nat.pow_le_pow_right (by decide) (show 8*k<=48 by omega)) (by decide))
  have hb:=hg (a.toNat+k) (by omega)
  have hc:bI g (a.toNat+k)=(((bI g (a.toNat+k)).toNat:Nat):Int):=by omega
  rw[decide_eq_true (by omega),cond_true,bdT_eq hk (by omega),Int.toNat_natCast,hc,get8 hx (by omega),wrap_i64 (by omega)];rfl
 ·refine⟨_,?_,stEq_refl rfl⟩
  refine(gbt_r m g e0 a.toNat s.toNat (a+s) _ _).trans ?_
  rw[decide_eq_false (by omega),cond_false,show((s.toNat:Nat):Int)=s from by omega]
noncomputable def gbtC (m:Nat) (g:Nat->List Value) (e0 l c:Nat) (q x s:Int):Cfg:=⟨tab,gbtS,50,[([1,1,1,1,0,1,0],atSt gbtNt gbtNi 32 (gbtSt m g e0 l c q 0 0) (.exit 0) (gbtSt m g e0 l c q x s))]⟩
theorem gbt_ev (m:Nat) (g:Nat->List Value) (a s:Int) (l c:Nat) (q x:Int) (es:Nat->Nat) (id:Nat):fnMS (gbtC m g (es 0) l c q x s) 60 Try.f50 (bodyOf Try.f50) (cArgs [.sl kB m g,.pl (i64 a),.pl (i64 s)] 0) (cMem es [.sl kB m g,.pl (i64 a),.pl (i64 s)] 0) 0 id =
  gtT2 m a s (paT m a (IntKind.i64.wrap (a+s)) (req (stEq (gbtSt m g (es 0) a.toNat ((IntKind.i64.wrap (a+s)).toNat - a.toNat) (IntKind.i64.wrap (a+s)) 0 0) (gbtSt m g (es 0) l c q 0 0)) (some (.tuple #[i64 x,i64 q,i64 0],[])))):=by kernel_rfl
theorem gbt_evN (m:Nat) (g:Nat->List Value) (a s:Int) (es:Nat->Nat) (id:Nat):fnMS ⟨tab,gbtS,50,[([1,1,1,1,0,1,0],fun _=>[])]⟩ 60 Try.f50 (bodyOf Try.f50) (cArgs [.sl kB m g,.pl (i64 a),.pl (i64 s)] 0) (cMem es [.sl kB m g,.pl (i64 a),.pl (i64 s)] 0) 0 id =
  gtT2 m a s (paT m a (IntKind.i64.wrap (a+s)) none):=by kernel_rfl
theorem get_msum:MSum Try.prog 50 GetF:=by
 intro w0 R fm w hm vs args' hl mm hsub id hlt v l hpick hnew
 unfold GetF at hpick
 split at hpick
 ·rename_i b a s
  obtain ⟨hc,rfl,rfl⟩:=pick_one hpick
  simp only[Bool.and_eq_true] at hc
  obtain ⟨ha,hy,hle⟩:=hc
  generalize hqa:srcB mm kB b=qa at ha hy hle ⊢
  obtain ⟨ok1,m,g⟩:=qa
  simp only at ha hy hle ⊢
  subst ha
  have hle:=Nat.le_of_ble_eq_true hle
  have hy:=okY_iff.1 hy
  have hA:AOk mm [b,i64 a,i64 s] [.sl kB m g,.pl (i64 a),.pl (i64 s)]:=⟨hqa,rfl,rfl,rfl,rfl,trivial⟩
  refine msum_at (c:=bodyOf Try.f50) (fuel:=60) (next:=0) Try.func50 (by kernel_rfl) (by kernel_rfl) hm hl hsub hlt hA (by show 3<=Try.f50.ntmps;decide +kernel) (.inl rfl) nofun (fun es=>?_)
  unfold gtN gtX gtE
  rw[hide_eq,hide_eq,hide_eq]
  by_cases hok:gtE0 m a s=0
  ·refine⟨gbtC m g (es 0) a.toNat s.toNat (a+s) _ s,⟨mixed,tabOk,gbtS_ok,oneL (gbt_loop hy hok)⟩,rfl,?_⟩
   refine(gbt_ev m g a s a.toNat s.toNat (a+s) _ es id).trans ?_
   obtain ⟨h1,h7,h0,hs⟩:=gtE0_ok hok
   rw[gtT2_eq hle,if_pos hok,if_pos hok,if_pos hok,hok,wrap_i64 (by omega),paT_eq (by omega) (by omega) (by omega),show(a+s).toNat - a.toNat=s.toNat from by omega,req_true (stEq_refl rfl)]
  ·refine⟨⟨tab,gbtS,50,[([1,1,1,1,0,1,0],fun _=>[])]⟩,⟨mixed,tabOk,gbtS_ok,noneL2⟩,rfl,?_⟩
   refine(gbt_evN m g a s es id).trans ?_
   rw[gtT2_eq hle,if_neg hok,if_neg hok,if_neg hok];rfl
 ·simp[pickM] at hpick
noncomputable def pbpS:Sums:=[(71,CopF 5),(70,LaiF 5)]
theorem pbpS_ok:SumsOk Try.prog pbpS:=sums_consM cop_msum (sums_consM lai_msum sums_nil)
noncomputable def pbpC:Cfg:=⟨tab,pbpS,21,[]⟩
theorem pbpOk:CfgOk Try.prog pbpC (bodyOf Try.f47):=⟨mixed,tabOk,pbpS_ok,noL⟩
theorem pbp_ev (m:Nat) (g:Nat->List Value) (k:Nat) (p:Nat->List Value) (es:Nat->Nat) (id:Nat):fnMS pbpC 60 Try.f47 (bodyOf Try.f47) (cArgs [.sl kB m g,.sl kB k p] 0) (cMem es [.sl kB m g,.sl kB k p] 0) 0 id =
  bif decide ((k:Int) > 16384) then ppErr else req (kb4 m&&(Nat.ble m 1000000&&(decide (0<=IntKind.i64.wrap (4+(k:Int)))&&decide (IntKind.i64.wrap (4+(k:Int))<=1000000)))) (req (kw m&&(Nat.ble m 900000&&pkB (k:Nat) 4)) (apK (m+4) k (req (Nat.ble (m+4+k) (m+4+k))
   (some (.tuple #[nSl id (m+4+k),i64 0],rw1 5 id (m+4+k) (appF (m+4) (pkR m (cpR m (sgF m g)) (k:Nat) 4) (sgF k p))))))):=by kernel_rfl
theorem ptp_msum:MSum Try.prog 47 (PtpF 5):=by
 intro w0 R fm w hm vs args' hl mm hsub id hlt v l hpick hnew
 match vs,hl,hpick with
 | [a,b],hl,hpick =>
  obtain ⟨hc,rfl,rfl⟩:=pick_one hpick
  simp only[Bool.and_eq_true] at hc
  obtain ⟨⟨ha,hb⟩,hle⟩:=hc
  generalize hqa:srcB mm kB a=qa at ha hle hnew ⊢
  generalize hqb:srcB mm kB b=qb at hb hnew ⊢
  obtain ⟨ok1,m,g⟩:=qa
  obtain ⟨ok2,k,p⟩:=qb
  simp only at ha hb hle hnew ⊢
  subst ha hb
  have hle:=Nat.le_of_ble_eq_true hle
  have hA:AOk mm [a,b] [.sl kB m g,.sl kB k p]:=⟨hqa,hqb,trivial⟩
  unfold ppL at hnew ⊢
  unfold ppE
  rw[hide_eq] at hnew ⊢
  rw[hide_eq]
  by_cases hok:k<=16384
  ·rw[if_pos hok] at hnew ⊢
   rw[if_pos hok]
   refine invokes_eqv (pp_cp m g k p) ?_
   refine msum_at (c:=bodyOf Try.f47) (fuel:=60) (next:=0) Try.func47 (by kernel_rfl) (by kernel_rfl) hm hl hsub hlt hA (by show 2<=Try.f47.ntmps;decide +kernel) (.inr ⟨_,rfl⟩) (new_any hnew) (fun es=>?_)
   refine⟨pbpC,pbpOk,rfl,?_⟩
   refine(pbp_ev m g k p es id).trans ?_
   rw[decide_eq_false (by omega),cond_false,kb4_true,bE (show m<=1000000 by omega),wrap_i64 (by omega),decide_eq_true (by omega),decide_eq_true (by omega),req_true (b:=true&&(true&&(true&&true))) rfl,kw_true,bE hle,pkB_iff.2 (pk_len k hok),req_true (b:=true&&(true&&true)) rfl,apK_eq (by omega),bE (Nat.le_refl _),req_true rfl];rfl
  ·rw[if_neg hok] at hnew ⊢
   rw[if_neg hok]
   refine invokes_nilT (rest:=[i64 4]) hlt (new_free hnew) (msum_at (v:=.tuple #[.slice none 0 0,i64 4]) (l:=[]) (c:=bodyOf Try.f47) (fuel:=60) (next:=0) Try.func47 (by kernel_rfl) (by kernel_rfl) hm hl hsub hlt hA (by show 2<=Try.f47.ntmps;decide +kernel) (.inl rfl) nofun (fun es=>?_))
   refine⟨pbpC,pbpOk,rfl,?_⟩
   refine(pbp_ev m g k p es id).trans ?_
   rw[decide_eq_true (by omega),cond_true];rfl
 | [],_,h=>simp[PtpF,pickM] at h
 | [_],_,h=>simp[PtpF,pickM] at h
 | _::_::_::_,_,h=>simp[PtpF,pickM] at h
noncomputable def gbpS:Sums:=[(71,CopF 5),(50,GetF)]
theorem gbpS_ok:SumsOk Try.prog gbpS:=sums_consM cop_msum (sums_consM get_msum sums_nil)
noncomputable def gbpC:Cfg:=⟨tab,gbpS,38,[]⟩
theorem gbpOk:CfgOk Try.prog gbpC (bodyOf Try.f54):=⟨mixed,tabOk,gbpS_ok,noL⟩
theorem gbp_ev (m:Nat) (g:Nat->List Value) (a:Int) (es:Nat->Nat) (id:Nat):fnMS gbpC 60 Try.f54 (bodyOf Try.f54) (cArgs [.sl kB m g,.pl (i64 a)] 0) (cMem es [.sl kB m g,.pl (i64 a)] 0) 0 id =
  req (gtk m g) (gpT 5 m g a id):=by kernel_rfl
theorem gtp_msum:MSum Try.prog 54 (GtpF 5):=by
 intro w0 R fm w hm vs args' hl mm hsub id hlt v l hpick hnew
 unfold GtpF at hpick
 split at hpick
 ·rename_i b a
  obtain ⟨hc,rfl,rfl⟩:=pick_one hpick
  simp only[Bool.and_eq_true] at hc
  obtain ⟨ha,hy,hle⟩:=hc
  generalize hqa:srcB mm kB b=qa at ha hy hle hnew ⊢
  obtain ⟨ok1,m,g⟩:=qa
  simp only at ha hy hle hnew ⊢
  subst ha
  have hle:=Nat.le_of_ble_eq_true hle
  have hy:=okY_iff.1 hy
  have hA:AOk mm [b,i64 a] [.sl kB m g,.pl (i64 a)]:=⟨hqa,rfl,rfl,trivial⟩
  unfold gpL at hnew ⊢
  unfold gpX gpE
  rw[hide_eq] at hnew ⊢
  rw[hide_eq,hide_eq]
  by_cases hok:gpE0 m g a=0
  ·rw[if_pos hok] at hnew ⊢
   rw[if_pos hok,hok]
   refine invokes_eqv (gp_cp m g a _) ?_
   refine msum_at (c:=bodyOf Try.f54) (fuel:=60) (next:=0) Try.func54 (by kernel_rfl) (by kernel_rfl) hm hl hsub hlt hA (by show 2<=Try.f54.ntmps;decide +kernel) (.inr ⟨_,rfl⟩) (new_any hnew) (fun es=>?_)
   refine⟨gbpC,gbpOk,rfl,?_⟩
   refine(gbp_ev m g a es id).trans ?_
   rw[gtk_true hle hy,req_true rfl]
   exact gpT_good hle hok id
  ·rw[if_neg hok] at hnew ⊢
   rw[if_neg hok]
   refine invokes_nilT (rest:=[i64 0,i64 (gpE0 m g a)]) hlt (new_free hnew) (msum_at (v:=.tuple #[.slice none 0 0,i64 0,i64 (gpE0 m g a)]) (l:=[]) (c:=bodyOf Try.f54) (fuel:=60) (next:=0) Try.func54 (by kernel_rfl) (by kernel_rfl) hm hl hsub hlt hA (by show 2<=Try.f54.ntmps;decide +kernel) (.inl rfl) nofun (fun es=>?_))
   refine⟨gbpC,gbpOk,rfl,?_⟩
   refine(gbp_ev m g a es id).trans ?_
   rw[gtk_true hle hy,req_true rfl]
   exact gpT_bad hle hok id
 ·simp[pickM] at hpick
end Go.Proofs.Ytckbmhegopjnmaa

namespace Go.W
def keptB (ks:List Nat) (is:Ren):Bool:=ks.all fun k=>oK (look is k) (fun o=>Nat.beq o k) false
def inK (ks:List Nat) (i:Nat):Prop:=nmem i ks=true∨1000000000<=i
theorem kept_mono {ks:List Nat} {is:Ren} (h:keptB ks is=true) (R:Nat->Pl->Prop):MonoK (inK ks) R (renR is R):=by
 rintro i p (hi | hi) hp
 ·have h1:=List.all_eq_true.1 h i (nmem_iff.1 hi)
  cases h2:look is i with
  | none=>rw[h2] at h1;cases h1
  | some o =>
   rw[h2] at h1
   have:o=i:=nbeq.1 h1
   subst this
   exact .inl ⟨o,h2,hp⟩
 ·exact .inr ⟨hi,hp⟩
section
variable {GL:Glob} {w0:Wb GL} {w:World} {n:Nat} {R:Nat->Pl->Prop} {a:Act} {is:Ren}
theorem Rel.restK {ts:List Nat} {nx:Nat} {s s':St} {ks:List Nat} (hks:keptB ks is=true) (hr:restS ts is nx s=some s') (h:Rel w0 n R s.f a w):∃R',MonoK (inK ks) R R'∧Rel w0 n R' s'.f a w:=by
 unfold restS at hr
 obtain ⟨hk,hr⟩:=cond_some.1 hr
 obtain ⟨sl,h1,hr⟩:=oK_some.1 hr
 obtain ⟨me,h2,h3⟩:=oK_some.1 hr
 cases h3
 refine⟨renR is R,kept_mono hks R,h.defers,h.size,?_,MRel.ren hk h2 h.m⟩
 intro t u hu
 obtain ⟨v,h3,h4⟩:=getSlots_look h1 t u hu
 obtain ⟨v',h5,h6⟩:=h.slot t v h3
 exact⟨v',h5,V2_ren hk h6 h4⟩
end
section
variable {P:Program} [Laid P] {C:Cfg} {code body:Code}
theorem round_soundK (hC:CfgOk P C code) {ks:List Nat} (hLK:∀p F,lookP C.L p=some F->LoopOkK P C.n (loopAt p code) (inK ks) F) {p:List Nat} (hp:codeAt p code=some body) {m:Nat} {nt et:List Nat} {ni ei:Ren} {nx ex:Nat} (hn:keptB ks ni=true) (he:keptB ks ei=true) {s s':St} {e:Exit} (h:roundS C m p body nt ni nx et ei ex s=some (e,s'))
  {w0:Wb (lay P)} {R:Nat->Pl->Prop} {a:Act} {w:World} (hrel:Rel w0 C.n R s.f a w):body.wp P (fun e' a' w'=>e'=e∧∃R',MonoK (inK ks) R R'∧Rel w0 C.n R' s'.f a' w') a w:=by
 unfold roundS at h
 rw[evK_eq,oK_some] at h
 obtain ⟨⟨e1,s1⟩,h1,h2⟩:=h
 refine wp_mono (ev_soundK hC hLK hp h1 hrel) ?_
 rintro e' a' w' ⟨rfl,R',hmo,hr'⟩
 cases e'<;>simp only[cutK,oK_some] at h2 <;>
  (obtain ⟨s2,h3,h4⟩:=h2;cases h4
   first
   | (obtain ⟨R2,k1,k2⟩:=Rel.restK hn h3 hr';exact⟨rfl,R2,hmo.trans k1,k2⟩)
   | (obtain ⟨R2,k1,k2⟩:=Rel.restK he h3 hr';exact⟨rfl,R2,hmo.trans k1,k2⟩))
theorem atSt_okK {n:Nat} {body:Code} {ks:List Nat} {ts:List Nat} {is:Ren} {nx:Nat} {s0:St} {e:Exit} {sf:St} (hks:keptB ks is=true)
  (h:∀(w0:Wb (lay P)) (R:Nat->Pl->Prop) (a:Act) (w:World),Rel w0 n R s0.f a w->(Code.loop body).wp P (fun e' a' w'=>e'=e∧∃R',MonoK (inK ks) R R'∧Rel w0 n R' sf.f a' w') a w):LoopOkK P n body (inK ks) (atSt ts is nx s0 e sf):=by
 intro w0 R s a w hrel e' s' hp
 unfold atSt at hp
 cases hr:restS ts is nx s with
 | none=>rw[hr] at hp;simp[oK,pickL] at hp
 | some s1 =>
  rw[hr] at hp
  simp only[oK,pickL,cond_some] at hp
  obtain ⟨h1,h2⟩:=hp
  cases h2
  obtain ⟨R',k1,hr'⟩:=Rel.restK hks hr hrel
  refine wp_mono (h w0 R' a w (hr'.eqv h1)) ?_
  rintro e' a' w' ⟨rfl,R2,k2,k3⟩
  exact⟨rfl,R2,k1.trans k2,k3⟩
theorem loopK {code:Code} {n:Nat} (C:Nat->Cfg) (N:Nat) {ks:List Nat} (hC:∀k,k<=N->CfgOk P (C k) code) (hLK:∀k,k<=N->∀p F,lookP (C k).L p=some F->LoopOkK P n (loopAt p code) (inK ks) F) (hn:∀k,(C k).n=n) {p:List Nat} (hp:codeAt p code=some (.loop (loopAt p code))) {m:Nat} {ts:List Nat} {is:Ren} {tx:Nat} {nt et:Nat->List Nat} {ni ei:Nat->Ren} {nx ex:Nat} (st:Nat->St) {e:Exit} {s0 sf:St}
  (his:keptB ks is=true) (hni:∀k,keptB ks (ni k)=true) (hei:∀k,keptB ks (ei k)=true)
  (h0:∀(w0:Wb (lay P)) (R:Nat->Pl->Prop) (a:Act) (w:World),Rel w0 n R s0.f a w->∃R',MonoK (inK ks) R R'∧Rel w0 n R' (st 0).f a w) (he:e≠.normal)
  (step:∀k,k<N->∃s,roundS (C k) m (p++[0]) (loopAt p code) (nt k) (ni k) nx (et k) (ei k) ex (st k)=some (.normal,s)∧stEq s (st (k+1))=true)
  (last:∃s,roundS (C N) m (p++[0]) (loopAt p code) (nt N) (ni N) nx (et N) (ei N) ex (st N)=some (e,s)∧stEq s sf=true) :
  LoopOkK P n (loopAt p code) (inK ks) (atSt ts is tx s0 e sf):=by
 refine atSt_okK his fun w0 R a w hrel=>?_
 obtain ⟨R0,m0,hrel⟩:=h0 w0 R a w hrel
 have hx:codeAt (p++[0]) code=some (loopAt p code):=by rw[codeAt_app,hp];rfl
 have key:∀j,j<=N->∀(R:Nat->Pl->Prop) (a:Act) (w:World),Rel w0 n R (st (N - j)).f a w->Code.rounds P (loopAt p code) (fun e' a' w'=>e'=e∧∃R',MonoK (inK ks) R R'∧Rel w0 n R' sf.f a' w') (j+1) a w:=by
  intro j
  induction j with
  | zero =>
   intro _ R a w hr
   rw[rounds_succ]
   obtain ⟨s,h1,h2⟩:=last
   have hs:=round_soundK (hC N (Nat.le_refl _)) (fun p F hF=>by rw[hn];exact hLK N (Nat.le_refl _) p F hF) hx (hni N) (hei N) h1 (w0:=w0) (R:=R) (a:=a) (w:=w) (by rw[hn];exact hr)
   rw[hn] at hs
   refine wp_mono hs ?_
   rintro e' a' w' ⟨rfl,R',k1,hr'⟩
   cases e' with
   | normal=>exact absurd rfl he
   | _=>exact⟨rfl,R',k1,hr'.eqv h2⟩
  | succ j ih =>
   intro hj R a w hr
   rw[rounds_succ]
   obtain ⟨s,h1,h2⟩:=step (N - (j+1)) (by omega)
   have hs:=round_soundK (hC (N - (j+1)) (by omega)) (fun p F hF=>by rw[hn];exact hLK (N - (j+1)) (by omega) p F hF) hx (hni _) (hei _) h1 (w0:=w0) (R:=R) (a:=a) (w:=w) (by rw[hn];exact hr)
   rw[hn] at hs
   refine wp_mono hs ?_
   rintro e' a' w' ⟨rfl,R',k1,hr'⟩
   have:=ih (by omega) R' a' w' (by
    rw[show N - j=N - (j+1)+1 from by omega]
    exact hr'.eqv h2)
   exact rounds_monoQ (by rintro e2 a2 w2 ⟨rfl,R2,k2,k3⟩;exact⟨rfl,R2,k1.trans k2,k3⟩) this
 have:=wp_loop_rounds (N+1) (key N (Nat.le_refl N) R0 a w (by rw[Nat.sub_self];exact hrel))
 refine wp_mono this ?_
 rintro e' a' w' ⟨rfl,R',k1,k2⟩
 exact⟨rfl,R',m0.trans k1,k2⟩
theorem loopKE {code:Code} {n:Nat} (C:Nat->Cfg) (N:Nat) {ks:List Nat} (hC:∀k,k<=N->CfgOk P (C k) code) (hLK:∀k,k<=N->∀p F,lookP (C k).L p=some F->LoopOkK P n (loopAt p code) (inK ks) F) (hn:∀k,(C k).n=n) {p:List Nat} (hp:codeAt p code=some (.loop (loopAt p code))) {m:Nat} {ts:List Nat} {is:Ren} {tx:Nat} {nt et:List Nat} {ni ei:Ren} {nx ex:Nat} (st:Nat->St) {e:Exit} {s0 sf:St} (h0:s0=st 0)
  (his:keptB ks is=true) (hni:keptB ks ni=true) (hei:keptB ks ei=true) (he:e≠.normal)
  (step:∀k,k<N->∃s,roundS (C k) m (p++[0]) (loopAt p code) nt ni nx et ei ex (st k)=some (.normal,s)∧stEq s (st (k+1))=true)
  (last:∃s,roundS (C N) m (p++[0]) (loopAt p code) nt ni nx et ei ex (st N)=some (e,s)∧stEq s sf=true) :
  LoopOkK P n (loopAt p code) (inK ks) (atSt ts is tx s0 e sf) :=
 loopK C N hC hLK hn hp (nt:=fun _=>nt) (et:=fun _=>et) (ni:=fun _=>ni) (ei:=fun _=>ei) st his (fun _=>hni) (fun _=>hei) (fun w0 R a w hr=>⟨R,MonoK.refl,by rw[<-h0];exact hr⟩) he step last
theorem LoopOkK.ok {n:Nat} {body:Code} {K:Nat->Prop} {F:St->List (Bool×Exit×St)} (h:LoopOkK P n body K F):LoopOk P n body F:=by
 intro w0 R s a w hr e s' hp
 refine wp_mono (h w0 R s a w hr e s' hp) ?_
 rintro e' a' w' ⟨rfl,R',_,k⟩
 exact⟨rfl,R',k⟩
theorem consLK {n:Nat} {c:Code} {K:Nat->Prop} {p:List Nat} {F:St->List (Bool×Exit×St)} {L:List (List Nat×(St->List (Bool×Exit×St)))} (h:LoopOkK P n (loopAt p c) K F)
  (hL:∀q F',lookP L q=some F'->LoopOkK P n (loopAt q c) K F'):∀q F',lookP ((p,F)::L) q=some F'->LoopOkK P n (loopAt q c) K F':=by
 intro q F' hq
 simp only[lookP] at hq
 cases he:nlEq p q with
 | false=>rw[he] at hq;exact hL q F' hq
 | true=>rw[he] at hq;simp at hq;subst hq;rw[<-nlEq_iff he];exact h
theorem noneLK {n:Nat} {body:Code} {K:Nat->Prop}:LoopOkK P n body K (fun _=>[]):=fun w0 R s a w hr e s' hp=>by simp[pickL] at hp
theorem nilLK {n:Nat} {c:Code} {K:Nat->Prop}:∀q F',lookP ([]:List (List Nat×(St->List (Bool×Exit×St)))) q=some F'->LoopOkK P n (loopAt q c) K F':=fun q F' h=>by simp[lookP] at h
theorem okLK {n:Nat} {c:Code} {K:Nat->Prop} {L:List (List Nat×(St->List (Bool×Exit×St)))} (h:∀q F',lookP L q=some F'->LoopOkK P n (loopAt q c) K F'):∀q F',lookP L q=some F'->LoopOk P n (loopAt q c) F':=fun q F' hq=>(h q F' hq).ok
def inlK (T:Tab) (G:Sums) (n:Nat) (L:List (List Nat×(St->List (Bool×Exit×St)))) (ks:List Nat) (fn:Func) (c:Code) (fuel:Nat):Ent:=inlL T G n L (fun i=>nmem i ks) fn c fuel
theorem inlK_sum {T:Tab} {G:Sums} {n:Nat} {L:List (List Nat×(St->List (Bool×Exit×St)))} {ks:List Nat} {fn:Func} {c:Code} {fuel:Nat} (hT:TabOk P T) (hG:SumsOk P G) (hmix:P.follows .mixedOrders=true)
  (hLK:∀p F,lookP L p=some F->LoopOkK P n (loopAt p c) (inK ks) F) {g:FuncId} (hf:P.funcs[g]?=some fn) (hname:(fn.name=="runtime.NumGoroutine")=false) (hb:fn.body=some c) (hn:n=fn.ntmps) :
  EntOk P g (inlK T G n L ks fn c fuel):=inlL_sum ⟨hmix,hT,hG,okLK hLK⟩ hLK hf hname hb hn
end
end Go.W

namespace Go.W
open Go
def aSl11 (n:Nat):Value:=.slice (some ⟨agId 0 11,0,none⟩) n n
def aSl12 (m:Nat):Value:=.slice (some ⟨agId 0 12,0,none⟩) m m
def aM (e0 e1 n:Nat) (f:Nat->List Value) (m:Nat) (h:Nat->List Value):Nat->Option Blk:=look [(agId 0 11,⟨.row k32 n f,e0,false⟩),(agId 0 12,⟨.row kP9 m h,e1,false⟩)]
noncomputable def byT (e0 e1:Nat) (k:Int) (K:RP) (lab:ByteArray) (n:Nat) (f:Nat->List Value) (m:Nat) (h:Nat->List Value) (g:Int) (X:Nat×Nat) (O:OR):OR :=
 req (isA (aM e0 e1 n f m h) (acV k K lab (aSl11 n) (aSl12 m) g X)&&Nat.ble (unA (aM e0 e1 n f m h) (acV k K lab (aSl11 n) (aSl12 m) g X)).l.size 1000000)
  (bif ckE (unA (aM e0 e1 n f m h) (acV k K lab (aSl11 n) (aSl12 m) g X)) != 0 then some (.tuple #[.slice none 0 0,i64 (ckE (unA (aM e0 e1 n f m h) (acV k K lab (aSl11 n) (aSl12 m) g X)))],[]) else O)
def lqP (i:Bool) (x y:Nat) (K:Nat->(Nat->List Value)->OR):OR :=
 req (isPt (ptV (i,x,y))&&ckR (unPt (ptV (i,x,y)))) (req (Nat.ble (pbL (unPt (ptV (i,x,y)))) (pbL (unPt (ptV (i,x,y))))&&true) (K (pbL (unPt (ptV (i,x,y)))) (pbR (unPt (ptV (i,x,y))))))
def ouP (e id L:Nat) (F:Nat->List Value):OR:=req (Nat.ble L L) (some (.tuple #[nSl id L,i64 0],rw1 e id L F))
def lpf (e id:Nat) (L:Nat) (F:Nat->List Value) (c r:Nat):OR :=
 apN L 32 (apN (L+32) 32 (ouP e id (L+32+32) (appF (L+32) (appF L F (lstF (bytesL 32 (unnum (num c))) 0 1)) (lstF (bytesL 32 (unnum (num r))) 0 1))))
def lbT5 (e id:Nat) (k:Int):OR:=some (.tuple #[nSl id 1,i64 0],rw1 e id 1 (b1 k))
def lbT4 (e id:Nat) (i:Bool) (x y c r:Nat):OR:=qN2 c r (lqP i x y fun L B=>req (szOk (1+L) 1) (lpf e id (1+L) (appF 1 (b1 4) (sgF L B)) c r))
def lbT3 (e id:Nat) (g:Int) (i:Bool) (x y c r:Nat):OR:=qN2 c r (lqP i x y fun L B=>req (szOk (1+1+L) 1) (lpf e id (1+1+L) (appF (1+1) (appF 1 (b1 3) (b1 g)) (sgF L B)) c r))
noncomputable def lbT1 (e id:Nat) (i:Bool) (x y:Nat) (lab:ByteArray):OR:=lqP i x y fun L B=>req (szOk (1+L) 1) (req (whN (1+L)&&whN lab.size&&Nat.ble (1+L) 900000)
 (ouP e id (ppL (1+L) lab.size) (ppR (1+L) (sgF (1+L) (appF 1 (b1 1) (sgF L B))) lab.size (sgF lab.size (strF lab)))))
def ls1 (tO t8 n m:Nat) (f h:Nat->List Value) (e0 e1 L:Nat) (F:Nat->List Value) (j:Int):St :=
 ⟨[(0,.slice (some ⟨nid 35 0,0,none⟩) L L),(3,.pointer (some ⟨27,0,none⟩)),(17,aSl11 n),(18,i64 (n:Int)),(19,i64 j)],
  [(11,⟨.lst [],t8,false⟩),(27,⟨.lst [aSl11 n,aSl12 m],tO,true⟩),(nid 35 0,⟨.row kB L F,t8,true⟩),(agId 0 11,⟨.row k32 n f,e0,false⟩),(agId 0 12,⟨.row kP9 m h,e1,false⟩)],41⟩
def ls2 (t8 n m:Nat) (f h:Nat->List Value) (e0 e1 L:Nat) (F:Nat->List Value) (j:Int):St :=
 ⟨[(0,.slice (some ⟨nid 47 0,0,none⟩) L L),(35,aSl12 m),(36,i64 (m:Int)),(37,i64 j)],
  [(11,⟨.lst [],t8,false⟩),(nid 47 0,⟨.row kB L F,t8,true⟩),(agId 0 11,⟨.row k32 n f,e0,false⟩),(agId 0 12,⟨.row kP9 m h,e1,false⟩)],53⟩
theorem ls1_eq {tO t8 n m:Nat} {f h f' h':Nat->List Value} {e0 e1 L:Nat} {F F':Nat->List Value} {j:Int} (hf:∀j,j<n->nrmK k32 (f j)=nrmK k32 (f' j)) (hh:∀j,j<m->nrmK kP9 (h j)=nrmK kP9 (h' j)) (hF:∀j,j<L->nrmK kB (F j)=nrmK kB (F' j)) :
  stEq (ls1 tO t8 n m f h e0 e1 L F j) (ls1 tO t8 n m f' h' e0 e1 L F' j)=true :=
 stEq_mk rfl (mSame rfl (mSame rfl (mRow hF (mRow hf (mRow hh mNil)))))
theorem ls2_eq {t8 n m:Nat} {f h f' h':Nat->List Value} {e0 e1 L:Nat} {F F':Nat->List Value} {j:Int} (hf:∀j,j<n->nrmK k32 (f j)=nrmK k32 (f' j)) (hh:∀j,j<m->nrmK kP9 (h j)=nrmK kP9 (h' j)) (hF:∀j,j<L->nrmK kB (F j)=nrmK kB (F' j)) :
  stEq (ls2 t8 n m f h e0 e1 L F j) (ls2 t8 n m f' h' e0 e1 L F' j)=true :=
 stEq_mk rfl (mSame rfl (mRow hF (mRow hf (mRow hh mNil))))
theorem lqP_eq {i:Bool} {x y:Nat} (h:ckR (i,x,y)=true) (K:Nat->(Nat->List Value)->OR):lqP i x y K=K (pbL (i,x,y)) (pbR (i,x,y)):=by
 unfold lqP;rw[isPt_ptV,unPt_ptV (ck_okR h),h,req_true (b:=true&&true) rfl,Nat.ble_eq_true_of_le (Nat.le_refl _),req_true (b:=true&&true) rfl]
theorem ouP_eq {e id L:Nat} {F:Nat->List Value}:ouP e id L F=some (.tuple #[nSl id L,i64 0],rw1 e id L F):=by unfold ouP;rw[Nat.ble_eq_true_of_le (Nat.le_refl L),req_true rfl]
theorem lpf_eq {e id L:Nat} (F:Nat->List Value) (c r:Nat) (h:L<=1000000):lpf e id L F c r=some (.tuple #[nSl id (L+32+32),i64 0],rw1 e id (L+32+32) (appF (L+32) (appF L F (lstF (bytesL 32 (unnum (num c))) 0 1)) (lstF (bytesL 32 (unnum (num r))) 0 1))):=by
 unfold lpf;rw[apN_eq (by omega),apN_eq (by omega),ouP_eq]
theorem lbT4_eq {i:Bool} {x y:Nat} (h:ckR (i,x,y)=true) (e id:Nat) (c r:Nat):lbT4 e id i x y c r=some (.tuple #[nSl id (1+pbL (i,x,y)+32+32),i64 0],rw1 e id (1+pbL (i,x,y)+32+32) (appF (1+pbL (i,x,y)+32) (appF (1+pbL (i,x,y)) (appF 1 (b1 4) (sgF (pbL (i,x,y)) (pbR (i,x,y)))) (lstF (bytesL 32 (unnum (num c))) 0 1)) (lstF (bytesL 32 (unnum (num r))) 0 1))):=by
 have:=pbL_le (i,x,y)
 unfold lbT4;rw[qN2_eq,lqP_eq h,szOk_small (by omega),req_true rfl,lpf_eq _ _ _ (by omega)]
theorem lbT3_eq {i:Bool} {x y:Nat} (h:ckR (i,x,y)=true) (e id:Nat) (g:Int) (c r:Nat):lbT3 e id g i x y c r=some (.tuple #[nSl id (1+1+pbL (i,x,y)+32+32),i64 0],rw1 e id (1+1+pbL (i,x,y)+32+32) (appF (1+1+pbL (i,x,y)+32) (appF (1+1+pbL (i,x,y)) (appF (1+1) (appF 1 (b1 3) (b1 g)) (sgF (pbL (i,x,y)) (pbR (i,x,y)))) (lstF (bytesL 32 (unnum (num c))) 0 1)) (lstF (bytesL 32 (unnum (num r))) 0 1))):=by
 have:=pbL_le (i,x,y)
 unfold lbT3;rw[qN2_eq,lqP_eq h,szOk_small (by omega),req_true rfl,lpf_eq _ _ _ (by omega)]
theorem lbT1_eq {i:Bool} {x y:Nat} (h:ckR (i,x,y)=true) (e id:Nat) (lab:ByteArray):lbT1 e id i x y lab=some (.tuple #[nSl id (ppL (1+pbL (i,x,y)) lab.size),i64 0],rw1 e id (ppL (1+pbL (i,x,y)) lab.size) (ppR (1+pbL (i,x,y)) (sgF (1+pbL (i,x,y)) (appF 1 (b1 1) (sgF (pbL (i,x,y)) (pbR (i,x,y))))) lab.size (sgF lab.size (strF lab)))):=by
 have:=pbL_le (i,x,y)
 unfold lbT1;rw[lqP_eq h,szOk_small (by omega),req_true rfl,whN_true,whN_true,Nat.ble_eq_true_of_le (show 1+pbL (i,x,y)<=900000 by omega),req_true (b:=true&&true&&true) rfl,ouP_eq]
section
variable {e0 e1:Nat} {k:Int} {K:RP} {lab:ByteArray} {n:Nat} {f:Nat->List Value} {m:Nat} {h:Nat->List Value} {g:Int} {X:Nat×Nat}
theorem src_11 (e0 e1 n:Nat) (f:Nat->List Value) (m:Nat) (h:Nat->List Value):srcB (aM e0 e1 n f m h) k32 (aSl11 n)=(true,n,sg32 n f)∧srcB (aM e0 e1 n f m h) kP9 (aSl12 m)=(true,m,sg9 m h):=by
 have h1:srcB (aM e0 e1 n f m h) k32 (aSl11 n)=(Nat.beq 0 0&&Nat.ble n n&&ksEq k32 k32&&Nat.ble n n,n,sg32 n f):=rfl
 have h2:srcB (aM e0 e1 n f m h) kP9 (aSl12 m)=(Nat.beq 0 0&&Nat.ble m m&&ksEq kP9 kP9&&Nat.ble m m,m,sg9 m h):=rfl
 rw[h1,h2,Nat.ble_eq_true_of_le (Nat.le_refl n),Nat.ble_eq_true_of_le (Nat.le_refl m)]
 exact⟨rfl,rfl⟩
theorem byT_eq (oK:okR K) (hc:X.1<2^256) (hr:X.2<2^256) (o1:okSl n f=true) (o2:okP m h=true) (hl:lab.size<=1000000) (O:OR) :
  byT e0 e1 k K lab n f m h g X O=if ckE ⟨k,K,lab,n,slA f,m,pA h,g,X⟩=0 then O else some (.tuple #[.slice none 0 0,i64 (ckE ⟨k,K,lab,n,slA f,m,pA h,g,X⟩)],[]):=by
 obtain ⟨s1,s2⟩:=src_11 e0 e1 n f m h
 have p1:okSl n (sg32 n f)=true:=by rw[okSl_sg];exact o1
 have p2:okP m (sg9 m h)=true:=by rw[okP_sg];exact o2
 unfold byT
 rw[isA_ac s1 p1 s2 p2,unA_ac oK hc hr s1 s2,slA_sg,pA_sg,Nat.ble_eq_true_of_le hl,req_true (b:=true&&true) rfl]
 by_cases e:ckE ⟨k,K,lab,n,slA f,m,pA h,g,X⟩=0
 ·rw[if_pos e,e];rfl
 ·rw[if_neg e,bne_iff_ne.2 e];rfl
end
end Go.W

namespace Go.Proofs.Ytckbmhegopjnmaa
set_option maxRecDepth 100000
open Go.W
theorem cpb_msum:MSum Try.prog 72 (CPbF 5):=MSum_sub cby_msum (CPbF_sub _)
noncomputable def alpS:Sums:=[(72,CPbF 5)]
theorem alpS_ok:SumsOk Try.prog alpS:=sums_consM cpb_msum sums_nil
noncomputable def alpE:Ent:=inl tab alpS 15 Try.f48 (bodyOf Try.f48)
theorem alpE_ok:EntOk Try.prog 48 alpE:=inl_sum tabOk alpS_ok mixed Try.func48 (by kernel_rfl) (by kernel_rfl) rfl
noncomputable def alrS:Sums:=[(48,alpE),(47,.me (PtpF 5))]
theorem alrS_ok:SumsOk Try.prog alrS:=sums_consI alpE_ok (sums_consM ptp_msum sums_nil)
noncomputable def alrE:Ent:=inl tab alrS 17 Try.f29 (bodyOf Try.f29)
theorem alrE_ok:EntOk Try.prog 29 alrE:=inl_sum tabOk alrS_ok mixed Try.func29 (by kernel_rfl) (by kernel_rfl) rfl
noncomputable def alvS:Sums:=[(48,alpE),(49,.pl BytesF)]
theorem alvS_ok:SumsOk Try.prog alvS:=sums_consI alpE_ok (sums_cons Bytes_sum sums_nil)
noncomputable def alvE:Ent:=inl tab alvS 25 Try.f31 (bodyOf Try.f31)
theorem alvE_ok:EntOk Try.prog 31 alvE:=inl_sum tabOk alvS_ok mixed Try.func31 (by kernel_rfl) (by kernel_rfl) rfl
noncomputable def alsS:Sums:=[(48,alpE)]
theorem alsS_ok:SumsOk Try.prog alsS:=sums_consI alpE_ok sums_nil
noncomputable def alsC0:Cfg:=⟨tab,alsS,46,[]⟩
def alsP1:List Nat:=[1,1,0,1,0]
def alsP2:List Nat:=[1,1,1,1,0,1,0]
def alsK:List Nat:=[11,agId 0 11,agId 0 12]
def alsN1:List Nat:=[0,3,17,18,19]
def alsN2:List Nat:=[0,35,36,37]
def alsI1:Ren:=[(11,11),(27,27),(nid 35 0,nid 48 0),(agId 0 11,agId 0 11),(agId 0 12,agId 0 12)]
def alsX1:Ren:=[(11,11),(27,27),(nid 35 0,nid 35 0),(agId 0 11,agId 0 11),(agId 0 12,agId 0 12)]
def alsI2:Ren:=[(11,11),(nid 47 0,nid 60 0),(agId 0 11,agId 0 11),(agId 0 12,agId 0 12)]
def alsX2:Ren:=[(11,11),(nid 47 0,nid 47 0),(agId 0 11,agId 0 11),(agId 0 12,agId 0 12)]
theorem als_at1:codeAt alsP1 (bodyOf Try.f30)=some (.loop (loopAt alsP1 (bodyOf Try.f30))):=by kernel_rfl
theorem als_at2:codeAt alsP2 (bodyOf Try.f30)=some (.loop (loopAt alsP2 (bodyOf Try.f30))):=by kernel_rfl
theorem als_r1 (n m:Nat) (S:Nat->Nat) (V:Nat->RP) (e0 e1 L:Nat) (F:Nat->List Value) (j:Nat) :
  roundS alsC0 60 (alsP1++[0]) (loopAt alsP1 (bodyOf Try.f30)) alsN1 alsI1 41 alsN1 alsX1 41 (ls1 70 5 n m (slF S) (ptF V) e0 e1 L F (j:Int)) =
  bif decide ((j:Int)<(n:Int)) then rdR j n (apN L 32 (some (.normal,ls1 70 5 n m (slF S) (ptF V) e0 e1 (L+32) (appF L F (lstF (slC (S (0+j))) 0 1)) (IntKind.i64.wrap ((j:Int)+1)))))
  else some (.exit 0,ls1 70 5 n m (slF S) (ptF V) e0 e1 L F (j:Int)):=by kernel_rfl
theorem als_r2 (n m:Nat) (S:Nat->Nat) (V:Nat->RP) (e0 e1 L:Nat) (F:Nat->List Value) (j:Nat) :
  roundS alsC0 60 (alsP2++[0]) (loopAt alsP2 (bodyOf Try.f30)) alsN2 alsI2 53 alsN2 alsX2 53 (ls2 5 n m (slF S) (ptF V) e0 e1 L F (j:Int)) =
  bif decide ((j:Int)<(m:Int)) then rdR j m (req (isPt (ptV (V (0+j)))&&ckR (unPt (ptV (V (0+j))))) (req (Nat.ble (pbL (unPt (ptV (V (0+j))))) (pbL (unPt (ptV (V (0+j)))))&&true) (apN L (pbL (unPt (ptV (V (0+j))))) (some (.normal,ls2 5 n m (slF S) (ptF V) e0 e1 (L+pbL (unPt (ptV (V (0+j))))) (appF L F (sgF (pbL (unPt (ptV (V (0+j))))) (pbR (unPt (ptV (V (0+j))))))) (IntKind.i64.wrap ((j:Int)+1)))))))
  else some (.exit 2,ls2 5 n m (slF S) (ptF V) e0 e1 L F (j:Int)):=by kernel_rfl
theorem als_l1 {n m:Nat} {S:Nat->Nat} {V:Nat->RP} {e0 e1:Nat} (hn:n<=8) :
  LoopOkK Try.prog 46 (loopAt alsP1 (bodyOf Try.f30)) (inK alsK) (atSt alsN1 alsX1 41 (ls1 70 5 n m (slF S) (ptF V) e0 e1 (1+1) (liF (l0A n)) 0) (.exit 0) (ls1 70 5 n m (slF S) (ptF V) e0 e1 (2+32*n) (liF (l0A n++syS S n)) (n:Int))):=by
 refine loopKE (fun _=>alsC0) n (fun _ _=>⟨mixed,tabOk,alsS_ok,noL⟩) (fun _ _=>nilLK) (fun _=>rfl) als_at1 (m:=60) (nt:=alsN1) (ni:=alsI1) (et:=alsN1) (ei:=alsX1) (nx:=41) (ex:=41) (fun k=>ls1 70 5 n m (slF S) (ptF V) e0 e1 (2+32*k) (liF (l0A n++syS S k)) (k:Int)) (by show ls1 _ _ _ _ _ _ _ _ _ _ _=ls1 _ _ _ _ _ _ _ _ _ _ _;rw[show syS S 0=[] from rfl,List.append_nil];rfl) (by kernel_rfl) (by kernel_rfl) (by kernel_rfl) (by intro h;cases h) ?_ ?_
 ·intro k hk
  refine⟨ls1 70 5 n m (slF S) (ptF V) e0 e1 (2+32*k+32) (appF (2+32*k) (liF (l0A n++syS S k)) (lstF (slC (S k)) 0 1)) ((k+1:Nat):Int),?_,?_⟩
  ·refine(als_r1 n m S V e0 e1 _ _ k).trans ?_
   rw[decide_eq_true (by omega),cond_true,rdR_eq hk,apN_eq (by omega),Nat.zero_add,wrap_i64 (by omega)];rfl
  ·refine ls1_eq (fun _ _=>rfl) (fun _ _=>rfl) ?_
   have h1:Holds (2+32*k) (liF (l0A n++syS S k)) (l0A n++syS S k):=by
    have:=rep_li (l0A n++syS S k)
    rw[List.length_append,syS_len,show(l0A n).length=2 from rfl] at this;exact this
   have h2:=rep_app h1 (holds_sl (S k))
   rw[List.append_assoc] at h2
   exact rep_row h2
 ·refine⟨_,?_,stEq_refl rfl⟩
  refine(als_r1 n m S V e0 e1 _ _ n).trans ?_
  rw[decide_eq_false (by omega),cond_false]
theorem als_l2 {n m:Nat} {S:Nat->Nat} {V:Nat->RP} {e0 e1:Nat} (hn:n<=8) (hm:m<=64) (hV:∀j,j<m->ckR (V j)=true) :
  LoopOkK Try.prog 46 (loopAt alsP2 (bodyOf Try.f30)) (inK alsK) (atSt alsN2 alsX2 53 (ls2 5 n m (slF S) (ptF V) e0 e1 (2+32*n+1) (liF (l1A n S m)) 0) (.exit 2) (ls2 5 n m (slF S) (ptF V) e0 e1 (2+32*n+1+pyL V m) (liF (l1A n S m++pyS V m)) (m:Int))):=by
 refine loopKE (fun _=>alsC0) m (fun _ _=>⟨mixed,tabOk,alsS_ok,noL⟩) (fun _ _=>nilLK) (fun _=>rfl) als_at2 (m:=60) (nt:=alsN2) (ni:=alsI2) (et:=alsN2) (ei:=alsX2) (nx:=53) (ex:=53) (fun k=>ls2 5 n m (slF S) (ptF V) e0 e1 (2+32*n+1+pyL V k) (liF (l1A n S m++pyS V k)) (k:Int)) (by show ls2 _ _ _ _ _ _ _ _ _ _=ls2 _ _ _ _ _ _ _ _ _ _;rw[show pyS V 0=[] from rfl,List.append_nil];rfl) (by kernel_rfl) (by kernel_rfl) (by kernel_rfl) (by intro h;cases h) ?_ ?_
 ·intro k hk
  have hl:=pyL_le V k
  have hp:=pbL_le (V k)
  refine⟨ls2 5 n m (slF S) (ptF V) e0 e1 (2+32*n+1+pyL V k+pbL (V k)) (appF (2+32*n+1+pyL V k) (liF (l1A n S m++pyS V k)) (sgF (pbL (V k)) (pbR (V k)))) ((k+1:Nat):Int),?_,?_⟩
  ·refine(als_r2 n m S V e0 e1 _ _ k).trans ?_
   rw[decide_eq_true (by omega),cond_true,rdR_eq hk,Nat.zero_add,isPt_ptV,unPt_ptV (ck_okR (hV k hk)),hV k hk,req_true (b:=true&&true) rfl,Nat.ble_eq_true_of_le (Nat.le_refl _),req_true (b:=true&&true) rfl,apN_eq (by omega),wrap_i64 (by omega)];rfl
  ·rw[show 2+32*n+1+pyL V (k+1)=2+32*n+1+pyL V k+pbL (V k) from by rw[pyL];omega]
   refine ls2_eq (fun _ _=>rfl) (fun _ _=>rfl) ?_
   have h1:Holds (2+32*n+1+pyL V k) (liF (l1A n S m++pyS V k)) (l1A n S m++pyS V k):=by
    have:=rep_li (l1A n S m++pyS V k)
    rw[List.length_append,pyS_len,l1A_len] at this;exact this
   have h2:=rep_app h1 (rep_sg (pbL (V k)) (rep_pb (V k)))
   rw[List.append_assoc] at h2
   exact rep_row h2
 ·refine⟨_,?_,stEq_refl rfl⟩
  refine(als_r2 n m S V e0 e1 _ _ m).trans ?_
  rw[decide_eq_false (by omega),cond_false]
noncomputable def alsL (n m:Nat) (S:Nat->Nat) (V:Nat->RP) (e0 e1:Nat) (L1:Nat) (F0 F1:Nat->List Value) (L2:Nat) (F2:Nat->List Value) (L3:Nat) (F3:Nat->List Value):List (List Nat×(St->List (Bool×Exit×St))) :=
 [(alsP1,atSt alsN1 alsX1 41 (ls1 70 5 n m (slF S) (ptF V) e0 e1 (1+1) F0 0) (.exit 0) (ls1 70 5 n m (slF S) (ptF V) e0 e1 L1 F1 (n:Int))),
  (alsP2,atSt alsN2 alsX2 53 (ls2 5 n m (slF S) (ptF V) e0 e1 L2 F2 0) (.exit 2) (ls2 5 n m (slF S) (ptF V) e0 e1 L3 F3 (m:Int)))]
noncomputable def alsE (L:List (List Nat×(St->List (Bool×Exit×St)))):Ent:=inlK tab alsS 46 L alsK Try.f30 (bodyOf Try.f30) 60
theorem alsE_ok {L:List (List Nat×(St->List (Bool×Exit×St)))} (h:∀q F',lookP L q=some F'->LoopOkK Try.prog 46 (loopAt q (bodyOf Try.f30)) (inK alsK) F'):EntOk Try.prog 30 (alsE L):=inlK_sum tabOk alsS_ok mixed h Try.func30 (by kernel_rfl) (by kernel_rfl) rfl
noncomputable def alaS (E:Ent):Sums:=[(29,alrE),(30,E),(31,alvE)]
theorem alaS_ok {E:Ent} (h:EntOk Try.prog 30 E):SumsOk Try.prog (alaS E):=sums_consI alrE_ok (sums_consI h (sums_consI alvE_ok sums_nil))
noncomputable def alaE (E:Ent):Ent:=inl tab (alaS E) 42 Try.f16 (bodyOf Try.f16)
theorem alaE_ok {E:Ent} (h:EntOk Try.prog 30 E):EntOk Try.prog 16 (alaE E):=inl_sum tabOk (alaS_ok h) mixed Try.func16 (by kernel_rfl) (by kernel_rfl) rfl
noncomputable def abyS (E:Ent):Sums:=[(15,.me CkeF),(17,afoE),(16,alaE E)]
theorem abyS_ok {E:Ent} (h:EntOk Try.prog 30 E):SumsOk Try.prog (abyS E):=sums_consM ack_msum (sums_consI afoE_ok (sums_consI (alaE_ok h) sums_nil))
noncomputable def abyC (E:Ent):Cfg:=⟨tab,abyS E,19,[]⟩
noncomputable def abyC0:Cfg:=abyC (alsE [(alsP1,fun _=>[])])
theorem abyC0_ok:CfgOk Try.prog abyC0 (bodyOf Try.f7):=⟨mixed,tabOk,abyS_ok (alsE_ok (consLK noneLK nilLK)),noL⟩
theorem aby_ev5 (i:Bool) (x y n m c r:Nat) (g:Int) (lab:ByteArray) (f h:Nat->List Value) (es:Nat->TypeId) (er:Nat->Nat->TypeId) (id:Nat) :
  fnMS abyC0 60 Try.f7 (bodyOf Try.f7) (cArgsX [.ag (acA 5 (i,x,y) lab n f m h g (c,r))] 0) (cMemX es er [.ag (acA 5 (i,x,y) lab n f m h g (c,r))]) 0 id =
  byT (es (agId 0 11)) (es (agId 0 12)) 5 (i,x,y) lab n f m h g (c,r) (lbT5 5 id 5):=by kernel_rfl
theorem aby_ev1 (i:Bool) (x y n m c r:Nat) (g:Int) (lab:ByteArray) (f h:Nat->List Value) (es:Nat->TypeId) (er:Nat->Nat->TypeId) (id:Nat) :
  fnMS abyC0 60 Try.f7 (bodyOf Try.f7) (cArgsX [.ag (acA 1 (i,x,y) lab n f m h g (c,r))] 0) (cMemX es er [.ag (acA 1 (i,x,y) lab n f m h g (c,r))]) 0 id =
  byT (es (agId 0 11)) (es (agId 0 12)) 1 (i,x,y) lab n f m h g (c,r) (lbT1 5 id i x y lab):=by kernel_rfl
theorem aby_ev4 (i:Bool) (x y n m c r:Nat) (g:Int) (lab:ByteArray) (f h:Nat->List Value) (es:Nat->TypeId) (er:Nat->Nat->TypeId) (id:Nat) :
  fnMS abyC0 60 Try.f7 (bodyOf Try.f7) (cArgsX [.ag (acA 4 (i,x,y) lab n f m h g (c,r))] 0) (cMemX es er [.ag (acA 4 (i,x,y) lab n f m h g (c,r))]) 0 id =
  byT (es (agId 0 11)) (es (agId 0 12)) 4 (i,x,y) lab n f m h g (c,r) (lbT4 5 id i x y c r):=by kernel_rfl
theorem aby_ev3 (i:Bool) (x y n m c r:Nat) (g:Int) (lab:ByteArray) (f h:Nat->List Value) (es:Nat->TypeId) (er:Nat->Nat->TypeId) (id:Nat) :
  fnMS abyC0 60 Try.f7 (bodyOf Try.f7) (cArgsX [.ag (acA 3 (i,x,y) lab n f m h g (c,r))] 0) (cMemX es er [.ag (acA 3 (i,x,y) lab n f m h g (c,r))]) 0 id =
  byT (es (agId 0 11)) (es (agId 0 12)) 3 (i,x,y) lab n f m h g (c,r) (lbT3 5 id g i x y c r):=by kernel_rfl
theorem aby_evN (i:Bool) (x y n m c r:Nat) (g:Int) (lab:ByteArray) (f h:Nat->List Value) (es:Nat->TypeId) (er:Nat->Nat->TypeId) (id j:Nat) :
  fnMS abyC0 60 Try.f7 (bodyOf Try.f7) (cArgsX [.ag (acA (Int.negSucc j) (i,x,y) lab n f m h g (c,r))] 0) (cMemX es er [.ag (acA (Int.negSucc j) (i,x,y) lab n f m h g (c,r))]) 0 id =
  byT (es (agId 0 11)) (es (agId 0 12)) (Int.negSucc j) (i,x,y) lab n f m h g (c,r) (lbT5 5 id (Int.negSucc j)):=by kernel_rfl
theorem aby_ev0 (i:Bool) (x y n m c r:Nat) (g:Int) (lab:ByteArray) (f h:Nat->List Value) (es:Nat->TypeId) (er:Nat->Nat->TypeId) (id:Nat) :
  fnMS abyC0 60 Try.f7 (bodyOf Try.f7) (cArgsX [.ag (acA (0) (i,x,y) lab n f m h g (c,r))] 0) (cMemX es er [.ag (acA (0) (i,x,y) lab n f m h g (c,r))]) 0 id =
  byT (es (agId 0 11)) (es (agId 0 12)) (0) (i,x,y) lab n f m h g (c,r) (lbT5 5 id 0):=by kernel_rfl
theorem aby_ev6 (i:Bool) (x y n m c r:Nat) (g:Int) (lab:ByteArray) (f h:Nat->List Value) (es:Nat->TypeId) (er:Nat->Nat->TypeId) (id j:Nat) :
  fnMS abyC0 60 Try.f7 (bodyOf Try.f7) (cArgsX [.ag (acA (Int.ofNat (j+6)) (i,x,y) lab n f m h g (c,r))] 0) (cMemX es er [.ag (acA (Int.ofNat (j+6)) (i,x,y) lab n f m h g (c,r))]) 0 id =
  byT (es (agId 0 11)) (es (agId 0 12)) (Int.ofNat (j+6)) (i,x,y) lab n f m h g (c,r) (lbT5 5 id (Int.ofNat (j+6))):=by kernel_rfl
theorem aby_ev2n (i:Bool) (x y n m c r:Nat) (g:Int) (lab:ByteArray) (f h:Nat->List Value) (es:Nat->TypeId) (er:Nat->Nat->TypeId) (id:Nat) :
  fnMS abyC0 60 Try.f7 (bodyOf Try.f7) (cArgsX [.ag (acA (2) (i,x,y) lab n f m h g (c,r))] 0) (cMemX es er [.ag (acA (2) (i,x,y) lab n f m h g (c,r))]) 0 id =
  byT (es (agId 0 11)) (es (agId 0 12)) (2) (i,x,y) lab n f m h g (c,r) none:=by kernel_rfl
theorem aby_ev2 (i:Bool) (x y n m c r:Nat) (g:Int) (lab:ByteArray) (f h:Nat->List Value) (S:Nat->Nat) (V:Nat->RP) (L1:Nat) (F0 F1:Nat->List Value) (L2:Nat) (F2:Nat->List Value) (L3:Nat) (F3:Nat->List Value) (es:Nat->TypeId) (er:Nat->Nat->TypeId) (id:Nat) :
  fnMS (abyC (alsE (alsL n m S V (es (agId 0 11)) (es (agId 0 12)) L1 F0 F1 L2 F2 L3 F3))) 60 Try.f7 (bodyOf Try.f7) (cArgsX [.ag (acA 2 (i,x,y) lab n f m h g (c,r))] 0) (cMemX es er [.ag (acA 2 (i,x,y) lab n f m h g (c,r))]) 0 id =
  byT (es (agId 0 11)) (es (agId 0 12)) 2 (i,x,y) lab n f m h g (c,r)
   (req (stEq (ls1 70 5 n m f h (es (agId 0 11)) (es (agId 0 12)) (1+1) (appF 1 (b1 2) (b1 (n:Int))) 0) (ls1 70 5 n m (slF S) (ptF V) (es (agId 0 11)) (es (agId 0 12)) (1+1) F0 0))
    (apN L1 1 (req (stEq (ls2 5 n m (slF S) (ptF V) (es (agId 0 11)) (es (agId 0 12)) (L1+1) (appF L1 F1 (b1 (m:Int))) 0) (ls2 5 n m (slF S) (ptF V) (es (agId 0 11)) (es (agId 0 12)) L2 F2 0)) (ouP 5 id L3 F3)))):=by kernel_rfl
theorem aby_any (i:Bool) (x y n m c r:Nat) (g:Int) (lab:ByteArray) (f h:Nat->List Value) (es:Nat->TypeId) (er:Nat->Nat->TypeId) (id:Nat):∀k:Int,
  ∃O,fnMS abyC0 60 Try.f7 (bodyOf Try.f7) (cArgsX [.ag (acA k (i,x,y) lab n f m h g (c,r))] 0) (cMemX es er [.ag (acA k (i,x,y) lab n f m h g (c,r))]) 0 id =
  byT (es (agId 0 11)) (es (agId 0 12)) k (i,x,y) lab n f m h g (c,r) O
 | .negSucc j=>⟨_,aby_evN i x y n m c r g lab f h es er id j⟩
 | .ofNat 0=>⟨_,aby_ev0 i x y n m c r g lab f h es er id⟩
 | .ofNat 1=>⟨_,aby_ev1 i x y n m c r g lab f h es er id⟩
 | .ofNat 2=>⟨_,aby_ev2n i x y n m c r g lab f h es er id⟩
 | .ofNat 3=>⟨_,aby_ev3 i x y n m c r g lab f h es er id⟩
 | .ofNat 4=>⟨_,aby_ev4 i x y n m c r g lab f h es er id⟩
 | .ofNat 5=>⟨_,aby_ev5 i x y n m c r g lab f h es er id⟩
 | .ofNat (j+6)=>⟨_,aby_ev6 i x y n m c r g lab f h es er id j⟩
theorem aby_msum:MSum Try.prog 7 (BabF 5):=by
 intro w0 R fm w hm vs args' hl mm hsub id hlt v l hpick hnew
 match vs,hl,hpick with
 | [a],hl,hpick =>
  obtain ⟨hc,rfl,rfl⟩:=pick_one hpick
  simp only[Bool.and_eq_true] at hc
  obtain ⟨hc,hz⟩:=hc
  obtain ⟨k,K,lab,s,c,g,X,n,f,m,q,ea,oK,oX,oX',hs,o1,hq,o2,eA⟩:=isA_some hc
  rw[eA] at hz hnew ⊢
  have hz:=Nat.le_of_ble_eq_true hz
  clear eA hc hpick
  subst ea
  obtain ⟨i,x,y⟩:=K
  obtain ⟨c,r⟩:=X
  have h9:=hnew (nid id 0,_) (List.mem_cons_self ..)
  have run:∀(v:Value) (l:List (Nat×Blk)),(l=[]∨∃blk,l=[(nid id 0,blk)])->(∀es er,∃C,CfgOk Try.prog C (bodyOf Try.f7)∧C.n=Try.f7.ntmps∧fnMS C 60 Try.f7 (bodyOf Try.f7) (cArgsX [.ag (acA k (i,x,y) lab n f m q g (c,r))] 0) (cMemX es er [.ag (acA k (i,x,y) lab n f m q g (c,r))]) 0 id=some (v,l)) ->
    Invokes Try.prog 7 args'.toArray w fun v' w'=>∃R':Nat->Pl->Prop,(∀i p,R i p->R' i p)∧V2 R' v v'∧MRel w0 R' (memF fm l) w':=by
   intro v l hl1 hev
   refine msum_atV (c:=bodyOf Try.f7) (fuel:=60) (next:=0) Try.func7 (by kernel_rfl) (by kernel_rfl) hm hl hsub hlt
    (A:=[.ag (acA k (i,x,y) lab n f m q g (c,r))]) ⟨⟨_,rfl,acA_ok hs hq⟩,trivial⟩ (by kernel_rfl) (by show 1<=Try.f7.ntmps;decide +kernel) hl1 (fun p hp=>?_) hev
   rcases hl1 with rfl | ⟨blk,rfl⟩
   ·cases hp
   ·rw[List.mem_singleton.1 hp];exact h9
  have hb:=fun(e0 e1:Nat)=>byT_eq (e0:=e0) (e1:=e1) (k:=k) (K:=(i,x,y)) (lab:=lab) (g:=g) (X:=(c,r)) oK oX oX' o1 o2 hz
  by_cases h0:ckE ⟨k,(i,x,y),lab,n,slA f,m,pA q,g,(c,r)⟩=0
  ·have fin:∀(L:Nat) (F:Nat->List Value),Holds L F (wr0 ⟨k,(i,x,y),lab,n,slA f,m,pA q,g,(c,r)⟩)->(∀es er,∃C,CfgOk Try.prog C (bodyOf Try.f7)∧C.n=Try.f7.ntmps∧fnMS C 60 Try.f7 (bodyOf Try.f7) (cArgsX [.ag (acA k (i,x,y) lab n f m q g (c,r))] 0) (cMemX es er [.ag (acA k (i,x,y) lab n f m q g (c,r))]) 0 id=some (.tuple #[nSl id L,i64 0],rw1 5 id L F)) ->
     Invokes Try.prog 7 args'.toArray w fun v' w'=>∃R':Nat->Pl->Prop,(∀i p,R i p->R' i p)∧V2 R' (.tuple #[nSl id (wrL ⟨k,(i,x,y),lab,n,slA f,m,pA q,g,(c,r)⟩),i64 (ckE ⟨k,(i,x,y),lab,n,slA f,m,pA q,g,(c,r)⟩)]) v'∧MRel w0 R' (memF fm (rw1 5 id (wrL ⟨k,(i,x,y),lab,n,slA f,m,pA q,g,(c,r)⟩) (liF (wrA ⟨k,(i,x,y),lab,n,slA f,m,pA q,g,(c,r)⟩)))) w':=by
    intro L F hH hev
    have eL:wrL ⟨k,(i,x,y),lab,n,slA f,m,pA q,g,(c,r)⟩=L:=by rw[wrL_eq,wrA_ok h0,<-hH.1]
    rw[eL,wrA_ok h0,h0]
    exact invokes_eqv (f:=F) (rep_row hH) (run _ _ (.inr ⟨_,rfl⟩) hev)
   have hR:=ckE_iff.1 h0
   rcases hR with⟨hk,hK,hl1,hn,hm',hg,hX⟩ | ⟨hk,hK,hl1,hg,hX,hn,hm1,hm2,hV,hI⟩ | ⟨hk,hl1,hn,hm',hg1,hg2,hK,hX1,hX2⟩ | ⟨hk,hl1,hn,hm',hg,hK,hX1,hX2⟩ | ⟨hk,hK,hl1,hn,hm',hg,hX⟩
   ·simp only at hk hl1
    subst hk
    refine fin _ _ ?_ fun es er=>⟨abyC0,abyC0_ok,rfl,(aby_ev1 i x y n m c r g lab f q es er id).trans ((hb _ _ _).trans ((if_pos h0).trans (lbT1_eq (ful_ck hK) _ _ _)))⟩
    rw[wr0_1 rfl]
    have:=lbl_size hl1
    exact holds_pp (rep_sg _ (holds_pt1 (i,x,y) (holds_b1 (k:=1) (by decide)))) (rep_sg _ (rep_str lab)) (by omega)
   ·simp only at hk hn hm1 hm2 hV
    subst hk
    refine fin (2+32*n+1+pyL (pA q) m) (liF (l1A n (slA f) m++pyS (pA q) m)) ?_ fun es er=>⟨abyC (alsE (alsL n m (slA f) (pA q) (es (agId 0 11)) (es (agId 0 12)) (2+32*n) (liF (l0A n)) (liF (l0A n++syS (slA f) n)) (2+32*n+1) (liF (l1A n (slA f) m)) (2+32*n+1+pyL (pA q) m) (liF (l1A n (slA f) m++pyS (pA q) m)))),⟨mixed,tabOk,abyS_ok (alsE_ok (consLK (als_l1 hn) (consLK (als_l2 hn hm2 (alP_iff.1 hV)) nilLK))),noL⟩,rfl,?_⟩
    ·rw[wr0_2 rfl]
     have:=rep_li (l1A n (slA f) m++pyS (pA q) m)
     rw[List.length_append,pyS_len,l1A_len] at this;exact this
    ·refine(aby_ev2 i x y n m c r g lab f q (slA f) (pA q) _ _ _ _ _ _ _ es er id).trans ((hb _ _ _).trans ((if_pos h0).trans ?_))
     refine(req_true (ls1_eq (row_sl o1) (row_pt o2) (rep_row (rep_app (holds_b1 (k:=2) (by decide)) (holds_b1 (k:=n) (by omega)))))).trans ?_
     rw[apN_eq (by omega)]
     refine(req_true (ls2_eq (fun _ _=>rfl) (fun _ _=>rfl) ?_)).trans (by rw[ouP_eq])
     have h1:Holds (2+32*n) (liF (l0A n++syS (slA f) n)) (l0A n++syS (slA f) n):=by
      have:=rep_li (l0A n++syS (slA f) n)
      rw[List.length_append,syS_len,show(l0A n).length=2 from rfl] at this;exact this
     exact rep_row (rep_app h1 (holds_b1 (k:=m) (by omega)))
   ·simp only at hk hg1 hg2
    subst hk
    refine fin _ _ ?_ fun es er=>⟨abyC0,abyC0_ok,rfl,(aby_ev3 i x y n m c r g lab f q es er id).trans ((hb _ _ _).trans ((if_pos h0).trans (lbT3_eq (ful_ck hK) _ _ _ _ _)))⟩
    rw[wr0_3 rfl]
    obtain ⟨g',rfl⟩:=Int.eq_ofNat_of_zero_le (show 0<=g by omega)
    exact holds_pf (holds_pt1 (i,x,y) (rep_app (holds_b1 (k:=3) (by decide)) (holds_b1 (k:=g') (by omega)))) oX oX'
   ·simp only at hk
    subst hk
    refine fin _ _ ?_ fun es er=>⟨abyC0,abyC0_ok,rfl,(aby_ev4 i x y n m c r g lab f q es er id).trans ((hb _ _ _).trans ((if_pos h0).trans (lbT4_eq (ful_ck hK) _ _ _ _)))⟩
    rw[wr0_4 rfl]
    exact holds_pf (holds_pt1 (i,x,y) (holds_b1 (k:=4) (by decide))) oX oX'
   ·simp only at hk
    subst hk
    exact fin _ _ (holds_5 _ rfl) fun es er=>⟨abyC0,abyC0_ok,rfl,(aby_ev5 i x y n m c r g lab f q es er id).trans ((hb _ _ _).trans (if_pos h0))⟩
  ·have eL:wrL ⟨k,(i,x,y),lab,n,slA f,m,pA q,g,(c,r)⟩=0:=by rw[wrL_eq,wrA_no h0];rfl
   rw[eL] at h9 ⊢
   refine invokes_nilT (rest:=[i64 (ckE ⟨k,(i,x,y),lab,n,slA f,m,pA q,g,(c,r)⟩)]) hlt (h9.1 ⟨Nat.le_refl _,by show nid id 0<nid id 8;unfold nid;omega⟩) (run _ _ (.inl rfl) fun es er=>?_)
   obtain ⟨O,hO⟩:=aby_any i x y n m c r g lab f q es er id k
   exact⟨abyC0,abyC0_ok,rfl,hO.trans ((hb _ _ O).trans (if_neg h0))⟩
 | [],_,h=>simp[BabF,pickM] at h
 | _::_::_,_,h=>simp[BabF,pickM] at h
end Go.Proofs.Ytckbmhegopjnmaa

namespace Go.W
open Go
theorem rune_uniq {b b':Nat->Nat} {i i' r w w':Nat} (h:runeAt b i r w) (h':runeAt b' i' r w'):w=w'∧∀k,k<w->b (i+k)=b' (i'+k):=by
 have two:∀{p:Nat->Prop} {n:Nat},n=2->p 0->p 1->∀k,k<n->p k:=by
  intro p n hn h0 h1 k hk
  have:k=0∨k=1:=by omega
  rcases this with rfl | rfl
  ·exact h0
  ·exact h1
 have three:∀{p:Nat->Prop} {n:Nat},n=3->p 0->p 1->p 2->∀k,k<n->p k:=by
  intro p n hn h0 h1 h2 k hk
  have:k=0∨k=1∨k=2:=by omega
  rcases this with rfl | rfl | rfl
  ·exact h0
  ·exact h1
  ·exact h2
 have four:∀{p:Nat->Prop} {n:Nat},n=4->p 0->p 1->p 2->p 3->∀k,k<n->p k:=by
  intro p n hn h0 h1 h2 h3 k hk
  have:k=0∨k=1∨k=2∨k=3:=by omega
  rcases this with rfl | rfl | rfl | rfl
  ·exact h0
  ·exact h1
  ·exact h2
  ·exact h3
 rcases h with⟨e,a1,a2⟩ | ⟨e,a1,a2,a3,a4⟩ | ⟨e,a1,a2,a3,a4,a5,_⟩ | ⟨e,a1,a2,a3,a4,a5,a6,_⟩ <;>
  rcases h' with⟨e',b1,b2⟩ | ⟨e',b1,b2,b3,b4⟩ | ⟨e',b1,b2,b3,b4,b5,_⟩ | ⟨e',b1,b2,b3,b4,b5,b6,_⟩
 ·refine⟨by omega,fun k hk=>?_⟩
  have:k=0:=by omega
  subst this
  show b (i+0)=b' (i'+0)
  rw[Nat.add_zero,Nat.add_zero];omega
 ·omega
 ·omega
 ·omega
 ·omega
 ·exact⟨by omega,two (p:=fun k=>b (i+k)=b' (i'+k)) e (by show b i=b' i';omega) (by show b (i+1)=b' (i'+1);omega)⟩
 ·omega
 ·omega
 ·omega
 ·omega
 ·exact⟨by omega,three (p:=fun k=>b (i+k)=b' (i'+k)) e (by show b i=b' i';omega) (by show b (i+1)=b' (i'+1);omega) (by show b (i+2)=b' (i'+2);omega)⟩
 ·omega
 ·omega
 ·omega
 ·omega
 ·exact⟨by omega,four (p:=fun k=>b (i+k)=b' (i'+k)) e (by show b i=b' i';omega) (by show b (i+1)=b' (i'+1);omega) (by show b (i+2)=b' (i'+2);omega) (by show b (i+3)=b' (i'+3);omega)⟩
theorem rune_vld {b:Nat->Nat} {i r w:Nat} (h:runeAt b i r w):vld (r:Int):=by
 rcases h with⟨_,a1,a2⟩ | ⟨_,a1,a2,a3,a4⟩ | ⟨_,a1,a2,a3,a4,a5,a6⟩ | ⟨_,a1,a2,a3,a4,a5,a6,a7⟩
 ·unfold vld;omega
 ·unfold vld;omega
 ·exact valid_vld.1 a6
 ·exact valid_vld.1 a7
theorem enc_at {s:ByteArray} {p r w:Nat} (h:runeAt (byt s) p r w) (hp:p+w<=s.size):s.extract p (p+w)=Utf8.encode (r:Int):=by
 have h2:=enc_rune (rune_vld h)
 rw[Int.toNat_natCast] at h2
 obtain ⟨e1,e2⟩:=rune_uniq h h2
 have hs:(s.extract p (p+w)).size=w:=by rw[size_cut hp];omega
 refine txt_ext (by rw[hs];exact e1) fun j hj=>?_
 rw[hs] at hj
 rw[byt_cut _ _ _ _ (by omega),e2 j hj,Nat.zero_add]
theorem cut_two (s:ByteArray) {p q:Nat} (h:p<=q) (hq:q<=s.size):s.extract 0 p++s.extract p q=s.extract 0 q:=by
 have h1:(s.extract 0 p).size=p:=by rw[size_cut (by omega)];omega
 have h2:(s.extract p q).size=q - p:=by rw[size_cut hq]
 have h3:(s.extract 0 q).size=q:=by rw[size_cut hq];omega
 refine txt_ext (by rw[size_app,h1,h2,h3];omega) fun j hj=>?_
 rw[size_app,h1,h2] at hj
 rw[byt_app,h1,byt_cut s 0 q j (by omega)]
 by_cases e:j<p
 ·rw[if_pos e,byt_cut s 0 p j (by omega)]
 ·rw[if_neg e,byt_cut s p q (j - p) (by omega),show p+(j - p)=0+j by omega]
theorem vld_rc {s:ByteArray} {k:Nat} (h:k<rN s):vld ((rc s k:Nat):Int):=by
 have hp:=lt_rN.2 h
 unfold rc dC
 rcases decB_cases (b:=byt s) hp with⟨e,_⟩ | ⟨r,w,e,h1,_⟩
 ·rw[e];show vld ((65533:Nat):Int);unfold vld;omega
 ·rw[e];exact rune_vld h1
def rcI (s:ByteArray) (j:Nat):Int:=((rc s j:Nat):Int)
theorem encs_rc {s:ByteArray} (h:right s):∀k,k<=rN s->encs (rcI s) k=s.extract 0 (ps s k)
 | 0,_=>by
  show(⟨#[]⟩:ByteArray)=s.extract 0 (ps s 0)
  rw[ps_zero]
  refine txt_ext ?_ fun j hj=>absurd hj (Nat.not_lt_zero _)
  rw[size_cut (Nat.zero_le _)];rfl
 | k+1,hk=>by
  have hp:=lt_rN.2 (show k<rN s by omega)
  obtain ⟨_,e1⟩:=ps_lt hp
  have e0:=encs_rc h k (by omega)
  show encs (rcI s) k++Utf8.encode (rcI s k)=_
  rcases decB_cases (b:=byt s) hp with⟨e,_⟩ | ⟨r,w,e,h1,h2⟩
  ·exact absurd e (h k (by omega))
  ·have ew:dW s (ps s k)=w:=by unfold dW;rw[e]
   have er:rcI s k=(r:Int):=by unfold rcI rc dC;rw[e]
   rw[e0,er,<-enc_at h1 h2,e1,ew,cut_two s (by omega) h2]
noncomputable def tx25 (s:ByteArray):ByteArray:=hide (encs (rcI s) (min 25 (rN s)))
theorem tx25_eq (s:ByteArray):tx25 s=encs (rcI s) (min 25 (rN s)):=hide_eq _
theorem tx25_size (s:ByteArray):(tx25 s).size<=100:=by
 rw[tx25_eq]
 have:=(encs_all (l:=rcI s) (n:=min 25 (rN s)) fun k hk=>vld_rc (by omega)).2.2.2
 omega
theorem lbl_tx (s:ByteArray):lbl (tx25 s)↔lbl s:=by
 rw[tx25_eq,lbl_encs (l:=rcI s) (fun k hk=>vld_rc (by omega))]
 have e:∀k,(rcI s k).toNat=rc s k:=fun k=>Int.toNat_natCast _
 simp only[e]
 unfold lbl
 constructor
 ·rintro ⟨a1,a2,a3,a4,a5⟩
  have em:min 25 (rN s)=rN s:=by omega
  rw[em] at a1 a2 a3 a5
  exact⟨a1,a2,a3,a4,a5⟩
 ·rintro ⟨a1,a2,a3,a4,a5⟩
  have em:min 25 (rN s)=rN s:=by omega
  rw[em]
  exact⟨a1,a2,a3,a4,a5⟩
theorem tx_lbl {s:ByteArray} (h:lbl s):tx25 s=s:=by
 rw[tx25_eq,show min 25 (rN s)=rN s by have:=h.2.1;omega,encs_rc (lbl_right h.2.2.1) _ (Nat.le_refl _),ps_rN (Nat.le_refl _)]
 exact cut_all s
theorem lblB_tx (s:ByteArray):lblB (tx25 s)=lblB s:=by
 rw[Bool.eq_iff_iff,lblB_iff,lblB_iff];exact lbl_tx s
theorem nsL_snoc (g:Nat->List Value):∀n lo,nsL g lo (n+1)=nsL g lo n++[toI ((g (lo+n)).headD (.bool false))]
 | 0,lo=>rfl
 | n+1,lo=>by
  rw[nsL,nsL_snoc g n (lo+1),nsL,show lo+1+n=lo+(n+1) by omega];rfl
theorem rowRn_encs (g:Nat->List Value):∀n,rowRn n g=encs (fun j=>toI ((g j).headD (.bool false))) n
 | 0=>rfl
 | n+1=>by
  have ih:=rowRn_encs g n
  unfold rowRn at ih ⊢
  rw[nsL_snoc,List.foldl_append,ih,Nat.zero_add];rfl
theorem encs_congr {l k:Nat->Int}:∀{n:Nat},(∀j,j<n->l j=k j)->encs l n=encs k n
 | 0,_=>rfl
 | n+1,h=>by
  show encs l n++_=encs k n++_
  rw[encs_congr (n:=n) fun j hj=>h j (by omega),h n (by omega)]
end Go.W

namespace Go.W
open Go
theorem hd_at {m:Nat} {g:Nat->List Value} (hg:okY m g=true) {q:Int×Bool} (h:inQ m q) {b:Nat} {r:List Nat} (hs:stO (lsB m g) q=some (b::r)):q.1<m∧bI g q.1.toNat=((b:Nat):Int):=by
 obtain ⟨h0,h1⟩:=h
 have hz:=stO_ok hs
 unfold stO at hs
 rw[hz,if_neg (by decide)] at hs
 have hs:=Option.some.inj hs
 have hl:=congrArg List.length hs
 rw[List.length_drop,lsB_len,List.length_cons] at hl
 have ha:q.1<m:=by omega
 refine⟨ha,?_⟩
 rw[lsB_get hg (by omega)]
 have e:=congrArg (fun l:List Nat=>l.getD 0 0) hs
 simp only[List.getD_eq_getElem?_getD,List.getElem?_drop,Nat.add_zero] at e
 rw[List.getD_eq_getElem?_getD,e];rfl
noncomputable def nuV (m:Nat) (g:Nat->List Value) (a:Int):Int:=hide (if a<m then bI g a.toNat else 0)
noncomputable def nuA (m:Nat) (a:Int):Int:=hide (if a<m then a+1 else a)
noncomputable def nuZ (m:Nat) (a:Int) (z:Bool):Bool:=hide (z||!decide (a<m))
noncomputable def nuS (m:Nat) (q:Int×Bool):Int×Bool:=(nuA m q.1,nuZ m q.1 q.2)
theorem inQ_nu {m:Nat} {q:Int×Bool} (h:inQ m q):inQ m (nuS m q):=by
 obtain ⟨h0,h1⟩:=h
 unfold inQ nuS nuA
 simp only[hide_eq]
 by_cases e:q.1<m
 ·rw[if_pos e];omega
 ·rw[if_neg e];omega
theorem gtE0_1 {m:Nat} {a:Int} {z:Bool} (h:inQ m (a,z)):gtE0 m a 1=if a<m then 0 else 7:=by
 obtain ⟨h0,h1⟩:=h
 have h0:0<=a:=h0
 have h1:a<=m:=h1
 unfold gtE0
 rw[if_neg (not_not_intro ⟨by omega,by omega,h0,h1⟩)]
 by_cases e:a<m
 ·rw[if_pos e,if_neg (by omega)]
 ·rw[if_neg e,if_pos (by omega)]
theorem gtV_1 {m:Nat} {g:Nat->List Value} (hg:okY m g=true) {a:Nat} (h:a<m):((gtV g a 1:Nat):Int)=bI g a:=by
 have h1:=okY_iff.1 hg a h
 show((0*256+(bI g (a+0)).toNat:Nat):Int)=_
 rw[Nat.add_zero];omega
theorem nu_get {m:Nat} {g:Nat->List Value} (hg:okY m g=true) {a:Int} {z:Bool} (h:inQ m (a,z)) (f:Nat->List Value) (hf:∀j,bI f j=bI g j):gtN m f a 1=nuV m g a∧gtE m a 1=(if a<m then 0 else 7)∧gtX m a 1=(if a<m then a+1 else 0):=by
 have e:=gtE0_1 h
 obtain ⟨h0,h1⟩:=h
 have h0:0<=a:=h0
 unfold gtN gtE gtX nuV
 rw[hide_eq,hide_eq,hide_eq,hide_eq,e]
 by_cases c:a<m
 ·rw[if_pos c,if_pos c,if_pos rfl,if_pos rfl,if_pos c]
  refine⟨?_,rfl,rfl⟩
  rw[show(1:Int).toNat=1 from rfl,gtV_congr (f:=f) (g:=g) 1 fun j _ _=>hf j,gtV_1 hg (by omega)]
 ·rw[if_neg c,if_neg c,if_neg (by decide),if_neg (by decide),if_neg c]
  exact⟨rfl,rfl,rfl⟩
theorem st_nu {m:Nat} {g:Nat->List Value} {q:Int×Bool} (h:inQ m q):stO (lsB m g) (nuS m q)=aftO 1 (stO (lsB m g) q):=by
 obtain ⟨a,bad⟩:=q
 obtain ⟨h0,h1⟩:=h
 have h0:0<=a:=h0
 have h1:a<=m:=h1
 unfold stO nuS nuA nuZ
 simp only[hide_eq]
 cases bad with
 | true=>rw[Bool.true_or,if_pos rfl,if_pos rfl];rfl
 | false =>
  rw[Bool.false_or,if_neg (show ¬false=true by decide)]
  unfold aftO
  by_cases c:a<m
  ·simp only
   rw[decide_eq_true c,if_neg (by decide),if_pos c,if_pos (by rw[List.length_drop,lsB_len];omega),List.drop_drop,show(a+1).toNat=a.toNat+1 by omega]
  ·simp only
   rw[decide_eq_false c,if_pos (by decide),if_neg (by rw[List.length_drop,lsB_len];omega)]
theorem nu_some {m:Nat} {g:Nat->List Value} (hg:okY m g=true) {q:Int×Bool} (h:inQ m q) {r:List Nat} (hs:stO (lsB m g) (nuS m q)=some r):∃b,stO (lsB m g) q=some (b::r)∧nuV m g q.1=((b:Nat):Int):=by
 obtain ⟨p1,hp1,o2⟩:=aft_some ((st_nu h).symm.trans hs)
 match p1,hp1 with
 | [b],_ =>
  have o2:stO (lsB m g) q=some (b::r):=o2
  obtain ⟨k1,k2⟩:=hd_at hg h o2
  exact⟨b,o2,by unfold nuV;rw[hide_eq,if_pos k1,k2]⟩
theorem nu_back {m:Nat} {g:Nat->List Value} (hg:okY m g=true) {q:Int×Bool} (h:inQ m q) {b:Nat} {r:List Nat} (hs:stO (lsB m g) q=some (b::r)):stO (lsB m g) (nuS m q)=some r∧nuV m g q.1=((b:Nat):Int):=by
 obtain ⟨k1,k2⟩:=hd_at hg h hs
 refine⟨(st_nu h).trans (by rw[hs];exact aft_app (p:=[b]) rfl),by unfold nuV;rw[hide_eq,if_pos k1,k2]⟩
theorem nuV_lt {m:Nat} {g:Nat->List Value} (hg:okY m g=true) {a:Int} (h0:0<=a):0<=nuV m g a∧nuV m g a<256:=by
 unfold nuV;rw[hide_eq]
 by_cases c:a<m
 ·rw[if_pos c];exact okY_iff.1 hg _ (by omega)
 ·rw[if_neg c];omega
noncomputable def cnZ (m:Nat) (g:Nat->List Value) (mx:Int) (a:Int) (z:Bool):Bool:=hide (nuZ m a z||decide (nuV m g a > mx))
noncomputable def cnS (m:Nat) (g:Nat->List Value) (mx:Int) (q:Int×Bool):Int×Bool:=(nuA m q.1,cnZ m g mx q.1 q.2)
noncomputable def cnN (m:Nat) (g:Nat->List Value) (mx:Int) (a:Int) (z:Bool):Nat:=hide (if cnZ m g mx a z=true then 0 else (nuV m g a).toNat)
theorem inQ_cn {m:Nat} {g:Nat->List Value} {mx:Int} {q:Int×Bool} (h:inQ m q):inQ m (cnS m g mx q):=inQ_nu h
theorem cnN_le {m:Nat} {g:Nat->List Value} (mx:Nat) (a:Int) (z:Bool):cnN m g mx a z<=mx:=by
 unfold cnN;rw[hide_eq]
 cases hz:cnZ m g mx a z with
 | true=>rw[if_pos rfl];omega
 | false =>
  rw[if_neg (by decide)]
  unfold cnZ at hz
  rw[hide_eq,Bool.or_eq_false_iff,decide_eq_false_iff_not] at hz
  omega
theorem cn_some {m:Nat} {g:Nat->List Value} (hg:okY m g=true) {mx:Nat} {q:Int×Bool} (h:inQ m q) {r:List Nat} (hs:stO (lsB m g) (cnS m g mx q)=some r):stO (lsB m g) q=some (cnN m g mx q.1 q.2::r):=by
 have hz:cnZ m g mx q.1 q.2=false:=stO_ok hs
 have hz2:=hz
 unfold cnZ at hz2
 rw[hide_eq,Bool.or_eq_false_iff,decide_eq_false_iff_not] at hz2
 have e:stO (lsB m g) (nuS m q)=some r:=by
  unfold cnS at hs;rw[hz] at hs
  unfold nuS;rw[hz2.1];exact hs
 obtain ⟨b,k1,k2⟩:=nu_some hg h e
 have:cnN m g mx q.1 q.2=b:=by
  unfold cnN;rw[hide_eq,hz,if_neg (by decide),k2];rfl
 rw[this];exact k1
theorem cn_back {m:Nat} {g:Nat->List Value} (hg:okY m g=true) {mx:Nat} {q:Int×Bool} (h:inQ m q) {b:Nat} (hb:b<=mx) {r:List Nat} (hs:stO (lsB m g) q=some (b::r)):stO (lsB m g) (cnS m g mx q)=some r∧cnN m g mx q.1 q.2=b:=by
 obtain ⟨k1,k2⟩:=nu_back hg h hs
 have h2:nuZ m q.1 q.2=false:=stO_ok k1
 have hz:cnZ m g mx q.1 q.2=false:=by
  unfold cnZ;rw[hide_eq,h2,k2,Bool.false_or,decide_eq_false (by omega)]
 constructor
 ·unfold cnS;rw[hz]
  unfold nuS at k1;rw[h2] at k1;exact k1
 ·unfold cnN;rw[hide_eq,hz,if_neg (by decide),k2];rfl
noncomputable def poN (m:Nat) (g:Nat->List Value) (a:Int):Nat:=hide (if a<m∧bI g a.toNat=0 then 1 else 33)
theorem poN_or (m:Nat) (g:Nat->List Value) (a:Int):poN m g a=1∨poN m g a=33:=by
 unfold poN;rw[hide_eq];split
 ·exact .inl rfl
 ·exact .inr rfl
noncomputable def poR (m:Nat) (g:Nat->List Value) (a:Int) (z:Bool):RP×Int:=hide (if tkB m a z (poN m g a)=true then rdS (poN m g a) (tkF m g a z (poN m g a)) else (zR,7))
noncomputable def poA (m:Nat) (g:Nat->List Value) (a:Int) (z:Bool):Int:=hide (tkA m a z (poN m g a))
noncomputable def poZ (m:Nat) (g:Nat->List Value) (a:Int) (z:Bool):Bool:=hide (tkZ m a z (poN m g a)||(poR m g a z).2 != 0)
noncomputable def poS (m:Nat) (g:Nat->List Value) (q:Int×Bool):Int×Bool:=(poA m g q.1 q.2,poZ m g q.1 q.2)
theorem inQ_po {m:Nat} {g:Nat->List Value} {q:Int×Bool} (h:inQ m q):inQ m (poS m g q):=by
 have:=inQ_tk h (n:=((poN m g q.1:Nat):Int)) (by omega)
 unfold inQ poS poA
 simp only[hide_eq];exact this
theorem okR_po (m:Nat) (g:Nat->List Value) (a:Int) (z:Bool):okR (poR m g a z).1:=by
 unfold poR;rw[hide_eq];split
 ·exact okR_rd _ _
 ·exact okR_z
theorem rdS_c {n:Nat} {f f':Nat->List Value} (hn:n=1∨n=33) (h:∀j,j<n->bI f j=bI f' j):rdS n f=rdS n f':=by
 rcases hn with rfl | rfl
 ·unfold rdS
  rw[hide_eq,hide_eq,h 0 (by decide),if_neg (c:=(1:Nat)=33∧_) (fun e=>absurd e.1 (by decide)),if_neg (c:=(1:Nat)=33∧_) (fun e=>absurd e.1 (by decide))]
 ·exact rdS_33 h
theorem tk_taken {m:Nat} {g:Nat->List Value} {q:Int×Bool} {n:Int} {r:List Nat} (h:stO (lsB m g) (tkS m q n)=some r):tkB m q.1 q.2 n=true:=by
 have hz:tkZ m q.1 q.2 n=false:=stO_ok h
 unfold tkZ at hz;rw[hide_eq] at hz
 cases hb:tkB m q.1 q.2 n with
 | true=>rfl
 | false=>rw[hb] at hz;cases hz
theorem po_some {m:Nat} {g:Nat->List Value} (hg:okY m g=true) {q:Int×Bool} (h:inQ m q) {r:List Nat} (hs:stO (lsB m g) (poS m g q)=some r):stO (lsB m g) q=some (pyB (poR m g q.1 q.2).1++r)∧ckR (poR m g q.1 q.2).1=true:=by
 have hz:poZ m g q.1 q.2=false:=stO_ok hs
 have hz2:=hz
 unfold poZ at hz2
 rw[hide_eq,Bool.or_eq_false_iff] at hz2
 have e:stO (lsB m g) (tkS m q ((poN m g q.1:Nat):Int))=some r:=by
  unfold poS poA at hs;rw[hz,hide_eq] at hs
  unfold tkS;rw[hz2.1];exact hs
 have ht:=tk_taken e
 obtain ⟨p,hp,o⟩:=aft_some ((st_tk h (poN m g q.1)).symm.trans e)
 have hH:=holds_tk hg h (n:=poN m g q.1) o (by rw[List.length_append];omega)
 rw[List.take_left' hp] at hH
 have hor:=poN_or m g q.1
 have eR:poR m g q.1 q.2=rdS (poN m g q.1) (liF p):=by
  unfold poR
  rw[hide_eq,if_pos ht]
  exact rdS_c hor fun j hj=>by rw[hH.2 j hj,bI_li]
 have h2:(rdS (poN m g q.1) (liF p)).2=0:=by
  have:=hz2.2
  rw[eR] at this
  exact Classical.byContradiction fun hn=>by rw[bne_iff_ne.2 hn] at this;cases this
 have hu:∀j,0<=bI (liF p) j∧bI (liF p) j<256:=by
  intro j
  rw[bI_li]
  have hb:=lt_of_mem hg o
  by_cases hj:j<p.length
  ·have:=hb _ (List.mem_append_left r (List.getElem_mem hj))
   rw[List.getD_eq_getElem?_getD,List.getElem?_eq_getElem hj,Option.getD_some]
   omega
  ·rw[List.getD_eq_getElem?_getD,List.getElem?_eq_none (by omega)]
   exact⟨by decide,by decide⟩
 obtain ⟨hck,hcase⟩:=rd_back hu h2
 rw[eR]
 refine⟨?_,hck⟩
 rw[o]
 congr 2
 rcases hcase with⟨hi,hn1,hb0⟩ | ⟨hi,hn33,heq⟩
 ·rw[hn1] at hp
  match p,hp with
  | [b],_ =>
   rw[bI_li] at hb0
   have hb0:((b:Nat):Int)=0:=hb0
   have:b=0:=by omega
   subst this
   unfold pyB;rw[if_pos hi]
 ·rw[hn33] at hp hi heq ⊢
  rw[pty_pb (okR_rd _ _) hi] at heq
  have hpb:=rep_pb (rdS 33 (liF p)).1
  have hpl:pbL (rdS 33 (liF p)).1=33:=by unfold pbL;rw[hi];rfl
  rw[hpl] at hpb
  exact rep_uniq (rep_congr (n:=33) (f:=liF p) ⟨hp.symm,fun j hj=>bI_li _ j⟩ fun j hj=>heq j hj) hpb rfl
theorem po_back {m:Nat} {g:Nat->List Value} (hg:okY m g=true) {q:Int×Bool} (h:inQ m q) {K:RP} (hK:ckR K=true) {r:List Nat} (hs:stO (lsB m g) q=some (pyB K++r)):stO (lsB m g) (poS m g q)=some r∧(poR m g q.1 q.2).1=K:=by
 have fin:∀n,poN m g q.1=n->(pyB K).length=n->rdS n (tkF m g q.1 q.2 (n:Int))=(K,0)->stO (lsB m g) (poS m g q)=some r∧(poR m g q.1 q.2).1=K:=by
  intro n hn hl he
  have h1:stO (lsB m g) (tkS m q (n:Int))=some r:=(st_tk h n).trans (by rw[hs];exact aft_app hl)
  have ht:=tk_taken h1
  have hz:tkZ m q.1 q.2 (n:Int)=false:=stO_ok h1
  have eR:poR m g q.1 q.2=(K,0):=by unfold poR;rw[hide_eq,hn,if_pos ht,he]
  refine⟨?_,by rw[eR]⟩
  unfold poS poA poZ
  rw[hide_eq,hide_eq,hn,eR,hz]
  unfold tkS at h1;rw[hz] at h1;exact h1
 by_cases hi:K.1=true
 ·have hp:pyB K=[0]:=by unfold pyB;rw[if_pos hi]
  have hs':stO (lsB m g) q=some (0::r):=by rw[hs,hp];rfl
  obtain ⟨k1,k2⟩:=hd_at hg h hs'
  refine fin 1 (by unfold poN;rw[hide_eq,if_pos ⟨k1,k2⟩]) (by rw[hp];rfl) ?_
  have hH:=holds_tk hg h (n:=1) hs' (by rw[List.length_cons];omega)
  have hb:bI (tkF m g q.1 q.2 ((1:Nat):Int)) 0=0:=hH.2 0 (by decide)
  unfold rdS;rw[hide_eq,if_pos ⟨rfl,hb⟩]
  rw[ck_infR hK hi]
 ·have hi2:K.1=false:=by simpa using hi
  have hp:pyB K=(2+K.2.2 % 2)::beL 32 K.2.1:=by unfold pyB;rw[if_neg hi]
  have hl:(pyB K).length=33:=by rw[hp,List.length_cons,beL_len]
  have hs':stO (lsB m g) q=some ((2+K.2.2 % 2)::(beL 32 K.2.1++r)):=by rw[hs,hp];rfl
  obtain ⟨k1,k2⟩:=hd_at hg h hs'
  refine fin 33 (by unfold poN;rw[hide_eq,if_neg (by rintro ⟨_,e⟩;rw[k2] at e;omega)]) hl ?_
  have hH:=holds_tk hg h (n:=33) hs (by rw[List.length_append];omega)
  rw[List.take_left' hl] at hH
  have hpb:=rep_pb K
  rw[show pbL K=33 from by unfold pbL;rw[hi2];rfl] at hpb
  exact(rdS_33 fun j hj=>by rw[hH.2 j hj,hpb.2 j hj]).trans (rd_pb hK hi2)
theorem gtV_deL {g:Nat->List Value} {a:Nat}:∀(k:Nat) (p:List Nat),p.length=k->(∀j,j<k->bI g (a+j)=((p.getD j 0:Nat):Int))->gtV g a k=deL p
 | 0,p,hp,_=>by
  have:p=[]:=List.length_eq_zero_iff.1 hp
  subst this;rfl
 | k+1,p,hp,h=>by
  obtain ⟨l,b,rfl⟩:∃l b,p=l++[b]:=⟨p.dropLast,p.getLast (by intro e;subst e;simp at hp),(List.dropLast_concat_getLast _).symm⟩
  have hl:l.length=k:=by simpa using hp
  rw[gtV,deL_snoc,gtV_deL k l hl fun j hj=>by
   rw[h j (by omega),List.getD_eq_getElem?_getD,List.getD_eq_getElem?_getD,List.getElem?_append_left (by omega)],h k (by omega)]
  rw[List.getD_eq_getElem?_getD,List.getElem?_append_right (by omega),hl,Nat.sub_self];rfl
noncomputable def gxA (m:Nat) (g:Nat->List Value) (a:Int):Int:=hide (if gpE0 m g a=0 then a+4+((gtV g a.toNat 4:Nat):Int) else a)
noncomputable def gxZ (m:Nat) (g:Nat->List Value) (a:Int) (z:Bool):Bool:=hide (z||!decide (gpE0 m g a=0))
noncomputable def gxV (m:Nat) (g:Nat->List Value) (a:Int):ByteArray:=hide (tx25 (rowS (gpL m g a) (gpR g a)))
noncomputable def gxS (m:Nat) (g:Nat->List Value) (q:Int×Bool):Int×Bool:=(gxA m g q.1,gxZ m g q.1 q.2)
theorem inQ_tx {m:Nat} {g:Nat->List Value} {q:Int×Bool} (h:inQ m q):inQ m (gxS m g q):=by
 unfold inQ gxS gxA
 simp only[hide_eq]
 by_cases e:gpE0 m g q.1=0
 ·rw[if_pos e]
  obtain ⟨_,k1,k2,k3⟩:=gpE0_ok e
  omega
 ·rw[if_neg e];exact h
theorem tx_some {m:Nat} {g:Nat->List Value} (hg:okY m g=true) {q:Int×Bool} {r:List Nat} (hs:stO (lsB m g) (gxS m g q)=some r):∃l:ByteArray,stO (lsB m g) q=some (beL 4 l.size++(txB l++r))∧gxV m g q.1=tx25 l:=by
 have hz:gxZ m g q.1 q.2=false:=stO_ok hs
 have hz2:=hz
 unfold gxZ at hz2
 rw[hide_eq,Bool.or_eq_false_iff] at hz2
 have h0:gpE0 m g q.1=0:=by
  have:=hz2.2
  exact Classical.byContradiction fun hn=>by rw[decide_eq_false hn] at this;cases this
 obtain ⟨_,k1,k2,k3⟩:=gpE0_ok h0
 unfold stO gxS gxA at hs
 simp only[hz,hide_eq] at hs
 rw[if_neg (by decide),if_pos h0] at hs
 have hs:=Option.some.inj hs
 obtain ⟨a,ha⟩:=Int.eq_ofNat_of_zero_le k1.1
 rw[ha,Int.toNat_natCast] at k2 k3
 rw[ha] at k1
 obtain ⟨N,hN⟩:∃N,N=gtV g a 4:=⟨_,rfl⟩
 rw[<-hN] at k2 k3
 have eL:gpL m g q.1=N:=by unfold gpL;rw[hide_eq,if_pos h0,ha,Int.toNat_natCast,hN]
 have hget:∀x j,x+j<m->bI g (x+j)=((((lsB m g).drop x).getD j 0:Nat):Int):=fun x j hj=>by
  rw[lsB_get hg hj,List.getD_eq_getElem?_getD,List.getD_eq_getElem?_getD,List.getElem?_drop]
 have hlen:(lsB m g).length=m:=lsB_len m g
 have hp:(((lsB m g).drop a).take 4).length=4:=by rw[List.length_take,List.length_drop,hlen];omega
 have h4:gtV g a 4=deL (((lsB m g).drop a).take 4):=gtV_deL 4 _ hp fun j hj=>by
  rw[hget a j (by omega),List.getD_eq_getElem?_getD,List.getD_eq_getElem?_getD,List.getElem?_take_of_lt hj]
 have hby:∀b∈(lsB m g),b<256:=lsB_byte hg
 have hb4:=(be_deL (((lsB m g).drop a).take 4) 4 hp fun b hb=>hby b (List.mem_of_mem_drop (List.mem_of_mem_take hb))).1
 have hR:Holds N (gpR g (a:Int)) (((lsB m g).drop (a+4)).take N):=by
  refine⟨by rw[List.length_take,List.length_drop,hlen];omega,fun j hj=>?_⟩
  rw[bI_gp,Int.toNat_natCast,hget (a+4) j (by omega),List.getD_eq_getElem?_getD,List.getD_eq_getElem?_getD,List.getElem?_take_of_lt hj]
 obtain ⟨t1,t2⟩:=txB_row hR fun b hb=>hby b (List.mem_of_mem_drop (List.mem_of_mem_take hb))
 refine⟨rowS N (gpR g (a:Int)),?_,by unfold gxV;rw[hide_eq,eL,ha]⟩
 unfold stO
 rw[hz2.1,if_neg (by decide),ha,Int.toNat_natCast,t1,t2,hN,h4,hb4,<-hs,ha,Int.toNat_natCast,<-h4,<-hN]
 congr 1
 rw[show((a:Int)+4+((N:Nat):Int)).toNat=a+4+N by omega]
 have e1:(lsB m g).drop a=((lsB m g).drop a).take 4++((lsB m g).drop a).drop 4:=(List.take_append_drop 4 _).symm
 have e2:(lsB m g).drop (a+4)=((lsB m g).drop (a+4)).take N++((lsB m g).drop (a+4)).drop N:=(List.take_append_drop N _).symm
 rw[List.drop_drop] at e1 e2
 rw[<-e2]
 exact e1
theorem tx_back {m:Nat} {g:Nat->List Value} (hg:okY m g=true) {q:Int×Bool} (h:inQ m q) {l:ByteArray} (hl:l.size<=16384) {r:List Nat} (hs:stO (lsB m g) q=some (beL 4 l.size++(txB l++r))):stO (lsB m g) (gxS m g q)=some r∧gxV m g q.1=tx25 l:=by
 have hz:=stO_ok hs
 obtain ⟨h0,h1⟩:=h
 obtain ⟨a,ha⟩:=Int.eq_ofNat_of_zero_le h0
 have hs0:=hs
 unfold stO at hs
 rw[hz,if_neg (by decide),ha,Int.toNat_natCast] at hs
 have hs:=Option.some.inj hs
 have hlen:=congrArg List.length hs
 rw[List.length_drop,lsB_len,List.length_append,List.length_append,beL_len,txB_len] at hlen
 have hget:∀x j,x+j<m->bI g (x+j)=((((lsB m g).drop x).getD j 0:Nat):Int):=fun x j hj=>by
  rw[lsB_get hg hj,List.getD_eq_getElem?_getD,List.getD_eq_getElem?_getD,List.getElem?_drop]
 have h4:gtV g a 4=l.size:=by
  rw[gtV_deL 4 (beL 4 l.size) (beL_len 4 _) fun j hj=>by
   rw[hget a j (by omega),hs,List.getD_eq_getElem?_getD,List.getD_eq_getElem?_getD,List.getElem?_append_left (by rw[beL_len];exact hj)]]
  exact deL_be 4 _ (by rw[show(256:Nat)^4=4294967296 from by decide];omega)
 have hE:gpE0 m g q.1=0:=by
  have e4:gtE0 m q.1 4=0:=by
   unfold gtE0
   rw[if_neg (not_not_intro ⟨by omega,by omega,h0,h1⟩),if_neg (by omega)]
  unfold gpE0
  rw[e4,if_neg (by simp),ha,Int.toNat_natCast,h4,if_neg (by omega)]
 have hd4:(lsB m g).drop (a+4)=txB l++r:=by
  have:=congrArg (List.drop 4) hs
  rw[List.drop_drop,List.drop_left' (beL_len 4 _)] at this
  exact this
 have hR:Holds l.size (gpR g (a:Int)) (txB l):=by
  refine⟨(txB_len l).symm,fun j hj=>?_⟩
  rw[bI_gp,Int.toNat_natCast,hget (a+4) j (by omega),hd4,List.getD_eq_getElem?_getD,List.getD_eq_getElem?_getD,List.getElem?_append_left (by rw[txB_len];exact hj)]
 have eL:gpL m g q.1=l.size:=by unfold gpL;rw[hide_eq,if_pos hE,ha,Int.toNat_natCast,h4]
 have hb:∀b∈txB l,b<256:=by
  intro b hb
  unfold txB at hb
  obtain ⟨x,_,rfl⟩:=List.mem_map.1 hb
  exact x.toNat_lt
 refine⟨?_,?_⟩
 ·unfold stO gxS gxA gxZ
  simp only[hide_eq]
  rw[hz,decide_eq_true hE,if_neg (by decide),if_pos hE,ha,Int.toNat_natCast,h4,show((a:Int)+4+((l.size:Nat):Int)).toNat=a+4+l.size by omega]
  congr 1
  rw[<-List.drop_drop,hd4,List.drop_left' (txB_len l)]
 ·unfold gxV;rw[hide_eq,eL,ha,txB_inj (txB_row hR hb).1]
end Go.W

namespace Go.W
open Go
def rqB (tR e i j m m' c:Nat) (ks:List CK) (a:Int):Bool:=Nat.beq e tR&&!(Nat.beq i j)&&!(loose i)&&loose j&&Nat.beq m m'&&Nat.beq m c&&ksEq ks kB&&decide (0<=a)&&decide (a<=(m:Int))&&Nat.ble m 1000000
abbrev RdA:=Nat->Nat->(Nat->List Value)->Int->Bool->Value×List (Nat×Blk)×Int×Bool
noncomputable def RdrF (tR:Nat) (A:RdA):List Value->(Nat->Option Blk)->Nat->List (Bool×Value×List (Nat×Blk))
 | [.pointer (some ⟨i,0,none⟩)],mm,id=>(match mm i with
  | some ⟨.lst [.slice (some ⟨j,0,none⟩) m c,.int .i64 a,.bool bad],e,true⟩=>(match mm j with
   | some ⟨.row ks m' g,_,false⟩=>[(rqB tR e i j m m' c ks a&&okY m g,(A id m g a bad).1,(A id m g a bad).2.1++[(i,⟨.lst (rdL j m (A id m g a bad).2.2.1 (A id m g a bad).2.2.2),tR,true⟩)])]
   | _=>[])
  | _=>[])
 | _,_,_=>[]
theorem memF_snoc (fm:Nat->Option Blk) (i:Nat) (b:Blk):∀l:List (Nat×Blk),memF fm (l++[(i,b)])=memF (upd fm i b) l
 | []=>rfl
 | (x,y)::l=>by
  show upd (memF fm (l++[(i,b)])) x y=upd (memF (upd fm i b) l) x y
  rw[memF_snoc fm i b l]
def rdM (tR ej m:Nat) (g:Nat->List Value) (a:Int) (bad:Bool):List (Nat×Blk):=[(1000000,⟨.lst (.slice (some ⟨1500000,0,none⟩) m m::[i64 a,.bool bad]),tR,true⟩),(1500000,⟨.row kB m g,ej,false⟩)]
section
open Go.RowKit (Below)
variable {P:Program} [Laid P]
theorem rdr_msum {tR:Nat} {A:RdA} {g:FuncId} {fn:Func} {c:Code} (hf:P.funcs[g]?=some fn) (hname:(fn.name=="runtime.NumGoroutine")=false) (hb:fn.body=some c) (hlen:1<=fn.ntmps) {fuel:Nat}
  (hA:∀id m f a z,∀p∈(A id m f a z).2.1,nid id 0<=p.1∧p.1<nid id 8)
  (hev:∀(id j ej m:Nat) (f:Nat->List Value) (q:Int×Bool),inQ m q->m<=1000000->okY m f=true->∃C,CfgOk P C c∧C.n=fn.ntmps∧fnR C fuel fn c (.pointer (some ⟨1000000,0,none⟩)::[]) (rdM tR ej m f q.1 q.2) 0 id j m tR=some ((A id m f q.1 q.2).1,(A id m f q.1 q.2).2.1,[i64 (A id m f q.1 q.2).2.2.1,.bool (A id m f q.1 q.2).2.2.2])) :
  MSum P g (RdrF tR A):=by
 intro w0 R fm w hm vs args' hl mm hsub id hlt v l hpick hnew
 unfold RdrF at hpick
 split at hpick
 ·rename_i i
  split at hpick
  ·rename_i j m c a bad e hi0
   split at hpick
   ·rename_i ks m' f ej hj0
    obtain ⟨hc,rfl,rfl⟩:=pick_one hpick
    unfold rqB at hc
    simp only[Bool.and_eq_true,Bool.not_eq_true',decide_eq_true_eq] at hc
    obtain ⟨⟨⟨⟨⟨⟨⟨⟨⟨⟨c1,c2⟩,c3⟩,c4⟩,c5⟩,c6⟩,c7⟩,c8⟩,c9⟩,c10⟩,c11⟩:=hc
    have c1:=nbeq.1 c1
    have c2:i≠j:=fun h=>by rw[h,Nat.beq_refl] at c2;cases c2
    have c5:=nbeq.1 c5
    have c6:=nbeq.1 c6
    have c7:=ksEq_eq c7
    have c10:=Nat.le_of_ble_eq_true c10
    subst c1 c5 c6 c7
    rw[memF_snoc]
    exact msum_rd hf hname hb hm hl (by rfl) hsub hlt (rest:=[i64 a,.bool bad]) rfl (Nat.le_refl m) c2 c3 c4 hi0 hj0 hlen (fun p hp=>(hnew p (List.mem_append_left _ hp)).1 (hA id m f a bad p hp)) (hev id j ej m f (a,bad) ⟨c8,c9⟩ c10 c11)
   ·simp[pickM] at hpick
  ·simp[pickM] at hpick
 ·simp[pickM] at hpick
end
noncomputable def nuR:RdA:=fun _ m g a z=>(i64 (nuV m g a),[],nuA m a,nuZ m a z)
noncomputable def nuT (m:Nat) (g:Nat->List Value) (a:Int) (z:Bool):RR :=
 req (gtk m g) (bif gtE m a 1 != 0 then req (ob3 m) (some (i64 (gtN m (sgF m g) a 1),[],[i64 a,.bool true])) else req (ob3 m) (some (i64 (gtN m (sgF m g) a 1),[],[i64 (gtX m a 1),.bool z])))
theorem gtk_ok {m:Nat} {g:Nat->List Value} (hm:m<=1000000) (hg:okY m g=true):gtk m g=true:=gtk_true hm (okY_iff.1 hg)
theorem nuT_eq {m:Nat} {g:Nat->List Value} {q:Int×Bool} (h:inQ m q) (hm:m<=1000000) (hg:okY m g=true):nuT m g q.1 q.2=some (i64 (nuV m g q.1),[],[i64 (nuA m q.1),.bool (nuZ m q.1 q.2)]):=by
 obtain ⟨e1,e2,e3⟩:=nu_get hg (z:=q.2) (a:=q.1) h (sgF m g) (fun j=>bI_sg m g j)
 unfold nuT
 rw[gtk_ok hm hg,req_true rfl,e1,e2,e3,ob3_true,req_true rfl,req_true rfl]
 unfold nuA nuZ
 rw[hide_eq,hide_eq]
 by_cases c:q.1<m
 ·rw[if_pos c,if_pos c,if_pos c,decide_eq_true c,Bool.not_true,Bool.or_false];rfl
 ·rw[if_neg c,if_neg c,if_neg c,decide_eq_false c,Bool.not_false,Bool.or_true];rfl
noncomputable def AtkF (tR:Nat):List Value->(Nat->Option Blk)->Nat->List (Bool×Value×List (Nat×Blk))
 | [.pointer (some ⟨i,0,none⟩),.int .i64 n],mm,id=>(match mm i with
  | some ⟨.lst [.slice (some ⟨j,0,none⟩) m c,.int .i64 a,.bool bad],e,true⟩=>(match mm j with
   | some ⟨.row ks m' g,ej,false⟩ =>
    [(rqB tR e i j m m' c ks a&&decide (1<=n)&&decide (n<=100000)&&tkB m a bad n,.slice (some ⟨nid id 0,0,none⟩) n.toNat n.toNat,[(nid id 0,⟨.row kB n.toNat (tkF m g a bad n),ej,false⟩),(i,⟨.lst (rdL j m (tkA m a bad n) (tkZ m a bad n)),tR,true⟩)]),
     (rqB tR e i j m m' c ks a&&decide (1<=n)&&decide (n<=100000)&&!tkB m a bad n,.slice none 0 0,[(i,⟨.lst (rdL j m a true),tR,true⟩)])]
   | _=>[])
  | _=>[])
 | _,_,_=>[]
def atNo (m:Nat) (a:Int):RR:=req (ob3 m) (some (.slice none 0 0,[],[i64 a,.bool true]))
theorem pick_two {b1 b2:Bool} {v1 v2 u:Value} {l1 l2 m:List (Nat×Blk)} (h:pickM [(b1,v1,l1),(b2,v2,l2)]=some (u,m)):(b1=true∧u=v1∧m=l1)∨(b2=true∧u=v2∧m=l2):=by
 simp only[pickM] at h
 cases b1 with
 | true=>rw[cond_true] at h;cases h;exact .inl ⟨rfl,rfl,rfl⟩
 | false =>
  rw[cond_false] at h
  obtain ⟨h1,h2⟩:=cond_some.1 h
  cases h2;exact .inr ⟨h1,rfl,rfl⟩
theorem rqB_some {tR e i j m m' c:Nat} {ks:List CK} {a:Int} (h:rqB tR e i j m m' c ks a=true):e=tR∧i≠j∧loose i=false∧loose j=true∧m=m'∧m=c∧ks=kB∧inQ m (a,false)∧m<=1000000:=by
 unfold rqB at h
 simp only[Bool.and_eq_true,Bool.not_eq_true',decide_eq_true_eq] at h
 obtain ⟨⟨⟨⟨⟨⟨⟨⟨⟨c1,c2⟩,c3⟩,c4⟩,c5⟩,c6⟩,c7⟩,c8⟩,c9⟩,c10⟩:=h
 have c2':i≠j:=by
  intro h;rw[h,Nat.beq_refl] at c2;cases c2
 exact⟨nbeq.1 c1,c2',c3,c4,nbeq.1 c5,nbeq.1 c6,ksEq_eq c7,⟨c8,c9⟩,Nat.le_of_ble_eq_true c10⟩
noncomputable def bkR:RdA:=fun _ m g a z=>(bytesV (rnN m g a z),[],tkA m a z 32,tkZ m a z 32)
def zr32:Value:=bytesV 0
noncomputable def bkT (m:Nat) (g:Nat->List Value) (a:Int) (z:Bool):RR :=
 bif tkC m a 32&&tkB m a z 32 then req (ob3 m) (some (v32 (sgF 32 (tkF m g a z 32)),[],[i64 (tkA m a z 32),.bool (tkZ m a z 32)])) else req (tkC m a 32&&!tkB m a z 32) (req (ob3 m) (some (zr32,[],[i64 a,.bool true])))
theorem tk_no {m:Nat} {a:Int} {z:Bool} {n:Int} (h:tkB m a z n=false):tkA m a z n=a∧tkZ m a z n=true:=by
 unfold tkA tkZ;rw[hide_eq,hide_eq,h];exact⟨rfl,rfl⟩
theorem rn_no {m:Nat} {g:Nat->List Value} {a:Int} {z:Bool} (h:tkB m a z 32=false):rnN m g a z=0:=by
 unfold rnN tkL;rw[hide_eq]
 have e:lsB (32:Int).toNat (tkF m g a z 32)=List.replicate 32 0:=by
  have e0:∀l:List Nat,(l.map fun j=>(bI (tkF m g a z 32) j).toNat)=List.replicate l.length 0:=by
   intro l
   induction l with
   | nil=>rfl
   | cons x l ih=>rw[List.map_cons,ih,bI_tk,h];rfl
  unfold lsB
  rw[e0,List.length_range];rfl
 rw[e];decide +kernel
theorem v32_sg {f:Nat->List Value}:v32 (sgF 32 f)=v32 f:=by
 unfold v32
 rw[rowL_congr (f:=sgF 32 f) (g:=f) kB 32 0 fun j _ _=>by rw[nrm_kB (sgF 32 f) j,nrm_kB f j,bI_sg]]
theorem bkT_eq {m:Nat} {g:Nat->List Value} {q:Int×Bool} (h:inQ m q) (hm:m<=1000000) (hg:okY m g=true):bkT m g q.1 q.2=some (bytesV (rnN m g q.1 q.2),[],[i64 (tkA m q.1 q.2 32),.bool (tkZ m q.1 q.2 32)]):=by
 unfold bkT
 rw[tkC_in h hm (by decide) (by decide),ob3_true,req_true rfl,req_true rfl,Bool.true_and,Bool.true_and]
 cases hb:tkB m q.1 q.2 32 with
 | true =>
  have e:=(v32_eq (okY_tk hg h.1 (bad:=q.2) (n:=32))).1
  rw[cond_true,v32_sg,e]
  unfold rnN;rw[hide_eq];rfl
 | false =>
  obtain ⟨e1,e2⟩:=tk_no hb
  rw[cond_false,Bool.not_false,req_true rfl,rn_no hb,e1,e2];rfl
noncomputable def pntR:RdA:=fun _ m g a z=>(ptV (poR m g a z).1,[],poA m g a z,poZ m g a z)
noncomputable def pnE (m:Nat) (g:Nat->List Value) (a:Int) (z:Bool) (n:Nat):RR :=
 bif tkC m a (n:Int)&&tkB m a z (n:Int) then req (rdOk n (sgF n (tkF m g a z (n:Int)))) (porE m (tkZ m a z (n:Int)) (tkA m a z (n:Int)) (rdS n (sgF n (tkF m g a z (n:Int)))))
  else req (tkC m a (n:Int)&&!tkB m a z (n:Int)) (req (ob3 m) (some (ptV (rdS 0 (fun _=>[])).1,[],[i64 a,.bool true])))
noncomputable def pnT (m:Nat) (g:Nat->List Value) (a:Int) (z:Bool):RR :=
 bif decide (a<(m:Int)) then req (inR a m) (req (Nat.blt a.toNat m&&true) (bif bI g (0+a.toNat)==0 then pnE m g a z 1 else pnE m g a z 33)) else pnE m g a z 33
theorem rdS_0 (f:Nat->List Value):rdS 0 f=(zR,7):=by
 unfold rdS;rw[hide_eq,if_neg (fun e=>absurd e.1 (by decide)),if_neg (fun e=>absurd e.1 (by decide))]
theorem pnE_eq {m:Nat} {g:Nat->List Value} {q:Int×Bool} (h:inQ m q) (hm:m<=1000000) (hg:okY m g=true) {n:Nat} (hn:n=1∨n=33) (e:poN m g q.1=n) :
  pnE m g q.1 q.2 n=some (ptV (poR m g q.1 q.2).1,[],[i64 (poA m g q.1 q.2),.bool (poZ m g q.1 q.2)]):=by
 have hY:=okY_tk hg h.1 (bad:=q.2) (n:=((n:Nat):Int))
 rw[Int.toNat_natCast] at hY
 have eS:rdS n (sgF n (tkF m g q.1 q.2 (n:Int)))=rdS n (tkF m g q.1 q.2 (n:Int)):=rdS_c hn fun j _=>bI_sg n _ j
 have hR:rdOk n (sgF n (tkF m g q.1 q.2 (n:Int)))=true:=by
  rcases hn with rfl | rfl
  ·rfl
  ·have:=(b32_okA (f:=sgF 33 (tkF m g q.1 q.2 ((33:Nat):Int))) (okY_iff.2 fun j hj=>by rw[bI_sg];exact okY_iff.1 hY j hj)).1
   unfold rdOk;rw[this];rfl
 unfold pnE poA poZ
 rw[hide_eq,hide_eq,e,tkC_in h hm (by omega) (by omega),Bool.true_and,Bool.true_and,hR,req_true rfl,porE_eq,ob3_true,req_true rfl,eS]
 unfold poR
 rw[hide_eq,e]
 cases hb:tkB m q.1 q.2 (n:Int) with
 | true=>rw[cond_true,if_pos rfl]
 | false =>
  obtain ⟨e1,e2⟩:=tk_no hb
  rw[cond_false,Bool.not_false,req_true rfl,if_neg (by decide),e1,e2,rdS_0];rfl
theorem pnT_eq {m:Nat} {g:Nat->List Value} {q:Int×Bool} (h:inQ m q) (hm:m<=1000000) (hg:okY m g=true):pnT m g q.1 q.2=some (ptV (poR m g q.1 q.2).1,[],[i64 (poA m g q.1 q.2),.bool (poZ m g q.1 q.2)]):=by
 unfold pnT
 have h0:=h.1
 by_cases c:q.1<m
 ·have hr:inR q.1 m=true:=by unfold inR;rw[decide_eq_true h0,decide_eq_true c];rfl
  have hb:(Nat.blt q.1.toNat m&&true)=true:=by rw[bL (show q.1.toNat<m by omega)];rfl
  rw[decide_eq_true c,cond_true,hr,req_true rfl,hb,req_true rfl,Nat.zero_add]
  by_cases c2:bI g q.1.toNat=0
  ·rw[beq_iff_eq.2 c2,cond_true]
   exact pnE_eq h hm hg (.inl rfl) (by unfold poN;rw[hide_eq,if_pos ⟨c,c2⟩])
  ·rw[beq_eq_false_iff_ne.2 c2,cond_false]
   exact pnE_eq h hm hg (.inr rfl) (by unfold poN;rw[hide_eq,if_neg (fun e=>c2 e.2)])
 ·rw[decide_eq_false c,cond_false]
  exact pnE_eq h hm hg (.inr rfl) (by unfold poN;rw[hide_eq,if_neg (fun e=>c e.1)])
end Go.W

namespace Go.W
open Go
def kRn:List CK:=[.i .i32]
def rnB:Nat:=nid 0 0
noncomputable def rcF (s:ByteArray):Nat->List Value:=fun j=>[.int .i32 (hide (rcI s j))]
def sgR (n:Nat) (f:Nat->List Value):Nat->List Value:=segF ⟨0,0,n,kRn,n,f,0,false,[]⟩
theorem rowRn_rc (s:ByteArray) (n:Nat):rowRn n (sgR n (rcF s))=encs (rcI s) n:=by
 rw[rowRn_encs]
 refine encs_congr fun j _=>?_
 show hide (rcI s (0+j))=rcI s j
 rw[hide_eq,Nat.zero_add]
def txI (tR ej m:Nat) (g:Nat->List Value) (s:ByteArray) (A:Int) (Z:Bool):St :=
 ⟨[(6,.slice none 0 0),(28,.pointer (some ⟨24,0,none⟩))],[(24,⟨.itr s 0,0,true⟩),(1000000,⟨.lst (rdL 1500000 m A Z),tR,true⟩),(1500000,⟨.row kB m g,ej,false⟩)],25⟩
def txQ (tR t32 ej m:Nat) (g:Nat->List Value) (s:ByteArray) (A:Int) (Z:Bool) (k p:Nat) (F:Nat->List Value):St :=
 ⟨[(6,.slice (some ⟨rnB,0,none⟩) k k),(28,.pointer (some ⟨24,0,none⟩))],[(rnB,⟨.row kRn k F,t32,true⟩),(24,⟨.itr s p,0,true⟩),(1000000,⟨.lst (rdL 1500000 m A Z),tR,true⟩),(1500000,⟨.row kB m g,ej,false⟩)],25⟩
def txE (tR t32 ej m:Nat) (g:Nat->List Value) (A:Int) (Z:Bool) (k:Nat) (F:Nat->List Value):St :=
 ⟨[(6,.slice (some ⟨rnB,0,none⟩) k k)],[(rnB,⟨.row kRn k F,t32,true⟩),(1000000,⟨.lst (rdL 1500000 m A Z),tR,true⟩),(1500000,⟨.row kB m g,ej,false⟩)],25⟩
def txNt:List Nat:=[6,28]
def txNi:Ren:=[(24,24),(1000000,1000000),(1500000,1500000)]
def txNr:Ren:=[(rnB,nid 35 0),(24,24),(1000000,1000000),(1500000,1500000)]
def txXi:Ren:=[(rnB,rnB),(1000000,1000000),(1500000,1500000)]
theorem row_rn (s:ByteArray) (k:Nat):∀x,x<k+1->nrmK kRn (appF k (rcF s) (lstF [.int .i32 (dcC s (ps s k))] 0 1) x)=nrmK kRn (rcF s x) :=
 app_row (ks:=kRn) (fun _ _=>rfl) (by
  show nrmK kRn [.int .i32 (dcC s (ps s k))]=nrmK kRn (rcF s k)
  unfold rcF;rw[hide_eq,dcC_dC];rfl)
noncomputable def tsS (m:Nat) (g:Nat->List Value) (a:Int):ByteArray:=rowS (gpL m (sgF m g) a) (sgF (gpL m (sgF m g) a) (gpR (sgF m g) a))
def wh1 (n:Nat):Bool:=Nat.ble n n&&true
theorem wh1_true (n:Nat):wh1 n=true:=by unfold wh1;rw[Nat.ble_eq_true_of_le (Nat.le_refl n)];rfl
noncomputable def txTl (tR ej m:Nat) (g:Nat->List Value) (a A:Int) (Z:Bool) (A':Int) (Z':Bool) (s:ByteArray) (N:Nat) (F:Nat->List Value):RR :=
 req (wh1 (gpL m (sgF m g) a)) (req (stEq (txI tR ej m g (tsS m g a) A Z) (txI tR ej m g s A' Z')) (req (wh1 N) (req (ob3 m) (some (.string (rowRn N (sgR N F)),[],[i64 A',.bool Z'])))))
noncomputable def txT (tR ej m:Nat) (g:Nat->List Value) (a:Int) (z:Bool) (A':Int) (Z':Bool) (s:ByteArray) (N:Nat) (F:Nat->List Value):RR :=
 req (gtk m g) (bif gpE m (sgF m g) a != 0 then txTl tR ej m g a a true A' Z' s N F else txTl tR ej m g a (gpX m (sgF m g) a) z A' Z' s N F)
theorem gpE0_sg (m:Nat) (g:Nat->List Value) (a:Int):gpE0 m (sgF m g) a=gpE0 m g a:=by unfold gpE0;rw[gtV_sg]
theorem tsS_eq (m:Nat) (g:Nat->List Value) (a:Int):tsS m g a=rowS (gpL m g a) (gpR g a):=by
 have e1:gpL m (sgF m g) a=gpL m g a:=by unfold gpL;rw[hide_eq,hide_eq,gpE0_sg,gtV_sg]
 have e2:∀(n:Nat) (f h:Nat->List Value),(∀j,bI f j=bI h j)->rowS n f=rowS n h:=by
  intro n f h e
  refine txt_ext (by rw[rwS_size,rwS_size]) fun j hj=>?_
  rw[rwS_size] at hj
  rw[rwS_byt hj,rwS_byt hj,e]
 unfold tsS
 rw[e1]
 refine e2 _ _ _ fun j=>?_
 rw[bI_sg,bI_gp,bI_gp,bI_sg]
theorem tsS_le (m:Nat) (g:Nat->List Value) (a:Int):(tsS m g a).size<=1000000:=by
 rw[tsS_eq,rwS_size]
 unfold gpL;rw[hide_eq]
 by_cases c:gpE0 m g a=0
 ·rw[if_pos c];have:=(gpE0_ok c).2.2.1;omega
 ·rw[if_neg c];omega
noncomputable def txR:RdA:=fun _ m g a z=>(.string (gxV m g a),[],gxA m g a,gxZ m g a z)
noncomputable def txN (m:Nat) (g:Nat->List Value) (a:Int):Nat:=min 25 (rN (tsS m g a))
theorem txT_eq {tR ej m:Nat} {g:Nat->List Value} {q:Int×Bool} (hm:m<=1000000) (hg:okY m g=true) :
  txT tR ej m g q.1 q.2 (gxA m g q.1) (gxZ m g q.1 q.2) (tsS m g q.1) (txN m g q.1) (rcF (tsS m g q.1))=some (.string (gxV m g q.1),[],[i64 (gxA m g q.1),.bool (gxZ m g q.1 q.2)]):=by
 have hv:rowRn (txN m g q.1) (sgR (txN m g q.1) (rcF (tsS m g q.1)))=gxV m g q.1:=by
  rw[rowRn_rc]
  unfold gxV;rw[hide_eq,<-tsS_eq,tx25_eq];rfl
 have tl:∀A Z,A=gxA m g q.1->Z=gxZ m g q.1 q.2->txTl tR ej m g q.1 A Z (gxA m g q.1) (gxZ m g q.1 q.2) (tsS m g q.1) (txN m g q.1) (rcF (tsS m g q.1))=some (.string (gxV m g q.1),[],[i64 (gxA m g q.1),.bool (gxZ m g q.1 q.2)]):=by
  intro A Z e1 e2
  unfold txTl
  rw[wh1_true,req_true rfl,e1,e2,req_true (stEq_refl rfl),wh1_true,req_true rfl,ob3_true,req_true rfl,hv]
 unfold txT
 rw[gtk_ok hm hg,req_true rfl]
 have hE:gpE m (sgF m g) q.1=gpE0 m g q.1:=by unfold gpE;rw[hide_eq,gpE0_sg]
 rw[hE]
 by_cases c:gpE0 m g q.1=0
 ·rw[c]
  exact tl _ _ (by unfold gpX gxA;rw[hide_eq,hide_eq,gpE0_sg,if_pos c,if_pos c,gtV_sg]) (by unfold gxZ;rw[hide_eq,decide_eq_true c,Bool.not_true,Bool.or_false])
 ·rw[bne_iff_ne.2 c,cond_true]
  exact tl _ _ (by unfold gxA;rw[hide_eq,if_neg c]) (by unfold gxZ;rw[hide_eq,decide_eq_false c,Bool.not_false,Bool.or_true])
end Go.W

namespace Go.W
open Go
def lB:Nat:=nid 0 0
def lsI (tR ej m:Nat) (g:Nat->List Value) (n A:Int) (Z:Bool):St :=
 ⟨[(0,.pointer (some ⟨1000000,0,none⟩)),(3,.slice none 0 0),(5,i64 n),(6,i64 0)],[(1000000,⟨.lst (rdL 1500000 m A Z),tR,true⟩),(1500000,⟨.row kB m g,ej,false⟩)],5⟩
def lsQ (tR tE ej m:Nat) (g:Nat->List Value) (ks:List CK) (n A:Int) (Z:Bool) (k:Nat) (F:Nat->List Value) (i:Int):St :=
 ⟨[(0,.pointer (some ⟨1000000,0,none⟩)),(3,.slice (some ⟨lB,0,none⟩) k k),(5,i64 n),(6,i64 i)],[(lB,⟨.row ks k F,tE,true⟩),(1000000,⟨.lst (rdL 1500000 m A Z),tR,true⟩),(1500000,⟨.row kB m g,ej,false⟩)],5⟩
def lsE (tR tE ej m:Nat) (g:Nat->List Value) (ks:List CK) (A:Int) (Z:Bool) (k:Nat) (F:Nat->List Value):St :=
 ⟨[(3,.slice (some ⟨lB,0,none⟩) k k)],[(lB,⟨.row ks k F,tE,true⟩),(1000000,⟨.lst (rdL 1500000 m A Z),tR,true⟩),(1500000,⟨.row kB m g,ej,false⟩)],5⟩
def lsNt:List Nat:=[0,3,5,6]
def lsNi:Ren:=[(1000000,1000000),(1500000,1500000)]
def lsNr:Ren:=[(lB,nid 10 0),(1000000,1000000),(1500000,1500000)]
def lsXi:Ren:=[(lB,lB),(1000000,1000000),(1500000,1500000)]
noncomputable def lsTl (tR tE ej id m:Nat) (g:Nat->List Value) (ks:List CK) (n A:Int) (Z:Bool) (n' A':Int) (Z':Bool) (N:Nat) (F:Nat->List Value) (A2:Int) (Z2:Bool):RR :=
 req (stEq (lsI tR ej m g n A Z) (lsI tR ej m g n' A' Z')) (req (ob3 m) (req (Nat.ble N N) (some (.slice (some ⟨nid id 0,0,none⟩) N N,[(nid id 0,⟨.row ks N F,tE,true⟩)],[i64 A2,.bool Z2]))))
noncomputable def lsT (tR tE ej id m:Nat) (g:Nat->List Value) (ks:List CK) (mx a:Int) (z:Bool) (n' A':Int) (Z':Bool) (N:Nat) (F:Nat->List Value) (A2:Int) (Z2:Bool):RR :=
 req (qoC m g a) (bif nuZ m a z then lsTl tR tE ej id m g ks 0 (nuA m a) true n' A' Z' N F A2 Z2 else
  bif decide (nuV m g a > mx) then lsTl tR tE ej id m g ks 0 (nuA m a) (decide (nuV m g a > mx)) n' A' Z' N F A2 Z2 else lsTl tR tE ej id m g ks (nuV m g a) (nuA m a) (decide (nuV m g a > mx)) n' A' Z' N F A2 Z2)
theorem lsT_eq {tR tE ej id m:Nat} {g:Nat->List Value} {ks:List CK} {mx:Int} {q:Int×Bool} (h:inQ m q) (hm:m<=1000000) (hg:okY m g=true) (N:Nat) (F:Nat->List Value) (A2:Int) (Z2:Bool) :
  lsT tR tE ej id m g ks mx q.1 q.2 ((cnN m g mx q.1 q.2:Nat):Int) (nuA m q.1) (cnZ m g mx q.1 q.2) N F A2 Z2=some (.slice (some ⟨nid id 0,0,none⟩) N N,[(nid id 0,⟨.row ks N F,tE,true⟩)],[i64 A2,.bool Z2]):=by
 have tl:∀n Z,n=((cnN m g mx q.1 q.2:Nat):Int)->Z=cnZ m g mx q.1 q.2->lsTl tR tE ej id m g ks n (nuA m q.1) Z ((cnN m g mx q.1 q.2:Nat):Int) (nuA m q.1) (cnZ m g mx q.1 q.2) N F A2 Z2=some (.slice (some ⟨nid id 0,0,none⟩) N N,[(nid id 0,⟨.row ks N F,tE,true⟩)],[i64 A2,.bool Z2]):=by
  intro n Z e1 e2
  unfold lsTl
  rw[e1,e2,req_true (stEq_refl rfl),ob3_true,req_true rfl,Nat.ble_eq_true_of_le (Nat.le_refl N),req_true rfl]
 unfold lsT
 rw[qoC_in hg h hm,req_true rfl]
 have hv:=nuV_lt hg (m:=m) (a:=q.1) h.1
 cases c1:nuZ m q.1 q.2 with
 | true =>
  have e:cnZ m g mx q.1 q.2=true:=by unfold cnZ;rw[hide_eq,c1];rfl
  rw[cond_true]
  exact tl _ _ (by unfold cnN;rw[hide_eq,e,if_pos rfl];rfl) e.symm
 | false =>
  have e:cnZ m g mx q.1 q.2=decide (nuV m g q.1 > mx):=by unfold cnZ;rw[hide_eq,c1,Bool.false_or]
  rw[cond_false]
  by_cases c2:nuV m g q.1 > mx
  ·rw[decide_eq_true c2] at e ⊢
   rw[cond_true]
   exact tl _ _ (by unfold cnN;rw[hide_eq,e,if_pos rfl];rfl) e.symm
  ·rw[decide_eq_false c2] at e ⊢
   rw[cond_false]
   exact tl _ _ (by unfold cnN;rw[hide_eq,e,if_neg (by decide)];omega) e.symm
noncomputable def slR (t32:Nat):RdA:=fun id m g a z=>(.slice (some ⟨nid id 0,0,none⟩) (cnN m g 8 a z) (cnN m g 8 a z),[(nid id 0,⟨.row k32 (cnN m g 8 a z) (slF (sVl m g (cnS m g 8 (a,z)))),t32,true⟩)],(q1I m (cnS m g 8 (a,z)) (cnN m g 8 a z)).1,(q1I m (cnS m g 8 (a,z)) (cnN m g 8 a z)).2)
noncomputable def q3I (m:Nat) (g:Nat->List Value) (q0:Int×Bool):Nat->Int×Bool
 | 0=>q0
 | j+1=>poS m g (q3I m g q0 j)
noncomputable def pVn (m:Nat) (g:Nat->List Value) (q0:Int×Bool) (j:Nat):RP:=(poR m g (q3I m g q0 j).1 (q3I m g q0 j).2).1
noncomputable def cmR (tP:Nat):RdA:=fun id m g a z=>(.slice (some ⟨nid id 0,0,none⟩) (cnN m g 64 a z) (cnN m g 64 a z),[(nid id 0,⟨.row kP9 (cnN m g 64 a z) (ptF (pVn m g (cnS m g 64 (a,z)))),tP,true⟩)],(q3I m g (cnS m g 64 (a,z)) (cnN m g 64 a z)).1,(q3I m g (cnS m g 64 (a,z)) (cnN m g 64 a z)).2)
theorem inQ_3I {m:Nat} {g:Nat->List Value} {q0:Int×Bool} (h:inQ m q0):∀j,inQ m (q3I m g q0 j)
 | 0=>h
 | j+1=>inQ_po (inQ_3I h j)
theorem row_l1 {m:Nat} {g:Nat->List Value} (q0:Int×Bool) (j:Nat):∀x,x<j+1->nrmK k32 (appF j (slF (sVl m g q0)) (lstF (slC (rnN m g (q1I m q0 j).1 (q1I m q0 j).2)) 0 32) x)=nrmK k32 (slF (sVl m g q0) x) :=
 app_row (ks:=k32) (fun _ _=>rfl) rfl
theorem row_l2 {m:Nat} {g:Nat->List Value} (q0:Int×Bool) (j:Nat):∀x,x<j+1->nrmK kP9 (appF j (ptF (pVn m g q0)) (lstF (ptC (poR m g (q3I m g q0 j).1 (q3I m g q0 j).2).1) 0 9) x)=nrmK kP9 (ptF (pVn m g q0) x) :=
 app_row (ks:=kP9) (fun _ _=>rfl) rfl
end Go.W

namespace Go.Proofs.Ytckbmhegopjnmaa
set_option maxRecDepth 100000
open Go.W
noncomputable def aweE:Ent:=inl tab [] 15 Try.f51 (bodyOf Try.f51)
theorem aweE_ok:EntOk Try.prog 51 aweE:=inl_sum tabOk sums_nil mixed Try.func51 (by kernel_rfl) (by kernel_rfl) rfl
def atkC:Cfg:=⟨tab,[],49,[]⟩
theorem atk_evT (n a:Int) (m ej id j:Nat) (g:Nat->List Value):fnR atkC 60 Try.f53 (bodyOf Try.f53) (.pointer (some ⟨1000000,0,none⟩)::[i64 n]) (rdM 54 ej m g a true) 0 id j m 54=atNo m a:=by kernel_rfl
theorem atk_evF (n a:Int) (m ej id j:Nat) (g:Nat->List Value):fnR atkC 60 Try.f53 (bodyOf Try.f53) (.pointer (some ⟨1000000,0,none⟩)::[i64 n]) (rdM 54 ej m g a false) 0 id j m 54 =
  bif decide (n > IntKind.i64.wrap ((m:Int) - a)) then atNo m a else tkYes 5 id j m a n:=by kernel_rfl
theorem atk_msum:MSum Try.prog 53 (AtkF 54):=by
 intro w0 R fm w hm vs args' hl mm hsub id hlt v l hpick hnew
 unfold AtkF at hpick
 split at hpick
 ·rename_i i n
  split at hpick
  ·rename_i j m c a bad e hi0
   split at hpick
   ·rename_i ks m' g ej hj0
    rcases pick_two hpick with⟨hc,rfl,rfl⟩ | ⟨hc,rfl,rfl⟩
    ·simp only[Bool.and_eq_true,decide_eq_true_eq] at hc
     obtain ⟨⟨⟨hc,c11⟩,c12⟩,hb⟩:=hc
     obtain ⟨c1,c2,c3,c4,c5,c6,c7,⟨c8,c9⟩,c10⟩:=rqB_some hc
     subst c1 c5 c6 c7
     have c8:0<=a:=c8
     have c9:a<=m:=c9
     have hfree:fm (nid id 0)=none:=(hnew _ (List.mem_cons_self ..)).1 ⟨Nat.le_refl _,by show nid id 0<nid id 8;unfold nid;omega⟩
     have hjf:=hsub _ _ hj0
     have hif:=hsub _ _ hi0
     have nj:nid id 0≠j:=fun h=>by rw[h,hjf] at hfree;cases hfree
     have hb2:bad=false∧n<=(m:Int) - a:=by
      unfold tkB at hb;rw[Bool.and_eq_true,Bool.not_eq_true',decide_eq_true_eq] at hb;exact hb
     obtain ⟨rfl,hn⟩:=hb2
     have hev:fnR atkC 60 Try.f53 (bodyOf Try.f53) (.pointer (some ⟨1000000,0,none⟩)::[i64 n]) (rdM 54 ej m g a false) 0 id j m 54=some (.slice (some ⟨nid id 0,0,none⟩) n.toNat (m - a.toNat),[(nid id 0,⟨.tail j a.toNat n.toNat 1,5,false⟩)],[i64 (a+n),.bool false]):=by
      refine(atk_evF n a m ej id j g).trans ?_
      rw[wrap_i64 (by omega),decide_eq_false (by omega),cond_false];exact tkYes_eq (by omega) (by omega) c10 (by omega)
     refine invokes_mono ?_ (msum_rd Try.func53 (by kernel_rfl) (by kernel_rfl) hm hl (by rfl) hsub hlt (rest:=[i64 a,.bool false]) rfl (Nat.le_refl m) c2 c3 c4 hi0 hj0 (by show 2<=Try.f53.ntmps;decide +kernel) (fun p hp=>by
      rcases List.mem_cons.1 hp with rfl | hp
      ·exact hfree
      ·cases hp) ⟨atkC,⟨mixed,tabOk,sums_nil,noL⟩,rfl,hev⟩)
     rintro v' w' ⟨R',h1,h2,h3⟩
     refine⟨R',h1,V2_cap (nid_loose hlt (by omega)) h2 (by omega),?_⟩
     have h4:=h3.asRow (i:=nid id 0) (j:=j) (f':=tkF m g a false n) (upd_same _ _ _) (by
      show upd (upd fm i _) (nid id 0) _ j=_
      rw[upd_ne _ _ nj,upd_ne _ _ c2];exact hjf) (ks:=kB) rfl (by omega) nj (by omega) (fun x hx=>by
       rw[nrm_kB,nrm_kB,bI_tk,if_pos hb])
     have h4:MRel w0 R' (upd (upd (upd fm i ⟨.lst (.slice (some ⟨j,0,none⟩) m m::[i64 (a+n),.bool false]),54,true⟩) (nid id 0) _) (nid id 0) ⟨.row kB n.toNat (tkF m g a false n),ej,false⟩) w':=h4
     rw[upd_two] at h4
     have e2:tkA m a false n=a+n:=by unfold tkA;rw[hide_eq,if_pos hb]
     have e3:tkZ m a false n=false:=by unfold tkZ;rw[hide_eq,hb];rfl
     show MRel w0 R' (upd (upd fm i ⟨.lst (rdL j m (tkA m a false n) (tkZ m a false n)),54,true⟩) (nid id 0) ⟨.row kB n.toNat (tkF m g a false n),ej,false⟩) w'
     rw[e2,e3];exact h4
    ·simp only[Bool.and_eq_true,decide_eq_true_eq,Bool.not_eq_true'] at hc
     obtain ⟨⟨⟨hc,c11⟩,c12⟩,hb⟩:=hc
     obtain ⟨c1,c2,c3,c4,c5,c6,c7,⟨c8,c9⟩,c10⟩:=rqB_some hc
     subst c1 c5 c6 c7
     have c8:0<=a:=c8
     have c9:a<=m:=c9
     have hev:fnR atkC 60 Try.f53 (bodyOf Try.f53) (.pointer (some ⟨1000000,0,none⟩)::[i64 n]) (rdM 54 ej m g a bad) 0 id j m 54=some (.slice none 0 0,[],[i64 a,.bool true]):=by
      have fin:atNo m a=some (.slice none 0 0,[],[i64 a,.bool true]):=by unfold atNo;rw[ob3_true,req_true rfl]
      cases bad with
      | true=>exact(atk_evT n a m ej id j g).trans fin
      | false =>
       have hn:¬n<=(m:Int) - a:=by
        intro h;unfold tkB at hb;rw[decide_eq_true h] at hb;cases hb
       refine(atk_evF n a m ej id j g).trans ?_
       rw[wrap_i64 (by omega),decide_eq_true (by omega),cond_true];exact fin
     exact msum_rd Try.func53 (by kernel_rfl) (by kernel_rfl) hm hl (by rfl) hsub hlt (rest:=[i64 a,.bool bad]) rfl (Nat.le_refl m) c2 c3 c4 hi0 hj0 (by show 2<=Try.f53.ntmps;decide +kernel) (fun p hp=>by cases hp) ⟨atkC,⟨mixed,tabOk,sums_nil,noL⟩,rfl,hev⟩
   ·simp[pickM] at hpick
  ·simp[pickM] at hpick
 ·simp[pickM] at hpick
noncomputable def anuS:Sums:=[(50,.me GetF),(51,aweE)]
theorem anuS_ok:SumsOk Try.prog anuS:=sums_consM get_msum (sums_consI aweE_ok sums_nil)
noncomputable def anuC:Cfg:=⟨tab,anuS,24,[]⟩
theorem anu_ev (a:Int) (z:Bool) (m ej id j:Nat) (g:Nat->List Value):fnR anuC 60 Try.f32 (bodyOf Try.f32) (.pointer (some ⟨1000000,0,none⟩)::[]) (rdM 54 ej m g a z) 0 id j m 54=nuT m g a z:=by kernel_rfl
theorem anu_msum:MSum Try.prog 32 (RdrF 54 nuR) :=
 rdr_msum Try.func32 (by kernel_rfl) (by kernel_rfl) (by show 1<=Try.f32.ntmps;decide +kernel) (fun _ _ _ _ _ _ hp=>by cases hp)
  fun id j ej m g q hq hm hg=>⟨anuC,⟨mixed,tabOk,anuS_ok,noL⟩,rfl,(anu_ev q.1 q.2 m ej id j g).trans (nuT_eq hq hm hg)⟩
noncomputable def abkS:Sums:=[(53,.me (AtkF 54))]
theorem abkS_ok:SumsOk Try.prog abkS:=sums_consM atk_msum sums_nil
noncomputable def abkC:Cfg:=⟨tab,abkS,9,[]⟩
theorem abk_ev (a:Int) (z:Bool) (m ej id j:Nat) (g:Nat->List Value):fnR abkC 60 Try.f56 (bodyOf Try.f56) (.pointer (some ⟨1000000,0,none⟩)::[]) (rdM 54 ej m g a z) 0 id j m 54=bkT m g a z:=by kernel_rfl
theorem abk_msum:MSum Try.prog 56 (RdrF 54 bkR) :=
 rdr_msum Try.func56 (by kernel_rfl) (by kernel_rfl) (by show 1<=Try.f56.ntmps;decide +kernel) (fun _ _ _ _ _ _ hp=>by cases hp)
  fun id j ej m g q hq hm hg=>⟨abkC,⟨mixed,tabOk,abkS_ok,noL⟩,rfl,(abk_ev q.1 q.2 m ej id j g).trans (bkT_eq hq hm hg)⟩
noncomputable def apnS:Sums:=[(53,.me (AtkF 54)),(52,.me RdF)]
theorem apnS_ok:SumsOk Try.prog apnS:=sums_consM atk_msum (sums_consM crd_msum sums_nil)
noncomputable def apnC:Cfg:=⟨tab,apnS,48,[]⟩
theorem apn_ev (a:Int) (z:Bool) (m ej id j:Nat) (g:Nat->List Value):fnR apnC 60 Try.f33 (bodyOf Try.f33) (.pointer (some ⟨1000000,0,none⟩)::[]) (rdM 54 ej m g a z) 0 id j m 54=pnT m g a z:=by kernel_rfl
theorem apn_msum:MSum Try.prog 33 (RdrF 54 pntR) :=
 rdr_msum Try.func33 (by kernel_rfl) (by kernel_rfl) (by show 1<=Try.f33.ntmps;decide +kernel) (fun _ _ _ _ _ _ hp=>by cases hp)
  fun id j ej m g q hq hm hg=>⟨apnC,⟨mixed,tabOk,apnS_ok,noL⟩,rfl,(apn_ev q.1 q.2 m ej id j g).trans (pnT_eq hq hm hg)⟩
noncomputable def atxS:Sums:=[(54,.me (GtpF 5)),(51,aweE)]
theorem atxS_ok:SumsOk Try.prog atxS:=sums_consM gtp_msum (sums_consI aweE_ok sums_nil)
noncomputable def atxC0:Cfg:=⟨tab,atxS,41,[]⟩
theorem atxC0_ok:CfgOk Try.prog atxC0 (bodyOf Try.f34):=⟨mixed,tabOk,atxS_ok,noL⟩
def atxP:List Nat:=[1,1,1,1,0,1,0]
theorem atx_at:codeAt atxP (bodyOf Try.f34)=some (.loop (loopAt atxP (bodyOf Try.f34))):=by kernel_rfl
theorem atx_r (ej m:Nat) (g:Nat->List Value) (s:ByteArray) (A:Int) (Z:Bool) (k p:Nat) (F:Nat->List Value) :
  roundS atxC0 60 (atxP++[0]) (loopAt atxP (bodyOf Try.f34)) txNt txNr 25 [6] txXi 25 (txQ 54 21 ej m g s A Z k p F) =
  bif Nat.blt p s.size then (bif decide ((k:Int) > 24) then some (.exit 0,txE 54 21 ej m g A Z k F) else req (szOk (k+1) 4) (req (Nat.beq k k&&true&&true) (some (.normal,txQ 54 21 ej m g s A Z (k+1) (p+dcW s p) (appF k F (lstF [.int .i32 (dcC s p)] 0 1))))))
   else some (.exit 0,txE 54 21 ej m g A Z k F):=by kernel_rfl
theorem atx_loop (ej m:Nat) (g:Nat->List Value) {s:ByteArray} (hs:s.size<=1000000) (A:Int) (Z:Bool):LoopOk Try.prog 41 (loopAt atxP (bodyOf Try.f34))
  (atSt txNt txNi 25 (txI 54 ej m g s A Z) (.exit 0) (txE 54 21 ej m g A Z (min 25 (rN s)) (rcF s))):=by
 have hN:=rN_le s
 refine loopW (fun _=>atxC0) (min 25 (rN s)) (fun _ _=>atxC0_ok) (fun _=>rfl) atx_at (m:=60) (nt:=fun _=>txNt) (ni:=fun _=>txNr) (et:=fun _=>[6]) (ei:=fun _=>txXi) (nx:=25) (ex:=25) (fun k=>txQ 54 21 ej m g s A Z k (ps s k) (rcF s))
  (fun w0 R a w h=>Rel.nilSlot h (t:=6) (B:=rnB) rfl rfl (by decide) (by decide) kRn (rcF s) 21 25) (by intro h;cases h) ?_ ?_
 ·intro k hk
  have h1:=lt_rN.2 (show k<rN s by omega)
  have h2:=ps_lt h1
  refine⟨txQ 54 21 ej m g s A Z (k+1) (ps s (k+1)) (appF k (rcF s) (lstF [.int .i32 (dcC s (ps s k))] 0 1)),?_,stEq_mk rfl (mRow (row_rn s k) (mSame rfl (mSame rfl (mSame rfl mNil))))⟩
  refine(atx_r ej m g s A Z k (ps s k) _).trans ?_
  rw[show Nat.blt (ps s k) s.size=true from bL h1,cond_true,decide_eq_false (by omega),cond_false,szOk_mul (by omega),req_true rfl,Nat.beq_refl,req_true (b:=true&&true&&true) rfl,dcW_dW,<-h2.2]
 ·refine⟨txE 54 21 ej m g A Z (min 25 (rN s)) (rcF s),?_,stEq_refl rfl⟩
  refine(atx_r ej m g s A Z _ _ _).trans ?_
  by_cases c:Nat.blt (ps s (min 25 (rN s))) s.size=true
  ·have h1:min 25 (rN s)<rN s:=lt_rN.1 (by rw[Nat.blt_eq] at c;exact c)
   rw[c,cond_true,decide_eq_true (by omega),cond_true]
  ·rw[Bool.not_eq_true] at c
   rw[c,cond_false]
noncomputable def atxC (ej m:Nat) (g:Nat->List Value) (s:ByteArray) (A:Int) (Z:Bool) (N:Nat) (F:Nat->List Value):Cfg:=⟨tab,atxS,41,[(atxP,atSt txNt txNi 25 (txI 54 ej m g s A Z) (.exit 0) (txE 54 21 ej m g A Z N F))]⟩
theorem atx_ev (a:Int) (z:Bool) (m ej id j:Nat) (g:Nat->List Value) (s:ByteArray) (A:Int) (Z:Bool) (N:Nat) (F:Nat->List Value):fnR (atxC ej m g s A Z N F) 60 Try.f34 (bodyOf Try.f34) (.pointer (some ⟨1000000,0,none⟩)::[]) (rdM 54 ej m g a z) 0 id j m 54=txT 54 ej m g a z A Z s N F:=by kernel_rfl
theorem atx_msum:MSum Try.prog 34 (RdrF 54 txR) :=
 rdr_msum Try.func34 (by kernel_rfl) (by kernel_rfl) (by show 1<=Try.f34.ntmps;decide +kernel) (fun _ _ _ _ _ _ hp=>by cases hp)
  fun id j ej m g q hq hm hg=>⟨atxC ej m g (tsS m g q.1) (gxA m g q.1) (gxZ m g q.1 q.2) (txN m g q.1) (rcF (tsS m g q.1)),⟨mixed,tabOk,atxS_ok,oneL (atx_loop ej m g (tsS_le m g q.1) _ _)⟩,rfl,(atx_ev q.1 q.2 m ej id j g _ _ _ _ _).trans (txT_eq hm hg)⟩
noncomputable def acoS:Sums:=[(32,.me (RdrF 54 nuR))]
theorem acoS_ok:SumsOk Try.prog acoS:=sums_consM anu_msum sums_nil
noncomputable def acoE:Ent:=inl tab acoS 25 Try.f55 (bodyOf Try.f55)
theorem acoE_ok:EntOk Try.prog 55 acoE:=inl_sum tabOk acoS_ok mixed Try.func55 (by kernel_rfl) (by kernel_rfl) rfl
noncomputable def aslS:Sums:=[(55,acoE),(56,.me (RdrF 54 bkR))]
theorem aslS_ok:SumsOk Try.prog aslS:=sums_consI acoE_ok (sums_consM abk_msum sums_nil)
noncomputable def aslC0:Cfg:=⟨tab,aslS,15,[]⟩
theorem aslC0_ok:CfgOk Try.prog aslC0 (bodyOf Try.f35):=⟨mixed,tabOk,aslS_ok,noL⟩
theorem asl_at:codeAt [1,1,0,1,0] (bodyOf Try.f35)=some (.loop (loopAt [1,1,0,1,0] (bodyOf Try.f35))):=by kernel_rfl
theorem asl_r (ej m:Nat) (g:Nat->List Value) (n A:Int) (Z:Bool) (k:Nat) (F:Nat->List Value) (i:Int) :
  roundS aslC0 60 [1,1,0,1,0,0] (loopAt [1,1,0,1,0] (bodyOf Try.f35)) lsNt lsNr 5 [3] lsXi 5 (lsQ 54 94 ej m g k32 n A Z k F i) =
  bif decide (i<n) then req (qoC m g A) (req (szOk (k+1) 32) (req (Nat.beq k k&&true&&true) (some (.normal,lsQ 54 94 ej m g k32 n (tkA m A Z 32) (tkZ m A Z 32) (k+1) (appF k F (lstF (slC (rnN m g A Z)) 0 32)) (IntKind.i64.wrap (i+1))))))
   else some (.exit 0,lsE 54 94 ej m g k32 A Z k F):=by kernel_rfl
theorem asl_loop (ej:Nat) {m:Nat} {g:Nat->List Value} (hm:m<=1000000) (hg:okY m g=true) {n:Nat} (hn:n<=64) {q0:Int×Bool} (hq:inQ m q0):LoopOk Try.prog 15 (loopAt [1,1,0,1,0] (bodyOf Try.f35))
  (atSt lsNt lsNi 5 (lsI 54 ej m g (n:Int) q0.1 q0.2) (.exit 0) (lsE 54 94 ej m g k32 (q1I m q0 n).1 (q1I m q0 n).2 n (slF (sVl m g q0)))):=by
 refine loopW (fun _=>aslC0) n (fun _ _=>aslC0_ok) (fun _=>rfl) asl_at (m:=60) (nt:=fun _=>lsNt) (ni:=fun _=>lsNr) (et:=fun _=>[3]) (ei:=fun _=>lsXi) (nx:=5) (ex:=5) (fun k=>lsQ 54 94 ej m g k32 (n:Int) (q1I m q0 k).1 (q1I m q0 k).2 k (slF (sVl m g q0)) ((k:Nat):Int))
  (fun w0 R a w h=>Rel.nilSlot h (t:=3) (B:=lB) rfl rfl (by decide) (by decide) k32 (slF (sVl m g q0)) 94 5) (by intro h;cases h) ?_ ?_
 ·intro k hk
  refine⟨_,(asl_r ej m g (n:Int) _ _ k _ _).trans ?_,stEq_mk rfl (mRow (row_l1 q0 k) (mSame rfl (mSame rfl mNil)))⟩
  rw[decide_eq_true (by omega),cond_true,qoC_in hg (inQ_1I hq k) hm,req_true rfl,szOk_mul (by omega),req_true rfl,Nat.beq_refl,req_true (b:=true&&true&&true) rfl,wrap_i64 (by omega)];rfl
 ·refine⟨_,(asl_r ej m g (n:Int) _ _ n _ _).trans ?_,stEq_refl rfl⟩
  rw[decide_eq_false (by omega),cond_false]
noncomputable def aslC (ej m:Nat) (g:Nat->List Value) (n A:Int) (Z:Bool) (N:Nat) (F:Nat->List Value) (A2:Int) (Z2:Bool):Cfg:=⟨tab,aslS,15,[([1,1,0,1,0],atSt lsNt lsNi 5 (lsI 54 ej m g n A Z) (.exit 0) (lsE 54 94 ej m g k32 A2 Z2 N F))]⟩
theorem asl_ev (a:Int) (z:Bool) (m ej id j:Nat) (g:Nat->List Value) (n A:Int) (Z:Bool) (N:Nat) (F:Nat->List Value) (A2:Int) (Z2:Bool):fnR (aslC ej m g n A Z N F A2 Z2) 60 Try.f35 (bodyOf Try.f35) (.pointer (some ⟨1000000,0,none⟩)::[]) (rdM 54 ej m g a z) 0 id j m 54=lsT 54 94 ej id m g k32 8 a z n A Z N F A2 Z2:=by kernel_rfl
theorem asl_msum:MSum Try.prog 35 (RdrF 54 (slR 94)) :=
 rdr_msum Try.func35 (by kernel_rfl) (by kernel_rfl) (by show 1<=Try.f35.ntmps;decide +kernel) (fun id _ _ _ _ p hp=>by rw[List.mem_singleton.1 hp];exact⟨Nat.le_refl _,by show nid id 0<nid id 8;unfold nid;omega⟩)
  fun id j ej m g q hq hm hg=>⟨aslC ej m g ((cnN m g 8 q.1 q.2:Nat):Int) (nuA m q.1) (cnZ m g 8 q.1 q.2) _ _ _ _,⟨mixed,tabOk,aslS_ok,oneL (asl_loop ej hm hg (n:=cnN m g 8 q.1 q.2) (by have:=cnN_le (m:=m) (g:=g) 8 q.1 q.2;exact Nat.le_trans this (by decide)) (q0:=cnS m g 8 q) (inQ_cn hq))⟩,rfl,(asl_ev q.1 q.2 m ej id j g _ _ _ _ _ _ _).trans (lsT_eq hq hm hg _ _ _ _)⟩
noncomputable def acmS:Sums:=[(55,acoE),(33,.me (RdrF 54 pntR))]
theorem acmS_ok:SumsOk Try.prog acmS:=sums_consI acoE_ok (sums_consM apn_msum sums_nil)
noncomputable def acmC0:Cfg:=⟨tab,acmS,15,[]⟩
theorem acmC0_ok:CfgOk Try.prog acmC0 (bodyOf Try.f36):=⟨mixed,tabOk,acmS_ok,noL⟩
theorem acm_at:codeAt [1,1,0,1,0] (bodyOf Try.f36)=some (.loop (loopAt [1,1,0,1,0] (bodyOf Try.f36))):=by kernel_rfl
theorem acm_r (ej m:Nat) (g:Nat->List Value) (n A:Int) (Z:Bool) (k:Nat) (F:Nat->List Value) (i:Int) :
  roundS acmC0 60 [1,1,0,1,0,0] (loopAt [1,1,0,1,0] (bodyOf Try.f36)) lsNt lsNr 5 [3] lsXi 5 (lsQ 54 26 ej m g kP9 n A Z k F i) =
  bif decide (i<n) then req (qoC m g A) (req (szOk (k+1) 72) (req (Nat.beq k k&&true&&true) (some (.normal,lsQ 54 26 ej m g kP9 n (poA m g A Z) (poZ m g A Z) (k+1) (appF k F (lstF (ptC (poR m g A Z).1) 0 9)) (IntKind.i64.wrap (i+1))))))
   else some (.exit 0,lsE 54 26 ej m g kP9 A Z k F):=by kernel_rfl
theorem acm_loop (ej:Nat) {m:Nat} {g:Nat->List Value} (hm:m<=1000000) (hg:okY m g=true) {n:Nat} (hn:n<=64) {q0:Int×Bool} (hq:inQ m q0):LoopOk Try.prog 15 (loopAt [1,1,0,1,0] (bodyOf Try.f36))
  (atSt lsNt lsNi 5 (lsI 54 ej m g (n:Int) q0.1 q0.2) (.exit 0) (lsE 54 26 ej m g kP9 (q3I m g q0 n).1 (q3I m g q0 n).2 n (ptF (pVn m g q0)))):=by
 refine loopW (fun _=>acmC0) n (fun _ _=>acmC0_ok) (fun _=>rfl) acm_at (m:=60) (nt:=fun _=>lsNt) (ni:=fun _=>lsNr) (et:=fun _=>[3]) (ei:=fun _=>lsXi) (nx:=5) (ex:=5) (fun k=>lsQ 54 26 ej m g kP9 (n:Int) (q3I m g q0 k).1 (q3I m g q0 k).2 k (ptF (pVn m g q0)) ((k:Nat):Int))
  (fun w0 R a w h=>Rel.nilSlot h (t:=3) (B:=lB) rfl rfl (by decide) (by decide) kP9 (ptF (pVn m g q0)) 26 5) (by intro h;cases h) ?_ ?_
 ·intro k hk
  refine⟨_,(acm_r ej m g (n:Int) _ _ k _ _).trans ?_,stEq_mk rfl (mRow (row_l2 q0 k) (mSame rfl (mSame rfl mNil)))⟩
  rw[decide_eq_true (by omega),cond_true,qoC_in hg (inQ_3I (g:=g) hq k) hm,req_true rfl,szOk_mul (by omega),req_true rfl,Nat.beq_refl,req_true (b:=true&&true&&true) rfl,wrap_i64 (by omega)];rfl
 ·refine⟨_,(acm_r ej m g (n:Int) _ _ n _ _).trans ?_,stEq_refl rfl⟩
  rw[decide_eq_false (by omega),cond_false]
noncomputable def acmC (ej m:Nat) (g:Nat->List Value) (n A:Int) (Z:Bool) (N:Nat) (F:Nat->List Value) (A2:Int) (Z2:Bool):Cfg:=⟨tab,acmS,15,[([1,1,0,1,0],atSt lsNt lsNi 5 (lsI 54 ej m g n A Z) (.exit 0) (lsE 54 26 ej m g kP9 A2 Z2 N F))]⟩
theorem acm_ev (a:Int) (z:Bool) (m ej id j:Nat) (g:Nat->List Value) (n A:Int) (Z:Bool) (N:Nat) (F:Nat->List Value) (A2:Int) (Z2:Bool):fnR (acmC ej m g n A Z N F A2 Z2) 60 Try.f36 (bodyOf Try.f36) (.pointer (some ⟨1000000,0,none⟩)::[]) (rdM 54 ej m g a z) 0 id j m 54=lsT 54 26 ej id m g kP9 64 a z n A Z N F A2 Z2:=by kernel_rfl
theorem acm_msum:MSum Try.prog 36 (RdrF 54 (cmR 26)) :=
 rdr_msum Try.func36 (by kernel_rfl) (by kernel_rfl) (by show 1<=Try.f36.ntmps;decide +kernel) (fun id _ _ _ _ p hp=>by rw[List.mem_singleton.1 hp];exact⟨Nat.le_refl _,by show nid id 0<nid id 8;unfold nid;omega⟩)
  fun id j ej m g q hq hm hg=>⟨acmC ej m g ((cnN m g 64 q.1 q.2:Nat):Int) (nuA m q.1) (cnZ m g 64 q.1 q.2) _ _ _ _,⟨mixed,tabOk,acmS_ok,oneL (acm_loop ej hm hg (n:=cnN m g 64 q.1 q.2) (by have:=cnN_le (m:=m) (g:=g) 64 q.1 q.2;exact Nat.le_trans this (by decide)) (q0:=cnS m g 64 q) (inQ_cn hq))⟩,rfl,(acm_ev q.1 q.2 m ej id j g _ _ _ _ _ _ _).trans (lsT_eq hq hm hg _ _ _ _)⟩
end Go.Proofs.Ytckbmhegopjnmaa

namespace Go.W
open Go
def ze7:OR:=some (.tuple #[acV 0 zR ⟨#[]⟩ nilS nilS 0 (0,0),i64 7],[])
def ouA (k:Int) (K:RP) (lab:ByteArray) (g:Int) (X:Nat×Nat):OR:=some (.tuple #[acV k K lab nilS nilS g X,i64 0],[])
def donT (m:Nat) (A:Int) (Z:Bool) (O:OR):OR:=bif !Z then (bif !(A==(m:Int)) then ze7 else O) else ze7
def fkT (K:RP) (O:OR):OR:=bif !K.1 then req (isPt (ptV K)) (bif !(errP (ckR (unPt (ptV K)))==0) then ze7 else O) else ze7
def loT (a:Nat) (O:OR):OR:=req (isNum (num a)&&isNum (num (primeN 1))) (bif !decide (cmpI (unnum (num a)) (unnum (num (primeN 1)))<0) then ze7 else O)
noncomputable def ldT1 (m:Nat) (g:Nat->List Value) (A:Int) (Z:Bool):OR :=
 req (qoC m g A) (req (qoC m g (poA m g A Z)) (donT m (gxA m g (poA m g A Z)) (gxZ m g (poA m g A Z) (poZ m g A Z))
  (fkT (poR m g A Z).1 (req (Nat.ble (gxV m g (poA m g A Z)).size 1000000) (bif lbE (gxV m g (poA m g A Z)) != 0 then ze7 else ouA 1 (poR m g A Z).1 (gxV m g (poA m g A Z)) 0 (0,0))))))
noncomputable def ldTp (m:Nat) (g:Nat->List Value) (A:Int) (Z:Bool) (k ag:Int) (T:OR->OR):OR :=
 req (qoC m g A) (req (qoC m g (poA m g A Z)) (req (isB32 (bytesV (rnN m g (poA m g A Z) (poZ m g A Z)))) (req (qoC m g (tkA m (poA m g A Z) (poZ m g A Z) 32)) (req (isB32 (bytesV (rnN m g (tkA m (poA m g A Z) (poZ m g A Z) 32) (tkZ m (poA m g A Z) (poZ m g A Z) 32))))
  (donT m (tkA m (tkA m (poA m g A Z) (poZ m g A Z) 32) (tkZ m (poA m g A Z) (poZ m g A Z) 32) 32) (tkZ m (tkA m (poA m g A Z) (poZ m g A Z) 32) (tkZ m (poA m g A Z) (poZ m g A Z) 32) 32)
   (T (fkT (poR m g A Z).1 (loT (unbytes (bytesV (rnN m g (poA m g A Z) (poZ m g A Z)))) (loT (unbytes (bytesV (rnN m g (tkA m (poA m g A Z) (poZ m g A Z) 32) (tkZ m (poA m g A Z) (poZ m g A Z) 32))))
    (ouA k (poR m g A Z).1 ⟨#[]⟩ ag (unbytes (bytesV (rnN m g (poA m g A Z) (poZ m g A Z))),unbytes (bytesV (rnN m g (tkA m (poA m g A Z) (poZ m g A Z) 32) (tkZ m (poA m g A Z) (poZ m g A Z) 32))))))))))))))
noncomputable def ldT4 (m:Nat) (g:Nat->List Value) (A:Int) (Z:Bool):OR:=ldTp m g A Z 4 0 fun O=>O
noncomputable def ldT3 (m:Nat) (g:Nat->List Value) (A:Int) (Z:Bool):OR:=req (qoC m g A) (ldTp m g (nuA m A) (nuZ m A Z) 3 (nuV m g A) fun O=>bif decide (nuV m g A<1) then ze7 else bif decide (nuV m g A > 8) then ze7 else O)
noncomputable def ldT5 (m:Nat) (A:Int) (Z:Bool):OR:=donT m A Z (ouA 5 zR ⟨#[]⟩ 0 (0,0))
noncomputable def ldT2 (t32 tP id m:Nat) (g:Nat->List Value) (N:Nat) (S:Nat->Nat) (A2:Int) (M:Nat) (V:Nat->RP) (A3:Int) (Z3:Bool):OR :=
 req (qoC m g A2) (donT m A3 Z3 (req (whN N&&(whN M&&okP M (sg9 M (ptF V)))) (bif poE N M (pA (sg9 M (ptF V))) != 0 then ze7 else
  req (Nat.ble N N) (req (Nat.ble M M) (some (.tuple #[acV 2 zR ⟨#[]⟩ (nSk id 0 N) (nSk id 1 M) 0 (0,0),i64 0],rwA t32 tP id N (slF S) M (ptF V)))))))
noncomputable def ldT (m:Nat) (g:Nat->List Value) (T2:OR):OR :=
 req (qoC m g 0) (bif nuV m g 0==1 then ldT1 m g (nuA m 0) (nuZ m 0 false) else bif nuV m g 0==2 then req (qoC m g (nuA m 0)) T2 else
  bif nuV m g 0==3 then ldT3 m g (nuA m 0) (nuZ m 0 false) else bif nuV m g 0==4 then ldT4 m g (nuA m 0) (nuZ m 0 false) else bif nuV m g 0==5 then ldT5 m (nuA m 0) (nuZ m 0 false) else ze7)
noncomputable def ldT2a (t32 tP id m:Nat) (g:Nat->List Value) (A:Int) (Z:Bool):OR :=
 ldT2 t32 tP id m g (cnN m g 8 A Z) (sVl m g (cnS m g 8 (A,Z))) (q1I m (cnS m g 8 (A,Z)) (cnN m g 8 A Z)).1
  (cnN m g 64 (q1I m (cnS m g 8 (A,Z)) (cnN m g 8 A Z)).1 (q1I m (cnS m g 8 (A,Z)) (cnN m g 8 A Z)).2) (pVn m g (cnS m g 64 ((q1I m (cnS m g 8 (A,Z)) (cnN m g 8 A Z)).1,(q1I m (cnS m g 8 (A,Z)) (cnN m g 8 A Z)).2)))
  (q3I m g (cnS m g 64 ((q1I m (cnS m g 8 (A,Z)) (cnN m g 8 A Z)).1,(q1I m (cnS m g 8 (A,Z)) (cnN m g 8 A Z)).2)) (cnN m g 64 (q1I m (cnS m g 8 (A,Z)) (cnN m g 8 A Z)).1 (q1I m (cnS m g 8 (A,Z)) (cnN m g 8 A Z)).2)).1
  (q3I m g (cnS m g 64 ((q1I m (cnS m g 8 (A,Z)) (cnN m g 8 A Z)).1,(q1I m (cnS m g 8 (A,Z)) (cnN m g 8 A Z)).2)) (cnN m g 64 (q1I m (cnS m g 8 (A,Z)) (cnN m g 8 A Z)).1 (q1I m (cnS m g 8 (A,Z)) (cnN m g 8 A Z)).2)).2
end Go.W

namespace Go.W
open Go
theorem raEy {L:List Nat} (h:isRd L):raE L=0:=by unfold raE;rw[hide_eq,if_pos (raB_yes h)]
theorem raEn {L:List Nat} (h:¬isRd L):raE L=7:=by unfold raE;rw[hide_eq,raB_no h];rfl
def Ld0 (L:List Nat) (r:OR):Prop:=∃A:AR,Sam A (raA L)∧A.n=0∧A.m=0∧r=some (.tuple #[acV A.k A.K A.l nilS nilS A.g A.X,i64 (raE L)],[])
theorem Ld0_no {L:List Nat} (h:¬isRd L):Ld0 L ze7:=⟨zeR,by rw[raA_no h];exact Sam.refl _,rfl,rfl,by rw[raEn h];rfl⟩
theorem Ld0_end {k:Int} {K:RP} {lab:ByteArray} {g:Int} {X:Nat×Nat} {L:List Nat} {q:Int×Bool} {r:OR}
  (fwd:stO L q=some []->Right (nlA k K lab g X)->wr0 (nlA k K lab g X)=L) (bwd:∀a,Right a->Wsl a->wr0 a=L->stO L q=some []∧Sam (nlA k K lab g X) a)
  (yes:stO L q=some []->Right (nlA k K lab g X)->r=ouA k K lab g X) (no:¬(stO L q=some []∧Right (nlA k K lab g X))->r=ze7):Ld0 L r:=by
 by_cases c:stO L q=some []∧Right (nlA k K lab g X)
 ·have hw:Wsl (nlA k K lab g X):=fun j hj=>absurd hj (Nat.not_lt_zero _)
  have hL:=fwd c.1 c.2
  refine⟨nlA k K lab g X,raA_of c.2 hw hL,rfl,rfl,?_⟩
  rw[raEy ⟨_,c.2,hw,hL⟩]
  exact yes c.1 c.2
 ·have hn:¬isRd L:=by
   rintro ⟨a,h1,h2,h3⟩
   obtain ⟨b1,b2⟩:=bwd a h1 h2 h3
   exact c ⟨b1,Right_sam b2 h1⟩
  have:=Ld0_no hn
  rw[<-no c] at this
  exact this
theorem donT_eq {m:Nat} {q:Int×Bool} {L:List Nat} (hm:L.length=m) (hq:inQ m q) (O:OR):(stO L q=some []->donT m q.1 q.2 O=O)∧(¬stO L q=some []->donT m q.1 q.2 O=ze7):=by
 obtain ⟨h0,h3⟩:=hq
 unfold stO donT
 cases hz:q.2 with
 | true=>rw[if_pos rfl];exact⟨fun h=>(by cases h),fun _=>rfl⟩
 | false =>
  rw[if_neg (by decide),Bool.not_false,cond_true]
  by_cases e:q.1=(m:Int)
  ·rw[beq_iff_eq.2 e,Bool.not_true,cond_false]
   refine⟨fun _=>rfl,fun h=>absurd ?_ h⟩
   rw[e,Int.toNat_natCast,<-hm,List.drop_length]
  ·rw[beq_eq_false_iff_ne.2 e,Bool.not_false,cond_true]
   refine⟨fun h=>?_,fun _=>rfl⟩
   have:=congrArg List.length (Option.some.inj h)
   rw[List.length_drop,hm] at this
   have this:m - q.1.toNat=0:=this
   exact absurd (by omega) e
theorem fkT_eq {K:RP} (h:okR K) (O:OR):fkT K O=if fulB K=true then O else ze7:=by
 unfold fkT fulB
 rw[isPt_ptV,req_true rfl,unPt_ptV h]
 cases K.1<;>cases ckR K<;>rfl
theorem loT_eq {a:Nat} (h:a<2^256) (O:OR):loT a O=if a<pN then O else ze7:=by
 unfold loT
 have hp:primeN 1=pN:=rfl
 rw[isNum_num,isNum_num,req_true (b:=true&&true) rfl,unnum_lt h,hp,unnum_lt (by decide)]
 by_cases e:a<pN
 ·rw[if_pos e,show cmpI a pN=-1 from if_pos e];rfl
 ·rw[if_neg e]
  unfold cmpI;rw[if_neg e]
  split<;>rfl
section
variable {m:Nat} {g:Nat->List Value} (hm:m<=1000000) (hg:okY m g=true)
include hg
theorem kindN {a:AR} (h:Right a) (e:wr0 a=lsB m g):a.k=nuV m g 0∧∃r,lsB m g=a.k.toNat::r∧stO (lsB m g) (nuS m q00)=some r:=by
 obtain ⟨r,h1,h2,h3⟩:=wr0_hd h
 rw[h1] at e
 have h4:stO (lsB m g) q00=some (a.k.toNat::r):=by rw[stO_00,e]
 obtain ⟨k1,k2⟩:=nu_back hg (inQ_00 m) h4
 have k2:nuV m g 0=((a.k.toNat:Nat):Int):=k2
 exact⟨by rw[k2];omega,r,e.symm,k1⟩
theorem kindT {r:List Nat} (h:stO (lsB m g) (nuS m q00)=some r):lsB m g=(nuV m g 0).toNat::r:=by
 obtain ⟨b,hb,hv⟩:=nu_some hg (inQ_00 m) h
 rw[stO_00] at hb
 have hv:nuV m g 0=((b:Nat):Int):=hv
 rw[Option.some.inj hb,hv];rfl
theorem ld_5 (hk:nuV m g 0=5):Ld0 (lsB m g) (ldT5 m (nuA m 0) (nuZ m 0 false)):=by
 have hq:=inQ_nu (inQ_00 m)
 have hR:Right (nlA 5 zR ⟨#[]⟩ 0 (0,0)):=.inr (.inr (.inr (.inr ⟨rfl,rfl,rfl,rfl,rfl,rfl,rfl⟩)))
 obtain ⟨d1,d2⟩:=donT_eq (lsB_len m g) hq (ouA 5 zR ⟨#[]⟩ 0 (0,0))
 refine Ld0_end (k:=5) (K:=zR) (lab:=⟨#[]⟩) (g:=0) (X:=(0,0)) (q:=nuS m q00) ?_ ?_ (fun h _=>d1 h) (fun h=>d2 fun h2=>h ⟨h2,hR⟩)
 ·intro h _
  rw[kindT hg h,hk];rfl
 ·intro a ha hw e
  obtain ⟨e1,r,e2,e3⟩:=kindN hg ha e
  have k5:a.k=5:=e1.trans hk
  have e4:wr0 a=[5]:=by unfold wr0;rw[k5];rfl
  rw[e4] at e
  rw[<-e] at e2
  have hr:=(List.cons.inj e2).2
  subst hr
  rcases ha with h | h | h | h | ⟨_,c1,c2,c3,c4,c5,c6⟩
  ·exact absurd h.1 (by omega)
  ·exact absurd h.1 (by omega)
  ·exact absurd h.1 (by omega)
  ·exact absurd h.1 (by omega)
  exact⟨e3,k5.symm,c1.symm,c2.symm,c3.symm,fun j hj=>absurd hj (Nat.not_lt_zero _),c4.symm,fun j hj=>absurd hj (Nat.not_lt_zero _),c5.symm,c6.symm⟩
theorem ld_x (h1:nuV m g 0≠1) (h2:nuV m g 0≠2) (h3:nuV m g 0≠3) (h4:nuV m g 0≠4) (h5:nuV m g 0≠5):Ld0 (lsB m g) ze7:=by
 refine Ld0_no ?_
 rintro ⟨a,ha,hw,e⟩
 have:=(kindN hg ha e).1
 rcases ha with h | h | h | h | h<;>(have:=h.1;omega)
include hm
theorem ld_1 (hk:nuV m g 0=1):Ld0 (lsB m g) (ldT1 m g (nuA m 0) (nuZ m 0 false)):=by
 have h1:=inQ_nu (inQ_00 m)
 have h2:=inQ_po (g:=g) h1
 have h3:=inQ_tx (g:=g) h2
 have c1:qoC m g (nuA m 0)=true:=qoC_in hg h1 hm
 have c2:qoC m g (poA m g (nuA m 0) (nuZ m 0 false))=true:=qoC_in hg h2 hm
 have hK:=okR_po m g (nuA m 0) (nuZ m 0 false)
 obtain ⟨K,eK⟩:∃K,K=(poR m g (nuA m 0) (nuZ m 0 false)).1:=⟨_,rfl⟩
 obtain ⟨lab,eb⟩:∃lab,lab=gxV m g (poA m g (nuA m 0) (nuZ m 0 false)):=⟨_,rfl⟩
 have hs:lab.size<=1000000:=by
  rw[eb];unfold gxV;rw[hide_eq]
  have:=tx25_size (rowS (gpL m g (poA m g (nuA m 0) (nuZ m 0 false))) (gpR g (poA m g (nuA m 0) (nuZ m 0 false))));omega
 have hRi:Right (nlA 1 K lab 0 (0,0))↔fulB K=true∧lblB lab=true:=by
  constructor
  ·rintro (⟨_,a1,a2,_⟩ | ⟨h,_⟩ | ⟨h,_⟩ | ⟨h,_⟩ | ⟨h,_⟩)
   ·exact⟨a1,a2⟩
   all_goals (simp only[nlA] at h;omega)
  ·rintro ⟨a1,a2⟩;exact .inl ⟨rfl,a1,a2,rfl,rfl,rfl,rfl⟩
 unfold ldT1
 rw[c1,req_true rfl,c2,req_true rfl,<-eK,<-eb,Nat.ble_eq_true_of_le hs,req_true rfl]
 rw[<-eK] at hK
 obtain ⟨d1,d2⟩:=donT_eq (lsB_len m g) h3 (fkT K (bif lbE lab != 0 then ze7 else ouA 1 K lab 0 (0,0)))
 have hF:fkT K (bif lbE lab != 0 then ze7 else ouA 1 K lab 0 (0,0))=if fulB K=true∧lblB lab=true then ouA 1 K lab 0 (0,0) else ze7:=by
  rw[fkT_eq hK]
  unfold lbE;rw[hide_eq]
  cases fulB K<;>cases lblB lab<;>rfl
 refine Ld0_end (k:=1) (K:=K) (lab:=lab) (g:=0) (X:=(0,0)) (q:=gxS m g (poS m g (nuS m q00))) ?_ ?_ (fun h hR=>(d1 h).trans (hF.trans (if_pos (hRi.1 hR)))) (fun h=>?_)
 ·intro h hR
  obtain ⟨l,t1,t2⟩:=tx_some hg h
  obtain ⟨a5,a6⟩:=po_some hg h1 t1
  have hl:lblB l=true:=by
   rw[<-lblB_tx,<-t2]
   have:=(hRi.1 hR).2
   rw[eb] at this;exact this
  have e3:lab=l:=by rw[eb,<-tx_lbl (lblB_iff.1 hl)];exact t2
  rw[kindT hg a5,hk,wr0_1 rfl]
  show[1]++pyB K++(beL 4 lab.size++txB lab)=_
  rw[e3,eK,List.append_assoc,List.append_nil];rfl
 ·intro a ha hw e
  obtain ⟨e1,r,e2,e3⟩:=kindN hg ha e
  have k1:a.k=1:=e1.trans hk
  rcases ha with⟨_,b1,b2,b3,b4,b5,b6⟩ | h | h | h | h
  ·rw[<-e,wr0_1 k1,k1,List.append_assoc] at e2
   have e4:=(List.cons.inj e2).2
   rw[<-e4] at e3
   have e3:stO (lsB m g) (nuS m q00)=some (pyB a.K++(beL 4 a.l.size++txB a.l)):=e3
   obtain ⟨f1,f2⟩:=po_back hg h1 (ful_ck b1) e3
   have s1:=lbl_size b2
   rw[<-List.append_nil (txB a.l)] at f1
   obtain ⟨f3,f4⟩:=tx_back hg h2 (by omega) f1
   have e5:lab=a.l:=by rw[eb,<-tx_lbl (lblB_iff.1 b2)];exact f4
   exact⟨f3,k1.symm,by rw[eK];exact f2,e5,b3.symm,fun j hj=>absurd hj (Nat.not_lt_zero _),b4.symm,fun j hj=>absurd hj (Nat.not_lt_zero _),b5.symm,b6.symm⟩
  ·exact absurd h.1 (by omega)
  ·exact absurd h.1 (by omega)
  ·exact absurd h.1 (by omega)
  ·exact absurd h.1 (by omega)
 ·by_cases c:stO (lsB m g) (gxS m g (poS m g (nuS m q00)))=some []
  ·exact(d1 c).trans (hF.trans (if_neg fun h9=>h ⟨c,hRi.2 h9⟩))
  ·exact d2 c
theorem ld_kp {q:Int×Bool} (hq:inQ m q) {k ag:Int} {P:Prop} {T:OR->OR} (hT1:P->∀O,T O=O) (hT2:¬P->∀O,T O=ze7)
  (hR:∀K (X:Nat×Nat),Right (nlA k K ⟨#[]⟩ ag X)↔P∧fulB K=true∧X.1<pN∧X.2<pN)
  (fwd:∀(K:RP) (X:Nat×Nat),stO (lsB m g) q=some (pyB K++(beL 32 X.1++beL 32 X.2))->wr0 (nlA k K ⟨#[]⟩ ag X)=lsB m g)
  (bwd:∀a,Right a->Wsl a->wr0 a=lsB m g->a.k=k∧a.l=⟨#[]⟩∧a.n=0∧a.m=0∧a.g=ag∧ckR a.K=true∧a.X.1<2^256∧a.X.2<2^256∧stO (lsB m g) q=some (pyB a.K++(beL 32 a.X.1++beL 32 a.X.2))) :
  Ld0 (lsB m g) (ldTp m g q.1 q.2 k ag T):=by
 have h1:=inQ_po (g:=g) hq
 have h2:=inQ_tk h1 (n:=32) (by decide)
 have h3:=inQ_tk h2 (n:=32) (by decide)
 have c0:qoC m g q.1=true:=qoC_in hg hq hm
 have c1:qoC m g (poA m g q.1 q.2)=true:=qoC_in hg h1 hm
 have c2:qoC m g (tkA m (poA m g q.1 q.2) (poZ m g q.1 q.2) 32)=true:=qoC_in hg h2 hm
 have hK:=okR_po m g q.1 q.2
 have n1:=rn_lt hg h1
 have n2:=rn_lt hg h2
 obtain ⟨K,eK⟩:∃K,K=(poR m g q.1 q.2).1:=⟨_,rfl⟩
 obtain ⟨x,ex⟩:∃x,x=rnN m g (poA m g q.1 q.2) (poZ m g q.1 q.2):=⟨_,rfl⟩
 obtain ⟨y,ey⟩:∃y,y=rnN m g (tkA m (poA m g q.1 q.2) (poZ m g q.1 q.2) 32) (tkZ m (poA m g q.1 q.2) (poZ m g q.1 q.2) 32):=⟨_,rfl⟩
 have n1:x<2^256:=by rw[ex];exact n1
 have n2:y<2^256:=by rw[ey];exact n2
 unfold ldTp
 rw[c0,req_true rfl,c1,req_true rfl,<-ex,isB32_bytesV,req_true rfl,c2,req_true rfl,<-ey,isB32_bytesV,req_true rfl,unbytes_bytesV,unbytes_bytesV,Nat.mod_eq_of_lt n1,Nat.mod_eq_of_lt n2,<-eK]
 rw[<-eK] at hK
 obtain ⟨d1,d2⟩:=donT_eq (lsB_len m g) h3 (T (fkT K (loT x (loT y (ouA k K ⟨#[]⟩ ag (x,y))))))
 have hFy:Right (nlA k K ⟨#[]⟩ ag (x,y))->T (fkT K (loT x (loT y (ouA k K ⟨#[]⟩ ag (x,y)))))=ouA k K ⟨#[]⟩ ag (x,y):=by
  intro h
  obtain ⟨p,p1,p2,p3⟩:=(hR K (x,y)).1 h
  rw[hT1 p,fkT_eq hK,loT_eq n1,loT_eq n2,if_pos p1,if_pos p2,if_pos p3]
 have hFn:¬Right (nlA k K ⟨#[]⟩ ag (x,y))->T (fkT K (loT x (loT y (ouA k K ⟨#[]⟩ ag (x,y)))))=ze7:=by
  intro h
  by_cases p:P
  ·rw[hT1 p,fkT_eq hK,loT_eq n1,loT_eq n2]
   by_cases p1:fulB K=true
   ·by_cases p2:x<pN
    ·by_cases p3:y<pN
     ·exact absurd ((hR K (x,y)).2 ⟨p,p1,p2,p3⟩) h
     ·rw[if_pos p1,if_pos p2,if_neg p3]
    ·rw[if_pos p1,if_neg p2]
   ·rw[if_neg p1]
  ·exact hT2 p _
 refine Ld0_end (k:=k) (K:=K) (lab:=⟨#[]⟩) (g:=ag) (X:=(x,y)) (q:=tkS m (tkS m (poS m g q) 32) 32) ?_ ?_ (fun h hR=>(d1 h).trans (hFy hR)) (fun h=>?_)
 ·intro h _
  obtain ⟨a1,a2⟩:=rn_some hg h2 h
  obtain ⟨a3,a4⟩:=rn_some hg h1 a1
  obtain ⟨a5,a6⟩:=po_some hg hq a3
  rw[List.append_nil] at a5
  rw[eK,ex,ey]
  exact fwd _ (_,_) a5
 ·intro a ha hw e
  obtain ⟨b1,b2,b3,b4,b5,b6,b7,b8,b9⟩:=bwd a ha hw e
  obtain ⟨f1,f2⟩:=po_back hg hq b6 b9
  obtain ⟨f3,f4⟩:=rn_back hg h1 b7 f1
  rw[<-List.append_nil (beL 32 a.X.2)] at f3
  obtain ⟨f5,f6⟩:=rn_back hg h2 b8 f3
  refine⟨f5,b1.symm,by rw[eK];exact f2,b2.symm,b3.symm,fun j hj=>absurd hj (Nat.not_lt_zero _),b4.symm,fun j hj=>absurd hj (Nat.not_lt_zero _),b5.symm,?_⟩
  rw[ex,ey];exact Prod.ext f4 f6
 ·by_cases c:stO (lsB m g) (tkS m (tkS m (poS m g q) 32) 32)=some []
  ·exact(d1 c).trans (hFn fun h9=>h ⟨c,h9⟩)
  ·exact d2 c
theorem ld_4 (hk:nuV m g 0=4):Ld0 (lsB m g) (ldT4 m g (nuA m 0) (nuZ m 0 false)):=by
 refine ld_kp hm hg (q:=nuS m q00) (inQ_nu (inQ_00 m)) (P:=True) (fun _ _=>rfl) (fun h=>absurd trivial h) ?_ ?_ ?_
 ·intro K X
  constructor
  ·rintro (⟨h,_⟩ | ⟨h,_⟩ | ⟨h,_⟩ | ⟨_,_,_,_,_,a1,a2,a3⟩ | ⟨h,_⟩)
   ·simp only[nlA] at h;omega
   ·simp only[nlA] at h;omega
   ·simp only[nlA] at h;omega
   ·exact⟨trivial,a1,a2,a3⟩
   ·simp only[nlA] at h;omega
  ·rintro ⟨_,a1,a2,a3⟩;exact .inr (.inr (.inr (.inl ⟨rfl,rfl,rfl,rfl,rfl,a1,a2,a3⟩)))
 ·intro K X h
  rw[kindT hg h,hk,wr0_4 rfl]
  show[4]++pyB K++(beL 32 X.1++beL 32 X.2)=4::(pyB K++(beL 32 X.1++beL 32 X.2))
  rw[List.append_assoc];rfl
 ·intro a ha hw e
  obtain ⟨e1,r,e2,e3⟩:=kindN hg ha e
  have k4:a.k=4:=e1.trans hk
  rcases ha with h | h | h | ⟨_,c1,c2,c3,c4,c5,c6,c7⟩ | h
  ·exact absurd h.1 (by omega)
  ·exact absurd h.1 (by omega)
  ·exact absurd h.1 (by omega)
  ·refine⟨k4,c1,c2,c3,c4,ful_ck c5,Nat.lt_trans c6 pN_256,Nat.lt_trans c7 pN_256,?_⟩
   rw[e3]
   rw[<-e,wr0_4 k4,k4,List.append_assoc] at e2
   exact congrArg some (List.cons.inj e2).2.symm
  ·exact absurd h.1 (by omega)
theorem ld_3 (hk:nuV m g 0=3):Ld0 (lsB m g) (ldT3 m g (nuA m 0) (nuZ m 0 false)):=by
 have h1:=inQ_nu (inQ_00 m)
 have c1:qoC m g (nuA m 0)=true:=qoC_in hg h1 hm
 unfold ldT3
 rw[c1,req_true rfl]
 obtain ⟨ag,eg⟩:∃ag,ag=nuV m g (nuA m 0):=⟨_,rfl⟩
 rw[<-eg]
 refine ld_kp hm hg (q:=nuS m (nuS m q00)) (inQ_nu h1) (P:=1<=ag∧ag<=8) (fun h O=>?_) (fun h O=>?_) ?_ ?_ ?_
 ·show(bif decide (ag<1) then ze7 else bif decide (ag > 8) then ze7 else O)=O
  rw[decide_eq_false (by omega),decide_eq_false (by omega)];rfl
 ·show(bif decide (ag<1) then ze7 else bif decide (ag > 8) then ze7 else O)=ze7
  by_cases e1:ag<1
  ·rw[decide_eq_true e1];rfl
  ·rw[decide_eq_false e1,decide_eq_true (by omega)];rfl
 ·intro K X
  constructor
  ·rintro (⟨h,_⟩ | ⟨h,_⟩ | ⟨_,_,_,_,a1,a2,a3,a4,a5⟩ | ⟨h,_⟩ | ⟨h,_⟩)
   ·simp only[nlA] at h;omega
   ·simp only[nlA] at h;omega
   ·exact⟨⟨a1,a2⟩,a3,a4,a5⟩
   ·simp only[nlA] at h;omega
   ·simp only[nlA] at h;omega
  ·rintro ⟨⟨a1,a2⟩,a3,a4,a5⟩;exact .inr (.inr (.inl ⟨rfl,rfl,rfl,rfl,a1,a2,a3,a4,a5⟩))
 ·intro K X h
  obtain ⟨b,hb,hv⟩:=nu_some hg h1 h
  have hv:nuV m g (nuA m 0)=((b:Nat):Int):=hv
  rw[kindT hg hb,hk,wr0_3 rfl]
  show[3]++[ag.toNat]++pyB K++(beL 32 X.1++beL 32 X.2)=3::b::(pyB K++(beL 32 X.1++beL 32 X.2))
  rw[eg,hv,Int.toNat_natCast,List.append_assoc,List.append_assoc];rfl
 ·intro a ha hw e
  obtain ⟨e1,r,e2,e3⟩:=kindN hg ha e
  have k3:a.k=3:=e1.trans hk
  rcases ha with h | h | ⟨_,c1,c2,c3,c4,c5,c6,c7,c8⟩ | h | h
  ·exact absurd h.1 (by omega)
  ·exact absurd h.1 (by omega)
  ·rw[<-e,wr0_3 k3,k3,List.append_assoc,List.append_assoc] at e2
   have e4:=(List.cons.inj e2).2
   rw[<-e4] at e3
   have e3:stO (lsB m g) (nuS m q00)=some (a.g.toNat::(pyB a.K++(beL 32 a.X.1++beL 32 a.X.2))):=e3
   obtain ⟨e5,e6⟩:=nu_back hg h1 e3
   have e6:nuV m g (nuA m 0)=((a.g.toNat:Nat):Int):=e6
   exact⟨k3,c1,c2,c3,by rw[eg,e6];omega,ful_ck c6,Nat.lt_trans c7 pN_256,Nat.lt_trans c8 pN_256,e5⟩
  ·exact absurd h.1 (by omega)
  ·exact absurd h.1 (by omega)
end
section
variable {m:Nat} {g:Nat->List Value} (hg:okY m g=true)
include hg
theorem s3_back {q0:Int×Bool} (hq:inQ m q0):∀{n:Nat} {r:List Nat},stO (lsB m g) (q3I m g q0 n)=some r->stO (lsB m g) q0=some (pyS (pVn m g q0) n++r)∧∀j,j<n->ckR (pVn m g q0 j)=true
 | 0,_,h=>⟨h,fun j hj=>absurd hj (Nat.not_lt_zero _)⟩
 | n+1,r,h=>by
  obtain ⟨h1,h2⟩:=po_some hg (inQ_3I hq n) h
  obtain ⟨h3,h4⟩:=s3_back hq h1
  refine⟨by rw[h3,pyS,List.append_assoc];rfl,fun j hj=>?_⟩
  by_cases e:j=n
  ·rw[e];exact h2
  ·exact h4 j (by omega)
theorem s3_to {q0:Int×Bool} (hq:inQ m q0) {V:Nat->RP}:∀{n:Nat} {r:List Nat},(∀j,j<n->ckR (V j)=true)->stO (lsB m g) q0=some (pyS V n++r)->stO (lsB m g) (q3I m g q0 n)=some r∧∀j,j<n->pVn m g q0 j=V j
 | 0,_,_,h=>⟨h,fun j hj=>absurd hj (Nat.not_lt_zero _)⟩
 | n+1,r,hV,h=>by
  rw[pyS,List.append_assoc] at h
  obtain ⟨h1,h2⟩:=s3_to hq (fun j hj=>hV j (by omega)) h
  obtain ⟨h3,h4⟩:=po_back hg (inQ_3I hq n) (hV n (by omega)) h1
  refine⟨h3,fun j hj=>?_⟩
  by_cases e:j=n
  ·rw[e];exact h4
  ·exact h2 j (by omega)
end
def Ld2 (t32 tP id:Nat) (L:List Nat) (r:OR):Prop:=Ld0 L r∨∃A:AR,Sam A (raA L)∧raE L=0∧r=some (.tuple #[acV A.k A.K A.l (nSk id 0 A.n) (nSk id 1 A.m) A.g A.X,i64 0],rwA t32 tP id A.n (slF A.S) A.m (ptF A.V))
theorem poE_iff {n m:Nat} {V:Nat->RP}:poE n m V=0↔n<=8∧1<=m∧m<=64∧alP V m=true∧(V 0).1=false:=by
 unfold poE
 by_cases c:8<n∨m<1∨64<m
 ·rw[if_pos c];constructor
  ·intro h;cases h
  ·intro h;omega
 ·rw[if_neg c]
  cases (V 0).1<;>cases alP V m<;>simp<;>omega
theorem ld_2 (t32 tP id:Nat) {m:Nat} {g:Nat->List Value} (hm:m<=1000000) (hg:okY m g=true) (hk:nuV m g 0=2) {N M:Nat} {qa:Int×Bool} (eN:N=cnN m g 8 (nuA m 0) (nuZ m 0 false)) (ea:qa=q1I m (cnS m g 8 (nuS m q00)) N) (eM:M=cnN m g 64 qa.1 qa.2) :
  Ld2 t32 tP id (lsB m g) (ldT2 t32 tP id m g N (sVl m g (cnS m g 8 (nuS m q00))) qa.1 M (pVn m g (cnS m g 64 qa)) (q3I m g (cnS m g 64 qa) M).1 (q3I m g (cnS m g 64 qa) M).2):=by
 have i1:=inQ_nu (inQ_00 m)
 have i0:=inQ_cn (g:=g) (mx:=8) i1
 have ia:inQ m qa:=by rw[ea];exact inQ_1I i0 N
 have i2:=inQ_cn (g:=g) (mx:=64) ia
 have iF:=inQ_3I (g:=g) i2 M
 have lN:N<=8:=by rw[eN];exact cnN_le 8 _ _
 have lM:M<=64:=by rw[eM];exact cnN_le 64 _ _
 obtain ⟨S,eS⟩:∃S,S=sVl m g (cnS m g 8 (nuS m q00)):=⟨_,rfl⟩
 obtain ⟨V,eV⟩:∃V,V=pVn m g (cnS m g 64 qa):=⟨_,rfl⟩
 have hS:∀j,S j<2^256:=fun j=>by rw[eS];exact rn_lt hg (inQ_1I i0 j)
 have hV:∀j,okR (V j):=fun j=>by rw[eV];exact okR_po m g _ _
 have o2:okP M (sg9 M (ptF V))=true:=by rw[okP_sg];exact okP_pt (by omega)
 have eA:pA (sg9 M (ptF V))=V:=by
  rw[pA_sg];funext j;exact pA_pt (hV j)
 obtain ⟨A,hA⟩:∃A:AR,A=⟨2,zR,⟨#[]⟩,N,S,M,V,0,(0,0)⟩:=⟨_,rfl⟩
 have hR:Right A↔poE N M V=0:=by
  rw[poE_iff,hA]
  constructor
  ·rintro (⟨h,_⟩ | ⟨_,_,_,_,_,a1,a2,a3,a4,a5⟩ | ⟨h,_⟩ | ⟨h,_⟩ | ⟨h,_⟩)
   ·simp only at h;omega
   ·exact⟨a1,a2,a3,a4,a5⟩
   ·simp only at h;omega
   ·simp only at h;omega
   ·simp only at h;omega
  ·rintro ⟨a1,a2,a3,a4,a5⟩;exact .inr (.inl ⟨rfl,rfl,rfl,rfl,rfl,a1,a2,a3,a4,a5⟩)
 have hw:Wsl A:=by rw[hA];exact fun j _=>hS j
 have c0:qoC m g qa.1=true:=qoC_in hg ia hm
 rw[<-eS,<-eV]
 unfold ldT2
 rw[c0,req_true rfl,whN_true,whN_true,o2,eA,req_true (b:=true&&(true&&true)) rfl,Nat.ble_eq_true_of_le (Nat.le_refl N),Nat.ble_eq_true_of_le (Nat.le_refl M),req_true rfl,req_true rfl]
 obtain ⟨d1,d2⟩:=donT_eq (lsB_len m g) iF (bif poE N M V != 0 then ze7 else some (.tuple #[acV 2 zR ⟨#[]⟩ (nSk id 0 N) (nSk id 1 M) 0 (0,0),i64 0],rwA t32 tP id N (slF S) M (ptF V)))
 by_cases cc:stO (lsB m g) (q3I m g (cnS m g 64 qa) M)=some []∧Right A
 ·have e:wr0 A=lsB m g:=by
   obtain ⟨h,_⟩:=cc
   obtain ⟨a1,a2⟩:=s3_back hg i2 h
   rw[List.append_nil,<-eV] at a1
   have a3:stO (lsB m g) qa=some (M::pyS V M):=by rw[eM];rw[eM] at a1;exact cn_some hg (mx:=64) ia a1
   rw[ea] at a3
   have a4:=s1_back hg i0 a3
   rw[<-eS] at a4
   have a5:stO (lsB m g) (nuS m q00)=some (N::(syS S N++(M::pyS V M))):=by
    have:=cn_some hg (mx:=8) i1 a4
    exact this.trans (by rw[eN];rfl)
   rw[kindT hg a5,hk,hA,wr0_2 rfl]
   unfold l1A l0A
   simp only[List.append_assoc]
   rfl
  refine .inr ⟨A,raA_of cc.2 hw e,raEy ⟨A,cc.2,hw,e⟩,?_⟩
  refine(d1 cc.1).trans ?_
  rw[hR.1 cc.2,hA];rfl
 ·have hn:¬isRd (lsB m g):=by
   rintro ⟨a,ha,hwa,e⟩
   apply cc
   obtain ⟨k1,r,k2,k3⟩:=kindN hg ha e
   have k4:a.k=2:=k1.trans hk
   rcases ha with h | ⟨_,c1,c2,c3,c4,c5,c6,c7,c8,c9⟩ | h | h | h
   ·exact absurd h.1 (by omega)
   ·have ha:Right a:=.inr (.inl ⟨k4,c1,c2,c3,c4,c5,c6,c7,c8,c9⟩)
    rw[<-e,wr0_2 k4,k4] at k2
    unfold l1A l0A at k2
    simp only[List.append_assoc] at k2
    have k2:2::a.n::(syS a.S a.n++(a.m::pyS a.V a.m))=2::r:=k2
    have k5:=(List.cons.inj k2).2
    rw[<-k5] at k3
    obtain ⟨k6,hn1⟩:=cn_back hg (mx:=8) i1 c5 k3
    have hn1:N=a.n:=by rw[eN];exact hn1
    obtain ⟨k7,k8⟩:=s1_to hg i0 hwa k6
    rw[<-hn1,<-ea] at k7
    obtain ⟨k9,hn2⟩:=cn_back hg (mx:=64) ia c7 k7
    have hn2:M=a.m:=by rw[eM];exact hn2
    rw[<-List.append_nil (pyS a.V a.m)] at k9
    obtain ⟨e1,e2⟩:=s3_to hg i2 (alP_iff.1 c8) k9
    rw[<-hn2] at e1
    refine⟨e1,Right_sam (b:=a) ?_ ha⟩
    rw[hA]
    exact⟨k4.symm,c1.symm,c2.symm,hn1,fun j hj=>by rw[eS];exact k8 j (by rw[<-hn1];exact hj),hn2,fun j hj=>by rw[eV];exact e2 j (by rw[<-hn2];exact hj),c3.symm,c4.symm⟩
   ·exact absurd h.1 (by omega)
   ·exact absurd h.1 (by omega)
   ·exact absurd h.1 (by omega)
  refine .inl ?_
  have h9:donT m (q3I m g (cnS m g 64 qa) M).1 (q3I m g (cnS m g 64 qa) M).2 (bif poE N M V != 0 then ze7 else some (.tuple #[acV 2 zR ⟨#[]⟩ (nSk id 0 N) (nSk id 1 M) 0 (0,0),i64 0],rwA t32 tP id N (slF S) M (ptF V)))=ze7:=by
   by_cases c:stO (lsB m g) (q3I m g (cnS m g 64 qa) M)=some []
   ·refine(d1 c).trans ?_
    rw[bne_iff_ne.2 fun h=>cc ⟨c,hR.2 h⟩];rfl
   ·exact d2 c
  rw[h9]
  exact Ld0_no hn
theorem ldT_eq (t32 tP id:Nat) {m:Nat} {g:Nat->List Value} (hm:m<=1000000) (hg:okY m g=true):Ld2 t32 tP id (lsB m g) (ldT m g (ldT2a t32 tP id m g (nuA m 0) (nuZ m 0 false))):=by
 have i1:=inQ_nu (inQ_00 m)
 have c0:qoC m g 0=true:=qoC_in hg (inQ_00 m) hm
 have c1:qoC m g (nuA m 0)=true:=qoC_in hg i1 hm
 have nb:∀x:Int,nuV m g 0≠x->(nuV m g 0==x)=false:=fun x hx=>beq_eq_false_iff_ne.2 hx
 unfold ldT
 rw[c0,req_true rfl]
 by_cases k1:nuV m g 0=1
 ·rw[beq_iff_eq.2 k1,cond_true];exact .inl (ld_1 hm hg k1)
 rw[nb 1 k1,cond_false]
 by_cases k2:nuV m g 0=2
 ·rw[beq_iff_eq.2 k2,cond_true,c1,req_true rfl]
  exact ld_2 t32 tP id hm hg k2 (N:=cnN m g 8 (nuA m 0) (nuZ m 0 false)) (qa:=q1I m (cnS m g 8 (nuS m q00)) (cnN m g 8 (nuA m 0) (nuZ m 0 false))) rfl rfl rfl
 rw[nb 2 k2,cond_false]
 by_cases k3:nuV m g 0=3
 ·rw[beq_iff_eq.2 k3,cond_true];exact .inl (ld_3 hm hg k3)
 rw[nb 3 k3,cond_false]
 by_cases k4:nuV m g 0=4
 ·rw[beq_iff_eq.2 k4,cond_true];exact .inl (ld_4 hm hg k4)
 rw[nb 4 k4,cond_false]
 by_cases k5:nuV m g 0=5
 ·rw[beq_iff_eq.2 k5,cond_true];exact .inl (ld_5 hg k5)
 rw[nb 5 k5,cond_false]
 exact .inl (ld_x hg k1 k2 k3 k4 k5)
section
variable {P:Program} [Laid P]
theorem ld_done {t32 tP id g:Nat} {args':List Value} {w0:Wb (lay P)} {R:Nat->Pl->Prop} {fm:Nat->Option Blk} {w:World} {L:List Nat} (hid:id<60000) (f0:fm (nid id 0)=none) (f1:fm (nid id 1)=none) {r:OR}
  (hr:Ld2 t32 tP id L r)
  (hi:∀v l,r=some (v,l)->(∀p∈l,fm p.1=none)->Invokes P g args'.toArray w fun v' w'=>∃R':Nat->Pl->Prop,(∀i p,R i p->R' i p)∧V2 R' v v'∧MRel w0 R' (memF fm l) w') :
  Invokes P g args'.toArray w fun v' w'=>∃R':Nat->Pl->Prop,(∀i p,R i p->R' i p)∧V2 R' (rdV2 id (raA L) (i64 (raE L))) v'∧MRel w0 R' (memF fm (raR t32 tP id L)) w':=by
 rcases hr with⟨A,h1,h2,h3,h4⟩ | ⟨A,h1,h2,h3⟩
 ·refine invokes_mono ?_ (hi _ _ h4 (by intro p hp;cases hp))
  rintro v' w' ⟨R',c1,c2,c3⟩
  obtain ⟨R2,d1,d2,d3⟩:=rd_nil2 c2 c3 hid f0 f1 t32 tP (slF A.S) (ptF A.V)
  refine⟨R2,fun i p hp=>d1 _ _ (c1 _ _ hp),rd_same h1 ?_,?_⟩
  ·unfold rdV2;rw[h2,h3];exact d2
  ·refine rd_rows h1 ?_
   rw[h2,h3];exact d3
 ·refine invokes_mono ?_ (hi _ _ h3 (by
   intro p hp
   unfold rwA at hp
   rcases List.mem_cons.1 hp with rfl | hp
   ·exact f1
   ·rcases List.mem_cons.1 hp with rfl | hp
    ·exact f0
    ·cases hp))
  rintro v' w' ⟨R',c1,c2,c3⟩
  refine⟨R',c1,rd_same h1 ?_,rd_rows h1 c3⟩
  rw[h2];exact c2
end
end Go.W

namespace Go.Proofs.Ytckbmhegopjnmaa
set_option maxRecDepth 100000
open Go.W
noncomputable def aprS:Sums:=[(33,.me (RdrF 54 pntR)),(56,.me (RdrF 54 bkR)),(57,.pl OfF)]
theorem aprS_ok:SumsOk Try.prog aprS:=sums_consM apn_msum (sums_consM abk_msum (sums_cons Of_sum sums_nil))
noncomputable def aprE:Ent:=inl tab aprS 13 Try.f37 (bodyOf Try.f37)
theorem aprE_ok:EntOk Try.prog 37 aprE:=inl_sum tabOk aprS_ok mixed Try.func37 (by kernel_rfl) (by kernel_rfl) rfl
noncomputable def afrS:Sums:=[(32,.me (RdrF 54 nuR)),(33,.me (RdrF 54 pntR)),(34,.me (RdrF 54 txR)),(35,.me (RdrF 54 (slR 94))),(36,.me (RdrF 54 (cmR 26))),(37,aprE)]
theorem afrS_ok:SumsOk Try.prog afrS:=sums_consM anu_msum (sums_consM apn_msum (sums_consM atx_msum (sums_consM asl_msum (sums_consM acm_msum (sums_consI aprE_ok sums_nil)))))
noncomputable def afrE:Ent:=inl tab afrS 39 Try.f18 (bodyOf Try.f18)
theorem afrE_ok:EntOk Try.prog 18 afrE:=inl_sum tabOk afrS_ok mixed Try.func18 (by kernel_rfl) (by kernel_rfl) rfl
noncomputable def aidE:Ent:=inl tab [] 20 Try.f19 (bodyOf Try.f19)
theorem aidE_ok:EntOk Try.prog 19 aidE:=inl_sum tabOk sums_nil mixed Try.func19 (by kernel_rfl) (by kernel_rfl) rfl
noncomputable def ardS:Sums:=[(18,afrE),(19,aidE),(20,aftE),(21,awhE)]
theorem ardS_ok:SumsOk Try.prog ardS:=sums_consI afrE_ok (sums_consI aidE_ok (sums_consI aftE_ok (sums_consI awhE_ok sums_nil)))
noncomputable def ardC:Cfg:=⟨tab,ardS,23,[]⟩
theorem ardC_ok:CfgOk Try.prog ardC (bodyOf Try.f9):=⟨mixed,tabOk,ardS_ok,noL⟩
theorem ard_ev (es:Nat->TypeId) (er:Nat->Nat->TypeId) (m id:Nat) (g:Nat->List Value):fnX ardC 60 Try.f9 (bodyOf Try.f9) (cArgsX [.c (.sl kB m g)] 0) (cMemX es er [.c (.sl kB m g)]) 0 id=ldT m g (ldT2a 94 26 id m g (nuA m 0) (nuZ m 0 false)):=by kernel_rfl
theorem ard_msum:MSum Try.prog 9 (RacF 94 26):=by
 intro w0 R fm w hm vs args' hl mm hsub id hlt v l hpick hnew
 match vs,hl,hpick with
 | [a],hl,hpick =>
  obtain ⟨hc,rfl,rfl⟩:=pick_one hpick
  simp only[Bool.and_eq_true] at hc
  obtain ⟨⟨h0,h1⟩,hg⟩:=hc
  have hm1:=Nat.le_of_ble_eq_true h1
  obtain ⟨m,g,hs⟩:∃m g,srcB mm kB a=(true,m,g):=⟨(srcB mm kB a).2.1,(srcB mm kB a).2.2,by rw[<-h0]⟩
  rw[hs] at hg hm1 hnew ⊢
  simp only at hg hm1 hnew ⊢
  have f1:fm (nid id 1)=none:=(hnew _ (List.mem_cons_self ..)).1 (by unfold nid;omega)
  have f0:fm (nid id 0)=none:=(hnew (nid id 0,_) (List.mem_cons_of_mem _ (List.mem_cons_self ..))).1 (by unfold nid;omega)
  refine ld_done hlt f0 f1 (ldT_eq 94 26 id hm1 hg) fun v l hr hfree=>?_
  exact msum_atX (c:=bodyOf Try.f9) (fuel:=60) (next:=0) Try.func9 (by kernel_rfl) (by kernel_rfl) hm hl hsub hlt (A:=[.c (.sl kB m g)]) ⟨⟨hs,fun _ e=>by cases e⟩,trivial⟩ (by kernel_rfl) (by show 1<=Try.f9.ntmps;decide +kernel) hfree
   fun es er=>⟨ardC,ardC_ok,rfl,(ard_ev es er m id g).trans hr⟩
 | [],_,h=>simp[RacF,pickM] at h
 | _::_::_,_,h=>simp[RacF,pickM] at h
end Go.Proofs.Ytckbmhegopjnmaa

namespace Go.W
open Go
def wkF1:Nat->List Value:=lstF [.int .u8 5] 0 1
def wkF2:Nat->List Value:=lstF [.int .u8 5,.int .u8 0] 0 1
noncomputable def wk12T:Option Value :=
 req (okY 1 wkF1) (req (okY 2 wkF2) (bif raE (lsB 1 wkF1)==0 then bif (raA (lsB 1 wkF1)).k==5 then some (.bool (raE (lsB 2 wkF2)==7)) else some (.bool false) else some (.bool false)))
theorem raE_yes {L:List Nat} (h:isRd L):raE L=0:=by unfold raE;rw[hide_eq,raB_yes h,if_pos rfl]
theorem raE_no {L:List Nat} (h:¬isRd L):raE L=7:=by unfold raE;rw[hide_eq,raB_no h,if_neg (by decide)]
def acW:AR:=⟨5,zR,⟨#[]⟩,0,fun _=>0,0,fun _=>zR,0,(0,0)⟩
theorem acW_right:Right acW:=.inr (.inr (.inr (.inr ⟨rfl,rfl,rfl,rfl,rfl,rfl,rfl⟩)))
theorem wk12T_eq:wk12T=some (.bool true):=by
 have e1:lsB 1 wkF1=[5]:=by decide +kernel
 have e2:lsB 2 wkF2=[5,0]:=by decide +kernel
 have o1:okY 1 wkF1=true:=okY_iff.2 fun j hj=>by
  have:j=0:=by omega
  subst this;decide +kernel
 have o2:okY 2 wkF2=true:=okY_iff.2 fun j hj=>by
  have:j=0∨j=1:=by omega
  rcases this with rfl | rfl<;>decide +kernel
 have hw:Wsl acW:=fun j hj=>absurd hj (Nat.not_lt_zero _)
 have hr:isRd [5]:=⟨acW,acW_right,hw,rfl⟩
 have hn:¬isRd [5,0]:=by
  rintro ⟨a,ha,hwa,e⟩
  have:=(wr0_uni (s:=[0]) (t:=[]) acW_right ha hw hwa (by rw[e];rfl)).2
  cases this
 have hk:(raA [5]).k=5:=(raA_of acW_right hw rfl).1.symm
 unfold wk12T
 rw[e1,e2,o1,o2,req_true rfl,req_true rfl,raE_yes hr,raE_no hn,hk];rfl
def Wk12F:List Value->Option (Bool×Value)
 | []=>some (true,.bool true)
 | _=>none
end Go.W

namespace Go.Proofs.Ytckbmhegopjnmaa
set_option maxRecDepth 100000
open Go.W
noncomputable def wk12S:Sums:=[(9,.me (RacF 94 26))]
theorem wk12S_ok:SumsOk Try.prog wk12S:=sums_consM ard_msum sums_nil
noncomputable def wk12C:Cfg:=⟨tab,wk12S,26,[]⟩
theorem wk12Ok:CfgOk Try.prog wk12C (bodyOf Try.f8):=⟨mixed,tabOk,wk12S_ok,noL⟩
theorem wk12_ev:fnS wk12C 60 Try.f8 (bodyOf Try.f8) []=wk12T:=by kernel_rfl
theorem wk12_sum:Sum Try.prog 8 Wk12F:=by
 refine sum_of wk12Ok Try.func8 (by kernel_rfl) (by kernel_rfl) rfl (fuel:=60) fun args v h hpl=>?_
 unfold Wk12F at h
 split at h
 ·simp only[Option.some.injEq,Prod.mk.injEq] at h
  obtain ⟨_,rfl⟩:=h
  exact⟨Nat.zero_le _,wk12_ev.trans wk12T_eq,rfl⟩
 ·simp at h
end Go.Proofs.Ytckbmhegopjnmaa

namespace Go.W
open Go
def tt12:Option Value:=some (.bool true)
def ff12:Option Value:=some (.bool false)
noncomputable def lsW (A:AR):List Nat:=lsB (wrL A) (sgF (wrL A) (liF (wrA A)))
noncomputable def rdcW (A:AR):Bool:=whN (wrL A)&&Nat.ble (wrL A) 1000000&&okY (wrL A) (sgF (wrL A) (liF (wrA A)))
end Go.W

namespace Go.W
open Go
theorem pyB_byte (K:RP):∀b∈pyB K,b<256:=by
 intro b hb
 unfold pyB at hb
 split at hb
 ·rw[List.mem_singleton.1 hb];decide
 ·rcases List.mem_cons.1 hb with rfl | hb
  ·omega
  ·exact beL_byte _ _ b hb
theorem txB_byte (s:ByteArray):∀b∈txB s,b<256:=by
 intro b hb
 unfold txB at hb
 obtain ⟨x,_,rfl⟩:=List.mem_map.1 hb
 exact x.toNat_lt
theorem syS_byte (S:Nat->Nat):∀n,∀b∈syS S n,b<256
 | 0,b,h=>by cases h
 | n+1,b,h=>by
  rw[syS] at h
  rcases List.mem_append.1 h with h | h
  ·exact syS_byte S n b h
  ·exact beL_byte _ _ b h
theorem pyS_byte (V:Nat->RP):∀n,∀b∈pyS V n,b<256
 | 0,b,h=>by cases h
 | n+1,b,h=>by
  rw[pyS] at h
  rcases List.mem_append.1 h with h | h
  ·exact pyS_byte V n b h
  ·exact pyB_byte _ b h
theorem app_byte {l k:List Nat} (h1:∀b∈l,b<256) (h2:∀b∈k,b<256):∀b∈l++k,b<256:=fun b hb=>by
 rcases List.mem_append.1 hb with h | h
 ·exact h1 b h
 ·exact h2 b h
theorem one_byte {x:Nat} (h:x<256):∀b∈[x],b<256:=fun b hb=>by rw[List.mem_singleton.1 hb];exact h
theorem wr0_byte {a:AR} (h:Right a):(∀b∈wr0 a,b<256)∧(wr0 a).length<=4000:=by
 have pl:∀K:RP,(pyB K).length<=33:=fun K=>by rw[pyB_len];exact pbL_le K
 rcases h with⟨k,c1,c2,c3⟩ | ⟨k,c1,c2,c3,c4,c5,c6,c7,c8⟩ | ⟨k,c1,c2,c3,c4,c5,c6⟩ | ⟨k,c⟩ | ⟨k,c⟩
 ·rw[wr0_1 k]
  refine⟨app_byte (app_byte (one_byte (by decide)) (pyB_byte _)) (app_byte (beL_byte _ _) (txB_byte _)),?_⟩
  have:=pl a.K
  have:=lbl_size c2
  simp only[List.length_append,beL_len,txB_len,List.length_cons,List.length_nil];omega
 ·rw[wr0_2 k]
  unfold l1A l0A
  refine⟨app_byte (app_byte (app_byte (app_byte (one_byte (by decide)) (one_byte (by omega))) (syS_byte _ _)) (one_byte (by omega))) (pyS_byte _ _),?_⟩
  have:=pyL_le a.V a.m
  simp only[List.length_append,syS_len,pyS_len,List.length_cons,List.length_nil];omega
 ·rw[wr0_3 k]
  refine⟨app_byte (app_byte (app_byte (one_byte (by decide)) (one_byte (by omega))) (pyB_byte _)) (app_byte (beL_byte _ _) (beL_byte _ _)),?_⟩
  have:=pl a.K
  simp only[List.length_append,beL_len,List.length_cons,List.length_nil];omega
 ·rw[wr0_4 k]
  refine⟨app_byte (app_byte (one_byte (by decide)) (pyB_byte _)) (app_byte (beL_byte _ _) (beL_byte _ _)),?_⟩
  have:=pl a.K
  simp only[List.length_append,beL_len,List.length_cons,List.length_nil];omega
 ·have e:wr0 a=[5]:=by unfold wr0;rw[k];rfl
  rw[e];exact⟨one_byte (by decide),by decide⟩
theorem okY_li {l:List Nat} (h:∀b∈l,b<256) (n:Nat) (hn:n<=l.length):okY n (liF l)=true:=okY_iff.2 fun j hj=>by
 rw[bI_li,List.getD_eq_getElem?_getD,List.getElem?_eq_getElem (by omega),Option.getD_some]
 have:=h _ (List.getElem_mem (show j<l.length by omega))
 omega
theorem okY_sgF {n m:Nat} {f:Nat->List Value} (h:okY n f=true):okY n (sgF m f)=true:=okY_iff.2 fun j hj=>by
 rw[bI_sg];exact okY_iff.1 h j hj
theorem lsB_sg {n m:Nat} {f:Nat->List Value} {l:List Nat} (h:okY n f=true) (hf:Holds n f l):lsB n (sgF m f)=l:=rep_uniq (rep_ls (okY_sgF h)) (rep_sg m hf) rfl
theorem wrA_byte (A:AR):(∀b∈wrA A,b<256)∧(wrA A).length<=4000:=by
 by_cases h:ckE A=0
 ·rw[wrA_ok h];exact wr0_byte (ckE_iff.1 h)
 ·rw[wrA_no h];exact⟨fun b hb=>(by cases hb),(by decide)⟩
theorem holds_wr (A:AR):Holds (wrL A) (liF (wrA A)) (wrA A)∧okY (wrL A) (liF (wrA A))=true:=by
 rw[wrL_eq]
 exact⟨rep_li _,okY_li (wrA_byte A).1 _ (Nat.le_refl _)⟩
theorem lsW_eq (A:AR):lsW A=wrA A:=lsB_sg (holds_wr A).2 (holds_wr A).1
theorem rdcW_eq (A:AR):rdcW A=true:=by
 have:=(wrA_byte A).2
 unfold rdcW
 rw[whN_true,okY_sgF (holds_wr A).2,Nat.ble_eq_true_of_le (by rw[wrL_eq];omega)];rfl
end Go.W

namespace Go.W
open Go
theorem rN_lit {s:ByteArray} (n:Nat) (h:(∀k,k<n->ps s k<s.size)∧ps s n=s.size):rN s=n:=rN_of h
theorem lbl_lit {s:ByteArray} (n:Nat) (h:(∀k,k<n->ps s k<s.size)∧ps s n=s.size) (h1:1<=n∧n<=24∧(∀k,k<n->okC (rc s k))∧rc s 0≠32∧rc s (n - 1)≠32):lbl s:=by
 unfold lbl;rw[rN_lit n h];exact h1
def tA:ByteArray:=⟨#[65,100,97,32,76,46]⟩
def tE:ByteArray:=⟨#[195,164,98]⟩
end Go.W

namespace Go.W
open Go
theorem wrL_no {A:AR} (h:ckE A≠0):((wrL A:Nat):Int)=0:=by rw[wrL_eq,wrA_no h];rfl
end Go.W

namespace Go.W
theorem bas1:basS 1=gR:=rp_ext (ck_bas 1) gR_ck (by rw[pt_bas,gR_pt,mulP_one])
end Go.W

namespace Go.W
open Go
noncomputable def okVb (mm:Nat->Option Blk) (v:Value):Bool:=isA mm v&&Nat.ble (unA mm v).l.size 1000000
noncomputable def enB (mm:Nat->Option Blk) (v:Value) (want:Int):Option Value :=
 req (okVb mm v) (bif ckE (unA mm v) != want then ff12 else req (okVb mm v) (bif ckE (unA mm v) != want then ff12 else bif ((wrL (unA mm v):Nat):Int)==0 then tt12 else ff12))
noncomputable def enG (mm:Nat->Option Blk) (v:Value) (k:Int) (n m:Nat):Option Value :=
 req (okVb mm v) (bif ckE (unA mm v) != 0 then ff12 else req (okVb mm v) (bif ckE (unA mm v) != 0 then ff12 else req (rdcW (unA mm v)) (bif raE (lsW (unA mm v))==0 then
  (bif (raA (lsW (unA mm v))).k==k then (bif (((raA (lsW (unA mm v))).n:Nat):Int)==((n:Nat):Int) then (bif (((raA (lsW (unA mm v))).m:Nat):Int)==((m:Nat):Int) then tt12 else ff12) else ff12) else ff12) else ff12)))
theorem enB_eq {mm:Nat->Option Blk} {v:Value} {U:AR} {want:Int} (h1:isA mm v=true) (h2:unA mm v=U) (hl:U.l.size<=1000000) (hc:ckE U=want) (h0:want≠0):enB mm v want=some (.bool true):=by
 unfold enB okVb
 rw[h1,h2,Nat.ble_eq_true_of_le hl,req_true (b:=true&&true) rfl,hc,bne_self_eq_false,cond_false,req_true (b:=true&&true) rfl,cond_false,wrL_no (by rw[hc];exact h0)];rfl
theorem enG_eq {mm:Nat->Option Blk} {v:Value} {U A:AR} {k:Int} {n m:Nat} (h1:isA mm v=true) (h2:unA mm v=U) (hl:U.l.size<=1000000) (hs:Sam U A) (hR:Right A) (hw:Wsl A) (hk:A.k=k) (hn:A.n=n) (hm:A.m=m):enG mm v k n m=some (.bool true):=by
 have hRU:=Right_sam hs hR
 have hc:=ckE_iff.2 hRU
 have hwU:Wsl U:=fun j hj=>by
  have e:=hs.2.2.2.2.1 j hj
  rw[e]
  exact hw j (by have:=hs.2.2.2.1;omega)
 have hL:wrA U=wr0 U:=wrA_ok hc
 have hs2:Sam U (raA (wrA U)):=raA_of hRU hwU hL.symm
 have hs3:=hs.symm.trans hs2
 have hr:isRd (wrA U):=⟨U,hRU,hwU,hL.symm⟩
 have a1:(raA (wrA U)).k=k:=by rw[<-hs3.1];exact hk
 have a2:(raA (wrA U)).n=n:=by rw[<-hs3.2.2.2.1];exact hn
 have a3:(raA (wrA U)).m=m:=by rw[<-hs3.2.2.2.2.2.1];exact hm
 unfold enG okVb
 rw[h1,h2,Nat.ble_eq_true_of_le hl,req_true (b:=true&&true) rfl,hc,bne_self_eq_false,cond_false,req_true (b:=true&&true) rfl,cond_false,rdcW_eq,req_true rfl,lsW_eq,raE_yes hr,a1,a2,a3];simp only[beq_self_eq_true];rfl
noncomputable def bdG:RP:=basS (unnum (.agg #[u64 1,u64 0,u64 0,u64 0]))
theorem bdG_eq:bdG=gR:=by
 unfold bdG
 rw[show unnum (.agg #[u64 1,u64 0,u64 0,u64 0])=1 from by decide +kernel,bas1]
theorem bdG_ok:okR bdG∧ckR bdG=true∧bdG.1=false∧fulB bdG=true:=by
 rw[bdG_eq]
 refine⟨ck_okR gR_ck,gR_ck,rfl,?_⟩
 unfold fulB
 rw[gR_ck];rfl
noncomputable def bdO (ov:Int):Int:=IntKind.i64.wrap ((IntKind.u64.wrap ov).tmod 2)
noncomputable def bdW (wh:Int):Int:=(IntKind.u64.wrap wh).tmod 6
theorem bdO_eq (ov:Int):bdO ov=0∨bdO ov=1:=by
 unfold bdO
 rw[wrap_u64]
 have h2:0<=ov % 18446744073709551616:=by omega
 rw[Int.tmod_eq_emod_of_nonneg h2,wrap_i64 (by omega)]
 omega
def mkN32 (l:Int):Bool:=decide (l=l)&&decide (0<=l)&&szOk l.toNat 32&&true&&true&&true&&true&&true
theorem mkN32_true {l:Int} (h0:0<=l) (h:l<=1000):mkN32 l=true:=by
 unfold mkN32
 rw[decide_eq_true rfl,decide_eq_true h0,szOk_mul (by omega)];rfl
def bdC (K:RP):Nat×Blk:=(bCo,⟨.lst (ptC K),0,true⟩)
def bd0M (n:Nat) (K:RP):Nat->Option Blk:=look [bsR 0 n (slF fun _=>0),bdC K]
def bd0V (n:Nat):Value:=acV 2 zR ⟨#[]⟩ (bsS n) (bsC 1) 0 (0,0)
def bd1M (m:Nat) (F:Nat->List Value):Nat->Option Blk:=look [bcR 0 m F]
def bd1V (m:Nat):Value:=acV 2 zR ⟨#[]⟩ nilS (bsC m) 0 (0,0)
def bd2M (K:RP):Nat->Option Blk:=look [bdC K]
def bdN:Nat->Option Blk:=fun _=>none
def bd3V (K:RP) (g:Int):Value:=acV 3 K ⟨#[]⟩ nilS nilS g (0,0)
def bd4V (K:RP) (c:Nat):Value:=acV 4 K ⟨#[]⟩ nilS nilS 0 (c,0)
def bd5V (K:RP):Value:=acV 1 K ⟨#[120]⟩ nilS nilS 0 (0,0)
def bdX (tA tP b c:Nat) (F:Nat->List Value) (i O:Int):St :=
 ⟨[(1,i64 O),(6,.pointer (some ⟨13,0,none⟩)),(7,i64 0),(8,i64 i)],[(13,⟨.lst (acC 2 zR ⟨#[]⟩ nilS (.slice (some ⟨b,0,none⟩) c c) 0 (0,0)),tA,true⟩),(b,⟨.row kP9 c F,tP,true⟩)],24⟩
def bdY (tA tP b c:Nat) (F:Nat->List Value) (O:Int):St :=
 ⟨[(1,i64 O),(6,.pointer (some ⟨13,0,none⟩)),(7,i64 0)],[(13,⟨.lst (acC 2 zR ⟨#[]⟩ nilS (.slice (some ⟨b,0,none⟩) c c) 0 (0,0)),tA,true⟩),(b,⟨.row kP9 c F,tP,true⟩)],24⟩
def bdZ (tA tP:Nat) (K:RP) (O:Int):St :=
 ⟨[(1,i64 O),(6,.pointer (some ⟨13,0,none⟩)),(7,i64 0),(8,i64 1)],[(13,⟨.lst (acC 2 zR ⟨#[]⟩ nilS (.slice (some ⟨11,0,none⟩) 1 1) 0 (0,0)),tA,true⟩),(11,⟨.lst (ptC K),tP,true⟩)],24⟩
def bdV (K:RP) (j:Nat):RP:=bif Nat.beq j 0 then K else infR
theorem row_bd0 (K:RP):∀x,x<2->nrmK kP9 (appF 1 (lstF (ptC K) 0 9) (lstF (ptC infR) 0 9) x)=nrmK kP9 (ptF (bdV K) x):=by
 intro x hx
 obtain rfl | rfl:x=0∨x=1:=by omega
 ·rfl
 ·rfl
theorem row_bd1 (K:RP) (k:Nat):∀x,x<k+1+1->nrmK kP9 (appF (k+1) (ptF (bdV K)) (lstF (ptC infR) 0 9) x)=nrmK kP9 (ptF (bdV K) x) :=
 app_row (ks:=kP9) (fun _ _=>rfl) rfl
def bdS (tA tP:Nat) (K:RP) (O:Int):Nat->St
 | 0=>bdZ tA tP K O
 | k+1=>bdX tA tP bCo (k+2) (ptF (bdV K)) ((k+2:Nat):Int) O
noncomputable def bdTr (wh ov:Int) (t1:Option Value):Option Value :=
 bif bdW wh==0 then req (mkN32 (IntKind.i64.wrap (8+bdO ov))) (bif decide (bdO ov > 0) then enB (bd0M (IntKind.i64.wrap (8+bdO ov)).toNat bdG) (bd0V (IntKind.i64.wrap (8+bdO ov)).toNat) 4 else enG (bd0M (IntKind.i64.wrap (8+bdO ov)).toNat bdG) (bd0V (IntKind.i64.wrap (8+bdO ov)).toNat) 2 (IntKind.i64.wrap (8+bdO ov)).toNat 1) else
 bif bdW wh==1 then t1 else
 bif bdW wh==2 then (bif decide (bdO ov > 0) then enB (bd2M infR) (bd1V 1) 3 else enG (bd2M bdG) (bd1V 1) 2 0 1) else
 bif bdW wh==3 then (bif decide (bdO ov > 0) then enB bdN (bd3V bdG (IntKind.i64.wrap (8+bdO ov))) 1 else enG bdN (bd3V bdG (IntKind.i64.wrap (8+bdO ov))) 3 0 0) else
 bif bdW wh==4 then (bif decide (bdO ov > 0) then enB bdN (bd4V bdG (primeN 1)) 2 else enG bdN (bd4V bdG 0) 4 0 0) else
 (bif decide (bdO ov > 0) then enB bdN (bd5V infR) 3 else enG bdN (bd5V bdG) 1 0 0)
noncomputable def bd1T (m:Nat) (F:Nat->List Value) (O:Int):Option Value:=bif decide (O > 0) then enB (bd1M m F) (bd1V m) 4 else enG (bd1M m F) (bd1V m) 2 0 m
end Go.W

namespace Go.W
open Go
theorem l0E:(⟨#[]⟩:ByteArray).size<=1000000:=by decide
theorem l1E:(⟨#[120]⟩:ByteArray).size<=1000000:=by decide
theorem ck_post {n m:Nat} {S:Nat->Nat} {V:Nat->RP}:ckE ⟨2,zR,⟨#[]⟩,n,S,m,V,0,(0,0)⟩=if 8<n∨m<1∨64<m then 4 else if alP V m=false∨(V 0).1=true then 3 else 0:=by
 have hb:bare ⟨2,zR,⟨#[]⟩,n,S,m,V,0,(0,0)⟩=true:=rfl
 unfold ckE
 rw[if_neg (show ¬((2:Int)<1∨(5:Int)<2) by decide),if_neg (by rw[hb];decide),if_neg (show ¬((2:Int)=1) by decide),if_pos rfl]
theorem right_post {n m:Nat} {S:Nat->Nat} {V:Nat->RP} (hn:n<=8) (h1:1<=m) (h2:m<=64) (h3:alP V m=true) (h4:(V 0).1=false):Right ⟨2,zR,⟨#[]⟩,n,S,m,V,0,(0,0)⟩ :=
 .inr (.inl ⟨rfl,rfl,rfl,rfl,rfl,hn,h1,h2,h3,h4⟩)
theorem src_nil32 (mm:Nat->Option Blk):srcB mm k32 nilS=(true,0,nilF):=rfl
theorem src_nil9 (mm:Nat->Option Blk):srcB mm kP9 nilS=(true,0,nilF):=rfl
theorem okSl_0 (f:Nat->List Value):okSl 0 f=true:=okSl_iff.2 ⟨by decide,fun j hj=>absurd hj (Nat.not_lt_zero _)⟩
theorem okP_0 (f:Nat->List Value):okP 0 f=true:=okP_iff.2 ⟨by decide,fun j hj=>absurd hj (Nat.not_lt_zero _)⟩
theorem wsl_0 {k:Int} {K:RP} {l:ByteArray} {S:Nat->Nat} {m:Nat} {V:Nat->RP} {g:Int} {X:Nat×Nat}:Wsl ⟨k,K,l,0,S,m,V,g,X⟩:=fun _ hj=>absurd hj (Nat.not_lt_zero _)
theorem wsl_z {k:Int} {K:RP} {l:ByteArray} {n:Nat} {m:Nat} {V:Nat->RP} {g:Int} {X:Nat×Nat}:Wsl ⟨k,K,l,n,slA (sg32 n (slF fun _=>0)),m,V,g,X⟩:=fun j _=>by
 show slA (sg32 n (slF fun _=>0)) j<2^256
 rw[slA_sg,slA_slF (by decide)];decide
theorem src_one {mm:Nat->Option Blk} (K:RP) (h:mm bCo=some (bdC K).2):srcB mm kP9 (bsC 1)=(true,1,lstF (ptC K) 0 9):=by
 unfold srcB bsC
 simp only[h]
 rfl
theorem pA_one {K:RP} (h:okR K):pA (lstF (ptC K) 0 9) 0=K:=pA_pt (V:=fun _=>K) (j:=0) h
theorem okP_one (K:RP):okP 1 (lstF (ptC K) 0 9)=true:=okP_iff.2 ⟨by decide,fun j hj=>by
 have:j=0:=by omega
 subst this
 exact isPt_ptV K⟩
theorem alP_one {K:RP} (h:ckR K=true):alP (pA (lstF (ptC K) 0 9)) 1=true:=alP_iff.2 fun j hj=>by
 have:j=0:=by omega
 subst this
 rw[pA_one (ck_okR h)];exact h
theorem okR_zR:okR zR:=⟨by decide,by decide⟩
theorem okR_infR:okR infR:=⟨by decide,by decide⟩
theorem bd0_facts {n:Nat} (hn:n<=9) (K:RP):isA (bd0M n K) (bd0V n)=true∧unA (bd0M n K) (bd0V n)=⟨2,zR,⟨#[]⟩,n,slA (sg32 n (slF fun _=>0)),1,pA (lstF (ptC K) 0 9),0,(0,0)⟩:=by
 have e1:srcB (bd0M n K) k32 (bsS n)=(Nat.beq 0 0&&Nat.ble n n&&ksEq k32 k32&&Nat.ble n n,n,sg32 n (slF fun _=>0)):=rfl
 have s1:srcB (bd0M n K) k32 (bsS n)=(true,n,sg32 n (slF fun _=>0)):=by
  rw[e1,Nat.ble_eq_true_of_le (Nat.le_refl n)];rfl
 have s2:srcB (bd0M n K) kP9 (bsC 1)=(true,1,lstF (ptC K) 0 9):=src_one K rfl
 have o1:okSl n (sg32 n (slF fun _=>0))=true:=by rw[okSl_sg];exact okSl_slF (by omega)
 exact⟨isA_ac s1 o1 s2 (okP_one K),unA_ac okR_zR (by decide) (by decide) s1 s2⟩
theorem bd0_bad {n:Nat} (hn:n<=9) {K:RP} (h:8<n):enB (bd0M n K) (bd0V n) 4=some (.bool true):=by
 obtain ⟨h1,h2⟩:=bd0_facts hn K
 refine enB_eq h1 h2 l0E ?_ (by decide)
 rw[ck_post,if_pos (.inl h)]
theorem bd0_good {n:Nat} (hn:n<=9) {K:RP} (hK:ckR K=true) (hI:K.1=false) (h:n<=8):enG (bd0M n K) (bd0V n) 2 n 1=some (.bool true):=by
 obtain ⟨h1,h2⟩:=bd0_facts hn K
 exact enG_eq h1 h2 l0E (Sam.refl _) (right_post h (Nat.le_refl _) (by decide) (alP_one hK) (by rw[pA_one (ck_okR hK)];exact hI)) wsl_z rfl rfl rfl
theorem bd1_facts {m:Nat} (hm:m<=65) (K:RP):isA (bd1M m (ptF (bdV K))) (bd1V m)=true∧unA (bd1M m (ptF (bdV K))) (bd1V m)=⟨2,zR,⟨#[]⟩,0,slA nilF,m,pA (sg9 m (ptF (bdV K))),0,(0,0)⟩:=by
 have e2:srcB (bd1M m (ptF (bdV K))) kP9 (bsC m)=(Nat.beq 0 0&&Nat.ble m m&&ksEq kP9 kP9&&Nat.ble m m,m,sg9 m (ptF (bdV K))):=rfl
 have s2:srcB (bd1M m (ptF (bdV K))) kP9 (bsC m)=(true,m,sg9 m (ptF (bdV K))):=by
  rw[e2,Nat.ble_eq_true_of_le (Nat.le_refl m)];rfl
 have o2:okP m (sg9 m (ptF (bdV K)))=true:=by rw[okP_sg];exact okP_pt (by omega)
 exact⟨isA_ac (src_nil32 _) (okSl_0 _) s2 o2,unA_ac okR_zR (by decide) (by decide) (src_nil32 _) s2⟩
theorem bdV_ck {K:RP} (hK:ckR K=true):∀j,ckR (bdV K j)=true:=fun j=>by
 unfold bdV
 cases Nat.beq j 0 with
 | true=>exact hK
 | false=>exact(show ckR infR=true by decide)
theorem bd1_bad {m:Nat} (hm:m<=65) {K:RP} (h:64<m):enB (bd1M m (ptF (bdV K))) (bd1V m) 4=some (.bool true):=by
 obtain ⟨h1,h2⟩:=bd1_facts hm K
 refine enB_eq h1 h2 l0E ?_ (by decide)
 rw[ck_post,if_pos (.inr (.inr h))]
theorem bd1_good {m:Nat} (hm:m<=65) (h1m:1<=m) {K:RP} (hK:ckR K=true) (hI:K.1=false) (h:m<=64):enG (bd1M m (ptF (bdV K))) (bd1V m) 2 0 m=some (.bool true):=by
 obtain ⟨h1,h2⟩:=bd1_facts hm K
 have hp:∀j,pA (sg9 m (ptF (bdV K))) j=bdV K j:=fun j=>by rw[pA_sg,pA_pt (ck_okR (bdV_ck hK j))]
 refine enG_eq h1 h2 l0E (Sam.refl _) (right_post (by decide) h1m h (alP_iff.2 fun j _=>?_) ?_) wsl_0 rfl rfl rfl
 ·rw[hp];exact bdV_ck hK j
 ·rw[hp];exact hI
theorem bd1T_eq {O:Int} (hO:O=0∨O=1) {K:RP} (hK:ckR K=true) (hI:K.1=false):bd1T (64+O.toNat) (ptF (bdV K)) O=some (.bool true):=by
 unfold bd1T
 rcases hO with rfl | rfl
 ·exact bd1_good (by decide) (by decide) hK hI (by decide)
 ·exact bd1_bad (by decide) (by decide)
theorem bd2_facts (K:RP):isA (bd2M K) (bd1V 1)=true∧unA (bd2M K) (bd1V 1)=⟨2,zR,⟨#[]⟩,0,slA nilF,1,pA (lstF (ptC K) 0 9),0,(0,0)⟩:=by
 have s2:srcB (bd2M K) kP9 (bsC 1)=(true,1,lstF (ptC K) 0 9):=src_one K rfl
 exact⟨isA_ac (src_nil32 _) (okSl_0 _) s2 (okP_one K),unA_ac okR_zR (by decide) (by decide) (src_nil32 _) s2⟩
theorem bd2_bad:enB (bd2M infR) (bd1V 1) 3=some (.bool true):=by
 obtain ⟨h1,h2⟩:=bd2_facts infR
 refine enB_eq h1 h2 l0E ?_ (by decide)
 rw[ck_post,if_neg (by decide),if_pos (.inr (by rw[pA_one okR_infR];rfl))]
theorem bd2_good {K:RP} (hK:ckR K=true) (hI:K.1=false):enG (bd2M K) (bd1V 1) 2 0 1=some (.bool true):=by
 obtain ⟨h1,h2⟩:=bd2_facts K
 exact enG_eq h1 h2 l0E (Sam.refl _) (right_post (by decide) (Nat.le_refl _) (by decide) (alP_one hK) (by rw[pA_one (ck_okR hK)];exact hI)) wsl_0 rfl rfl rfl
theorem bdN_facts (k:Int) {K:RP} (hK:okR K) (l:ByteArray) (g:Int) {X:Nat×Nat} (h1:X.1<2^256) (h2:X.2<2^256):isA bdN (acV k K l nilS nilS g X)=true∧unA bdN (acV k K l nilS nilS g X)=⟨k,K,l,0,slA nilF,0,pA nilF,g,X⟩ :=
 ⟨isA_ac (src_nil32 _) (okSl_0 _) (src_nil9 _) (okP_0 _),unA_ac hK h1 h2 (src_nil32 _) (src_nil9 _)⟩
section
variable {K:RP} (hK:okR K) (hf:fulB K=true)
include hK
theorem bd3_bad:enB bdN (bd3V K 9) 1=some (.bool true):=by
 obtain ⟨h1,h2⟩:=bdN_facts 3 hK ⟨#[]⟩ 9 (X:=(0,0)) (by decide) (by decide)
 refine enB_eq h1 h2 l0E ?_ (by decide)
 unfold ckE
 rw[if_neg (show ¬((3:Int)<1∨(5:Int)<3) by decide),if_neg (by rw[show bare ⟨3,K,⟨#[]⟩,0,slA nilF,0,pA nilF,9,(0,0)⟩=true from rfl];decide),if_neg (show ¬((3:Int)=1) by decide),if_neg (show ¬((3:Int)=2) by decide),if_neg (show ¬((3:Int)=5) by decide),if_pos ⟨rfl,.inr (show(8:Int)<9 by decide)⟩]
include hf
theorem bd3_good:enG bdN (bd3V K 8) 3 0 0=some (.bool true):=by
 obtain ⟨h1,h2⟩:=bdN_facts 3 hK ⟨#[]⟩ 8 (X:=(0,0)) (by decide) (by decide)
 exact enG_eq h1 h2 l0E (Sam.refl _) (.inr (.inr (.inl ⟨rfl,rfl,rfl,rfl,(show(1:Int)<=8 by decide),(show(8:Int)<=8 by decide),hf,(show 0<pN by decide),(show 0<pN by decide)⟩))) wsl_0 rfl rfl rfl
theorem bd4_bad:enB bdN (bd4V K (primeN 1)) 2=some (.bool true):=by
 obtain ⟨h1,h2⟩:=bdN_facts 4 hK ⟨#[]⟩ 0 (X:=(primeN 1,0)) (show primeN 1<2^256 by decide) (by decide)
 refine enB_eq h1 h2 l0E ?_ (by decide)
 unfold ckE
 rw[if_neg (show ¬((4:Int)<1∨(5:Int)<4) by decide),if_neg (by rw[show bare ⟨4,K,⟨#[]⟩,0,slA nilF,0,pA nilF,0,(primeN 1,0)⟩=true from rfl];decide),if_neg (show ¬((4:Int)=1) by decide),if_neg (show ¬((4:Int)=2) by decide),if_neg (show ¬((4:Int)=5) by decide),if_neg (fun h=>absurd h.1 (show ¬((4:Int)=3) by decide)),if_neg (by rw[hf];decide),if_pos (fun h=>absurd h.1 (show ¬(pN<pN) from Nat.lt_irrefl _))]
theorem bd4_good:enG bdN (bd4V K 0) 4 0 0=some (.bool true):=by
 obtain ⟨h1,h2⟩:=bdN_facts 4 hK ⟨#[]⟩ 0 (X:=(0,0)) (by decide) (by decide)
 exact enG_eq h1 h2 l0E (Sam.refl _) (.inr (.inr (.inr (.inl ⟨rfl,rfl,rfl,rfl,rfl,hf,(show 0<pN by decide),(show 0<pN by decide)⟩)))) wsl_0 rfl rfl rfl
theorem bd5_good:enG bdN (bd5V K) 1 0 0=some (.bool true):=by
 obtain ⟨h1,h2⟩:=bdN_facts 1 hK ⟨#[120]⟩ 0 (X:=(0,0)) (by decide) (by decide)
 have hl:lblB ⟨#[120]⟩=true:=lblB_iff.2 (lbl_lit 1 (by decide +kernel) (by decide +kernel))
 exact enG_eq h1 h2 l1E (Sam.refl _) (.inl ⟨rfl,hf,hl,rfl,rfl,rfl,rfl⟩) wsl_0 rfl rfl rfl
end
theorem bd5_bad:enB bdN (bd5V infR) 3=some (.bool true):=by
 obtain ⟨h1,h2⟩:=bdN_facts 1 okR_infR ⟨#[120]⟩ 0 (X:=(0,0)) (by decide) (by decide)
 refine enB_eq h1 h2 l1E ?_ (by decide)
 unfold ckE
 rw[if_neg (show ¬((1:Int)<1∨(5:Int)<1) by decide),if_neg (by rw[show bare ⟨1,infR,⟨#[120]⟩,0,slA nilF,0,pA nilF,0,(0,0)⟩=true from rfl];decide),if_pos rfl,if_pos (show fulB infR=false from rfl)]
theorem bdTr_eq (wh ov:Int) {t1:Option Value} (ht:t1=some (.bool true)):bdTr wh ov t1=some (.bool true):=by
 obtain ⟨g1,g2,g3,g4⟩:=bdG_ok
 have hO:=bdO_eq ov
 unfold bdTr
 generalize bdO ov=O at hO ⊢
 generalize bdG=K at g1 g2 g3 g4 ⊢
 generalize bdW wh=w
 cases w==0 with
 | true =>
  rw[cond_true]
  rcases hO with rfl | rfl
  ·rw[mkN32_true (by decide) (by decide),req_true rfl];exact bd0_good (n:=8) (by decide) g2 g3 (by decide)
  ·rw[mkN32_true (by decide) (by decide),req_true rfl];exact bd0_bad (n:=9) (by decide) (by decide)
 | false =>
 rw[cond_false]
 cases w==1 with
 | true=>rw[cond_true];exact ht
 | false =>
 rw[cond_false]
 cases w==2 with
 | true =>
  rw[cond_true]
  rcases hO with rfl | rfl
  ·exact bd2_good g2 g3
  ·exact bd2_bad
 | false =>
 rw[cond_false]
 cases w==3 with
 | true =>
  rw[cond_true]
  rcases hO with rfl | rfl
  ·exact bd3_good g1 g4
  ·exact bd3_bad g1
 | false =>
 rw[cond_false]
 cases w==4 with
 | true =>
  rw[cond_true]
  rcases hO with rfl | rfl
  ·exact bd4_good g1 g4
  ·exact bd4_bad g1 g4
 | false =>
 rw[cond_false]
 rcases hO with rfl | rfl
 ·exact bd5_good g1 g4
 ·exact bd5_bad
end Go.W

namespace Go.Proofs.Ytckbmhegopjnmaa
set_option maxRecDepth 100000
open Go.W
open Go.RowKit (Below)
noncomputable def abdS:Sums:=[(7,.me (BabF 5)),(15,.me CkeF),(9,.me (RacF 94 26)),(8,.pl Wk12F),(13,.pl CBasF),(14,.pl PrimeF)]
theorem abdS_ok:SumsOk Try.prog abdS:=sums_consM aby_msum (sums_consM ack_msum (sums_consM ard_msum (sums_cons wk12_sum (sums_cons cBa_sum (sums_cons Prime_sum sums_nil)))))
noncomputable def abdC0:Cfg:=⟨tab,abdS,135,[([1,1,1,1,1,0,1,0,1,1,1,0,0,1,0],fun _=>[])]⟩
theorem abd_at:codeAt [1,1,1,1,1,0,1,0,1,1,1,0,0,1,0] (bodyOf Try.f5)=some (.loop (loopAt [1,1,1,1,1,0,1,0,1,1,1,0,0,1,0] (bodyOf Try.f5))):=by kernel_rfl
theorem abd_r0 (K:RP) (O:Int) :
  roundS abdC0 60 [1,1,1,1,1,0,1,0,1,1,1,0,0,1,0,0] (loopAt [1,1,1,1,1,0,1,0,1,1,1,0,0,1,0] (bodyOf Try.f5)) [1,6,7,8] [(13,13),(bCo,nid 32 0)] 24 [1,6,7] [(13,13),(bCo,bCo)] 24
   (bdZ 32 26 K O) =
  bif decide (1<IntKind.i64.wrap (64+O)) then some (.normal,bdX 32 26 bCo 2 (appF 1 (lstF (ptC K) 0 9) (lstF (ptC infR) 0 9)) (IntKind.i64.wrap (1+1)) O)
   else none:=by kernel_rfl
theorem abd_r1 (c:Nat) (F:Nat->List Value) (i O:Int) :
  roundS abdC0 60 [1,1,1,1,1,0,1,0,1,1,1,0,0,1,0,0] (loopAt [1,1,1,1,1,0,1,0,1,1,1,0,0,1,0] (bodyOf Try.f5)) [1,6,7,8] [(13,13),(bCo,nid 32 0)] 24 [1,6,7] [(13,13),(bCo,bCo)] 24
   (bdX 32 26 bCo c F i O) =
  bif decide (i<IntKind.i64.wrap (64+O)) then req (szOk (c+1) 72) (req (true&&Nat.beq c c&&true&&true) (some (.normal,bdX 32 26 bCo (c+1) (appF c F (lstF (ptC infR) 0 9)) (IntKind.i64.wrap (i+1)) O)))
   else some (.exit 1,bdY 32 26 bCo c F O):=by kernel_rfl
theorem abd_l (K:RP) {O:Int} (hO:O=0∨O=1) :
  LoopOk Try.prog 135 (loopAt [1,1,1,1,1,0,1,0,1,1,1,0,0,1,0] (bodyOf Try.f5)) (atSt [1,6,7,8] [(13,13),(11,11)] 24
   (bdZ 32 26 K O) (.exit 1) (bdY 32 26 bCo (64+O.toNat) (ptF (bdV K)) O)):=by
 have hw:IntKind.i64.wrap (64+O)=64+O:=wrap_i64 (by omega)
 refine loopW (fun _=>abdC0) (63+O.toNat) (fun _ _=>⟨mixed,tabOk,abdS_ok,noneL2⟩) (fun _=>rfl) abd_at (m:=60) (nt:=fun _=>[1,6,7,8]) (ni:=fun _=>[(13,13),(bCo,nid 32 0)]) (et:=fun _=>[1,6,7]) (ei:=fun _=>[(13,13),(bCo,bCo)]) (nx:=24) (ex:=24)
  (bdS 32 26 K O) (fun _ R _ _ h=>⟨R,h⟩) (by intro h;cases h) ?_ ?_
 ·intro k hk
  match k,hk with
  | 0,hk =>
   refine⟨_,(abd_r0 K O).trans ?_,stEq_mk rfl (mSame rfl (mRow (row_bd0 K) mNil))⟩
   rw[hw,decide_eq_true (by omega),cond_true];rfl
  | k+1,hk =>
   refine⟨_,(abd_r1 (k+2) (ptF (bdV K)) ((k+2:Nat):Int) O).trans ?_,stEq_mk rfl (mSame rfl (mRow (row_bd1 K (k+1)) mNil))⟩
   rw[hw,decide_eq_true (by omega),cond_true,szOk_mul (show(k+2+1)*72<=1000000 by omega),req_true rfl,bb3,req_true rfl,wrap_i64 (by omega)];rfl
 ·rw[show 63+O.toNat=(62+O.toNat)+1 from by omega]
  refine⟨_,(abd_r1 (62+O.toNat+2) (ptF (bdV K)) ((62+O.toNat+2:Nat):Int) O).trans ?_,stEq_refl rfl⟩
  rw[hw,decide_eq_false (by omega),cond_false,show 62+O.toNat+2=64+O.toNat from by omega]
noncomputable def abdC (K:RP) (O:Int) (c:Nat) (F:Nat->List Value):Cfg:=⟨tab,abdS,135,[([1,1,1,1,1,0,1,0,1,1,1,0,0,1,0],atSt [1,6,7,8] [(13,13),(11,11)] 24
   (bdZ 32 26 K O) (.exit 1) (bdY 32 26 bCo c F O))]⟩
theorem abd_ev (wh ov:Int) (K:RP) (O:Int) (c:Nat) (F:Nat->List Value):fnS (abdC K O c F) 60 Try.f5 (bodyOf Try.f5) [i64 wh,i64 ov] =
  bdTr wh ov (req (stEq (bdZ 32 26 bdG (bdO ov)) (bdZ 32 26 K O)) (bd1T c F O)):=by kernel_rfl
theorem abd_calls {wh ov:Int} {W:World}:Calls Try.prog 5 #[.int .i64 wh,.int .i64 ov] W fun e W'=>e=.returned (.bool true)∧Below W.heap.size W W' :=
 fn_sound (C:=abdC bdG (bdO ov) (64+(bdO ov).toNat) (ptF (bdV bdG))) ⟨mixed,tabOk,abdS_ok,oneL (abd_l bdG (bdO_eq ov))⟩ Try.func5 (by kernel_rfl) rfl (args:=[.int .i64 wh,.int .i64 ov]) (fuel:=60) (by show 2<=Try.f5.ntmps;decide +kernel) (by kernel_rfl)
  ((abd_ev wh ov _ _ _ _).trans (bdTr_eq wh ov ((req_true (stEq_refl rfl)).trans (bd1T_eq (bdO_eq ov) bdG_ok.2.1 bdG_ok.2.2.1)))) rfl W (GOk_nil _)
end Go.Proofs.Ytckbmhegopjnmaa
