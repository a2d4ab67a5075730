/-
  Several texts in one: Fb Fc Ca M95 M96 M97 W37 M98 M99 W38 M100 M28b M33 M34 M101 M102 W39 M103 M104 M105 M106 M107 M108 M109 W44 M123 M124 Yh Cb Bb M86.
-/
import Derived.Test.YtckbmhegopjnmaaZf
namespace Go.Proofs.Ytckbmhegopjnmaa
set_option maxRecDepth 100000
open Go.W
open Go.RowKit (Below)
def fnNt:List Nat:=[2,3,4]
def fnNi:List Nat:=[0,1,2]
def fnSt (lo hi:List Value):St :=
 ⟨[(2,ptr 0),(3,ptr 1),(4,ptr 2)],[(0,⟨lo,24,true⟩),(1,⟨hi,24,true⟩),(2,⟨[u64 0,u64 0,u64 0,u64 0],24,true⟩)],3⟩
noncomputable def fnC0:Cfg:=⟨tab,[(94,GapF),(91,MulF),(96,AddF)],33,[]⟩
theorem fnOk0:CfgOk Try.prog fnC0 (bodyOf Try.f93):=⟨mixed,tabOk,sums_cons gap_sum (sums_cons Mul_sum (sums_cons Add_sum sums_nil)),noL⟩
theorem fn_at:codeAt [1,0,0] (bodyOf Try.f93)=some (.loop (loopAt [1,0,0] (bodyOf Try.f93))):=by kernel_rfl
theorem fn_r (lo hi:Nat):roundS fnC0 60 [1,0,0,0] (loopAt [1,0,0] (bodyOf Try.f93)) fnNt fnNi 3 fnNt fnNi 3 (fnSt (cells4 lo) (cells4 hi)) =
  fdR (num lo) (num hi) (num (hideN (gapN 1))) (fun x y=>some (.normal,fnSt (cells4 x) (cells4 y))) (some (.exit 0,fnSt (cells4 lo) (cells4 hi))):=by kernel_rfl
noncomputable def fnC (lo hi L:Nat):Cfg:=⟨tab,[],33,[([1,0,0],atSt fnNt fnNi 3 (fnSt (cells4 lo) (cells4 hi)) (.exit 0) (fnSt (cells4 L) (cells4 0)))]⟩
theorem foldN_ev (lo hi L:Nat):fnS (fnC lo hi L) 60 Try.f93 (bodyOf Try.f93) [num lo,num hi] =
  req (stEq (fnSt (cells4 lo) (cells4 hi)) (fnSt (cells4 lo) (cells4 hi))) (some (num L)):=by kernel_rfl
theorem foldN_sum:Sum Try.prog 93 FoldNF:=by
 intro args v h
 obtain ⟨lo,hi,hlo,hhi,rfl,rfl⟩:=arg2 (f:=fun x y=>num (fdGo sN 4 (unnum x) (unnum y))) h
 rw[unnum_lt hlo,unnum_lt hhi]
 have hs:sN<2^129:=by decide
 obtain ⟨n,hn,hne⟩:=fdK_first hlo hhi hs
 have hlt:=fdK_lt hlo hhi hs
 rw[fdGo_at hlo hhi hn hne]
 have hL:LoopOk Try.prog 33 (loopAt [1,0,0] (bodyOf Try.f93)) (atSt fnNt fnNi 3 (fnSt (cells4 lo) (cells4 hi)) (.exit 0) (fnSt (cells4 (fdK sN lo hi n).1) (cells4 0))):=by
  refine atSt_ok fun w0 R a W hrel=>?_
  refine loop_rounds (R:=R) (C:=fnC0) fnOk0 fn_at (m:=60) (nt:=fnNt) (ni:=fnNi) (et:=fnNt) (ei:=fnNi) (nx:=3) (ex:=3) (e:=.exit 0) (sf:=fnSt (cells4 (fdK sN lo hi n).1) (cells4 0))
   (fun k=>fnSt (cells4 (fdK sN lo hi k).1) (cells4 (fdK sN lo hi k).2)) n (by intro h;cases h) ?_ ?_ hrel
  ·intro k hk
   refine(fn_r _ _).trans ?_
   rw[hideN_eq,show gapN 1=sN from rfl]
   exact(fdR_eq (hlt k).1 (hlt k).2 hs (hne k hk) (fun x y=>some (Exit.normal,fnSt x y)) _)
  ·refine(fn_r _ _).trans ?_
   rw[hn,fdR_out]
 have hOk:CfgOk Try.prog (fnC lo hi (fdK sN lo hi n).1) (bodyOf Try.f93):=⟨mixed,tabOk,sums_nil,oneL hL⟩
 refine sum_at hOk Try.func93 (by kernel_rfl) (by kernel_rfl) rfl (fuel:=60) (by show 2<=Try.f93.ntmps;decide +kernel) ?_ rfl
 refine(foldN_ev lo hi _).trans ?_
 rw[req_true (stEq_refl rfl)]
noncomputable def fpC:Cfg:=⟨tab,[(98,Mul64H),(96,AddF),(90,AddUpF)],75,[]⟩
theorem fpOk:CfgOk Try.prog fpC (bodyOf Try.f92):=⟨mixed,tabOk,sums_cons (Mul64H_eq ▸ Mul64_sum) (sums_cons Add_sum (sums_cons addUp_sum sums_nil)),noL⟩
theorem foldP_ev (L h0 h1 h2 h3:Nat):fnS fpC 60 Try.f92 (bodyOf Try.f92) [num L,numd h0 h1 h2 h3]=fpT (num L) h0 h1 h2 h3:=by kernel_rfl
theorem foldP_sum:Sum Try.prog 92 FoldPF:=by
 refine sum_of fpOk Try.func92 (by kernel_rfl) (by kernel_rfl) rfl (fuel:=60) fun args v h _=>?_
 obtain ⟨lo,hi,hlo,hhi,rfl,rfl⟩:=arg2 (f:=fun x y=>num (fpN (unnum x) (unnum y))) h
 refine⟨by show 2<=Try.f92.ntmps;decide +kernel,?_,rfl⟩
 obtain ⟨y0,y1,y2,y3,k0,k1,k2,k3,e3,e4⟩:=digits hhi
 rw[unnum_lt hlo,unnum_lt hhi,e4]
 refine(foldP_ev _ _ _ _ _).trans ?_
 rw[fpT_eq hlo k0 k1 k2 k3,e3]
def FMulT (w:Int) (a b:Value):Option Value:=r2 a b <|
 bif w==0 then (r2 (mL a b) (mH a b) <| req (okW w&&isNum (num (fpN (unnum (mL a b)) (unnum (mH a b))))) <| some (num (unnum (num (fpN (unnum (mL a b)) (unnum (mH a b)))) % primeN w)))
 else bif w==1 then (r2 (mL a b) (mH a b) <| req (okW w&&isNum (num (fdGo sN 4 (unnum (mL a b)) (unnum (mH a b))))) <| some (num (unnum (num (fdGo sN 4 (unnum (mL a b)) (unnum (mH a b)))) % primeN w)))
 else some (num 0)
theorem FMulT_eq {w:Int} {A B:Nat} (hA:A<2^256) (hB:B<2^256):FMulT w (num A) (num B)=some (num (fmulN w A B)):=by
 unfold FMulT fmulN
 have hAB:A*B<2^256*2^256:=Nat.mul_lt_mul'' hA hB
 have hH:A*B / 2^256<2^256:=Nat.div_lt_of_lt_mul hAB
 have hLo:A*B % 2^256<2^256:=Nat.mod_lt _ (by decide)
 have hz:A*B / 2^256*2^256+A*B % 2^256=A*B:=by rw[Nat.mul_comm];exact Nat.div_add_mod _ _
 rw[r2_num,mL_num,mH_num hA hB,r2_num,unnum_num,unnum_lt hH]
 by_cases h0:w=0
 ·subst h0
  obtain ⟨h1,h2⟩:=fp_mod hLo hH
  rw[hz] at h2
  rw[show((0:Int)==0)=true from rfl,cond_true,isNum_num,unnum_lt h1,redN_ok ok0,prime0,h2,req_true (b:=okW 0&&true) rfl]
 ·rw[show(w==0)=false from beq_eq_false_iff_ne.2 h0]
  by_cases h1:w=1
  ·subst h1
   obtain ⟨h1,h2⟩:=fdGo_mod hLo hH
   rw[hz] at h2
   rw[show((1:Int)==1)=true from rfl,cond_false,cond_true,r2_num,isNum_num,unnum_lt h1,redN_ok (w:=1) rfl,show primeN 1=pN from rfl,h2,req_true (b:=okW 1&&true) rfl]
  ·rw[show(w==1)=false from beq_eq_false_iff_ne.2 h1,redN_no (by rw[okW_iff];omega),cond_false,cond_false]
def FMulC:Cfg:=⟨tab,[(91,MulF),(92,FoldPF),(93,FoldNF),(89,LowF)],31,[]⟩
theorem FMulOk:CfgOk Try.prog FMulC (bodyOf Try.f82):=⟨mixed,tabOk,sums_cons Mul_sum (sums_cons foldP_sum (sums_cons foldN_sum (sums_cons lower_sum sums_nil))),noL⟩
theorem FMul_ev (w:Int) (A B:Nat):fnS FMulC 60 Try.f82 (bodyOf Try.f82) [i64 w,num A,num B]=FMulT w (num A) (num B):=by kernel_rfl
theorem FMul_sum:Sum Try.prog 82 FMulF:=by
 refine sum_of FMulOk Try.func82 (by kernel_rfl) (by kernel_rfl) rfl (fuel:=60) fun args v h _=>?_
 unfold FMulF at h
 split at h
 ·simp only[Option.some.injEq,Prod.mk.injEq,Bool.and_eq_true] at h
  obtain ⟨⟨h1,h2⟩,rfl⟩:=h
  obtain ⟨A,hA,rfl⟩:=isNum_some h1
  obtain ⟨B,hB,rfl⟩:=isNum_some h2
  exact⟨by show 3<=Try.f82.ntmps;decide +kernel,(FMul_ev _ _ _).trans (by rw[FMulT_eq hA hB,unnum_lt hA,unnum_lt hB]),rfl⟩
 ·simp at h
end Go.Proofs.Ytckbmhegopjnmaa

namespace Go.Proofs.Ytckbmhegopjnmaa
set_option maxRecDepth 100000
open Go.W
open Go.RowKit (Below)
def pwNt:List Nat:=[0,4,5,6,7,8]
def pwNi:List Nat:=[0,1,2,7]
def pwSt (w:Int) (A E O:Nat) (i:Int):St :=
 ⟨[(0,i64 w),(4,ptr 0),(5,ptr 1),(6,ptr 2),(7,ptr 7),(8,i64 i)],[(0,⟨cells4 A,24,true⟩),(1,⟨cells4 E,24,true⟩),(2,⟨[u64 0,u64 0,u64 0,u64 0],24,true⟩),(7,⟨cells4 O,24,true⟩)],13⟩
def pwC0:Cfg:=⟨tab,[(82,FMulF),(44,BitF)],34,[]⟩
theorem pwOk0:CfgOk Try.prog pwC0 (bodyOf Try.f85):=⟨mixed,tabOk,sums_cons FMul_sum (sums_cons Bit_sum sums_nil),noL⟩
theorem pw_at:codeAt [1,1,1,0,1,0] (bodyOf Try.f85)=some (.loop (loopAt [1,1,1,0,1,0] (bodyOf Try.f85))):=by kernel_rfl
theorem pw_r (w:Int) (A E O:Nat) (i:Int):roundS pwC0 60 [1,1,1,0,1,0,0] (loopAt [1,1,1,0,1,0] (bodyOf Try.f85)) pwNt pwNi 13 pwNt pwNi 13 (pwSt w A E O i) =
  bif decide (i>=0) then powR w (num A) (num E) (num O) i (fun o=>some (.normal,pwSt w A E o (IntKind.i64.wrap (i - 1)))) else some (.exit 0,pwSt w A E O i):=by kernel_rfl
noncomputable def pwC (w:Int) (A E O:Nat) (i:Int):Cfg:=⟨tab,[(86,okF),(42,LenF)],34,[([1,1,1,0,1,0],atSt pwNt pwNi 13 (pwSt w A E 1 i) (.exit 0) (pwSt w A E O (-1)))]⟩
theorem Pow_ev (w:Int) (A E O:Nat) (i:Int):fnS (pwC w A E O i) 60 Try.f85 (bodyOf Try.f85) [i64 w,num A,num E] =
  bif !(okW w) then some (num 0) else req (isNum (num E)) (req (stEq (pwSt w A E 1 (IntKind.i64.wrap (((bitLen (unnum (num E)):Nat):Int) - 1))) (pwSt w A E 1 i)) (some (num O))):=by kernel_rfl
def pwC1:Cfg:=⟨tab,[(86,okF),(42,LenF)],34,[([1,1,1,0,1,0],fun _=>[])]⟩
theorem Pow_ev0 (w:Int) (A E:Nat):fnS pwC1 60 Try.f85 (bodyOf Try.f85) [i64 w,num A,num E]=bif !(okW w) then some (num 0) else req (isNum (num E)) none:=by kernel_rfl
theorem Pow_sum:Sum Try.prog 85 PowF:=by
 intro args v h
 unfold PowF at h
 split at h
 ·rename_i w a0 e0
  simp only[Option.some.injEq,Prod.mk.injEq,Bool.and_eq_true] at h
  obtain ⟨⟨h1,h2⟩,rfl⟩:=h
  obtain ⟨A,hA,rfl⟩:=isNum_some h1
  obtain ⟨E,hE,rfl⟩:=isNum_some h2
  rw[unnum_lt hA,unnum_lt hE]
  by_cases hw:okW w=true
  ·obtain ⟨_,hp,_,hp2⟩:=primeN_small hw
   have hl:bitLen E<=256:=bitLen_lt hE
   have hE2:E<2^bitLen E:=(bitLen_spec E).1
   have hL:LoopOk Try.prog 34 (loopAt [1,1,1,0,1,0] (bodyOf Try.f85)) (atSt pwNt pwNi 13 (pwSt w A E 1 ((bitLen E:Int) - 1)) (.exit 0) (pwSt w A E (pwM A E (primeN w) 256) (-1))):=by
    refine atSt_ok fun w0 R a W hrel=>?_
    refine loop_rounds (R:=R) (C:=pwC0) pwOk0 pw_at (m:=60) (nt:=pwNt) (ni:=pwNi) (et:=pwNt) (ei:=pwNi) (nx:=13) (ex:=13) (e:=.exit 0) (sf:=pwSt w A E (pwM A E (primeN w) 256) (-1))
     (fun k=>pwSt w A E (pwM A E (primeN w) (256 - bitLen E+k)) ((bitLen E:Int) - 1 - (k:Int))) (bitLen E) (by intro h;cases h) ?_ ?_ ?_
    ·intro k hk
     refine(pw_r _ _ _ _ _).trans ?_
     have e:(bitLen E:Int) - 1 - (k:Int)=255 - ((256 - bitLen E+k:Nat):Int):=by omega
     rw[decide_eq_true (by omega),cond_true,e,powR_eq hw hA hE (by omega),wrap_i64 (by omega)]
     congr 3
     omega
    ·refine(pw_r _ _ _ _ _).trans ?_
     have e:(bitLen E:Int) - 1 - ((bitLen E:Nat):Int)=-1:=by omega
     rw[e,show 256 - bitLen E+bitLen E=256 from by omega];rfl
    ·have:pwM A E (primeN w) (256 - bitLen E+0)=1:=by
      unfold pwM
      rw[show 256 - (256 - bitLen E+0)=bitLen E from by omega,Nat.div_eq_of_lt hE2,Nat.pow_zero,Nat.mod_eq_of_lt (by omega)]
     rw[this,show(bitLen E:Int) - 1 - ((0:Nat):Int)=(bitLen E:Int) - 1 from by omega];exact hrel
   have hOk:CfgOk Try.prog (pwC w A E (pwM A E (primeN w) 256) ((bitLen E:Int) - 1)) (bodyOf Try.f85):=⟨mixed,tabOk,sums_cons known_sum (sums_cons Len_sum sums_nil),oneL hL⟩
   refine sum_at hOk Try.func85 (by kernel_rfl) (by kernel_rfl) rfl (fuel:=60) (by show 3<=Try.f85.ntmps;decide +kernel) ?_ rfl
   refine(Pow_ev w A E _ _).trans ?_
   rw[isNum_num,req_true rfl,unnum_lt hE,wrap_i64 (by omega),req_true (stEq_refl rfl),pwM_last,hw,powN_ok hw hE];rfl
  ·have hw':okW w=false:=Bool.eq_false_iff.2 hw
   have hOk:CfgOk Try.prog pwC1 (bodyOf Try.f85):=⟨mixed,tabOk,sums_cons known_sum (sums_cons Len_sum sums_nil),noneL2⟩
   refine sum_at hOk Try.func85 (by kernel_rfl) (by kernel_rfl) rfl (fuel:=60) (by show 3<=Try.f85.ntmps;decide +kernel) ?_ rfl
   refine(Pow_ev0 w A E).trans ?_
   rw[hw',powN_no hw];rfl
 ·simp at h
def InvC:Cfg:=⟨tab,[(14,PrimeF),(84,SubF),(85,PowF)],18,[]⟩
theorem InvOk:CfgOk Try.prog InvC (bodyOf Try.f69):=⟨mixed,tabOk,sums_cons Prime_sum (sums_cons Sub_sum (sums_cons Pow_sum sums_nil)),noL⟩
theorem Inv_ev (w:Int) (A:Nat):fnS InvC 60 Try.f69 (bodyOf Try.f69) [i64 w,num A]=InvRT w (num A) (num 2):=by kernel_rfl
theorem Inv_sum:Sum Try.prog 69 InvF:=by
 refine sum_of InvOk Try.func69 (by kernel_rfl) (by kernel_rfl) rfl (fuel:=60) fun args v h _=>?_
 unfold InvF at h
 split at h
 ·simp only[Option.some.injEq,Prod.mk.injEq] at h
  obtain ⟨h1,rfl⟩:=h
  obtain ⟨A,hA,rfl⟩:=isNum_some h1
  exact⟨by show 2<=Try.f69.ntmps;decide +kernel,(Inv_ev _ _).trans (by rw[InvRT_eq hA,unnum_lt hA]),rfl⟩
 ·simp at h
def RootE (r ra:Value):Option Value :=
 r2 r r <| bif !(eqV (num (fmulN 0 (unnum r) (unnum r))) ra) then some (.tuple #[num 0,.bool false]) else req (isNum r) <|
  bif bitI (unnum r) 0==1 then (r2 (num 0) r <| some (.tuple #[num (fsubN 0 (unnum (num 0)) (unnum r)),.bool true])) else some (.tuple #[r,.bool true])
theorem RootE_eq {R B:Nat} (hR:R<2^256) (hB:B<2^256):RootE (num R) (num B) =
  some (.tuple #[num (if fmulN 0 R R=B then (if R % 2=1 then fsubN 0 0 R else R) else 0),.bool (decide (fmulN 0 R R=B))]):=by
 unfold RootE
 have hm:fmulN 0 R R<2^256:=redN_lt _
 rw[r2_num,unnum_lt hR,eqV_num,Nat.mod_eq_of_lt hm,Nat.mod_eq_of_lt hB,unnum_lt (show 0<2^256 by decide),r2_num,isNum_num,req_true rfl]
 by_cases h:fmulN 0 R R=B
 ·rw[if_pos h,decide_eq_true h]
  have e:bitI R 0=((R % 2:Nat):Int):=by
   have:=bitI_nat (A:=R) (n:=0) (by omega)
   rw[show((0:Nat):Int)=0 from rfl] at this
   rw[this];unfold bitN;rw[Nat.pow_zero,Nat.div_one]
  rw[e]
  rcases Nat.mod_two_eq_zero_or_one R with h0 | h1
  ·rw[h0,if_neg (by decide)];rfl
  ·rw[h1,if_pos rfl];rfl
 ·rw[if_neg h,decide_eq_false h];rfl
def RootT (a:Value):Option Value :=
 req (isNum a) <| r2 (rRed 0 a) (num qP) <| RootE (num (powN 0 (unnum (rRed 0 a)) (unnum (num qP)))) (rRed 0 a)
theorem RootT_eq {A:Nat} (hA:A<2^256):RootT (num A)=some (rootV A):=by
 unfold RootT rRed rootV rootNum rootIs rootR
 rw[isNum_num,req_true rfl,r2_num,unnum_lt hA,unnum_lt (redN_lt A),unnum_lt qP_lt]
 exact RootE_eq (powN_lt qP_lt) (redN_lt _)
def RootC:Cfg:=⟨tab,[(87,RedF),(85,PowF),(44,BitF),(82,FMulF),(83,FSubF)],23,[]⟩
theorem RootOk:CfgOk Try.prog RootC (bodyOf Try.f75):=⟨mixed,tabOk,sums_cons Red_sum (sums_cons Pow_sum (sums_cons Bit_sum (sums_cons FMul_sum (sums_cons FSub_sum sums_nil)))),noL⟩
theorem Root_ev (A:Nat):fnS RootC 100 Try.f75 (bodyOf Try.f75) [num A]=RootT (num A):=by kernel_rfl
theorem Root_sum:Sum Try.prog 75 RootF:=by
 refine sum_of RootOk Try.func75 (by kernel_rfl) (by kernel_rfl) rfl (fuel:=100) fun args v h _=>?_
 obtain ⟨A,hA,rfl,rfl⟩:=arg1 (f:=fun x=>rootV (unnum x)) h
 exact⟨by show 1<=Try.f75.ntmps;decide +kernel,(Root_ev A).trans (by rw[RootT_eq hA,unnum_lt hA]),rfl⟩
def ReadT (w:Int) (b:Value) (X:Nat):Option Value :=
 bif !(okW w) then some (.tuple #[num 0,i64 1]) else req (isB32 b) <| r2 (num X) (num (primeN w)) <| bif decide (cI (num X) (num (primeN w))>=0) then some (.tuple #[num 0,i64 2]) else some (.tuple #[num X,i64 0])
theorem ReadT_eq (w:Int) {b:Value} (hb:isB32 b=true) {X:Nat} (hX:X<2^256):ReadT w b X=some (readV w X):=by
 unfold ReadT readV readN readE
 by_cases h:okW w=true
 ·obtain ⟨_,hp,_,_⟩:=primeN_small h
  rw[h,hb,req_true rfl,r2_num,cI_num hX hp,if_pos rfl,if_pos rfl]
  by_cases hlt:X<primeN w
  ·rw[if_pos hlt,if_pos hlt,decide_eq_false (by unfold cmpI;rw[if_pos hlt];decide)];rfl
  ·rw[if_neg hlt,if_neg hlt,decide_eq_true (by unfold cmpI;rw[if_neg hlt];split<;>decide)];rfl
 ·rw[if_neg h,if_neg h,show okW w=false from Bool.eq_false_iff.2 h];rfl
def ReadC:Cfg:=⟨tab,[(86,okF),(57,OfF),(80,CmpF),(14,PrimeF)],20,[]⟩
theorem ReadOk:CfgOk Try.prog ReadC (bodyOf Try.f74):=⟨mixed,tabOk,sums_cons known_sum (sums_cons Of_sum (sums_cons Cmp_sum (sums_cons Prime_sum sums_nil))),noL⟩
theorem Read_ev (w:Int) (A:Nat):fnS ReadC 100 Try.f74 (bodyOf Try.f74) [i64 w,bytesV A]=ReadT w (bytesV A) (unbytes (bytesV A)):=by kernel_rfl
theorem Read_sum:Sum Try.prog 74 ReadF:=by
 refine sum_of ReadOk Try.func74 (by kernel_rfl) (by kernel_rfl) rfl (fuel:=100) fun args v h _=>?_
 unfold ReadF at h
 split at h
 ·simp only[Option.some.injEq,Prod.mk.injEq] at h
  obtain ⟨h1,rfl⟩:=h
  obtain ⟨X,hX,rfl,h2⟩:=isB32_some h1
  exact⟨by show 2<=Try.f74.ntmps;decide +kernel,(Read_ev _ _).trans (by rw[h2,ReadT_eq _ h1 hX]),rfl⟩
 ·simp at h
end Go.Proofs.Ytckbmhegopjnmaa

namespace Go.Proofs.Ytckbmhegopjnmaa
set_option maxRecDepth 100000
open Go.W
open Go.RowKit (Below)
noncomputable def caddC:Cfg:=⟨tab,[(81,FAddF)],8,[]⟩
theorem caddOk:CfgOk Try.prog caddC (bodyOf Try.f63):=⟨mixed,tabOk,(sums_cons FAdd_sum sums_nil),noL⟩
theorem cadd_ev (A:Nat) (B:Nat):fnS caddC 60 Try.f63 (bodyOf Try.f63) [(num A),(num B)]=r2 (num A) (num B) (some (av (num A) (num B))):=by kernel_rfl
theorem cadd_sum:Sum Try.prog 63 AvF:=by
 refine sum_of caddOk Try.func63 (by kernel_rfl) (by kernel_rfl) rfl (fuel:=60) fun args v h _=>?_
 unfold AvF at h
 split at h
 ·simp only[Option.some.injEq,Prod.mk.injEq,Bool.and_eq_true] at h
  obtain ⟨⟨h0,h1⟩,rfl⟩:=h
  obtain ⟨A,hA,rfl⟩:=isNum_some h0
  obtain ⟨B,hB,rfl⟩:=isNum_some h1
  exact⟨by show 2<=Try.f63.ntmps;decide +kernel,(cadd_ev A B).trans (by rw[r2_num]),rfl⟩
 ·simp at h
noncomputable def csubC:Cfg:=⟨tab,[(83,FSubF)],8,[]⟩
theorem csubOk:CfgOk Try.prog csubC (bodyOf Try.f65):=⟨mixed,tabOk,(sums_cons FSub_sum sums_nil),noL⟩
theorem csub_ev (A:Nat) (B:Nat):fnS csubC 60 Try.f65 (bodyOf Try.f65) [(num A),(num B)]=r2 (num A) (num B) (some (sv (num A) (num B))):=by kernel_rfl
theorem csub_sum:Sum Try.prog 65 SvF:=by
 refine sum_of csubOk Try.func65 (by kernel_rfl) (by kernel_rfl) rfl (fuel:=60) fun args v h _=>?_
 unfold SvF at h
 split at h
 ·simp only[Option.some.injEq,Prod.mk.injEq,Bool.and_eq_true] at h
  obtain ⟨⟨h0,h1⟩,rfl⟩:=h
  obtain ⟨A,hA,rfl⟩:=isNum_some h0
  obtain ⟨B,hB,rfl⟩:=isNum_some h1
  exact⟨by show 2<=Try.f65.ntmps;decide +kernel,(csub_ev A B).trans (by rw[r2_num]),rfl⟩
 ·simp at h
noncomputable def cmulC:Cfg:=⟨tab,[(82,FMulF)],8,[]⟩
theorem cmulOk:CfgOk Try.prog cmulC (bodyOf Try.f64):=⟨mixed,tabOk,(sums_cons FMul_sum sums_nil),noL⟩
theorem cmul_ev (A:Nat) (B:Nat):fnS cmulC 60 Try.f64 (bodyOf Try.f64) [(num A),(num B)]=r2 (num A) (num B) (some (mv (num A) (num B))):=by kernel_rfl
theorem cmul_sum:Sum Try.prog 64 MvF:=by
 refine sum_of cmulOk Try.func64 (by kernel_rfl) (by kernel_rfl) rfl (fuel:=60) fun args v h _=>?_
 unfold MvF at h
 split at h
 ·simp only[Option.some.injEq,Prod.mk.injEq,Bool.and_eq_true] at h
  obtain ⟨⟨h0,h1⟩,rfl⟩:=h
  obtain ⟨A,hA,rfl⟩:=isNum_some h0
  obtain ⟨B,hB,rfl⟩:=isNum_some h1
  exact⟨by show 2<=Try.f64.ntmps;decide +kernel,(cmul_ev A B).trans (by rw[r2_num]),rfl⟩
 ·simp at h
noncomputable def ctrnC:Cfg:=⟨tab,[(65,SvF)],6,[]⟩
theorem ctrnOk:CfgOk Try.prog ctrnC (bodyOf Try.f77):=⟨mixed,tabOk,(sums_cons csub_sum sums_nil),noL⟩
theorem ctrn_ev (A:Nat):fnS ctrnC 60 Try.f77 (bodyOf Try.f77) [(num A)]=r2 (num 0) (num A) (some (sv (num 0) (num A))):=by kernel_rfl
theorem ctrn_sum:Sum Try.prog 77 TrnF:=by
 refine sum_of ctrnOk Try.func77 (by kernel_rfl) (by kernel_rfl) rfl (fuel:=60) fun args v h _=>?_
 unfold TrnF at h
 split at h
 ·simp only[Option.some.injEq,Prod.mk.injEq] at h
  obtain ⟨h0,rfl⟩:=h
  obtain ⟨A,hA,rfl⟩:=isNum_some h0
  exact⟨by show 1<=Try.f77.ntmps;decide +kernel,(ctrn_ev A).trans (by rw[r2_num]),rfl⟩
 ·simp at h
noncomputable def clowC:Cfg:=⟨tab,[(80,CmpF),(14,PrimeF)],7,[]⟩
theorem clowOk:CfgOk Try.prog clowC (bodyOf Try.f88):=⟨mixed,tabOk,(sums_cons Cmp_sum (sums_cons Prime_sum sums_nil)),noL⟩
theorem clow_ev (A:Nat):fnS clowC 60 Try.f88 (bodyOf Try.f88) [(num A)]=lowPT (num A):=by kernel_rfl
theorem clow_sum:Sum Try.prog 88 LowPF:=by
 refine sum_of clowOk Try.func88 (by kernel_rfl) (by kernel_rfl) rfl (fuel:=60) fun args v h _=>?_
 unfold LowPF at h
 split at h
 ·simp only[Option.some.injEq,Prod.mk.injEq] at h
  obtain ⟨h0,rfl⟩:=h
  obtain ⟨A,hA,rfl⟩:=isNum_some h0
  rw[unnum_lt hA]
  exact⟨by show 1<=Try.f88.ntmps;decide +kernel,(clow_ev A).trans (lowPT_eq hA),rfl⟩
 ·simp at h
noncomputable def csqC:Cfg:=⟨tab,[(64,MvF),(63,AvF)],10,[]⟩
theorem csqOk:CfgOk Try.prog csqC (bodyOf Try.f76):=⟨mixed,tabOk,(sums_cons cmul_sum (sums_cons cadd_sum sums_nil)),noL⟩
theorem csq_ev (A:Nat):fnS csqC 60 Try.f76 (bodyOf Try.f76) [(num A)]=sqT (num A):=by kernel_rfl
theorem csq_sum:Sum Try.prog 76 SqAF:=by
 refine sum_of csqOk Try.func76 (by kernel_rfl) (by kernel_rfl) rfl (fuel:=60) fun args v h _=>?_
 unfold SqAF at h
 split at h
 ·simp only[Option.some.injEq,Prod.mk.injEq] at h
  obtain ⟨h0,rfl⟩:=h
  obtain ⟨A,hA,rfl⟩:=isNum_some h0
  rw[unnum_lt hA]
  exact⟨by show 1<=Try.f76.ntmps;decide +kernel,(csq_ev A).trans (sqT_eq hA),rfl⟩
 ·simp at h
noncomputable def cisC:Cfg:=⟨tab,[(64,MvF),(88,LowPF),(76,SqAF)],27,[]⟩
theorem cisOk:CfgOk Try.prog cisC (bodyOf Try.f79):=⟨mixed,tabOk,(sums_cons cmul_sum (sums_cons clow_sum (sums_cons csq_sum sums_nil))),noL⟩
theorem cis_ev (ip:Bool) (Xp Yp:Nat):fnS cisC 60 Try.f79 (bodyOf Try.f79) [(ptV (ip,Xp,Yp))]=isPT ip (num Xp) (num Yp):=by kernel_rfl
theorem cis_sum:Sum Try.prog 79 CkF:=by
 refine sum_of cisOk Try.func79 (by kernel_rfl) (by kernel_rfl) rfl (fuel:=60) fun args v h _=>?_
 unfold CkF at h
 split at h
 ·simp only[Option.some.injEq,Prod.mk.injEq] at h
  obtain ⟨h0,rfl⟩:=h
  obtain ⟨⟨ip,Xp,Yp⟩,⟨hXp,hYp⟩,rfl⟩:=isPt_some h0
  rw[unPt_ptV (r:=(ip,Xp,Yp)) ⟨hXp,hYp⟩]
  exact⟨by show 1<=Try.f79.ntmps;decide +kernel,(cis_ev ip Xp Yp).trans (isPT_eq hXp hYp),rfl⟩
 ·simp at h
noncomputable def cchkC:Cfg:=⟨tab,[(79,CkF)],5,[]⟩
theorem cchkOk:CfgOk Try.prog cchkC (bodyOf Try.f60):=⟨mixed,tabOk,(sums_cons cis_sum sums_nil),noL⟩
theorem cchk_ev (p:RP):fnS cchkC 60 Try.f60 (bodyOf Try.f60) [(ptV p)]=chkT (ptV p):=by kernel_rfl
theorem cchk_sum:Sum Try.prog 60 CChkF:=by
 refine sum_of cchkOk Try.func60 (by kernel_rfl) (by kernel_rfl) rfl (fuel:=60) fun args v h _=>?_
 unfold CChkF at h
 split at h
 ·simp only[Option.some.injEq,Prod.mk.injEq] at h
  obtain ⟨h0,rfl⟩:=h
  obtain ⟨p,hp,rfl⟩:=isPt_some h0
  rw[unPt_ptV hp]
  exact⟨by show 1<=Try.f60.ntmps;decide +kernel,(cchk_ev p).trans (chkT_eq hp),rfl⟩
 ·simp at h
noncomputable def clifC:Cfg:=⟨tab,[],12,[]⟩
theorem clifOk:CfgOk Try.prog clifC (bodyOf Try.f67):=⟨mixed,tabOk,sums_nil,noL⟩
theorem clif_ev (ip:Bool) (Xp Yp:Nat):fnS clifC 60 Try.f67 (bodyOf Try.f67) [(ptV (ip,Xp,Yp))]=lfT ip (num Xp) (num Yp):=by kernel_rfl
theorem clif_sum:Sum Try.prog 67 LiftF:=by
 refine sum_of clifOk Try.func67 (by kernel_rfl) (by kernel_rfl) rfl (fuel:=60) fun args v h _=>?_
 unfold LiftF at h
 split at h
 ·simp only[Option.some.injEq,Prod.mk.injEq] at h
  obtain ⟨h0,rfl⟩:=h
  obtain ⟨⟨ip,Xp,Yp⟩,⟨hXp,hYp⟩,rfl⟩:=isPt_some h0
  rw[unPt_ptV (r:=(ip,Xp,Yp)) ⟨hXp,hYp⟩]
  exact⟨by show 1<=Try.f67.ntmps;decide +kernel,(clif_ev ip Xp Yp).trans (lfT_eq ip Xp Yp),rfl⟩
 ·simp at h
noncomputable def cisiC:Cfg:=⟨tab,[],7,[]⟩
theorem cisiOk:CfgOk Try.prog cisiC (bodyOf Try.f66):=⟨mixed,tabOk,sums_nil,noL⟩
theorem cisi_ev (Xt Yt Zt:Nat):fnS cisiC 60 Try.f66 (bodyOf Try.f66) [(jacV (Xt,Yt,Zt))]=isIT (num Zt):=by kernel_rfl
theorem cisi_sum:Sum Try.prog 66 IsIF:=by
 refine sum_of cisiOk Try.func66 (by kernel_rfl) (by kernel_rfl) rfl (fuel:=60) fun args v h _=>?_
 unfold IsIF at h
 split at h
 ·simp only[Option.some.injEq,Prod.mk.injEq] at h
  obtain ⟨h0,rfl⟩:=h
  obtain ⟨⟨Xt,Yt,Zt⟩,⟨hXt,hYt,hZt⟩,rfl⟩:=isJac_some h0
  rw[unJ_jacV (t:=(Xt,Yt,Zt)) ⟨hXt,hYt,hZt⟩]
  exact⟨by show 1<=Try.f66.ntmps;decide +kernel,(cisi_ev Xt Yt Zt).trans (isIT_eq hZt),rfl⟩
 ·simp at h
noncomputable def cpttC:Cfg:=⟨tab,[(66,IsIF),(69,InvF),(64,MvF)],25,[]⟩
theorem cpttOk:CfgOk Try.prog cpttC (bodyOf Try.f46):=⟨mixed,tabOk,(sums_cons cisi_sum (sums_cons Inv_sum (sums_cons cmul_sum sums_nil))),noL⟩
theorem cptt_ev (Xt Yt Zt:Nat):fnS cpttC 60 Try.f46 (bodyOf Try.f46) [(jacV (Xt,Yt,Zt))]=ptT (num Xt) (num Yt) (num Zt):=by kernel_rfl
theorem cptt_sum:Sum Try.prog 46 PtF:=by
 refine sum_of cpttOk Try.func46 (by kernel_rfl) (by kernel_rfl) rfl (fuel:=60) fun args v h _=>?_
 unfold PtF at h
 split at h
 ·simp only[Option.some.injEq,Prod.mk.injEq] at h
  obtain ⟨h0,rfl⟩:=h
  obtain ⟨⟨Xt,Yt,Zt⟩,⟨hXt,hYt,hZt⟩,rfl⟩:=isJac_some h0
  rw[unJ_jacV (t:=(Xt,Yt,Zt)) ⟨hXt,hYt,hZt⟩]
  exact⟨by show 1<=Try.f46.ntmps;decide +kernel,(cptt_ev Xt Yt Zt).trans (ptT_eq hXt hYt hZt),rfl⟩
 ·simp at h
noncomputable def cdblC:Cfg:=⟨tab,[(64,MvF),(63,AvF),(65,SvF)],58,[]⟩
theorem cdblOk:CfgOk Try.prog cdblC (bodyOf Try.f43):=⟨mixed,tabOk,(sums_cons cmul_sum (sums_cons cadd_sum (sums_cons csub_sum sums_nil))),noL⟩
theorem cdbl_ev (Xt Yt Zt:Nat):fnS cdblC 60 Try.f43 (bodyOf Try.f43) [(jacV (Xt,Yt,Zt))]=dbT (num Xt) (num Yt) (num Zt):=by kernel_rfl
theorem cdbl_sum:Sum Try.prog 43 DblF:=by
 refine sum_of cdblOk Try.func43 (by kernel_rfl) (by kernel_rfl) rfl (fuel:=60) fun args v h _=>?_
 unfold DblF at h
 split at h
 ·simp only[Option.some.injEq,Prod.mk.injEq] at h
  obtain ⟨h0,rfl⟩:=h
  obtain ⟨⟨Xt,Yt,Zt⟩,⟨hXt,hYt,hZt⟩,rfl⟩:=isJac_some h0
  rw[unJ_jacV (t:=(Xt,Yt,Zt)) ⟨hXt,hYt,hZt⟩]
  exact⟨by show 1<=Try.f43.ntmps;decide +kernel,(cdbl_ev Xt Yt Zt).trans (dbT_eq hXt hYt hZt),rfl⟩
 ·simp at h
noncomputable def csamC:Cfg:=⟨tab,[(43,DblF)],11,[]⟩
theorem csamOk:CfgOk Try.prog csamC (bodyOf Try.f68):=⟨mixed,tabOk,(sums_cons cdbl_sum sums_nil),noL⟩
theorem csam_ev (t:N3) (A:Nat):fnS csamC 60 Try.f68 (bodyOf Try.f68) [(jacV t),(num A)]=samT (jacV t) (num A):=by kernel_rfl
theorem csam_sum:Sum Try.prog 68 SamF:=by
 refine sum_of csamOk Try.func68 (by kernel_rfl) (by kernel_rfl) rfl (fuel:=60) fun args v h _=>?_
 unfold SamF at h
 split at h
 ·simp only[Option.some.injEq,Prod.mk.injEq,Bool.and_eq_true] at h
  obtain ⟨⟨h0,h1⟩,rfl⟩:=h
  obtain ⟨t,ht,rfl⟩:=isJac_some h0
  obtain ⟨A,hA,rfl⟩:=isNum_some h1
  rw[unJ_jacV ht,unnum_lt hA]
  exact⟨by show 2<=Try.f68.ntmps;decide +kernel,(csam_ev t A).trans (samT_eq ht hA),rfl⟩
 ·simp at h
noncomputable def cplsC:Cfg:=⟨tab,[(64,MvF),(63,AvF),(65,SvF),(66,IsIF),(67,LiftF),(68,SamF)],84,[]⟩
theorem cplsOk:CfgOk Try.prog cplsC (bodyOf Try.f45):=⟨mixed,tabOk,(sums_cons cmul_sum (sums_cons cadd_sum (sums_cons csub_sum (sums_cons cisi_sum (sums_cons clif_sum (sums_cons csam_sum sums_nil)))))),noL⟩
theorem cpls_ev (Xt Yt Zt:Nat) (ip:Bool) (Xp Yp:Nat):fnS cplsC 60 Try.f45 (bodyOf Try.f45) [(jacV (Xt,Yt,Zt)),(ptV (ip,Xp,Yp))]=psT (jacV (Xt,Yt,Zt)) (num Xt) (num Yt) (num Zt) ip (num Xp) (num Yp):=by kernel_rfl
theorem cpls_sum:Sum Try.prog 45 PlsF:=by
 refine sum_of cplsOk Try.func45 (by kernel_rfl) (by kernel_rfl) rfl (fuel:=60) fun args v h _=>?_
 unfold PlsF at h
 split at h
 ·simp only[Option.some.injEq,Prod.mk.injEq,Bool.and_eq_true] at h
  obtain ⟨⟨h0,h1⟩,rfl⟩:=h
  obtain ⟨⟨Xt,Yt,Zt⟩,⟨hXt,hYt,hZt⟩,rfl⟩:=isJac_some h0
  obtain ⟨⟨ip,Xp,Yp⟩,⟨hXp,hYp⟩,rfl⟩:=isPt_some h1
  rw[unJ_jacV (t:=(Xt,Yt,Zt)) ⟨hXt,hYt,hZt⟩,unPt_ptV (r:=(ip,Xp,Yp)) ⟨hXp,hYp⟩]
  exact⟨by show 2<=Try.f45.ntmps;decide +kernel,(cpls_ev Xt Yt Zt ip Xp Yp).trans (psT_eq hXt hYt hZt hXp hYp),rfl⟩
 ·simp at h
noncomputable def cgC:Cfg:=⟨tab,[],4,[]⟩
theorem cgOk:CfgOk Try.prog cgC (bodyOf Try.f27):=⟨mixed,tabOk,sums_nil,noL⟩
theorem cg_ev:fnS cgC 60 Try.f27 (bodyOf Try.f27) []=some (ptV (false,gXn,gYn)):=by kernel_rfl
theorem cg_sum:Sum Try.prog 27 GF:=by
 refine sum_of cgOk Try.func27 (by kernel_rfl) (by kernel_rfl) rfl (fuel:=60) fun args v h _=>?_
 unfold GF at h
 split at h
 ·simp only[Option.some.injEq,Prod.mk.injEq,true_and] at h
  subst h
  exact⟨by show 0<=Try.f27.ntmps;decide +kernel,(cg_ev ).trans (rfl),rfl⟩
 ·simp at h
end Go.Proofs.Ytckbmhegopjnmaa

namespace Go.W
open Go
def fulB (K:RP):Bool:=!K.1&&ckR K
def keyd (k:Int):Bool:=decide (k=1)||decide (k=3)||decide (k=4)
def prfd (k:Int):Bool:=decide (k=3)||decide (k=4)
def bare (a:AR):Bool:=(keyd a.k||decide (a.K=zR))&&((decide (a.k=1)||decide (a.l=⟨#[]⟩))&&((decide (a.k=2)||decide (a.n+a.m=0))&&((decide (a.k=3)||decide (a.g=0))&&(prfd a.k||decide (a.X=(0,0))))))
noncomputable def ckE (a:AR):Int :=
 if a.k<1∨5<a.k then 19 else if bare a=false then 1 else
 if a.k=1 then (if fulB a.K=false then 3 else if lblB a.l=false then 8 else 0) else
 if a.k=2 then (if 8<a.n∨a.m<1∨64<a.m then 4 else if alP a.V a.m=false∨(a.V 0).1=true then 3 else 0) else
 if a.k=5 then 0 else
 if a.k=3∧(a.g<1∨8<a.g) then 1 else if fulB a.K=false then 3 else if ¬(a.X.1<pN∧a.X.2<pN) then 2 else 0
noncomputable def CkeF:List Value->(Nat->Option Blk)->Nat->List (Bool×Value×List (Nat×Blk))
 | [a],mm,_=>[(isA mm a&&Nat.ble (unA mm a).l.size 1000000,i64 (ckE (unA mm a)),[])]
 | _,_,_=>[]
abbrev OR:=Option (Value×List (Nat×Blk))
def cE (e:Int):OR:=some (i64 e,[])
theorem toB_pt {n:Nat} {f:Nat->List Value} (h:okP n f=true) {j:Nat} (hj:j<n):toB ((f j).headD (.bool false))=(pA f j).1:=by
 have h1:=row_pt h j hj
 have h2:(nrmK kP9 (f j)).headD (.bool false)=.bool (toB ((f j).headD (.bool false))):=by
  cases f j<;>rfl
 rw[h1] at h2
 have h3:Value.bool (pA f j).1=.bool (toB ((f j).headD (.bool false))):=h2
 cases h3;rfl
theorem cE_if {p:Prop} [Decidable p] (a b:Int):(if p then cE a else cE b)=cE (if p then a else b):=by
 by_cases h:p
 ·rw[if_pos h,if_pos h]
 ·rw[if_neg h,if_neg h]
section
variable {K:RP} {lab:ByteArray} {n m:Nat} {S:Nat->Nat} {h:Nat->List Value} {g:Int} {X:Nat×Nat}
end
end Go.W

namespace Go.W
open Go
def nSk (id j n:Nat):Value:=.slice (some ⟨nid id j,0,none⟩) n n
def rwA (t32 tP id n:Nat) (f:Nat->List Value) (m:Nat) (h:Nat->List Value):List (Nat×Blk):=[(nid id 1,⟨.row kP9 m h,tP,true⟩),(nid id 0,⟨.row k32 n f,t32,true⟩)]
end Go.W

namespace Go.W
open Go
noncomputable def liF (l:List Nat):Nat->List Value:=fun j=>[.int .u8 (hide ((l.getD j 0:Nat):Int))]
theorem bI_li (l:List Nat) (j:Nat):bI (liF l) j=((l.getD j 0:Nat):Int):=by show hide _=_;rw[hide_eq]
def Holds (n:Nat) (f:Nat->List Value) (l:List Nat):Prop:=n=l.length∧∀j,j<n->bI f j=((l.getD j 0:Nat):Int)
theorem rep_li (l:List Nat):Holds l.length (liF l) l:=⟨rfl,fun j _=>bI_li l j⟩
theorem rep_row {n:Nat} {f:Nat->List Value} {l:List Nat} (h:Holds n f l):∀j,j<n->nrmK kB (f j)=nrmK kB (liF l j):=fun j hj=>by rw[nrm_kB,nrm_kB,h.2 j hj,bI_li]
theorem rep_app {n m:Nat} {f g:Nat->List Value} {l k:List Nat} (h:Holds n f l) (h2:Holds m g k):Holds (n+m) (appF n f g) (l++k):=by
 obtain ⟨rfl,h⟩:=h
 obtain ⟨rfl,h2⟩:=h2
 refine⟨List.length_append.symm,fun j hj=>?_⟩
 rw[bI_app]
 by_cases hl:j<l.length
 ·rw[if_pos hl,h j hl,List.getD_eq_getElem?_getD,List.getD_eq_getElem?_getD,List.getElem?_append_left hl]
 ·rw[if_neg hl,h2 _ (by omega),List.getD_eq_getElem?_getD,List.getD_eq_getElem?_getD,List.getElem?_append_right (by omega)]
theorem rep_sg {n:Nat} {f:Nat->List Value} {l:List Nat} (m:Nat) (h:Holds n f l):Holds n (sgF m f) l:=⟨h.1,fun j hj=>by rw[bI_sg];exact h.2 j hj⟩
theorem rep_congr {n:Nat} {f g:Nat->List Value} {l:List Nat} (h:Holds n f l) (e:∀j,j<n->bI g j=bI f j):Holds n g l:=⟨h.1,fun j hj=>(e j hj).trans (h.2 j hj)⟩
def byV (l:List Nat):List Value:=l.map fun x=>.int .u8 ((x:Nat):Int)
theorem rep_lst (l:List Nat):Holds l.length (lstF (byV l) 0 1) l:=by
 refine⟨rfl,fun j hj=>?_⟩
 refine bI_lst ?_
 show(l.map _)[j]?=_
 rw[List.getElem?_map,List.getElem?_eq_getElem hj,List.getD_eq_getElem?_getD,List.getElem?_eq_getElem hj];rfl
def lsB (n:Nat) (f:Nat->List Value):List Nat:=(List.range n).map fun j=>(bI f j).toNat
theorem lsB_len (n:Nat) (f:Nat->List Value):(lsB n f).length=n:=by unfold lsB;rw[List.length_map,List.length_range]
theorem rep_ls {n:Nat} {f:Nat->List Value} (h:okY n f=true):Holds n f (lsB n f):=by
 refine⟨(lsB_len n f).symm,fun j hj=>?_⟩
 have h1:=okY_iff.1 h j hj
 unfold lsB
 rw[List.getD_eq_getElem?_getD,List.getElem?_map,List.getElem?_range hj]
 show bI f j=(((bI f j).toNat:Nat):Int)
 omega
theorem rep_uniq {n m:Nat} {f:Nat->List Value} {l k:List Nat} (h:Holds n f l) (h2:Holds m f k) (e:n=m):l=k:=by
 subst e
 refine List.ext_getElem (by rw[<-h.1,<-h2.1]) fun j h3 h4=>?_
 have a:=h.2 j (by rw[h.1];exact h3)
 have b:=h2.2 j (by rw[h.1];exact h3)
 rw[a] at b
 rw[List.getD_eq_getElem?_getD,List.getElem?_eq_getElem h3,List.getD_eq_getElem?_getD,List.getElem?_eq_getElem h4] at b
 exact Int.ofNat_inj.1 b
def beL:Nat->Nat->List Nat
 | 0,_=>[]
 | n+1,X=>beL n (X / 256)++[X % 256]
theorem beL_len:∀n X,(beL n X).length=n
 | 0,_=>rfl
 | n+1,X=>by rw[beL,List.length_append,beL_len n];rfl
theorem bytesL_be:∀n X,bytesL n X=byV (beL n X)
 | 0,_=>rfl
 | n+1,X=>by rw[bytesL,beL,bytesL_be n,byV,byV,List.map_append];rfl
theorem beL_byte:∀n X,∀b∈beL n X,b<256
 | 0,_,b,h=>by cases h
 | n+1,X,b,h=>by
  rw[beL] at h
  rcases List.mem_append.1 h with h | h
  ·exact beL_byte n _ b h
  ·rw[List.mem_singleton.1 h];exact Nat.mod_lt _ (by decide)
def deL (l:List Nat):Nat:=l.foldl (fun a b=>a*256+b) 0
theorem deL_snoc (l:List Nat) (b:Nat):deL (l++[b])=deL l*256+b:=by unfold deL;rw[List.foldl_append];rfl
theorem deL_be:∀n X,X<256^n->deL (beL n X)=X
 | 0,X,h=>by simp at h;subst h;rfl
 | n+1,X,h=>by
  rw[beL,deL_snoc,deL_be n _ (by rw[Nat.pow_succ] at h;omega)];omega
theorem be_deL (l:List Nat):∀n,l.length=n->(∀b∈l,b<256)->beL n (deL l)=l∧deL l<256^n:=by
 intro n
 induction n generalizing l with
 | zero=>intro h _;have:l=[]:=List.length_eq_zero_iff.1 h;subst this;exact⟨rfl,by decide⟩
 | succ n ih =>
  intro h hb
  obtain ⟨k,b,rfl⟩:∃k b,l=k++[b]:=⟨l.dropLast,l.getLast (by intro e;subst e;simp at h),(List.dropLast_concat_getLast _).symm⟩
  have hk:k.length=n:=by simpa using h
  obtain ⟨i1,i2⟩:=ih k hk (fun x hx=>hb x (List.mem_append_left _ hx))
  have hb':=hb b (by simp)
  rw[deL_snoc,beL,show(deL k*256+b) / 256=deL k by omega,show(deL k*256+b) % 256=b by omega,i1]
  exact⟨rfl,by rw[Nat.pow_succ];omega⟩
def pyB (K:RP):List Nat:=if K.1=true then [0] else (2+K.2.2 % 2)::beL 32 K.2.1
theorem pyB_len (K:RP):(pyB K).length=pbL K:=by
 unfold pyB pbL;split
 ·rfl
 ·rw[List.length_cons,beL_len]
theorem rep_pb (K:RP):Holds (pbL K) (pbR K) (pyB K):=by
 unfold pyB pbL pbR
 split
 ·exact rep_lst [0]
 ·have h1:Holds 1 (lstF [hdY K.2.2] 0 1) [2+K.2.2 % 2]:=rep_lst [2+K.2.2 % 2]
  have h2:Holds 32 (lstF (bytesL 32 K.2.1) 0 1) (beL 32 K.2.1):=by
   rw[bytesL_be]
   have:=rep_lst (beL 32 K.2.1)
   rw[beL_len] at this;exact this
  have h3:=rep_app h1 h2
  rw[List.singleton_append] at h3
  unfold pbF;exact h3
def txB (s:ByteArray):List Nat:=s.data.toList.map UInt8.toNat
theorem txB_len (s:ByteArray):(txB s).length=s.size:=by unfold txB;rw[List.length_map,Array.length_toList];rfl
theorem rep_str (s:ByteArray):Holds s.size (strF s) (txB s):=by
 refine⟨(txB_len s).symm,fun j hj=>?_⟩
 show((s.data.toList.getD j 0).toNat:Int)=_
 unfold txB
 have hl:j<s.data.toList.length:=by rw[Array.length_toList];exact hj
 rw[List.getD_eq_getElem?_getD,List.getD_eq_getElem?_getD,List.getElem?_map,List.getElem?_eq_getElem hl];rfl
def syS (S:Nat->Nat):Nat->List Nat
 | 0=>[]
 | n+1=>syS S n++beL 32 (S n)
theorem syS_len (S:Nat->Nat):∀n,(syS S n).length=32*n
 | 0=>rfl
 | n+1=>by rw[syS,List.length_append,syS_len S n,beL_len];omega
def pyS (V:Nat->RP):Nat->List Nat
 | 0=>[]
 | n+1=>pyS V n++pyB (V n)
def wr0 (a:AR):List Nat :=
 if a.k=1 then 1::(pyB a.K++(beL 4 a.l.size++txB a.l)) else
 if a.k=2 then 2::a.n::(syS a.S a.n++(a.m::pyS a.V a.m)) else
 if a.k=3 then 3::a.g.toNat::(pyB a.K++(beL 32 a.X.1++beL 32 a.X.2)) else
 if a.k=4 then 4::(pyB a.K++(beL 32 a.X.1++beL 32 a.X.2)) else [5]
noncomputable def wrA (a:AR):List Nat:=hide (if ckE a=0 then wr0 a else [])
theorem wrA_ok {a:AR} (h:ckE a=0):wrA a=wr0 a:=by unfold wrA;rw[hide_eq,if_pos h]
theorem wrA_no {a:AR} (h:ckE a≠0):wrA a=[]:=by unfold wrA;rw[hide_eq,if_neg h]
noncomputable def wrL (a:AR):Nat:=hide (wrA a).length
theorem wrL_eq (a:AR):wrL a=(wrA a).length:=by unfold wrL;rw[hide_eq]
noncomputable def BabF (e:Nat):List Value->(Nat->Option Blk)->Nat->List (Bool×Value×List (Nat×Blk))
 | [a],mm,id=>[(isA mm a&&Nat.ble (unA mm a).l.size 1000000,.tuple #[nSl id (wrL (unA mm a)),i64 (ckE (unA mm a))],rw1 e id (wrL (unA mm a)) (liF (wrA (unA mm a))))]
 | _,_,_=>[]
end Go.W

namespace Go.W
open Go.RowKit (Below)
section
variable {P:Program} [Laid P]
theorem msum_atV {g:FuncId} {fn:Func} {c:Code} (hf:P.funcs[g]?=some fn) (hname:(fn.name=="runtime.NumGoroutine")=false) (hb:fn.body=some c) {fuel next:Nat}
  {w0:Wb (lay P)} {R:Nat->Pl->Prop} {fm:Nat->Option Blk} {w:World} (hm:MRel w0 R fm w) {vs args':List Value} (hl:LR (V2 R) vs args') {mm:Nat->Option Blk} (hsub:∀b blk,mm b=some blk->fm b=some blk) {id:Nat} (hlt:id<60000)
  {A:List AV} (hA:AOkX mm vs A) (hnum:numOk ((flatX A 0).map (·.1))=true) (hlen:A.length<=fn.ntmps) {v:Value} {l:List (Nat×Blk)} (hl1:l=[]∨∃blk,l=[(nid id 0,blk)])
  (hnew:∀p∈l,(nid id 0<=p.1∧p.1<nid id 8->fm p.1=none)∧(¬(nid id 0<=p.1∧p.1<nid id 8)->(mm p.1).isSome=true))
  (hev0:∀es er,∃C,CfgOk P C c∧C.n=fn.ntmps∧fnMS C fuel fn c (cArgsX A 0) (cMemX es er A) next id=some (v,l)) :
  Invokes P g args'.toArray w fun v' w'=>∃R':Nat->Pl->Prop,(∀i p,R i p->R' i p)∧V2 R' v v'∧MRel w0 R' (memF fm l) w':=by
 obtain ⟨hx,hsh⟩:=args_cells hm hsub hA hl
 rw[<-flatX_snd A 0] at hx
 obtain ⟨es,er,pl,hW⟩:=LW_of hnum hx
 have hmC:=callee_relX hm.below.gok hW hnum
 have hargs:LR (V2 (RcL w pl (flatX A 0))) (cArgsX A 0) args':=args_vals hW hsh fun x hx hp=>.inl ⟨x.2,hx,hp,rfl⟩
 obtain ⟨C,hC,hn,hev⟩:=hev0 es er
 exact msum_core2 hf hname hb hm hlt hl1 (fun p hp=>(hnew p hp).1) hmC hargs (by rw[cArgsX_len];exact hlen) hC hn hev
end
end Go.W

namespace Go.W
open Go
def b1 (k:Int):Nat->List Value:=lstF [.int .u8 (IntKind.u8.wrap k)] 0 1
def qN2 (c r:Nat) (K:OR):OR:=req (isNum (num c)) (req (isNum (num r)) K)
def apN {α:Type} (L m:Nat) (K:Option α):Option α:=req (szOk (L+m) 1) (req (Nat.beq L L&&true&&true) K)
theorem apN_eq {α:Type} {L m:Nat} (h:L+m<=2000000) (K:Option α):apN L m K=K:=by
 unfold apN
 rw[szOk_small h,req_true rfl,Nat.beq_refl,req_true (b:=true&&true&&true) rfl]
theorem holds_b1 {k:Nat} (h:k<256):Holds 1 (b1 (k:Int)) [k]:=by
 unfold b1
 rw[wrap_u8,Int.emod_eq_of_lt (by omega) (by omega)]
 exact rep_lst [k]
theorem holds_sl (X:Nat):Holds 32 (lstF (slC X) 0 1) (beL 32 X):=by
 unfold slC
 rw[bytesL_be]
 have:=rep_lst (beL 32 X)
 rw[beL_len] at this;exact this
theorem qN2_eq (c r:Nat) (K:OR):qN2 c r K=K:=by unfold qN2;rw[isNum_num,isNum_num,req_true rfl,req_true rfl]
def l0A (n:Nat):List Nat:=[2,n]
def l1A (n:Nat) (S:Nat->Nat) (m:Nat):List Nat:=(l0A n++syS S n)++[m]
theorem l1A_len (n:Nat) (S:Nat->Nat) (m:Nat):(l1A n S m).length=2+32*n+1:=by
 unfold l1A l0A;rw[List.length_append,List.length_append,syS_len];rfl
def pyL (V:Nat->RP):Nat->Nat
 | 0=>0
 | k+1=>pyL V k+pbL (V k)
theorem pyS_len (V:Nat->RP):∀k,(pyS V k).length=pyL V k
 | 0=>rfl
 | k+1=>by rw[pyS,List.length_append,pyS_len V k,pyB_len];rfl
theorem pyL_le (V:Nat->RP):∀k,pyL V k<=33*k
 | 0=>Nat.le_refl _
 | k+1=>by have:=pyL_le V k;have:=pbL_le (V k);rw[pyL];omega
end Go.W

namespace Go.W
open Go
def Right (a:AR):Prop :=
 (a.k=1∧fulB a.K=true∧lblB a.l=true∧a.n=0∧a.m=0∧a.g=0∧a.X=(0,0)) ∨
 (a.k=2∧a.K=zR∧a.l=⟨#[]⟩∧a.g=0∧a.X=(0,0)∧a.n<=8∧1<=a.m∧a.m<=64∧alP a.V a.m=true∧(a.V 0).1=false) ∨
 (a.k=3∧a.l=⟨#[]⟩∧a.n=0∧a.m=0∧1<=a.g∧a.g<=8∧fulB a.K=true∧a.X.1<pN∧a.X.2<pN) ∨
 (a.k=4∧a.l=⟨#[]⟩∧a.n=0∧a.m=0∧a.g=0∧fulB a.K=true∧a.X.1<pN∧a.X.2<pN) ∨
 (a.k=5∧a.K=zR∧a.l=⟨#[]⟩∧a.n=0∧a.m=0∧a.g=0∧a.X=(0,0))
theorem ckE_iff {a:AR}:ckE a=0↔Right a:=by
 obtain ⟨k,K,l,n,S,m,V,g,X⟩:=a
 unfold Right
 by_cases hk:k<1∨5<k
 ·constructor
  ·intro h;unfold ckE at h;rw[if_pos hk] at h;cases h
  ·rintro (h | h | h | h | h)<;>(have:=h.1;simp only at this;omega)
 ·have:k=1∨k=2∨k=3∨k=4∨k=5:=by omega
  rcases this with rfl | rfl | rfl | rfl | rfl
  ·simp only[ckE,bare,keyd,prfd]
   by_cases p3:n=0∧m=0<;>by_cases p4:g=0<;>by_cases p5:X=(0,0)<;>cases fulB K<;>cases lblB l<;>simp[p3,p4,p5]<;>(intro e;exact absurd e (fun e=>p3 (by simpa using e)))
  ·simp only[ckE,bare,keyd,prfd]
   by_cases p1:K=zR<;>by_cases p2:l=⟨#[]⟩<;>by_cases p4:g=0<;>by_cases p5:X=(0,0)<;>simp[p1,p2,p4,p5]
   by_cases q1:8<n∨m<1∨64<m
   ·rw[if_pos (by omega)];constructor
    ·intro h;cases h
    ·intro h;omega
   ·rw[if_neg (by omega)]
    cases alP V m<;>cases (V 0).1<;>simp<;>omega
  ·simp only[ckE,bare,keyd,prfd]
   by_cases q:g<1∨8<g
   ·have q2:¬(1<=g∧g<=8):=by omega
    by_cases p2:l=⟨#[]⟩<;>by_cases p3:n=0∧m=0<;>simp[p2,p3,q]<;>(intros;omega)
   ·have q2:1<=g∧g<=8:=by omega
    by_cases r:X.1<pN<;>by_cases r2:X.2<pN<;>by_cases p2:l=⟨#[]⟩<;>by_cases p3:n=0∧m=0<;>cases fulB K<;>simp[p2,p3,q,q2.1,q2.2,r,r2]<;>(intro a b;exact p3 ⟨a,b⟩)
  ·simp only[ckE,bare,keyd,prfd]
   by_cases r:X.1<pN<;>by_cases r2:X.2<pN<;>by_cases p2:l=⟨#[]⟩<;>by_cases p3:n=0∧m=0<;>by_cases p4:g=0<;>cases fulB K<;>simp[p2,p3,p4,r,r2]<;>(intro a b;exact p3 ⟨a,b⟩)
  ·simp only[ckE,bare,keyd,prfd]
   by_cases p1:K=zR<;>by_cases p2:l=⟨#[]⟩<;>by_cases p3:n=0∧m=0<;>by_cases p4:g=0<;>by_cases p5:X=(0,0)<;>simp[p1,p2,p3,p4,p5]<;>(intro a b;exact p3 ⟨a,b⟩)
theorem dW_4 (s:ByteArray) (p:Nat) (h:p<s.size):dW s p<=4:=by
 unfold dW
 rcases decB_cases (b:=byt s) h with⟨e,_⟩ | ⟨r,w,e,h2,_⟩
 ·rw[e];show 1<=4;omega
 ·rw[e]
  show w<=4
  unfold runeAt at h2;omega
theorem ps_4 (s:ByteArray):∀k,ps s k<=4*k
 | 0=>Nat.le_refl _
 | k+1=>by
  have ih:=ps_4 s k
  rw[ps_succ];unfold stp
  by_cases h:ps s k<s.size
  ·rw[if_pos h];have:=dW_4 s _ h;omega
  ·rw[if_neg h];omega
theorem lbl_size {s:ByteArray} (h:lblB s=true):s.size<=96:=by
 obtain ⟨_,h2,_⟩:=lblB_iff.1 h
 have:=ps_4 s (rN s)
 rw[ps_rN (Nat.le_refl _)] at this;omega
theorem beL4 (k:Nat):beL 4 k=[k / 256 / 256 / 256 % 256,k / 256 / 256 % 256,k / 256 % 256,k % 256]:=rfl
theorem holds_pp {m k:Nat} {g p:Nat->List Value} {l q:List Nat} (h:Holds m g l) (h2:Holds k p q) (hk:k<=16384):Holds (ppL m k) (ppR m g k p) (l++(beL 4 k++q)):=by
 obtain ⟨rfl,h⟩:=h
 obtain ⟨rfl,h2⟩:=h2
 have e:ppL l.length q.length=l.length+4+q.length:=by unfold ppL;rw[hide_eq,if_pos hk]
 refine⟨by rw[e,List.length_append,List.length_append,beL_len];omega,fun j hj=>?_⟩
 rw[e] at hj
 rw[bI_pp]
 unfold ppJ pkJ
 by_cases h3:j<l.length
 ·rw[if_pos (by omega),if_pos h3,h j h3,List.getD_eq_getElem?_getD,List.getD_eq_getElem?_getD,List.getElem?_append_left h3]
 ·by_cases h4:j<l.length+4
  ·rw[if_pos h4,if_neg h3,List.getD_eq_getElem?_getD,List.getElem?_append_right (by omega),List.getElem?_append_left (by rw[beL_len];omega),beL4]
   obtain ⟨t,rfl⟩:∃t,j=l.length+t:=⟨j - l.length,by omega⟩
   rw[show l.length+t - l.length=t by omega]
   have ht:t=0∨t=1∨t=2∨t=3:=by omega
   have d8:(2:Nat)^8=256:=by decide
   have d16:(2:Nat)^16=65536:=by decide
   have d24:(2:Nat)^24=16777216:=by decide
   rcases ht with rfl | rfl | rfl | rfl
   ·show((q.length / 2^24 % 256:Nat):Int)=((q.length / 256 / 256 / 256 % 256:Nat):Int)
    rw[d24];omega
   ·show((q.length / 2^16 % 256:Nat):Int)=((q.length / 256 / 256 % 256:Nat):Int)
    rw[d16];omega
   ·show((q.length / 2^8 % 256:Nat):Int)=((q.length / 256 % 256:Nat):Int)
    rw[d8]
   ·show((q.length / 2^0 % 256:Nat):Int)=((q.length % 256:Nat):Int)
    rw[Nat.pow_zero,Nat.div_one]
  ·rw[if_neg h4,h2 _ (by omega),List.getD_eq_getElem?_getD,List.getD_eq_getElem?_getD,List.getElem?_append_right (by omega),List.getElem?_append_right (by rw[beL_len];omega),beL_len,show j - l.length - 4=j - (l.length+4) by omega]
theorem holds_pf {L:Nat} {F:Nat->List Value} {l:List Nat} {c r:Nat} (h:Holds L F l) (hc:c<2^256) (hr:r<2^256):Holds (L+32+32) (appF (L+32) (appF L F (lstF (bytesL 32 (unnum (num c))) 0 1)) (lstF (bytesL 32 (unnum (num r))) 0 1)) (l++(beL 32 c++beL 32 r)):=by
 rw[unnum_lt hc,unnum_lt hr]
 have:=rep_app (rep_app h (holds_sl c)) (holds_sl r)
 rw[List.append_assoc] at this;exact this
theorem holds_5 (a:AR) (h:a.k=5):Holds 1 (b1 5) (wr0 a):=by
 have e:wr0 a=[5]:=by unfold wr0;rw[h];rfl
 rw[e];exact holds_b1 (k:=5) (by decide)
theorem holds_pt1 (K:RP) {L:Nat} {F:Nat->List Value} {l:List Nat} (h:Holds L F l):Holds (L+pbL K) (appF L F (sgF (pbL K) (pbR K))) (l++pyB K):=rep_app h (rep_sg _ (rep_pb K))
theorem wr0_4 {a:AR} (h:a.k=4):wr0 a=([4]++pyB a.K)++(beL 32 a.X.1++beL 32 a.X.2):=by unfold wr0;rw[h,if_neg (by decide),if_neg (by decide),if_neg (by decide),if_pos rfl,List.append_assoc];rfl
theorem wr0_3 {a:AR} (h:a.k=3):wr0 a=(([3]++[a.g.toNat])++pyB a.K)++(beL 32 a.X.1++beL 32 a.X.2):=by unfold wr0;rw[h,if_neg (by decide),if_neg (by decide),if_pos rfl,List.append_assoc];rfl
theorem wr0_2 {a:AR} (h:a.k=2):wr0 a=l1A a.n a.S a.m++pyS a.V a.m:=by unfold wr0 l1A l0A;rw[h,if_neg (by decide),if_pos rfl,List.append_assoc,List.append_assoc];rfl
theorem wr0_1 {a:AR} (h:a.k=1):wr0 a=([1]++pyB a.K)++(beL 4 a.l.size++txB a.l):=by unfold wr0;rw[h,if_pos rfl,List.append_assoc];rfl
end Go.W

namespace Go.W
open Go.RowKit (Below)
section
variable {GL:Glob} {w0:Wb GL} {R:Nat->Pl->Prop} {fm:Nat->Option Blk} {w:World}
theorem MRel.retell (h:MRel w0 R fm w) {i:Nat} {blk0 blk1:Blk} (hi:fm i=some blk0) (h0:∀s pos,blk0≠⟨.itr s pos,0,true⟩) (hown:blk1.own=false) (hmem:MemOk w0 R w i blk1)
  (hin:∀j p q b blk,R i p->R j q->p.a=some b->q.a=some b->i≠j->fm j=some blk->blk.own=true->weak blk1):MRel w0 R (upd fm i blk1) w:=by
 have hx:∀j blk,upd fm i blk1 j=some blk->i≠j->fm j=some blk:=fun j blk hj hne=>by rw[upd_ne _ _ hne] at hj;exact hj
 refine⟨h.below,h.func,?_,?_,?_,h.anc,fun i1 p1 b1 h1 h2=>(h.there i1 p1 b1 h1 h2).mono (fun s pos hs=>by
  have e1:i≠i1:=by
   rintro rfl
   rw[hi] at hs;exact h0 s pos (Option.some.inj hs)
  rw[upd_ne _ _ e1]) rfl,?_⟩
 ·intro i0 j0 p q b h5 h6 ha hb hne blk hblk ho blk' hblk'
  by_cases e1:i=i0
  ·subst e1;rw[upd_same] at hblk;cases hblk;rw[hown] at ho;cases ho
  ·have hblk:=hx _ _ hblk e1
   by_cases e2:i=j0
   ·subst e2;rw[upd_same] at hblk';cases hblk'
    exact hin _ _ _ _ _ h6 h5 hb ha e1 hblk ho
   ·exact h.inj _ _ _ _ _ h5 h6 ha hb hne _ hblk ho _ (hx _ _ hblk' e2)
 ·intro j blk hj
  by_cases e1:i=j
  ·subst e1;rw[upd_same] at hj;cases hj;exact hmem
  ·exact h.mem j blk (hx _ _ hj e1)
 ·intro j p hp hlt
  by_cases e1:i=j
  ·subst e1;rw[upd_same];rfl
  ·rw[upd_ne _ _ e1];exact h.dom j p hp hlt
 ·intro j p hp hge
  obtain ⟨h2,h3⟩:=h.fro j p hp hge
  refine⟨h2,fun k q hk hq blk hblk=>?_⟩
  by_cases e1:i=k
  ·subst e1;rw[upd_same] at hblk;cases hblk;exact hown
  ·exact h3 k q hk hq blk (hx _ _ hblk e1)
theorem MRel.asRow (h:MRel w0 R fm w) {i j l cnt sz m:Nat} {e0 e:TypeId} {ks:List CK} {g f':Nat->List Value} (hi:fm i=some ⟨.tail j l cnt sz,e0,false⟩) (hj:fm j=some ⟨.row ks m g,e,false⟩) (hsz:ks.length=sz) (hlm:l+cnt<=m) (hij:i≠j)
  (h0:cnt≠0) (hf:∀x,x<cnt->nrmK ks (g (l+x))=nrmK ks (f' x)):MRel w0 R (upd fm i ⟨.row ks cnt f',e,false⟩) w:=by
 obtain ⟨p,q,hp,hq,hcase,_⟩:∃p q,R j p∧R i q∧(cnt=0∨(q.a=p.a∧q.d=p.d+l*sz∧q.c+l<=p.c))∧false=false:=h.mem i _ hi
 obtain ⟨a1,a2,a3⟩:=hcase.resolve_left h0
 obtain ⟨p',hp',hc⟩:=memOk_row h hj
 have:=h.func _ _ _ hp hp';subst this
 have hl:rowL ks g l cnt=rowL ks f' 0 cnt:=by
  have:=rowL_shift ks g l cnt 0
  rw[Nat.add_zero] at this
  rw[<-this]
  exact rowL_congr ks cnt 0 fun x _ hx=>hf x (by omega)
 refine h.retell hi (by rintro s pos e;cases e) rfl ?_ ?_
 ·refine⟨q,hq,?_⟩
  rw[a1]
  cases hpa:p.a with
  | none =>
   rw[hpa] at hc
   have hc:rowL ks g 0 m=[]:=hc
   have h1:=rowL_len ks g m 0
   rw[hc] at h1
   have h2:=rowL_len ks f' cnt 0
   have h3:cnt*ks.length<=m*ks.length:=Nat.mul_le_mul_right _ (by omega)
   have h1:0=m*ks.length:=h1
   exact List.length_eq_zero_iff.1 (by show(rowL ks f' 0 cnt).length=0;omega)
  | some b =>
   obtain ⟨cs,fz,k1,k2,k3,_⟩:=row_cells h hj hp hpa
   refine⟨cs,fz,k1,LP_plain (rowL_pl _ _ _ _) ?_,fun ho=>by cases ho⟩
   show List.take (rowL ks f' 0 cnt).length _=rowL ks f' 0 cnt
   rw[rowL_len,<-hl,a2,<-List.drop_drop,<-hsz]
   have e2:=congrArg (fun z=>(List.drop (l*ks.length) z).take (cnt*ks.length)) k2
   rw[List.drop_take,List.take_take,Nat.min_eq_left (by rw[<-Nat.sub_mul];exact Nat.mul_le_mul_right _ (by omega)),rowL_drop ks g l m 0 (by omega),Nat.zero_add,rowL_take ks g cnt (m - l) l (by omega)] at e2
   exact e2
 ·intro j2 p2 q2 b blk h5 h6 ha hb hne hblk ho
  have:=h.func _ _ _ h5 hq;subst this
  have hja:p.a=some b:=by rw[<-a1];exact ha
  by_cases e1:j2=j
  ·subst e1;rw[hj] at hblk;cases hblk;cases ho
  ·have h7:=(h.inj _ _ _ _ _ h6 hp hb hja e1 _ hblk ho _ hj).2
   have h7:rowL ks g 0 m=[]:=h7
   refine⟨rfl,?_⟩
   have h1:=rowL_len ks g m 0
   rw[h7] at h1
   have h2:=rowL_len ks f' cnt 0
   have h3:cnt*ks.length<=m*ks.length:=Nat.mul_le_mul_right _ (by omega)
   have h1:0=m*ks.length:=h1
   exact List.length_eq_zero_iff.1 (by show(rowL ks f' 0 cnt).length=0;omega)
end
section
variable {P:Program}
theorem invokes_mono {g:FuncId} {args':List Value} {w:World} {A B:Value->World->Prop} (hAB:∀v' w',A v' w'->B v' w') (h:Invokes P g args'.toArray w A):Invokes P g args'.toArray w B:=by
 unfold Invokes at h ⊢
 revert h
 split
 ·exact fun h=>hAB _ _ h
 ·intro h
  refine Calls.mono h ?_
  intro ex w'
  split
  ·exact fun h=>hAB _ _ h
  ·exact fun h=>h
 ·exact fun h=>h
end
end Go.W

namespace Go.W
open Go
def tkB (m:Nat) (a:Int) (bad:Bool) (n:Int):Bool:=!bad&&decide (n<=(m:Int) - a)
noncomputable def tkA (m:Nat) (a:Int) (bad:Bool) (n:Int):Int:=hide (if tkB m a bad n=true then a+n else a)
noncomputable def tkZ (m:Nat) (a:Int) (bad:Bool) (n:Int):Bool:=hide (!tkB m a bad n)
noncomputable def tkF (m:Nat) (g:Nat->List Value) (a:Int) (bad:Bool) (n:Int):Nat->List Value:=fun x=>[.int .u8 (hide (if tkB m a bad n=true then bI g (a.toNat+x) else 0))]
theorem bI_tk (m:Nat) (g:Nat->List Value) (a:Int) (bad:Bool) (n:Int) (x:Nat):bI (tkF m g a bad n) x=if tkB m a bad n=true then bI g (a.toNat+x) else 0:=by show hide _=_;rw[hide_eq]
def rdL (j m:Nat) (a:Int) (bad:Bool):List Value:=[.slice (some ⟨j,0,none⟩) m m,i64 a,.bool bad]
abbrev RR:=Option (Value×List (Nat×Blk)×List Value)
def ob3 (m:Nat):Bool:=(Nat.beq m m&&Nat.beq m m)&&true
theorem ob3_true (m:Nat):ob3 m=true:=by unfold ob3;rw[Nat.beq_refl];rfl
def tkYes (t8 id j m:Nat) (a n:Int):RR :=
 req (decide (0<=IntKind.i64.wrap (a+n))&&decide (IntKind.i64.wrap (a+n)<=(m:Int))) (req (decide (0<=IntKind.i64.wrap (IntKind.i64.wrap (a+n) - n))&&decide (IntKind.i64.wrap (IntKind.i64.wrap (a+n) - n)<=((IntKind.i64.wrap (a+n)).toNat:Int)))
  (req (Nat.ble (IntKind.i64.wrap (a+n)).toNat m) (req (ob3 m) (some (.slice (some ⟨nid id 0,0,none⟩) ((IntKind.i64.wrap (a+n)).toNat - (IntKind.i64.wrap (IntKind.i64.wrap (a+n) - n)).toNat) (m - (IntKind.i64.wrap (IntKind.i64.wrap (a+n) - n)).toNat),
   [(nid id 0,⟨.tail j (IntKind.i64.wrap (IntKind.i64.wrap (a+n) - n)).toNat ((IntKind.i64.wrap (a+n)).toNat - (IntKind.i64.wrap (IntKind.i64.wrap (a+n) - n)).toNat) 1,t8,false⟩)],[i64 (IntKind.i64.wrap (a+n)),.bool false])))))
theorem tkYes_eq {t8 id j m:Nat} {a n:Int} (h0:0<=n) (ha:0<=a) (hm:m<=1000000) (h:a+n<=m):tkYes t8 id j m a n=some (.slice (some ⟨nid id 0,0,none⟩) n.toNat (m - a.toNat),[(nid id 0,⟨.tail j a.toNat n.toNat 1,t8,false⟩)],[i64 (a+n),.bool false]):=by
 have w1:IntKind.i64.wrap (a+n)=a+n:=by
  have:=wrap_i64 (n:=a+n) (by omega);exact this
 unfold tkYes
 rw[w1,show a+n - n=a by omega,wrap_i64 (n:=a) (by omega),decide_eq_true (by omega),decide_eq_true (by omega),decide_eq_true (by omega),decide_eq_true (by omega),Nat.ble_eq_true_of_le (by omega),ob3_true,req_true (b:=true&&true) rfl,req_true (b:=true&&true) rfl,req_true rfl,req_true rfl,show(a+n).toNat - a.toNat=n.toNat by omega]
section
variable {R:Nat->Pl->Prop}
theorem V2_cap {x n c c':Nat} {v':Value} (hl:loose x=true) (h:V2 R (.slice (some ⟨x,0,none⟩) n c) v') (hc:c'<=c):V2 R (.slice (some ⟨x,0,none⟩) n c') v':=by
 obtain ⟨p,hp,hs⟩:=V2_slice h
 have key:SlOk ⟨x,0,none⟩ n c' p v':=by
  unfold SlOk at hs ⊢
  rw[if_pos hl] at hs ⊢
  obtain ⟨a,b,c1,d⟩:=hs
  refine⟨a,b,by omega,d⟩
 have h0:V0 R (.slice (some ⟨x,0,none⟩) n c') v':=⟨p,hp,key⟩
 exact V2_of_V0 h0
end
def tkC (m:Nat) (a n:Int):Bool:=Nat.beq m m&&Nat.beq m m&&true&&decide (0<=a)&&decide (a<=(m:Int))&&Nat.ble m 1000000&&decide (1<=n)&&decide (n<=100000)
theorem tkC_true {m:Nat} {a n:Int} (h0:0<=a) (h1:a<=m) (hm:m<=1000000) (hn:1<=n) (hn2:n<=100000):tkC m a n=true:=by
 unfold tkC
 rw[Nat.beq_refl,decide_eq_true h0,decide_eq_true h1,Nat.ble_eq_true_of_le hm,decide_eq_true hn,decide_eq_true hn2];rfl
noncomputable def tkL (m:Nat) (g:Nat->List Value) (a:Int) (bad:Bool) (n:Int):List Nat:=lsB n.toNat (tkF m g a bad n)
theorem okY_tk {m:Nat} {g:Nat->List Value} (h:okY m g=true) {a:Int} (ha:0<=a) {bad:Bool} {n:Int}:okY n.toNat (tkF m g a bad n)=true:=by
 rw[okY_iff]
 intro j hj
 rw[bI_tk]
 by_cases hb:tkB m a bad n=true
 ·rw[if_pos hb]
  unfold tkB at hb
  rw[Bool.and_eq_true,decide_eq_true_eq] at hb
  exact okY_iff.1 h _ (by omega)
 ·rw[if_neg hb];omega
theorem lsB_byte {n:Nat} {f:Nat->List Value} (h:okY n f=true):∀b∈lsB n f,b<256:=by
 intro b hb
 unfold lsB at hb
 obtain ⟨j,hj,rfl⟩:=List.mem_map.1 hb
 have:=okY_iff.1 h j (List.mem_range.1 hj);omega
def v32 (f:Nat->List Value):Value:=.agg (rowL kB f 0 32).toArray
theorem rowL_ls {n:Nat} {f:Nat->List Value} (h:okY n f=true):∀k lo,lo+k<=n->rowL kB f lo k=byV ((List.range' lo k).map fun j=>(bI f j).toNat)
 | 0,_,_=>rfl
 | k+1,lo,hk=>by
  rw[rowL,rowL_ls h k (lo+1) (by omega),List.range'_succ,List.map_cons,nrm_kB]
  have:=okY_iff.1 h lo (by omega)
  show[Value.int .u8 (bI f lo)]++_=.int .u8 (((bI f lo).toNat:Nat):Int)::_
  rw[Int.toNat_of_nonneg this.1];rfl
theorem v32_eq {f:Nat->List Value} (h:okY 32 f=true):v32 f=bytesV (deL (lsB 32 f))∧deL (lsB 32 f)<2^256:=by
 have e:=rowL_ls h 32 0 (by omega)
 have h1:=be_deL (lsB 32 f) 32 (lsB_len 32 f) (lsB_byte h)
 have p:(256:Nat)^32=2^256:=by decide
 refine⟨?_,by rw[<-p];exact h1.2⟩
 unfold v32 bytesV
 rw[e,bytesL_be,h1.1]
 unfold lsB
 rw[List.range_eq_range']
noncomputable def rnN (m:Nat) (g:Nat->List Value) (a:Int) (bad:Bool):Nat:=hide (deL (tkL m g a bad 32))
theorem tkA_le {m:Nat} {a:Int} {bad:Bool} {n:Int} (h0:0<=a) (h1:a<=m) (hn:0<=n):0<=tkA m a bad n∧tkA m a bad n<=m:=by
 unfold tkA;rw[hide_eq]
 by_cases hb:tkB m a bad n=true
 ·rw[if_pos hb]
  unfold tkB at hb
  rw[Bool.and_eq_true,decide_eq_true_eq] at hb
  omega
 ·rw[if_neg hb];exact⟨h0,h1⟩
noncomputable def porE (m:Nat) (z:Bool) (a:Int) (X:RP×Int):RR:=bif z then req (ob3 m) (some (ptV X.1,[],[i64 a,.bool true])) else req (ob3 m) (some (ptV X.1,[],[i64 a,.bool (X.2 != 0)]))
theorem porE_eq (m:Nat) (z:Bool) (a:Int) (X:RP×Int):porE m z a X=some (ptV X.1,[],[i64 a,.bool (z||X.2 != 0)]):=by
 unfold porE;rw[ob3_true,req_true rfl,req_true rfl];cases z<;>rfl
theorem b32_okA {f:Nat->List Value} (h:okY 33 f=true):isB32 (b32V f)=true∧unbytes (b32V f)=deL ((List.range' 1 32).map fun j=>(bI f j).toNat):=by
 have e:=rowL_ls h 32 1 (by omega)
 have hl:((List.range' 1 32).map fun j=>(bI f j).toNat).length=32:=by rw[List.length_map,List.length_range']
 have hb:∀b∈((List.range' 1 32).map fun j=>(bI f j).toNat),b<256:=by
  intro b hb
  obtain ⟨j,hj,rfl⟩:=List.mem_map.1 hb
  have:=okY_iff.1 h j (by have:=List.mem_range'_1.1 hj;omega);omega
 have h1:=be_deL _ 32 hl hb
 have p:(256:Nat)^32=2^256:=by decide
 have e2:b32V f=bytesV (deL ((List.range' 1 32).map fun j=>(bI f j).toNat)):=by
  unfold b32V bytesV
  rw[e,bytesL_be,h1.1]
 rw[e2]
 exact⟨isB32_bytesV _,by rw[unbytes_bytesV,Nat.mod_eq_of_lt (p ▸ h1.2)]⟩
end Go.W

namespace Go.W
theorem ck_aff {r:RP} (h:ckR r=true) (hi:r.1=false):toPt r=.aff (zP r.2.1) (zP r.2.2)∧r.2.1<pP∧r.2.2<pP:=by
 obtain ⟨i,X,Y⟩:=r
 simp only at hi
 subst hi
 unfold ckR at h
 rw[if_neg Bool.false_ne_true] at h
 obtain ⟨hX,hY,_⟩:=(show X<pP∧Y<pP∧_ from of_decide_eq_true h)
 exact⟨rfl,hX,hY⟩
end Go.W

namespace Go.W
def hdF (c:Int) (X:Nat):Nat->List Value:=pbF (.int .u8 c) (bytesL 32 X)
theorem hdF_b (c:Int) (X:Nat):b32V (hdF c X)=bytesV X:=by kernel_rfl
theorem hdF_0 (c:Int) (X:Nat):bI (hdF c X) 0=c:=by kernel_rfl
theorem rdS_hd {c:Int} {X:Nat} (hX:lt6 X) (hc:c=2∨c=3):rdS 33 (hdF c X)=rdX X c:=by
 unfold rdS
 rw[hide_eq,hdF_0,hdF_b,unbytes_bytesV,Nat.mod_eq_of_lt hX,if_neg (fun h=>absurd h.1 (by decide)),if_pos ⟨rfl,hc⟩]
def ptyF (p:Value):Nat->List Value:=pbF (hdY (unPt p).2.2) (bytesL 32 (unPt p).2.1)
theorem bI_hd (Y:Nat) (l:List Value):bI (pbF (hdY Y) l) 0=((2+Y % 2:Nat):Int):=rfl
end Go.W

namespace Go.W
theorem rowL_inj {f g:Nat->List Value}:∀(n lo:Nat),rowL kB f lo n=rowL kB g lo n->∀j,j<n->bI f (lo+j)=bI g (lo+j)
 | 0,_,_,j,hj=>absurd hj (by omega)
 | n+1,lo,h,j,hj=>by
  rw[rowL,rowL,nrm_kB,nrm_kB] at h
  simp only[List.cons_append,List.nil_append,List.cons.injEq,Value.int.injEq,true_and] at h
  cases j with
  | zero=>exact h.1
  | succ j =>
   have:=rowL_inj n (lo+1) h.2 j (by omega)
   rw[show lo+1+j=lo+(j+1) from by omega] at this;exact this
theorem rowL_u8 {f:Nat->List Value} (h:∀j,0<=bI f j∧bI f j<256):∀(n lo:Nat),(rowL kB f lo n).all isU8=true
 | 0,_=>rfl
 | n+1,lo=>by
  rw[rowL,nrm_kB,List.all_append,rowL_u8 h n (lo+1),Bool.and_true]
  have:=h lo
  simp only[List.all_cons,List.all_nil,Bool.and_true,isU8,Bool.and_eq_true,decide_eq_true_eq,Nat.ble_eq]
  omega
theorem b32_ok {f:Nat->List Value} (h:∀j,0<=bI f j∧bI f j<256):isB32 (b32V f)=true:=isB32_of (by rw[rowL_len];rfl) (rowL_u8 h 32 1)
theorem rd_self {r:RP} (h:ckR r=true) (hi:r.1=false):rdX r.2.1 ((2+r.2.2 % 2:Nat):Int)=(r,0):=by
 obtain ⟨i,X,Y⟩:=r
 have hi:i=false:=hi
 subst hi
 obtain ⟨_,hX0,hY0⟩:=ck_aff h rfl
 have hX:X<pP:=hX0
 have hY:Y<pP:=hY0
 have h1:mp Y Y=sqN X:=by
  unfold ckR at h
  rw[if_neg Bool.false_ne_true] at h
  exact(of_decide_eq_true h).2.2
 have hr:rootIs (sqN X)=true:=root_of_sq (b:=Y) (by rw[<-h1,mp_eq,Nat.mod_mod])
 obtain ⟨_,c2,c3⟩:=root_pt hX hr
 obtain ⟨k1,_,k3⟩:=root_sq hr
 have hodd:=pP_facts.2.2.2
 have hsq:rootNum (sqN X)*rootNum (sqN X) % pP=Y*Y % pP:=by
  rw[k1,<-h1,mp_eq,Nat.mod_mod]
 have hs:sp 0 (rootNum (sqN X))=(pP - rootNum (sqN X)) % pP:=by rw[sp_eq,Nat.mod_eq_of_lt k3,Nat.zero_add]
 show rdX X ((2+Y % 2:Nat):Int)=((false,X,Y),0)
 unfold rdX
 rw[if_pos hX,if_pos hr]
 have key:(if ((2+Y % 2:Nat):Int)=3 then sp 0 (rootNum (sqN X)) else rootNum (sqN X))=Y:=by
  rw[hs] at c3 ⊢
  have alt:rootNum (sqN X)=Y∨(rootNum (sqN X)+Y) % pP=0:=by
   rcases genP.sq_eq hsq with e | e
   ·rw[Nat.mod_eq_of_lt k3,Nat.mod_eq_of_lt hY] at e;exact .inl e
   ·exact .inr e
  clear hs k1 hsq h1 hr h hX0 hY0 hX
  generalize rootNum (sqN X)=q at *
  generalize pP=p at *
  have hq0:q≠0:=by
   intro e
   rw[e,Nat.sub_zero,Nat.mod_self] at c3
   omega
  have hpq:(p - q) % p=p - q:=Nat.mod_eq_of_lt (by omega)
  rw[hpq] at c3 ⊢
  have alt2:q=Y∨q+Y=p:=by
   rcases alt with e | e
   ·exact .inl e
   ·right
    by_cases hl:q+Y<p
    ·rw[Nat.mod_eq_of_lt hl] at e;omega
    ·rw[Nat.mod_eq_sub_mod (by omega),Nat.mod_eq_of_lt (by omega)] at e;omega
  by_cases h3:((2+Y % 2:Nat):Int)=3
  ·rw[if_pos h3];omega
  ·rw[if_neg h3];omega
 rw[key]
theorem rd_back {n:Nat} {f:Nat->List Value} (hu:∀j,0<=bI f j∧bI f j<256) (h:(rdS n f).2=0) :
  ckR (rdS n f).1=true∧(((rdS n f).1.1=true∧n=1∧bI f 0=0)∨((rdS n f).1.1=false∧n=33∧∀j,j<33->bI (ptyF (ptV (rdS n f).1)) j=bI f j)):=by
 unfold rdS at h ⊢
 rw[hide_eq] at h ⊢
 by_cases h1:n=1∧bI f 0=0
 ·rw[if_pos h1]
  exact⟨rfl,.inl ⟨rfl,h1⟩⟩
 ·rw[if_neg h1] at h ⊢
  by_cases h2:n=33∧(bI f 0=2∨bI f 0=3)
  ·rw[if_pos h2] at h ⊢
   obtain ⟨X,hX,e1,e2⟩:=isB32_some (b32_ok hu)
   rw[e2] at h ⊢
   unfold rdX at h ⊢
   by_cases hlt:X<pP
   ·rw[if_pos hlt] at h ⊢
    by_cases hr:rootIs (sqN X)=true
    ·rw[if_pos hr] at h ⊢
     obtain ⟨c1,c2,c3⟩:=root_pt hlt hr
     have c4:ckR (false,X,sp 0 (rootNum (sqN X)))=true:=by
      have:=ck_neg c1
      rw[negS_ok c1] at this;exact this
     have fin:∀Y,ckR (false,X,Y)=true->((2+Y % 2:Nat):Int)=bI f 0->∀j,j<33->bI (ptyF (ptV (false,X,Y))) j=bI f j:=by
      intro Y hc h0 j hj
      unfold ptyF
      rw[unPt_ptV (ck_okR hc)]
      cases j with
      | zero=>rw[bI_hd];exact h0
      | succ j =>
       have e3:rowL kB (pbF (hdY Y) (bytesL 32 X)) 1 32=rowL kB f 1 32:=by
        have a1:=hdF_b ((2+Y % 2:Nat):Int) X
        rw[<-e1] at a1
        unfold b32V at a1
        have a1:=Value.agg.inj a1
        have:=congrArg Array.toList a1
        rw[List.toList_toArray,List.toList_toArray] at this
        exact this
       have:=rowL_inj 32 1 e3 j (by omega)
       rw[Nat.add_comm 1 j] at this;exact this
     rcases h2.2 with hb | hb
     ·rw[if_neg (by rw[hb];decide)]
      exact⟨c1,.inr ⟨rfl,h2.1,fin _ c1 (by rw[c2,hb];rfl)⟩⟩
     ·rw[if_pos hb]
      exact⟨c4,.inr ⟨rfl,h2.1,fin _ c4 (by rw[c3,hb];rfl)⟩⟩
    ·rw[if_neg hr] at h;exact absurd h (by decide)
   ·rw[if_neg hlt] at h;exact absurd h (by decide)
  ·rw[if_neg h2] at h;exact absurd h (by decide)
theorem okR_rd (n:Nat) (f:Nat->List Value):okR (rdS n f).1:=by
 unfold rdS
 rw[hide_eq]
 have z:okR zR:=⟨lt6_0,lt6_0⟩
 split
 ·exact⟨lt6_0,lt6_0⟩
 ·split
  ·unfold rdX
   split
   ·rename_i hlt
    split
    ·refine⟨Nat.lt_trans hlt pP_facts.2.1,?_⟩
     show lt6 (if _ then _ else _)
     split
     ·exact sp_l _ _
     ·exact rootNum_lt _
    ·exact z
   ·exact z
  ·exact z
end Go.W

namespace Go.W
open Go
theorem app_two {s t a b:List Nat} (h:a++s=b++t) (hl:a.length=b.length):a=b∧s=t:=List.append_inj h hl
theorem beL_uni {n X Y:Nat} (hX:X<256^n) (hY:Y<256^n) {s t:List Nat} (h:beL n X++s=beL n Y++t):X=Y∧s=t:=by
 obtain ⟨h1,h2⟩:=app_two h (by rw[beL_len,beL_len])
 have:=congrArg deL h1
 rw[deL_be n X hX,deL_be n Y hY] at this
 exact⟨this,h2⟩
theorem p25632:(256:Nat)^32=2^256:=by decide
theorem ck_infR {K:RP} (h:ckR K=true) (hi:K.1=true):K=infR:=by
 obtain ⟨i,X,Y⟩:=K
 have hi:i=true:=hi
 subst hi
 have:X=0∧Y=0:=by unfold ckR at h;rw[if_pos rfl] at h;exact of_decide_eq_true h
 rw[this.1,this.2];rfl
theorem pyB_uni {K J:RP} (hK:ckR K=true) (hJ:ckR J=true) {s t:List Nat} (h:pyB K++s=pyB J++t):K=J∧s=t:=by
 unfold pyB at h
 by_cases k:K.1=true
 ·by_cases j:J.1=true
  ·rw[if_pos k,if_pos j] at h
   exact⟨(ck_infR hK k).trans (ck_infR hJ j).symm,(List.cons.inj h).2⟩
  ·rw[if_pos k,if_neg j] at h
   have:=(List.cons.inj h).1;omega
 ·by_cases j:J.1=true
  ·rw[if_neg k,if_pos j] at h
   have:=(List.cons.inj h).1;omega
  ·rw[if_neg k,if_neg j] at h
   obtain ⟨h1,h2⟩:=List.cons.inj h
   obtain ⟨h3,h4⟩:=beL_uni (by rw[p25632];exact(ck_okR hK).1) (by rw[p25632];exact(ck_okR hJ).1) h2
   have a:=rd_self hK (by simpa using k)
   have b:=rd_self hJ (by simpa using j)
   rw[<-h3,<-h1,a] at b
   exact⟨(Prod.mk.inj b).1,h4⟩
theorem syS_uni {S Z:Nat->Nat}:∀{n:Nat} {s t:List Nat},(∀j,j<n->S j<2^256)->(∀j,j<n->Z j<2^256)->syS S n++s=syS Z n++t->(∀j,j<n->S j=Z j)∧s=t
 | 0,_,_,_,_,h=>⟨fun j hj=>absurd hj (Nat.not_lt_zero _),h⟩
 | n+1,s,t,h1,h2,h=>by
  rw[syS,syS,List.append_assoc,List.append_assoc] at h
  obtain ⟨h3,h4⟩:=syS_uni (fun j hj=>h1 j (by omega)) (fun j hj=>h2 j (by omega)) h
  obtain ⟨h5,h6⟩:=beL_uni (by rw[p25632];exact h1 n (by omega)) (by rw[p25632];exact h2 n (by omega)) h4
  refine⟨fun j hj=>?_,h6⟩
  by_cases e:j=n
  ·rw[e];exact h5
  ·exact h3 j (by omega)
theorem pyS_uni {V W:Nat->RP}:∀{n:Nat} {s t:List Nat},(∀j,j<n->ckR (V j)=true)->(∀j,j<n->ckR (W j)=true)->pyS V n++s=pyS W n++t->(∀j,j<n->V j=W j)∧s=t
 | 0,_,_,_,_,h=>⟨fun j hj=>absurd hj (Nat.not_lt_zero _),h⟩
 | n+1,s,t,h1,h2,h=>by
  rw[pyS,pyS,List.append_assoc,List.append_assoc] at h
  obtain ⟨h3,h4⟩:=pyS_uni (fun j hj=>h1 j (by omega)) (fun j hj=>h2 j (by omega)) h
  obtain ⟨h5,h6⟩:=pyB_uni (h1 n (by omega)) (h2 n (by omega)) h4
  refine⟨fun j hj=>?_,h6⟩
  by_cases e:j=n
  ·rw[e];exact h5
  ·exact h3 j (by omega)
theorem txB_inj {a b:ByteArray} (h:txB a=txB b):a=b:=by
 have hs:a.size=b.size:=by rw[<-txB_len,<-txB_len,h]
 refine txt_ext hs fun j hj=>?_
 have h1:=(rep_str a).2 j hj
 have h2:=(rep_str b).2 j (by omega)
 rw[h,<-h2] at h1
 exact Int.ofNat_inj.1 h1
theorem txB_uni {a b:ByteArray} (hs:a.size=b.size) {s t:List Nat} (h:txB a++s=txB b++t):a=b∧s=t:=by
 obtain ⟨h1,h2⟩:=app_two h (by rw[txB_len,txB_len,hs])
 exact⟨txB_inj h1,h2⟩
def Wsl (a:AR):Prop:=∀j,j<a.n->a.S j<2^256
def Sam (a b:AR):Prop:=a.k=b.k∧a.K=b.K∧a.l=b.l∧a.n=b.n∧(∀j,j<a.n->a.S j=b.S j)∧a.m=b.m∧(∀j,j<a.m->a.V j=b.V j)∧a.g=b.g∧a.X=b.X
theorem Sam.refl (a:AR):Sam a a:=⟨rfl,rfl,rfl,rfl,fun _ _=>rfl,rfl,fun _ _=>rfl,rfl,rfl⟩
theorem Sam.symm {a b:AR} (h:Sam a b):Sam b a:=by
 obtain ⟨h1,h2,h3,h4,h5,h6,h7,h8,h9⟩:=h
 exact⟨h1.symm,h2.symm,h3.symm,h4.symm,fun j hj=>(h5 j (by omega)).symm,h6.symm,fun j hj=>(h7 j (by omega)).symm,h8.symm,h9.symm⟩
theorem Sam.trans {a b c:AR} (h:Sam a b) (h':Sam b c):Sam a c:=by
 obtain ⟨h1,h2,h3,h4,h5,h6,h7,h8,h9⟩:=h
 obtain ⟨g1,g2,g3,g4,g5,g6,g7,g8,g9⟩:=h'
 exact⟨h1.trans g1,h2.trans g2,h3.trans g3,h4.trans g4,fun j hj=>(h5 j hj).trans (g5 j (by omega)),h6.trans g6,fun j hj=>(h7 j hj).trans (g7 j (by omega)),h8.trans g8,h9.trans g9⟩
theorem ful_ck {K:RP} (h:fulB K=true):ckR K=true:=by unfold fulB at h;exact(Bool.and_eq_true .. ▸ h).2
theorem pN_256:pN<2^256:=by decide +kernel
theorem wr0_hd {a:AR} (h:Right a):∃r,wr0 a=a.k.toNat::r∧1<=a.k∧a.k<=5:=by
 unfold wr0
 rcases h with h | h | h | h | h<;>(obtain ⟨h,_⟩:=h;rw[h];exact⟨_,rfl,by decide,by decide⟩)
theorem wr0_uni {a b:AR} (ha:Right a) (hb:Right b) (wa:Wsl a) (wb:Wsl b) {s t:List Nat} (h:wr0 a++s=wr0 b++t):Sam a b∧s=t:=by
 obtain ⟨r1,e1,l1,u1⟩:=wr0_hd ha
 obtain ⟨r2,e2,l2,u2⟩:=wr0_hd hb
 have hk:a.k=b.k:=by
  rw[e1,e2] at h
  have:=(List.cons.inj h).1
  omega
 clear e1 e2 r1 r2
 rcases ha with⟨k1,c⟩ | ⟨k1,c⟩ | ⟨k1,c⟩ | ⟨k1,c⟩ | ⟨k1,c⟩<;>rcases hb with⟨k2,d⟩ | ⟨k2,d⟩ | ⟨k2,d⟩ | ⟨k2,d⟩ | ⟨k2,d⟩<;>(first | (rw[k1,k2] at hk;exact absurd hk (by decide)) | skip)
 ·rw[wr0_1 k1,wr0_1 k2,List.append_assoc,List.append_assoc,List.append_assoc,List.append_assoc,List.append_assoc,List.append_assoc] at h
  obtain ⟨c1,c2,c3,c4,c5,c6⟩:=c
  obtain ⟨d1,d2,d3,d4,d5,d6⟩:=d
  obtain ⟨_,h⟩:=app_two h rfl
  obtain ⟨q1,h⟩:=pyB_uni (ful_ck c1) (ful_ck d1) h
  have s1:=lbl_size c2
  have s2:=lbl_size d2
  obtain ⟨q2,h⟩:=beL_uni (n:=4) (by rw[show(256:Nat)^4=4294967296 from by decide];omega) (by rw[show(256:Nat)^4=4294967296 from by decide];omega) h
  obtain ⟨q3,h⟩:=txB_uni q2 h
  exact⟨⟨hk,q1,q3,by rw[c3,d3],fun j hj=>by omega,by rw[c4,d4],fun j hj=>by omega,by rw[c5,d5],by rw[c6,d6]⟩,h⟩
 ·rw[wr0_2 k1,wr0_2 k2] at h
  obtain ⟨c1,c2,c3,c4,c5,c6,c7,c8,c9⟩:=c
  obtain ⟨d1,d2,d3,d4,d5,d6,d7,d8,d9⟩:=d
  unfold l1A l0A at h
  simp only[List.append_assoc] at h
  have h:2::a.n::(syS a.S a.n++(a.m::(pyS a.V a.m++s)))=2::b.n::(syS b.S b.n++(b.m::(pyS b.V b.m++t))):=h
  obtain ⟨q1,h⟩:=List.cons.inj (List.cons.inj h).2
  unfold Wsl at wb
  rw[<-q1] at h wb
  obtain ⟨q2,h⟩:=syS_uni wa wb h
  obtain ⟨q3,h⟩:=List.cons.inj h
  have d8:=alP_iff.1 d8
  rw[<-q3] at h d8
  obtain ⟨q4,h⟩:=pyS_uni (alP_iff.1 c8) d8 h
  exact⟨⟨hk,by rw[c1,d1],by rw[c2,d2],q1,q2,q3,q4,by rw[c3,d3],by rw[c4,d4]⟩,h⟩
 ·rw[wr0_3 k1,wr0_3 k2] at h
  obtain ⟨c1,c2,c3,c4,c5,c6,c7,c8⟩:=c
  obtain ⟨d1,d2,d3,d4,d5,d6,d7,d8⟩:=d
  simp only[List.append_assoc] at h
  have h:3::a.g.toNat::(pyB a.K++(beL 32 a.X.1++(beL 32 a.X.2++s)))=3::b.g.toNat::(pyB b.K++(beL 32 b.X.1++(beL 32 b.X.2++t))):=h
  obtain ⟨q1,h⟩:=List.cons.inj (List.cons.inj h).2
  obtain ⟨q2,h⟩:=pyB_uni (ful_ck c6) (ful_ck d6) h
  have:=pN_256
  obtain ⟨q3,h⟩:=beL_uni (by rw[p25632];omega) (by rw[p25632];omega) h
  obtain ⟨q4,h⟩:=beL_uni (by rw[p25632];omega) (by rw[p25632];omega) h
  exact⟨⟨hk,q2,by rw[c1,d1],by rw[c2,d2],fun j hj=>by omega,by rw[c3,d3],fun j hj=>by omega,by omega,Prod.ext q3 q4⟩,h⟩
 ·rw[wr0_4 k1,wr0_4 k2] at h
  obtain ⟨c1,c2,c3,c4,c6,c7,c8⟩:=c
  obtain ⟨d1,d2,d3,d4,d6,d7,d8⟩:=d
  simp only[List.append_assoc] at h
  have h:4::(pyB a.K++(beL 32 a.X.1++(beL 32 a.X.2++s)))=4::(pyB b.K++(beL 32 b.X.1++(beL 32 b.X.2++t))):=h
  obtain ⟨_,h⟩:=List.cons.inj h
  obtain ⟨q2,h⟩:=pyB_uni (ful_ck c6) (ful_ck d6) h
  have:=pN_256
  obtain ⟨q3,h⟩:=beL_uni (by rw[p25632];omega) (by rw[p25632];omega) h
  obtain ⟨q4,h⟩:=beL_uni (by rw[p25632];omega) (by rw[p25632];omega) h
  exact⟨⟨hk,q2,by rw[c1,d1],by rw[c2,d2],fun j hj=>by omega,by rw[c3,d3],fun j hj=>by omega,by rw[c4,d4],Prod.ext q3 q4⟩,h⟩
 ·have e:∀x:AR,x.k=5->wr0 x=[5]:=fun x hx=>by unfold wr0;rw[hx];rfl
  rw[e a k1,e b k2] at h
  obtain ⟨c1,c2,c3,c4,c6,c7⟩:=c
  obtain ⟨d1,d2,d3,d4,d6,d7⟩:=d
  exact⟨⟨hk,by rw[c1,d1],by rw[c2,d2],by rw[c3,d3],fun j hj=>by omega,by rw[c4,d4],fun j hj=>by omega,by rw[c6,d6],by rw[c7,d7]⟩,(List.cons.inj h).2⟩
end Go.W

namespace Go.W
open Go
def stO (L:List Nat) (q:Int×Bool):Option (List Nat):=if q.2=true then none else some (L.drop q.1.toNat)
def aftO (n:Nat):Option (List Nat)->Option (List Nat)
 | some r=>if n<=r.length then some (r.drop n) else none
 | none=>none
noncomputable def tkS (m:Nat) (q:Int×Bool) (n:Int):Int×Bool:=(tkA m q.1 q.2 n,tkZ m q.1 q.2 n)
def inQ (m:Nat) (q:Int×Bool):Prop:=0<=q.1∧q.1<=m
theorem inQ_tk {m:Nat} {q:Int×Bool} (h:inQ m q) {n:Int} (hn:0<=n):inQ m (tkS m q n):=tkA_le h.1 h.2 hn
theorem st_tk {m:Nat} {g:Nat->List Value} {q:Int×Bool} (h:inQ m q) (n:Nat):stO (lsB m g) (tkS m q (n:Int))=aftO n (stO (lsB m g) q):=by
 obtain ⟨a,bad⟩:=q
 obtain ⟨h0,h1⟩:=h
 have h0:0<=a:=h0
 have h1:a<=m:=h1
 unfold stO tkS
 simp only
 cases bad with
 | true =>
  have:tkZ m a true n=true:=by unfold tkZ tkB;rw[hide_eq];rfl
  rw[this,if_pos rfl,if_pos rfl];rfl
 | false =>
  by_cases hn:(n:Int)<=(m:Int) - a
  ·have e1:tkZ m a false n=false:=by unfold tkZ tkB;rw[hide_eq,decide_eq_true hn];rfl
   have e2:tkA m a false n=a+n:=by unfold tkA tkB;rw[hide_eq,if_pos (by rw[decide_eq_true hn];rfl)]
   rw[e1,e2,if_neg (by decide),if_neg (by decide)]
   unfold aftO
   simp only
   rw[if_pos (by rw[List.length_drop,lsB_len];omega),List.drop_drop,show(a+(n:Int)).toNat=a.toNat+n by omega]
  ·have e1:tkZ m a false n=true:=by unfold tkZ tkB;rw[hide_eq,decide_eq_false hn];rfl
   rw[e1,if_pos rfl,if_neg (by decide)]
   unfold aftO
   simp only
   rw[if_neg (by rw[List.length_drop,lsB_len];omega)]
theorem lsB_get {m:Nat} {g:Nat->List Value} (hg:okY m g=true) {j:Nat} (hj:j<m):bI g j=(((lsB m g).getD j 0:Nat):Int):=(rep_ls hg).2 j hj
theorem holds_tk {m:Nat} {g:Nat->List Value} (hg:okY m g=true) {q:Int×Bool} (h:inQ m q) {n:Nat} {r:List Nat} (hs:stO (lsB m g) q=some r) (hn:n<=r.length):Holds n (tkF m g q.1 q.2 (n:Int)) (r.take n):=by
 obtain ⟨a,bad⟩:=q
 obtain ⟨h0,h1⟩:=h
 have h0:0<=a:=h0
 have h1:a<=m:=h1
 unfold stO at hs
 simp only at hs
 cases bad with
 | true=>rw[if_pos rfl] at hs;cases hs
 | false =>
  rw[if_neg (by decide)] at hs
  cases hs
  rw[List.length_drop,lsB_len] at hn
  refine⟨by rw[List.length_take,List.length_drop,lsB_len];omega,fun j hj=>?_⟩
  rw[bI_tk,if_pos (by unfold tkB;rw[decide_eq_true (by simp only;omega)];rfl)]
  simp only
  rw[lsB_get hg (by omega),List.getD_eq_getElem?_getD,List.getD_eq_getElem?_getD,List.getElem?_take_of_lt hj,List.getElem?_drop]
theorem lt_of_mem {m:Nat} {g:Nat->List Value} (hg:okY m g=true) {q:Int×Bool} {r:List Nat} (hs:stO (lsB m g) q=some r):∀b∈r,b<256:=by
 unfold stO at hs
 cases hq:q.2 with
 | true=>rw[hq,if_pos rfl] at hs;cases hs
 | false =>
  rw[hq,if_neg (by decide)] at hs
  cases hs
  exact fun b hb=>lsB_byte hg b (List.mem_of_mem_drop hb)
theorem aft_some {n:Nat} {o:Option (List Nat)} {r:List Nat} (h:aftO n o=some r):∃p,p.length=n∧o=some (p++r):=by
 cases o with
 | none=>cases h
 | some x =>
  unfold aftO at h
  simp only at h
  by_cases e:n<=x.length
  ·rw[if_pos e] at h
   cases h
   exact⟨x.take n,by rw[List.length_take];omega,by rw[List.take_append_drop]⟩
  ·rw[if_neg e] at h;cases h
theorem aft_app {n:Nat} {p r:List Nat} (h:p.length=n):aftO n (some (p++r))=some r:=by
 unfold aftO
 simp only
 rw[if_pos (by rw[List.length_append];omega),List.drop_left' h]
theorem rn_some {m:Nat} {g:Nat->List Value} (hg:okY m g=true) {q:Int×Bool} (h:inQ m q) {r:List Nat} (hs:stO (lsB m g) (tkS m q 32)=some r):stO (lsB m g) q=some (beL 32 (rnN m g q.1 q.2)++r)∧rnN m g q.1 q.2<2^256:=by
 have hs':=(st_tk h 32).symm.trans hs
 obtain ⟨p,hp,ho⟩:=aft_some hs'
 have hh:=holds_tk hg h (n:=32) ho (by rw[List.length_append];omega)
 rw[List.take_left' hp] at hh
 have e:tkL m g q.1 q.2 32=p:=by
  unfold tkL
  exact rep_uniq (rep_ls (okY_tk hg h.1)) hh rfl
 have hb:=be_deL p 32 hp fun b hb=>lt_of_mem hg ho b (List.mem_append_left _ hb)
 unfold rnN
 rw[hide_eq,e,hb.1,<-p25632]
 exact⟨ho,hb.2⟩
theorem rn_lt {m:Nat} {g:Nat->List Value} (hg:okY m g=true) {q:Int×Bool} (h:inQ m q):rnN m g q.1 q.2<2^256:=by
 have hb:=be_deL (tkL m g q.1 q.2 32) 32 (lsB_len _ _) (lsB_byte (okY_tk hg h.1))
 unfold rnN
 rw[hide_eq,<-p25632];exact hb.2
theorem rn_back {m:Nat} {g:Nat->List Value} (hg:okY m g=true) {q:Int×Bool} (h:inQ m q) {X:Nat} (hX:X<2^256) {r:List Nat} (hs:stO (lsB m g) q=some (beL 32 X++r)):stO (lsB m g) (tkS m q 32)=some r∧rnN m g q.1 q.2=X:=by
 have h1:stO (lsB m g) (tkS m q 32)=some r:=by
  rw[show(32:Int)=((32:Nat):Int) from rfl,st_tk h 32,hs,aft_app (beL_len 32 X)]
 refine⟨h1,?_⟩
 obtain ⟨h2,h3⟩:=rn_some hg h h1
 rw[hs] at h2
 exact(beL_uni (by rw[p25632];exact h3) (by rw[p25632];exact hX) (Option.some.inj h2).symm).1
theorem rdS_33 {f f':Nat->List Value} (h:∀j,j<33->bI f j=bI f' j):rdS 33 f=rdS 33 f':=by
 have e:b32V f=b32V f':=by
  unfold b32V
  rw[rowL_congr (f:=f) (g:=f') kB 32 1 fun j h1 h2=>by rw[nrm_kB f j,nrm_kB f' j,h j (by omega)]]
 unfold rdS
 rw[e,h 0 (by decide)]
theorem pbR_b {K:RP} (h:K.1=false):pbR K=pbF (hdY K.2.2) (bytesL 32 K.2.1):=by unfold pbR;rw[h];rfl
theorem pty_pb {K:RP} (hK:okR K) (hi:K.1=false):ptyF (ptV K)=pbR K:=by
 unfold ptyF
 rw[unPt_ptV hK,pbR_b hi]
theorem rd_pb {K:RP} (hK:ckR K=true) (hi:K.1=false):rdS 33 (pbR K)=(K,0):=by
 rw[<-pty_pb (ck_okR hK) hi]
 unfold ptyF
 rw[unPt_ptV (ck_okR hK)]
 have hc:((2+K.2.2 % 2:Nat):Int)=2∨((2+K.2.2 % 2:Nat):Int)=3:=by omega
 exact(rdS_hd (c:=((2+K.2.2 % 2:Nat):Int)) (ck_okR hK).1 hc).trans (rd_self hK hi)
end Go.W

namespace Go.W
open Go.RowKit (Below)
section
variable {GL:Glob} {w0:Wb GL} {R:Nat->Pl->Prop} {fm:Nat->Option Blk} {w:World}
theorem LR_put {r:Value->Value->Prop} {x y:Value} (hxy:∀u,r x u->r y u):∀{l1 l2 us:List Value},LR r (l1++x::l2) us->LR r (l1++y::l2) us
 | [],_,_::_,h=>⟨hxy _ h.1,h.2⟩
 | _::_,_,_::_,h=>⟨h.1,LR_put hxy h.2⟩
 | [],_,[],h=>h.elim
 | _::_,_,[],h=>h.elim
theorem nil_step (h3:MRel w0 R fm w) {id k:Nat} (hid:id<60000) (hk:k<8) (hfree:fm (nid id k)=none) (ks:List CK) (e:TypeId) (f:Nat->List Value) :
  ∃R':Nat->Pl->Prop,(∀i p,R i p->R' i p)∧(∀u,V0 R' (.slice none 0 0) u->V0 R' (.slice (some ⟨nid id k,0,none⟩) 0 0) u)∧MRel w0 R' (upd fm (nid id k) ⟨.row ks 0 f,e,true⟩) w:=by
 have hlo:=nid_loose (k:=k) hid hk
 refine⟨_,fun _ _ h=>.inl h,?_,MRel.nilRow h3 hfree (by have:=nid_lt (k:=k) hid hk;omega) ks f e⟩
 intro u hu
 have:u=.slice none 0 0:=(V0_plain (v:=.slice none 0 0) rfl).1 hu
 subst this
 refine⟨⟨none,0,0⟩,.inr ⟨rfl,rfl⟩,?_⟩
 unfold SlOk
 rw[if_pos hlo]
 exact⟨rfl,rfl,Nat.le_refl _,rfl,rfl,none,rfl⟩
theorem upd_two (f:Nat->Option Blk) (x:Nat) (A B:Blk):upd (upd f x A) x B=upd f x B:=by
 funext y
 by_cases e2:x=y
 ·subst e2;rw[upd_same,upd_same]
 ·rw[upd_ne _ _ e2,upd_ne _ _ e2,upd_ne _ _ e2]
theorem upd_swap (f:Nat->Option Blk) {x y:Nat} (h:x≠y) (A B:Blk):upd (upd f x A) y B=upd (upd f y B) x A:=by
 funext z
 by_cases e1:x=z
 ·subst e1;rw[upd_same,upd_ne _ _ (Ne.symm h),upd_same]
 ·rw[upd_ne _ _ e1]
  by_cases e2:y=z
  ·subst e2;rw[upd_same,upd_same]
  ·rw[upd_ne _ _ e2,upd_ne _ _ e2,upd_ne _ _ e1]
theorem MRel.recell2 {i1 i2:Nat} (hne:i1≠i2) {ks1 ks2:List CK} {n1 n2:Nat} {f1 f1' f2 f2':Nat->List Value} {e1 e2:TypeId} {o1 o2:Bool} (h:MRel w0 R (memF fm [(i1,⟨.row ks1 n1 f1,e1,o1⟩),(i2,⟨.row ks2 n2 f2,e2,o2⟩)]) w)
  (hf1:∀j,j<n1->nrmK ks1 (f1 j)=nrmK ks1 (f1' j)) (hf2:∀j,j<n2->nrmK ks2 (f2 j)=nrmK ks2 (f2' j)):MRel w0 R (memF fm [(i1,⟨.row ks1 n1 f1',e1,o1⟩),(i2,⟨.row ks2 n2 f2',e2,o2⟩)]) w:=by
 have h:MRel w0 R (upd (upd fm i2 ⟨.row ks2 n2 f2,e2,o2⟩) i1 ⟨.row ks1 n1 f1,e1,o1⟩) w:=h
 have h1:=h.recell (i:=i1) (f':=f1') (upd_same _ _ _) (rowL_congr ks1 n1 0 fun j _ hj=>hf1 j (by omega))
 rw[upd_two] at h1
 have h2:=h1.recell (i:=i2) (f':=f2') (by rw[upd_ne _ _ hne,upd_same]) (rowL_congr ks2 n2 0 fun j _ hj=>hf2 j (by omega))
 rw[upd_swap _ hne,upd_two] at h2
 exact h2
end
end Go.W

namespace Go.W
open Go
def nilS:Value:=.slice none 0 0
noncomputable def qoC (m:Nat) (g:Nat->List Value) (a:Int):Bool:=Nat.beq m m&&Nat.beq m m&&true&&decide (0<=a)&&decide (a<=(m:Int))&&Nat.ble m 1000000&&okY m g
end Go.W

namespace Go.W
open Go
def bSl:Nat:=nid 0 0
def bCo:Nat:=nid 0 1
def bsS (j:Nat):Value:=.slice (some ⟨bSl,0,none⟩) j j
def bsC (j:Nat):Value:=.slice (some ⟨bCo,0,none⟩) j j
def bsR (t32 j:Nat) (F:Nat->List Value):Nat×Blk:=(bSl,⟨.row k32 j F,t32,true⟩)
def bcR (tP j:Nat) (F:Nat->List Value):Nat×Blk:=(bCo,⟨.row kP9 j F,tP,true⟩)
section
open Go.RowKit (Below)
variable {GL:Glob} {w0:Wb GL} {n:Nat} {R:Nat->Pl->Prop} {a:Act} {w:World}
end
noncomputable def q1I (m:Nat) (q0:Int×Bool):Nat->Int×Bool
 | 0=>q0
 | j+1=>tkS m (q1I m q0 j) 32
noncomputable def sVl (m:Nat) (g:Nat->List Value) (q0:Int×Bool) (j:Nat):Nat:=rnN m g (q1I m q0 j).1 (q1I m q0 j).2
theorem inQ_1I {m:Nat} {q0:Int×Bool} (h:inQ m q0):∀j,inQ m (q1I m q0 j)
 | 0=>h
 | j+1=>inQ_tk (inQ_1I h j) (n:=32) (by decide)
theorem tkC_in {m:Nat} {q:Int×Bool} (h:inQ m q) (hm:m<=1000000) {n:Int} (h1:1<=n) (h2:n<=100000):tkC m q.1 n=true:=tkC_true h.1 h.2 hm h1 h2
theorem qoC_in {m:Nat} {g:Nat->List Value} (hg:okY m g=true) {q:Int×Bool} (h:inQ m q) (hm:m<=1000000):qoC m g q.1=true:=by
 unfold qoC
 rw[Nat.beq_refl,decide_eq_true h.1,decide_eq_true h.2,Nat.ble_eq_true_of_le hm,hg];rfl
theorem szOk_mul {n b:Nat} (h:n*b<=1000000):szOk n b=true:=by unfold szOk;rw[Nat.ble_eq];omega
theorem bb3 (j:Nat):(true&&Nat.beq j j&&true&&true)=true:=by rw[Nat.beq_refl];rfl
end Go.W

namespace Go.W
open Go
theorem Right_sam {a b:AR} (h:Sam a b) (hb:Right b):Right a:=by
 obtain ⟨e1,e2,e3,e4,e5,e6,e7,e8,e9⟩:=h
 unfold Right at hb ⊢
 rw[<-e1,<-e2,<-e3,<-e4,<-e6,<-e8,<-e9] at hb
 rcases hb with h | ⟨a1,a2,a3,a4,a5,a6,a7,a8,a9,a10⟩ | h | h | h
 ·exact .inl h
 ·refine .inr (.inl ⟨a1,a2,a3,a4,a5,a6,a7,a8,?_,?_⟩)
  ·rw[alP_congr e7];exact a9
  ·rw[e7 0 (by omega)];exact a10
 ·exact .inr (.inr (.inl h))
 ·exact .inr (.inr (.inr (.inl h)))
 ·exact .inr (.inr (.inr (.inr h)))
def zeR:AR:=⟨0,zR,⟨#[]⟩,0,fun _=>0,0,fun _=>zR,0,(0,0)⟩
def isRd (L:List Nat):Prop:=∃a,Right a∧Wsl a∧wr0 a=L
noncomputable def raB (L:List Nat):Bool:=hide (@decide (isRd L) (Classical.propDecidable _))
noncomputable def raA (L:List Nat):AR:=hide (@dite AR (isRd L) (Classical.propDecidable _) (fun h=>Classical.choose h) fun _=>zeR)
theorem raB_yes {L:List Nat} (h:isRd L):raB L=true:=by unfold raB;rw[hide_eq];exact @decide_eq_true _ (Classical.propDecidable _) h
theorem raB_no {L:List Nat} (h:¬isRd L):raB L=false:=by unfold raB;rw[hide_eq];exact @decide_eq_false _ (Classical.propDecidable _) h
theorem raA_no {L:List Nat} (h:¬isRd L):raA L=zeR:=by unfold raA;rw[hide_eq];exact dif_neg h
theorem raA_is {L:List Nat} (h:isRd L):Right (raA L)∧Wsl (raA L)∧wr0 (raA L)=L:=by
 have e:raA L=Classical.choose h:=by unfold raA;rw[hide_eq];exact dif_pos h
 rw[e];exact Classical.choose_spec h
theorem raA_of {a:AR} {L:List Nat} (h:Right a) (hw:Wsl a) (e:wr0 a=L):Sam a (raA L):=by
 obtain ⟨h1,h2,h3⟩:=raA_is ⟨a,h,hw,e⟩
 exact(wr0_uni (s:=[]) (t:=[]) h h1 hw h2 (by rw[e,h3])).1
theorem isA_ac {mm:Nat->Option Blk} {k:Int} {K:RP} {lab:ByteArray} {s c:Value} {g:Int} {X:Nat×Nat} {n m:Nat} {f q:Nat->List Value} (hs:srcB mm k32 s=(true,n,f)) (h1:okSl n f=true) (hc:srcB mm kP9 c=(true,m,q)) (h2:okP m q=true):isA mm (acV k K lab s c g X)=true:=by
 have e:isA mm (acV k K lab s c g X)=(Nat.beq 22 22&&(true&&(isPt (ptV K)&&(true&&(true&&(isPrf (prV X.1 X.2)&&((srcB mm k32 s).1&&(okSl (srcB mm k32 s).2.1 (srcB mm k32 s).2.2&&((srcB mm kP9 c).1&&okP (srcB mm kP9 c).2.1 (srcB mm kP9 c).2.2))))))))):=rfl
 rw[e,isPt_ptV,isPrf_prV,hs,hc,h1,h2];rfl
theorem unA_ac {mm:Nat->Option Blk} {k:Int} {K:RP} {lab:ByteArray} {s c:Value} {g:Int} {X:Nat×Nat} {n m:Nat} {f q:Nat->List Value} (hK:okR K) (hX:X.1<2^256) (hX':X.2<2^256) (hs:srcB mm k32 s=(true,n,f)) (hc:srcB mm kP9 c=(true,m,q)):unA mm (acV k K lab s c g X)=⟨k,K,lab,n,slA f,m,pA q,g,X⟩:=by
 have e:unA mm (acV k K lab s c g X)=⟨k,unPt (ptV K),lab,(srcB mm k32 s).2.1,slA (srcB mm k32 s).2.2,(srcB mm kP9 c).2.1,pA (srcB mm kP9 c).2.2,g,unPrf (prV X.1 X.2)⟩:=rfl
 rw[e,unPt_ptV hK,unPrf_prV hX hX',hs,hc]
def nilF:Nat->List Value:=fun _=>[]
def nlA (k:Int) (K:RP) (lab:ByteArray) (g:Int) (X:Nat×Nat):AR:=⟨k,K,lab,0,slA nilF,0,pA nilF,g,X⟩
end Go.W

namespace Go.W
open Go
def q00:Int×Bool:=(0,false)
theorem inQ_00 (m:Nat):inQ m q00:=⟨Int.le_refl 0,Int.natCast_nonneg m⟩
theorem stO_00 (L:List Nat):stO L q00=some L:=rfl
section
variable {m:Nat} {g:Nat->List Value} (hm:m<=1000000) (hg:okY m g=true)
include hg
end
end Go.W

namespace Go.W
open Go
theorem txB_row {n:Nat} {f:Nat->List Value} {p:List Nat} (h:Holds n f p) (hb:∀b∈p,b<256):txB (rowS n f)=p∧(rowS n f).size=n:=by
 have hs:=rwS_size n f
 refine⟨?_,hs⟩
 have h1:=rep_str (rowS n f)
 rw[hs] at h1
 refine rep_uniq h1 (rep_congr h fun j hj=>?_) rfl
 show((((rowS n f).data.toList.getD j 0).toNat:Nat):Int)=bI f j
 have e1:byt (rowS n f) j=(bI f j).toNat % 256:=rwS_byt hj
 have e2:=h.2 j hj
 have e3:p.getD j 0<256:=by
  have hl:j<p.length:=by rw[<-h.1];exact hj
  rw[List.getD_eq_getElem?_getD,List.getElem?_eq_getElem hl]
  exact hb _ (List.getElem_mem hl)
 unfold byt at e1
 rw[e1,e2]
 omega
section
variable {m:Nat} {g:Nat->List Value} (hm:m<=1000000) (hg:okY m g=true)
include hm
end
end Go.W

namespace Go.W
open Go
section
variable {m:Nat} {g:Nat->List Value} (hg:okY m g=true)
include hg
theorem s1_back {q0:Int×Bool} (hq:inQ m q0):∀{n:Nat} {r:List Nat},stO (lsB m g) (q1I m q0 n)=some r->stO (lsB m g) q0=some (syS (sVl m g q0) n++r)
 | 0,_,h=>h
 | n+1,r,h=>by
  have h1:=(rn_some hg (inQ_1I hq n) h).1
  have:=s1_back hq h1
  rw[this,syS,List.append_assoc];rfl
theorem s1_to {q0:Int×Bool} (hq:inQ m q0) {S:Nat->Nat}:∀{n:Nat} {r:List Nat},(∀j,j<n->S j<2^256)->stO (lsB m g) q0=some (syS S n++r)->stO (lsB m g) (q1I m q0 n)=some r∧∀j,j<n->sVl m g q0 j=S j
 | 0,_,_,h=>⟨h,fun j hj=>absurd hj (Nat.not_lt_zero _)⟩
 | n+1,r,hS,h=>by
  rw[syS,List.append_assoc] at h
  obtain ⟨h1,h2⟩:=s1_to hq (fun j hj=>hS j (by omega)) h
  obtain ⟨h3,h4⟩:=rn_back hg (inQ_1I hq n) (hS n (by omega)) h1
  refine⟨h3,fun j hj=>?_⟩
  by_cases e:j=n
  ·rw[e];exact h4
  ·exact h2 j (by omega)
end
theorem stO_ok {L:List Nat} {q:Int×Bool} {r:List Nat} (h:stO L q=some r):q.2=false:=by
 unfold stO at h
 cases hz:q.2 with
 | false=>rfl
 | true=>rw[hz,if_pos rfl] at h;cases h
section
variable {m:Nat} {g:Nat->List Value} (hg:okY m g=true)
include hg
end
end Go.W

namespace Go.W
open Go
def rdV2 (id:Nat) (A:AR) (b:Value):Value:=.tuple #[acV A.k A.K A.l (nSk id 0 A.n) (nSk id 1 A.m) A.g A.X,b]
noncomputable def raR (t32 tP id:Nat) (L:List Nat):List (Nat×Blk):=rwA t32 tP id (raA L).n (slF (raA L).S) (raA L).m (ptF (raA L).V)
noncomputable def raE (L:List Nat):Int:=hide (if raB L=true then 0 else 7)
noncomputable def RacF (t32 tP:Nat):List Value->(Nat->Option Blk)->Nat->List (Bool×Value×List (Nat×Blk))
 | [v],mm,id=>[((srcB mm kB v).1&&Nat.ble (srcB mm kB v).2.1 1000000&&okY (srcB mm kB v).2.1 (srcB mm kB v).2.2,rdV2 id (raA (lsB (srcB mm kB v).2.1 (srcB mm kB v).2.2)) (i64 (raE (lsB (srcB mm kB v).2.1 (srcB mm kB v).2.2))),raR t32 tP id (lsB (srcB mm kB v).2.1 (srcB mm kB v).2.2))]
 | _,_,_=>[]
section
open Go.RowKit (Below)
variable {GL:Glob} {w0:Wb GL} {R:Nat->Pl->Prop} {fm:Nat->Option Blk} {w:World}
theorem rd_nil2 {k:Int} {K:RP} {l:ByteArray} {g:Int} {X:Nat×Nat} {b v':Value} (h2:V2 R (.tuple #[acV k K l nilS nilS g X,b]) v') (h3:MRel w0 R fm w) {id:Nat} (hid:id<60000) (f0:fm (nid id 0)=none) (f1:fm (nid id 1)=none) (t32 tP:Nat) (f h:Nat->List Value) :
  ∃R':Nat->Pl->Prop,(∀i p,R i p->R' i p)∧V2 R' (.tuple #[acV k K l (nSk id 0 0) (nSk id 1 0) g X,b]) v'∧MRel w0 R' (memF fm (rwA t32 tP id 0 f 0 h)) w:=by
 obtain ⟨R1,a1,a2,a3⟩:=nil_step h3 hid (k:=0) (by decide) f0 k32 t32 f
 have hne:nid id 0≠nid id 1:=by unfold nid;omega
 obtain ⟨R2,b1,b2,b3⟩:=nil_step a3 hid (k:=1) (by decide) (by rw[upd_ne _ _ hne];exact f1) kP9 tP h
 refine⟨R2,fun i p hp=>b1 _ _ (a1 _ _ hp),?_,b3⟩
 obtain ⟨vs',rfl,hl⟩:=h2
 refine⟨vs',rfl,?_⟩
 have hl:LR (V1 R) [acV k K l nilS nilS g X,b] vs'.toList:=hl
 show LR (V1 R2) [acV k K l (nSk id 0 0) (nSk id 1 0) g X,b] vs'.toList
 revert hl
 generalize vs'.toList=us
 intro hl
 match us,hl with
 | [],h=>exact h.elim
 | [_],h=>exact h.2.elim
 | u::v::us,h =>
  obtain ⟨⟨cs',e1,e2⟩,hb,ht⟩:=h
  refine⟨⟨cs',e1,?_⟩,V1_mono (fun i p hp=>b1 _ _ (a1 _ _ hp)) hb,?_⟩
  ·have c0:LR (V0 R1) ((i64 k::(ptC K++[.string l]))++nilS::(nilS::i64 g::prL X)) cs'.toList:=LR_mono (fun _ _=>V0_mono a1) e2
   have c1:LR (V0 R1) ((i64 k::(ptC K++[.string l]))++nSk id 0 0::(nilS::i64 g::prL X)) cs'.toList:=LR_put a2 c0
   have c2:LR (V0 R2) ((i64 k::(ptC K++[.string l,nSk id 0 0]))++nilS::(i64 g::prL X)) cs'.toList:=LR_mono (fun _ _=>V0_mono b1) c1
   have c3:LR (V0 R2) ((i64 k::(ptC K++[.string l,nSk id 0 0]))++nSk id 1 0::(i64 g::prL X)) cs'.toList:=LR_put b2 c2
   exact c3
  ·cases us with
   | nil=>trivial
   | cons _ _=>exact ht.elim
theorem rd_same {A B:AR} (h:Sam A B) {id:Nat} {b v':Value} (h2:V2 R (rdV2 id A b) v'):V2 R (rdV2 id B b) v':=by
 obtain ⟨e1,e2,e3,e4,e5,e6,e7,e8,e9⟩:=h
 unfold rdV2 at h2 ⊢
 rw[e1,e2,e3,e4,e6,e8,e9] at h2;exact h2
theorem rd_rows {A B:AR} (h:Sam A B) {t32 tP id:Nat} (h3:MRel w0 R (memF fm (rwA t32 tP id A.n (slF A.S) A.m (ptF A.V))) w):MRel w0 R (memF fm (rwA t32 tP id B.n (slF B.S) B.m (ptF B.V))) w:=by
 obtain ⟨e1,e2,e3,e4,e5,e6,e7,e8,e9⟩:=h
 have hne:nid id 1≠nid id 0:=by unfold nid;omega
 unfold rwA at h3 ⊢
 rw[<-e4,<-e6]
 exact h3.recell2 hne (ptF_congr e7) (fun j hj=>by show nrmK k32 (slC (A.S j))=nrmK k32 (slC (B.S j));rw[e5 j hj])
end
section
variable {P:Program} [Laid P]
end
end Go.W

namespace Go.W
open Go.RowKit (Below)
def dedupN:List Nat->List Nat
 | []=>[]
 | x::l=>bif nmem x l then dedupN l else x::dedupN l
def memOf (mm:Nat->Option Blk):List Nat->List (Nat×Blk)
 | []=>[]
 | b::l=>oK (mm b) (fun blk=>(b,blk)::memOf mm l) (memOf mm l)
def inB (blk:Blk):Bool :=
 match blk.cells with
 | .itr _ _=>false
 | .fam _ _ _ _=>!blk.own
 | _=>true
def inOk (mm:Nat->Option Blk) (ds:List Nat) (b:Nat):Bool:=Nat.blt b 1000000000&&oK (mm b) (fun blk=>inB blk&&(idsC blk.cells).all fun x=>nmem x ds) false
def idsT (v:Value):List Nat :=
 match v with
 | .tuple vs=>vs.toList.flatMap idsV
 | v=>idsV v
def numN (id:Nat):Nat->List Nat->Ren
 | _,[]=>[]
 | q,x::r=>(nid id q,x)::numN id (q+1) r
def isOwn (mm:Nat->Option Blk) (b:Nat):Bool:=oK (mm b) (fun blk=>blk.own) false
def ownL (mm:Nat->Option Blk):List Nat->List Nat
 | []=>[]
 | b::l=>bif isOwn mm b then b::ownL mm l else ownL mm l
def isLR:Cells->Bool
 | .lst _=>true
 | .row _ _ _=>true
 | _=>false
def outD (mm:Nat->Option Blk) (mem:Nat->Option Blk) (b:Nat):Bool:=oK (mem b) (fun blk=>oK (mm b) (fun blk0=>Nat.beq blk.elem blk0.elem&&isLR blk.cells) false) false
def outN (mem:Nat->Option Blk) (b:Nat):Bool:=oK (mem b) (fun blk=>match blk.cells with
 | .lst l=>blk.own||l.isEmpty
 | .row _ _ _=>blk.own
 | .tail _ _ _ _=>true
 | _=>false) false
def newN (mem:Nat->Option Blk) (ds:List Nat) (v:Value) (os:List Nat):List Nat:=dedupN ((reach mem (idsT v++os)).filter fun b=>!(nmem b ds))
section
variable {R:Type}
def expN (mm:Nat->Option Blk) (ds os nw:List Nat) (id:Nat) (v:Value) (s:St) (k:Value->List (Nat×Blk)->R) (f:R):R :=
 bif nw.all (outN (look s.mem))&&os.all (outD mm (look s.mem))&&Nat.ble nw.length 8&&renOk (numN id 0 nw++idR ds) then
  oK (ren2 (swapR (numN id 0 nw++idR ds)) v) (fun u=>oK (getMem s (swapR (numN id 0 nw++idR ds)) (numN id 0 nw++idR os)) (fun me=>k u me) f) f else f
def inG (T:Tab) (G:Sums) (n:Nat) (L:List (List Nat×(St->List (Bool×Exit×St)))) (kb:Nat->Bool) (fn:Func) (c:Code) (fuel:Nat) (vs:List Value) (mm:Nat->Option Blk) (ds:List Nat) (id:Nat) (k:Value->List (Nat×Blk)->R) (f:R):R :=
 bif ds.all (inOk mm ds)&&(vs.flatMap idsV).all (fun b=>nmem b ds)&&ds.all kb&&Nat.ble vs.length n&&vs.all notTup then
  evK ⟨T,G,n,L⟩ fuel [] c ⟨argSlots 0 vs,memOf mm ds,id+1⟩ (fun e s=>endK T fn e s (fun v=>bif noTT v then expN mm ds (ownL mm ds) (newN (look s.mem) ds v (ownL mm ds)) id v s k f else f) f) f else f
end
def inF (T:Tab) (G:Sums) (n:Nat) (L:List (List Nat×(St->List (Bool×Exit×St)))) (kb:Nat->Bool) (fn:Func) (c:Code) (fuel:Nat) (R:Type) (vs:List Value) (mm:Nat->Option Blk) (rd:List Nat) (id:Nat) (k:Value->List (Nat×Blk)->R) (f:R):R :=
 inG T G n L kb fn c fuel vs mm (dedupN rd) id k f
theorem endK_nat {R R':Type} (h:R->R') (T:Tab) (fn:Func) (e:Exit) (s:St) (k:Value->R) (f:R):h (endK T fn e s k f)=endK T fn e s (fun v=>h (k v)) (h f):=by
 cases e<;>simp only[endK,resK_nat h,oneK_nat h]
theorem expN_nat {R R':Type} (h:R->R') (mm:Nat->Option Blk) (ds os nw:List Nat) (id:Nat) (v:Value) (s:St) (k:Value->List (Nat×Blk)->R) (f:R):h (expN mm ds os nw id v s k f)=expN mm ds os nw id v s (fun a b=>h (k a b)) (h f):=by
 simp only[expN,cond_nat h,oK_nat h]
theorem inF_nat (T:Tab) (G:Sums) (n:Nat) (L:List (List Nat×(St->List (Bool×Exit×St)))) (kb:Nat->Bool) (fn:Func) (c:Code) (fuel:Nat) (R R':Type) (h:R->R') (vs:List Value) (mm:Nat->Option Blk) (rd:List Nat) (id:Nat) (k:Value->List (Nat×Blk)->R) (f:R) :
  h (inF T G n L kb fn c fuel R vs mm rd id k f)=inF T G n L kb fn c fuel R' vs mm rd id (fun v l=>h (k v l)) (h f):=by
 simp only[inF,inG,cond_nat h,evK_nat h,endK_nat h,expN_nat h]
def inlL (T:Tab) (G:Sums) (n:Nat) (L:List (List Nat×(St->List (Bool×Exit×St)))) (kb:Nat->Bool) (fn:Func) (c:Code) (fuel:Nat):Ent:=.il (inF T G n L kb fn c fuel) (inF_nat T G n L kb fn c fuel)
def inl (T:Tab) (G:Sums) (n:Nat) (fn:Func) (c:Code):Ent:=inlL T G n [] (fun _=>true) fn c 80
section
variable {R R':Nat->Pl->Prop}
theorem V00_ids {v v':Value} (h:∀b∈idsV00 v,∀p,R b p->R' b p) (hv:V00 R v v'):V00 R' v v':=by
 unfold V00 at hv ⊢
 split at hv
 ·obtain ⟨p,b,h1,h2,h3⟩:=hv;exact⟨p,b,h _ (by simp[idsV00]) _ h1,h2,h3⟩
 ·obtain ⟨p,h1,h2⟩:=hv;exact⟨p,h _ (by simp[idsV00]) _ h1,h2⟩
 ·exact hv
 ·exact hv
 ·exact hv
 ·exact hv
theorem LR_ids {r r':Value->Value->Prop} {ids:Value->List Nat} (hr:∀v v',(∀b∈ids v,∀p,R b p->R' b p)->r v v'->r' v v'):∀{l l':List Value},(∀b∈l.flatMap ids,∀p,R b p->R' b p)->LR r l l'->LR r' l l'
 | [],[],_,_=>trivial
 | v::l,v'::l',h,hl=>⟨hr v v' (fun b hb=>h b (by rw[List.flatMap_cons];exact List.mem_append_left _ hb)) hl.1,LR_ids hr (fun b hb=>h b (by rw[List.flatMap_cons];exact List.mem_append_right _ hb)) hl.2⟩
 | [],_::_,_,hl=>hl.elim
 | _::_,[],_,hl=>hl.elim
theorem cells_one {v:Value} (h:∀cs,v≠.agg cs):v.cells=#[v]:=by
 unfold Value.cells;split
 ·exact absurd rfl (h _)
 ·rfl
theorem VI_ids {v v':Value} (h:∀b∈v.cells.toList.flatMap idsV00,∀p,R b p->R' b p) (hv:VI R v v'):VI R' v v':=by
 by_cases hag:∃cs,v=.agg cs
 ·obtain ⟨cs,rfl⟩:=hag
  obtain ⟨cs',rfl,hl⟩:=hv
  exact⟨cs',rfl,LR_ids (r:=V00 R) (r':=V00 R') (fun _ _=>V00_ids) h hl⟩
 ·have hne:∀cs,v≠.agg cs:=fun cs e=>hag ⟨cs,e⟩
  have e:∀Q,VI Q v v'=V00 Q v v':=by
   intro Q;unfold VI;split
   ·exact absurd rfl (hne _)
   ·rfl
  rw[e] at hv ⊢
  refine V00_ids (fun b hb=>h b ?_) hv
  rw[cells_one hne]
  simpa using hb
theorem V0_ids {v v':Value} (h:∀b∈idsV0 v,∀p,R b p->R' b p) (hv:V0 R v v'):V0 R' v v':=by
 unfold V0 at hv ⊢
 split at hv
 ·obtain ⟨p,b,h1,h2,h3⟩:=hv;exact⟨p,b,h _ (by simp[idsV0]) _ h1,h2,h3⟩
 ·obtain ⟨p,h1,h2⟩:=hv;exact⟨p,h _ (by simp[idsV0]) _ h1,h2⟩
 ·exact hv
 ·exact hv
 ·obtain ⟨x',rfl,hx⟩:=hv;exact⟨x',rfl,VI_ids h hx⟩
 ·exact hv
theorem V1_ids {v v':Value} (h:∀b∈idsV v,∀p,R b p->R' b p) (hv:V1 R v v'):V1 R' v v':=by
 by_cases hag:∃cs,v=.agg cs
 ·obtain ⟨cs,rfl⟩:=hag
  obtain ⟨cs',rfl,hl⟩:=hv
  exact⟨cs',rfl,LR_ids (r:=V0 R) (r':=V0 R') (fun _ _=>V0_ids) h hl⟩
 ·have hne:∀cs,v≠.agg cs:=fun cs e=>hag ⟨cs,e⟩
  have e:∀Q,V1 Q v v'=V0 Q v v':=by
   intro Q;unfold V1;split
   ·exact absurd rfl (hne _)
   ·rfl
  have e2:idsV v=idsV0 v:=by
   unfold idsV;split
   ·exact absurd rfl (hne _)
   ·rfl
  rw[e] at hv ⊢
  rw[e2] at h
  exact V0_ids h hv
theorem V2_ids {v v':Value} (ht:notTup v=true) (h:∀b∈idsV v,∀p,R b p->R' b p) (hv:V2 R v v'):V2 R' v v':=V2_of_V1 (V1_ids h (V1_of_V2 hv ht))
end
theorem memOf_look {mm:Nat->Option Blk}:∀{ds:List Nat} {i:Nat},look (memOf mm ds) i=if i∈ds then mm i else none
 | [],i=>by simp[memOf,look]
 | b::l,i=>by
  unfold memOf
  cases hb:mm b with
  | none =>
   show look (memOf mm l) i=_
   rw[memOf_look]
   by_cases h:b=i
   ·subst h;simp[hb]
   ·simp[Ne.symm h]
  | some blk =>
   show look ((b,blk)::memOf mm l) i=_
   rw[look_cons]
   by_cases h:b=i
   ·subst h;rw[upd_same];simp[hb]
   ·rw[upd_ne _ _ h,memOf_look];simp[Ne.symm h]
section
variable {GL:Glob} {w0:Wb GL} {R:Nat->Pl->Prop} {fm:Nat->Option Blk} {w:World}
def XIn (R:Nat->Pl->Prop) (mm:Nat->Option Blk) (ds:List Nat) (b:Nat):Prop:=∃i p blk,R i p∧i∈ds∧p.a=some b∧mm i=some blk∧blk.own=true
def wIn (GL:Glob) (R:Nat->Pl->Prop) (mm:Nat->Option Blk) (ds:List Nat) (w:World):Wb GL:=⟨w,XIn R mm ds,R⟩
def RIn (R:Nat->Pl->Prop) (ds:List Nat) (i:Nat) (p:Pl):Prop:=R i p∧(i∈ds∨1000000000<=i)
theorem inOk_some {mm:Nat->Option Blk} {ds:List Nat} {b:Nat} (h:inOk mm ds b=true):b<1000000000∧∃blk,mm b=some blk∧inB blk=true∧∀x∈idsC blk.cells,x∈ds:=by
 unfold inOk at h
 rw[Bool.and_eq_true,Nat.blt_eq] at h
 obtain ⟨h0,h⟩:=h
 refine⟨h0,?_⟩
 cases hb:mm b with
 | none=>rw[hb] at h;cases h
 | some blk =>
  rw[hb] at h
  have h:(inB blk&&(idsC blk.cells).all fun x=>nmem x ds)=true:=h
  rw[Bool.and_eq_true,List.all_eq_true] at h
  exact⟨blk,rfl,h.1,fun x hx=>nmem_iff.1 (h.2 x hx)⟩
theorem in_rel (h:MRel w0 R fm w) {mm:Nat->Option Blk} (hsub:∀b blk,mm b=some blk->fm b=some blk) {ds:List Nat} (hds:ds.all (inOk mm ds)=true):MRel (wIn GL R mm ds w) (RIn R ds) (look (memOf mm ds)) w:=by
 have hok:∀b∈ds,b<1000000000∧∃blk,mm b=some blk∧inB blk=true∧∀x∈idsC blk.cells,x∈ds:=fun b hb=>inOk_some (List.all_eq_true.1 hds b hb)
 have hlk:∀i blk,look (memOf mm ds) i=some blk->i∈ds∧mm i=some blk∧fm i=some blk∧inB blk=true∧∀x∈idsC blk.cells,x∈ds:=by
  intro i blk hi
  rw[memOf_look] at hi
  split at hi
  ·rename_i hm
   obtain ⟨_,blk2,h2,h3,h4⟩:=hok i hm
   rw[hi] at h2;cases h2
   exact⟨hm,hi,hsub _ _ hi,h3,h4⟩
  ·cases hi
 refine⟨BelowX.refl _ _ _ h.below.gok ?_,fun i p p' h1 h2=>h.func i p p' h1.1 h2.1,?_,?_,?_,fun i p h1 _ _=>h1.1,?_,?_⟩
 ·rintro x hx ⟨i,p,blk,h1,h2,h3,h4,h5⟩
  obtain ⟨fz1,k1⟩:=h.below.glob.1 x hx
  have k2:=h.below.glob.2 x hx
  rcases h.ownX h1 h3 (hsub _ _ h4) h5 with h6 | h6
  ·exact k2 h6
  ·have:=heap_lt k1;omega
 ·intro i j p q b h1 h2 ha hb hne blk hblk hown blk' hblk'
  exact h.inj i j p q b h1.1 h2.1 ha hb hne blk (hlk _ _ hblk).2.2.1 hown blk' (hlk _ _ hblk').2.2.1
 ·intro i blk hi
  obtain ⟨hm,hmi,hfi,hib,hcl⟩:=hlk i blk hi
  have hmo:=h.mem i blk hfi
  obtain ⟨cells,elem,own⟩:=blk
  have cont:ContOk w0 R w i ⟨cells,elem,own⟩->(∀l',LP R cells.list l'->LP (RIn R ds) cells.list l')->ContOk (wIn GL R mm ds w) (RIn R ds) w i ⟨cells,elem,own⟩:=by
   rintro ⟨p,k1,k2⟩ hl
   refine⟨p,⟨k1,.inl hm⟩,?_⟩
   cases hpa:p.a with
   | none=>rw[hpa] at k2;exact k2
   | some b =>
    rw[hpa] at k2
    obtain ⟨cs,fz,k3,k4,k5⟩:=k2
    refine⟨cs,fz,k3,hl _ k4,fun ho=>⟨(k5 ho).1,.inl ⟨i,p,_,k1,hm,hpa,hmi,ho⟩,(k5 ho).2.2⟩⟩
  cases cells with
  | lst l =>
   refine cont hmo fun l' hl'=>?_
   exact LR_ids (R:=R) (R':=RIn R ds) (r:=V0 R) (r':=V0 (RIn R ds)) (fun _ _=>V0_ids) (fun b hb p hp=>⟨hp,.inl (hcl b hb)⟩) hl'
  | row ks n f =>
   refine cont hmo fun l' hl'=>?_
   exact LP_plain (rowL_pl _ _ _ _) ((LR_plain (r:=V0 R) (pl:=pl0) (fun _ _ hv=>V0_plain hv) (rowL_pl ks f n 0)).1 hl')
  | elt j k sz =>
   obtain ⟨p,q,b,k1,k2,k3⟩:=hmo
   exact⟨p,q,b,⟨k1,.inl (hcl j (List.mem_singleton.2 rfl))⟩,⟨k2,.inl hm⟩,k3⟩
  | tail j l cnt sz =>
   obtain ⟨p,q,k1,k2,k3⟩:=hmo
   exact⟨p,q,⟨k1,.inl (hcl j (List.mem_singleton.2 rfl))⟩,⟨k2,.inl hm⟩,k3⟩
  | fam ks n es g =>
   have hown:own=false:=by simpa [inB] using hib
   subst hown
   obtain ⟨p,k1,k2⟩:=hmo
   refine⟨p,⟨k1,.inl hm⟩,?_⟩
   cases hpa:p.a with
   | none=>rw[hpa] at k2;exact k2
   | some b =>
    rw[hpa] at k2
    obtain ⟨cs,fz,k3,k4,k5,k6⟩:=k2
    refine⟨cs,fz,k3,fun j hj=>?_,fun hf=>⟨k5 hf,.inr (Nat.le_add_right _ _)⟩,fun ho=>by cases ho⟩
    obtain ⟨v,h5,h6⟩:=k4 j hj
    refine⟨v,h5,?_⟩
    rcases h6 with h6 | ⟨b2,d,c,cs2,fz2,o1,o2,o3,o4⟩
    ·exact .inl h6
    ·exact .inr ⟨b2,d,c,cs2,fz2,o1,o2,⟨o3,.inr (Nat.le_add_right _ _)⟩,o4⟩
  | itr s pos=>simp[inB] at hib
 ·rintro i p ⟨h1,h2⟩ hlt
  rcases h2 with h2 | h2
  ·obtain ⟨_,blk,h3,_⟩:=hok i h2
   rw[memOf_look,if_pos h2,h3];rfl
  ·omega
 ·rintro i p b ⟨h1,h2⟩ hb
  rcases h.there i p b h1 hb with hc | ⟨s,pos,h3,h4,h5⟩
  ·exact .inl hc
  ·rcases h2 with h2 | h2
   ·obtain ⟨_,blk,h6,h7,_⟩:=hok i h2
    have:=hsub _ _ h6
    rw[h4] at this;cases this
    simp[inB] at h7
   ·have:loose i=true:=by
     unfold loose
     rw[show Nat.ble 1500000 i=true from by rw[Nat.ble_eq];omega]
     simp
    rw[this] at h3;cases h3
 ·rintro i p ⟨h1,_⟩ hge
  obtain ⟨h3,h4⟩:=h.fro i p h1 hge
  exact⟨h3,fun j q hj hq blk hblk=>h4 j q hj.1 hq blk (hlk _ _ hblk).2.2.1⟩
end
theorem look_app {α:Type} {b:List (Nat×α)}:∀{a:List (Nat×α)} {i:Nat},look (a++b) i=(match look a i with
  | some x=>some x
  | none=>look b i)
 | [],i=>rfl
 | (x,y)::a,i=>by
  rw[List.cons_append,look_cons,look_cons]
  by_cases h:x=i
  ·subst h;rw[upd_same,upd_same]
  ·rw[upd_ne _ _ h,upd_ne _ _ h,look_app]
theorem memF_look {fm:Nat->Option Blk}:∀{l:List (Nat×Blk)} {i:Nat},memF fm l i=(match look l i with
  | some b=>some b
  | none=>fm i)
 | [],i=>rfl
 | (x,y)::l,i=>by
  rw[memF,look_cons]
  show upd (memF fm l) x y i=_
  by_cases h:x=i
  ·subst h;rw[upd_same,upd_same]
  ·rw[upd_ne _ _ h,upd_ne _ _ h,memF_look]
theorem look_memB {α:Type}:∀{l:List (Nat×α)} {i:Nat} {b:α},look l i=some b->(i,b)∈l
 | [],i,b,h=>by simp[look] at h
 | (x,y)::l,i,b,h=>by
  rw[look_cons] at h
  by_cases hx:x=i
  ·subst hx;rw[upd_same] at h;cases h;exact List.mem_cons_self ..
  ·rw[upd_ne _ _ hx] at h;exact List.mem_cons_of_mem _ (look_memB h)
theorem look_idR:∀{l:List Nat} {i o:Nat},look (idR l) i=some o->o=i∧i∈l
 | [],i,o,h=>by simp[idR,look] at h
 | x::l,i,o,h=>by
  have h:look ((x,x)::idR l) i=some o:=h
  rw[look_cons] at h
  by_cases hx:x=i
  ·subst hx;rw[upd_same] at h;cases h;exact⟨rfl,List.mem_cons_self ..⟩
  ·rw[upd_ne _ _ hx] at h
   obtain ⟨h1,h2⟩:=look_idR h
   exact⟨h1,List.mem_cons_of_mem _ h2⟩
theorem look_idR_of:∀{l:List Nat} {i:Nat},i∈l->look (idR l) i=some i
 | x::l,i,h=>by
  show look ((x,x)::idR l) i=some i
  rw[look_cons]
  by_cases hx:x=i
  ·subst hx;rw[upd_same]
  ·rw[upd_ne _ _ hx]
   exact look_idR_of ((List.mem_cons.1 h).resolve_left (Ne.symm hx))
theorem look_numN {id:Nat}:∀{l:List Nat} {q i x:Nat},look (numN id q l) i=some x->x∈l∧nid id q<=i∧i<nid id (q+l.length)
 | [],q,i,x,h=>by simp[numN,look] at h
 | y::l,q,i,x,h=>by
  rw[numN,look_cons] at h
  by_cases hx:nid id q=i
  ·subst hx;rw[upd_same] at h;cases h
   refine⟨List.mem_cons_self ..,Nat.le_refl _,?_⟩
   unfold nid;rw[List.length_cons];omega
  ·rw[upd_ne _ _ hx] at h
   obtain ⟨h1,h2,h3⟩:=look_numN h
   refine⟨List.mem_cons_of_mem _ h1,?_,?_⟩
   ·unfold nid at *;omega
   ·rw[List.length_cons];unfold nid at *;omega
theorem ownL_mem {mm:Nat->Option Blk} {b:Nat}:∀{l:List Nat},b∈ownL mm l↔b∈l∧isOwn mm b=true
 | []=>by simp[ownL]
 | x::l=>by
  unfold ownL
  cases h:isOwn mm x with
  | true =>
   rw[cond_true,List.mem_cons,List.mem_cons,ownL_mem]
   constructor
   ·rintro (rfl | ⟨h1,h2⟩)
    ·exact⟨.inl rfl,h⟩
    ·exact⟨.inr h1,h2⟩
   ·rintro ⟨rfl | h1,h2⟩
    ·exact .inl rfl
    ·exact .inr ⟨h1,h2⟩
  | false =>
   rw[cond_false,ownL_mem,List.mem_cons]
   constructor
   ·rintro ⟨h1,h2⟩;exact⟨.inr h1,h2⟩
   ·rintro ⟨rfl | h1,h2⟩
    ·rw[h] at h2;cases h2
    ·exact⟨h1,h2⟩
theorem isOwn_some {mm:Nat->Option Blk} {b:Nat} (h:isOwn mm b=true):∃blk,mm b=some blk∧blk.own=true:=by
 unfold isOwn at h
 cases hb:mm b with
 | none=>rw[hb] at h;cases h
 | some blk=>rw[hb] at h;exact⟨blk,rfl,h⟩
theorem isOwn_of {mm:Nat->Option Blk} {b:Nat} {blk:Blk} (h:mm b=some blk) (ho:blk.own=true):isOwn mm b=true:=by
 unfold isOwn;rw[h];exact ho
theorem outD_some {mm mem:Nat->Option Blk} {b:Nat} {blk0:Blk} (h0:mm b=some blk0) (h:outD mm mem b=true):∃c o,mem b=some ⟨c,blk0.elem,o⟩∧((∃l,c=.lst l)∨∃ks n f,c=.row ks n f):=by
 unfold outD at h
 cases hb:mem b with
 | none=>rw[hb] at h;cases h
 | some blk =>
  rw[hb,h0] at h
  obtain ⟨c,e,o⟩:=blk
  have h:(Nat.beq e blk0.elem&&isLR c)=true:=h
  rw[Bool.and_eq_true] at h
  have:=nbeq.1 h.1;subst this
  refine⟨c,o,rfl,?_⟩
  cases c with
  | lst l=>exact .inl ⟨l,rfl⟩
  | row ks n f=>exact .inr ⟨ks,n,f,rfl⟩
  | _=>simp[isLR] at h
theorem outN_some {mem:Nat->Option Blk} {b:Nat} (h:outN mem b=true):∃c e o,mem b=some ⟨c,e,o⟩∧((∃l,c=.lst l∧(o=true∨l=[]))∨(∃ks n f,c=.row ks n f∧o=true)∨∃j l n z,c=.tail j l n z):=by
 unfold outN at h
 cases hb:mem b with
 | none=>rw[hb] at h;cases h
 | some blk =>
  rw[hb] at h
  obtain ⟨c,e,o⟩:=blk
  refine⟨c,e,o,rfl,?_⟩
  cases c with
  | lst l =>
   have h:(o||l.isEmpty)=true:=h
   rw[Bool.or_eq_true,List.isEmpty_iff] at h
   exact .inl ⟨l,rfl,h⟩
  | row ks n f=>exact .inr (.inl ⟨ks,n,f,rfl,h⟩)
  | tail j l n z=>exact .inr (.inr ⟨j,l,n,z,rfl⟩)
  | _=>cases h
section
variable {GL:Glob} {w0:Wb GL} {R:Nat->Pl->Prop} {fm:Nat->Option Blk} {w:World}
theorem MRel.pl (h:MRel w0 R fm w) {i:Nat} {blk:Blk} (hi:fm i=some blk):∃p,R i p:=by
 have hm:=h.mem i blk hi
 unfold MemOk at hm
 split at hm
 ·obtain ⟨_,q,_,_,h2,_⟩:=hm;exact⟨q,h2⟩
 ·obtain ⟨_,q,_,h2,_⟩:=hm;exact⟨q,h2⟩
 ·obtain ⟨p,h2,_⟩:=hm;exact⟨p,h2⟩
 ·obtain ⟨b,h2,_⟩:=hm;exact⟨_,h2⟩
 ·obtain ⟨p,h2,_⟩:=hm;exact⟨p,h2⟩
def ROut (R R':Nat->Pl->Prop) (id:Nat) (nw:List Nat) (i:Nat) (p:Pl):Prop:=R i p∨∃x,look (numN id 0 nw) i=some x∧R' x p
theorem renC_nil {ρ:Ren} {c c':Cells} (h:renC ρ c=some c') (hl:c.list=[]):c'.list=[]:=by
 unfold renC at h
 split at h
 ·rename_i l
  obtain ⟨m,h1,h2⟩:=oK_some.1 h
  have hl:l=[]:=hl
  rw[hl] at h1
  simp only[renL,Option.some.injEq] at h1
  subst h1
  rw[<-Option.some.inj h2];rfl
 ·rw[<-Option.some.inj h];exact hl
 ·obtain ⟨_,_,h⟩:=oK_some.1 h;rw[<-Option.some.inj h];rfl
 ·obtain ⟨_,_,h⟩:=oK_some.1 h;rw[<-Option.some.inj h];rfl
 ·rw[<-Option.some.inj h];rfl
 ·rw[<-Option.some.inj h];rfl
theorem out_rel (h:MRel w0 R fm w) {mm:Nat->Option Blk} (hsub:∀b blk,mm b=some blk->fm b=some blk) {ds:List Nat} (hds:ds.all (inOk mm ds)=true) {R':Nat->Pl->Prop} {s:St} {w':World}
  (hc:MRel (wIn GL R mm ds w) R' (look s.mem) w') (hmono:∀i p,RIn R ds i p->R' i p) {id:Nat} (hlt:id<60000) {nw:List Nat} (hnw:nw.all (outN (look s.mem))=true) (hod:(ownL mm ds).all (outD mm (look s.mem))=true) (hlen:nw.length<=8)
  (hren:renOk (numN id 0 nw++idR ds)=true) {me:List (Nat×Blk)} (hme:getMem s (swapR (numN id 0 nw++idR ds)) (numN id 0 nw++idR (ownL mm ds))=some me) (hfree:∀i x,look (numN id 0 nw) i=some x->fm i=none) :
  MRel w0 (ROut R R' id nw) (memF fm me) w':=by
 have hok:∀b∈ds,b<1000000000∧∃blk,mm b=some blk∧inB blk=true∧∀x∈idsC blk.cells,x∈ds:=fun b hb=>inOk_some (List.all_eq_true.1 hds b hb)
 obtain ⟨g1,g2⟩:=getMem_look hme
 have hnum:∀i x,look (numN id 0 nw) i=some x->x∈nw∧i<1000000:=by
  intro i x hx
  obtain ⟨h1,h2,h3⟩:=look_numN hx
  refine⟨h1,?_⟩
  unfold nid at h3;omega
 have hk2:=hren
 unfold renOk at hk2
 simp only[Bool.and_eq_true] at hk2
 have hn1:=hk2.1.2
 have hn2:=hk2.2
 have hisnew:∀i x,look (numN id 0 nw) i=some x->look (numN id 0 nw++idR ds) i=some x:=by
  intro i x hx;rw[look_app,hx]
 have hisds:∀i,i∈ds->look (numN id 0 nw) i=none∧look (numN id 0 nw++idR ds) i=some i:=by
  intro i hi
  have:look (numN id 0 nw) i=none:=by
   cases hx:look (numN id 0 nw) i with
   | none=>rfl
   | some x =>
    obtain ⟨_,blk,h2,_⟩:=hok i hi
    exact absurd (hfree i x hx) (by rw[hsub _ _ h2];simp)
  exact⟨this,by rw[look_app,this];exact look_idR_of hi⟩
 have hisinv:∀i o,look (numN id 0 nw++idR ds) i=some o->look (numN id 0 nw) i=some o∨(i=o∧i∈ds∧look (numN id 0 nw) i=none):=by
  intro i o hx
  rw[look_app] at hx
  cases hy:look (numN id 0 nw) i with
  | some x=>rw[hy] at hx;exact .inl hx
  | none =>
   rw[hy] at hx
   obtain ⟨h1,h2⟩:=look_idR hx
   exact .inr ⟨h1.symm,h2,rfl⟩
  -- places of old numbers
 have hold:∀i,i∈ds->∀p,R' i p->R i p:=by
  intro i hi p hp
  obtain ⟨_,blk,h2,_⟩:=hok i hi
  obtain ⟨p0,hp0⟩:=h.pl (hsub _ _ h2)
  have:=hc.func _ _ _ hp (hmono i p0 ⟨hp0,.inl hi⟩)
  rw[this];exact hp0
 have hR2:∀i o p,look (numN id 0 nw++idR ds) i=some o->R' o p->ROut R R' id nw i p:=by
  intro i o p hx hp
  rcases hisinv i o hx with h1 | ⟨rfl,h2,_⟩
  ·exact .inr ⟨o,h1,hp⟩
  ·exact .inl (hold i h2 p hp)
  -- what the blocks are
 have hcl:∀i blk,memF fm me i=some blk->(∃o b0,look (numN id 0 nw) i=some o∧fm i=none∧look s.mem o=some b0∧renC (swapR (numN id 0 nw++idR ds)) b0.cells=some blk.cells∧blk.elem=b0.elem∧blk.own=b0.own∧outN (look s.mem) o=true)
   ∨ (∃b0 b1,i∈ds∧mm i=some b1∧b1.own=true∧look s.mem i=some b0∧renC (swapR (numN id 0 nw++idR ds)) b0.cells=some blk.cells∧blk.elem=b0.elem∧blk.own=b0.own∧∃c o,look s.mem i=some ⟨c,b1.elem,o⟩∧((∃l,c=.lst l)∨∃ks n f,c=.row ks n f))
   ∨ (fm i=some blk∧look (numN id 0 nw) i=none∧∀b1,i∈ds->mm i=some b1->b1.own=false):=by
  intro i blk hi
  rw[memF_look] at hi
  cases hl:look me i with
  | some b =>
   rw[hl] at hi;cases hi
   obtain ⟨o,b0,k1,k2,k3,k4,k5⟩:=g2 _ _ hl
   rw[look_app] at k1
   cases hy:look (numN id 0 nw) i with
   | some x =>
    rw[hy] at k1;cases k1
    exact .inl ⟨o,b0,rfl,hfree i o hy,k2,k3,k4,k5,List.all_eq_true.1 hnw o (hnum i o hy).1⟩
   | none =>
    rw[hy] at k1
    obtain ⟨h1,h2⟩:=look_idR k1
    subst h1
    have hos:=List.all_eq_true.1 hod o h2
    obtain ⟨h3,h4⟩:=ownL_mem.1 h2
    obtain ⟨b1,h5,h6⟩:=isOwn_some h4
    exact .inr (.inl ⟨b0,b1,h3,h5,h6,k2,k3,k4,k5,outD_some h5 hos⟩)
  | none =>
   rw[hl] at hi
   have hj:=(g1 i).1 hl
   rw[look_app] at hj
   cases hy:look (numN id 0 nw) i with
   | some x=>rw[hy] at hj;cases hj
   | none =>
    rw[hy] at hj
    refine .inr (.inr ⟨hi,rfl,fun b1 h1 h2=>?_⟩)
    cases ho:b1.own with
    | false=>rfl
    | true =>
     have:look (idR (ownL mm ds)) i=some i:=look_idR_of (ownL_mem.2 ⟨h1,isOwn_of h2 ho⟩)
     rw[this] at hj;cases hj
 have hRold:∀i p,ROut R R' id nw i p->look (numN id 0 nw) i=none->R i p:=by
  rintro i p (h1 | ⟨x,h1,_⟩) h2
  ·exact h1
  ·rw[h2] at h1;cases h1
 have hRnew:∀i o p,ROut R R' id nw i p->look (numN id 0 nw) i=some o->R' o p:=by
  rintro i o p (h1 | ⟨x,h1,h3⟩) h2
  ·have h5:=hfree i o h2
   have h6:=h.dom i p h1 (by have:=(hnum i o h2).2;omega)
   rw[h5] at h6;cases h6
  ·rw[h2] at h1;cases h1;exact h3
  -- the world
 have hsame:∀b,b<w.heap.size->¬XIn R mm ds b->w'.heap[b]?=w.heap[b]?:=fun b hb hx=>hc.below.block b hb hx
 have hX:∀b,XIn R mm ds b->∃i0 p0 b0,R i0 p0∧i0∈ds∧p0.a=some b∧mm i0=some b0∧b0.own=true∧(∃cs fz,w.heap[b]?=some (.cells cs b0.elem fz))∧∃cs fz,w'.heap[b]?=some (.cells cs b0.elem fz):=by
  rintro b ⟨i0,p0,b0,k1,k2,k3,k4,k5⟩
  refine⟨i0,p0,b0,k1,k2,k3,k4,k5,?_,?_⟩
  ·have hm:=h.mem i0 b0 (hsub _ _ k4)
   obtain ⟨_,b2,e1,e2,_⟩:=hok i0 k2
   rw[k4] at e1;cases e1
   unfold MemOk at hm
   split at hm
   ·obtain ⟨_,_,_,_,_,_,_,_,hf⟩:=hm;rw[hf] at k5;cases k5
   ·obtain ⟨_,_,_,_,_,hf⟩:=hm;rw[hf] at k5;cases k5
   ·rename_i hcc;unfold inB at e2;rw[hcc] at e2;rw[k5] at e2;cases e2
   ·rename_i hcc;unfold inB at e2;rw[hcc] at e2;cases e2
   ·obtain ⟨p,m1,m2⟩:=hm
    have:=h.func _ _ _ m1 k1;subst this
    rw[k3] at m2
    obtain ⟨cs,fz,m3,_⟩:=m2
    exact⟨cs,fz,m3⟩
  ·obtain ⟨c,o,e1,e2⟩:=outD_some k4 (List.all_eq_true.1 hod i0 (ownL_mem.2 ⟨k2,isOwn_of k4 k5⟩))
   have hco:ContOk (wIn GL R mm ds w) R' w' i0 ⟨c,b0.elem,o⟩:=by
    have:=hc.mem i0 _ e1
    rcases e2 with⟨l,rfl⟩ | ⟨ks,n,f,rfl⟩<;>exact this
   obtain ⟨p,m1,m2⟩:=hco
   have:=h.func _ _ _ (hold i0 k2 p m1) k1;subst this
   rw[k3] at m2
   obtain ⟨cs,fz,m3,_⟩:=m2
   exact⟨cs,fz,m3⟩
 have hXown:∀b,XIn R mm ds b->w0.X b∨w0.w.heap.size<=b:=by
  rintro b ⟨i0,p0,b0,k1,k2,k3,k4,k5⟩
  exact h.ownX k1 k3 (hsub _ _ k4) k5
 have hXn:∀b,(wIn GL R mm ds w).X b∨(wIn GL R mm ds w).w.heap.size<=b->w0.X b∨w0.w.heap.size<=b:=by
  rintro b (h1 | h1)
  ·exact hXown b h1
  ·exact .inr (Nat.le_trans h.below.size h1)
  -- an own block of the call's that lies where an old one lies
 have hmeet:∀i p b blk,R i p->p.a=some b->fm i=some blk->(∀b1,i∈ds->mm i=some b1->b1.own=false)->((wIn GL R mm ds w).X b∨(wIn GL R mm ds w).w.heap.size<=b)->weak blk:=by
  intro i p b blk h1 h2 h3 h4 h5
  rcases h5 with h5 | h5
  ·obtain ⟨i0,p0,b0,k1,k2,k3,k4,k5⟩:=h5
   refine h.inj i0 i p0 p b k1 h1 k3 h2 ?_ b0 (hsub _ _ k4) k5 blk h3
   rintro rfl
   rw[h4 b0 k2 k4] at k5;cases k5
  ·have h6:=h.lt h1 h2
   have h5:w.heap.size<=b:=h5
   omega
 refine⟨⟨hc.below.os.trans h.below.os,hc.below.tape.trans h.below.tape,hc.below.output.trans h.below.output,Nat.le_trans h.below.size hc.below.size,fun k hk hx=>?_,h.below.glob⟩,?_,?_,?_,?_,?_,?_,?_⟩
 ·rw[hsame k (Nat.lt_of_lt_of_le hk h.below.size) (fun hxi=>by
   rcases hXown k hxi with h1 | h1
   ·exact hx h1
   ·omega)]
  exact h.below.block k hk hx
 ·intro i p p' h1 h2
  cases hy:look (numN id 0 nw) i with
  | none=>exact h.func i p p' (hRold i p h1 hy) (hRold i p' h2 hy)
  | some o=>exact hc.func o p p' (hRnew i o p h1 hy) (hRnew i o p' h2 hy)
 ·intro i j p q b h1 h2 ha hb hne blk hblk hown blk' hblk'
    -- of the callee's two
  have both:∀o o' b0 b0',R' o p->R' o' q->o≠o'->look s.mem o=some b0->look s.mem o'=some b0'->blk.own=b0.own->renC (swapR (numN id 0 nw++idR ds)) b0'.cells=some blk'.cells->blk'.own=b0'.own->weak blk':=by
   intro o o' b0 b0' e1 e2 e3 e4 e5 e6 e7 e8
   obtain ⟨k1,k2⟩:=hc.inj o o' p q b e1 e2 ha hb e3 b0 e4 (by rw[<-e6];exact hown) b0' e5
   exact⟨by rw[e8];exact k1,renC_nil e7 k2⟩
  have hij:∀o,look (numN id 0 nw++idR ds) i=some o->look (numN id 0 nw++idR ds) j=some o->False:=fun o e1 e2=>hne (look_inj hn2 e1 e2)
  rcases hcl i blk hblk with⟨o,b0,y1,_,y2,y3,y4,y5,_⟩ | ⟨b0,b1,y1,y2,y3,y4,y5,y6,y7,_⟩ | ⟨y1,y2,y3⟩
  ·have hp:=hRnew i o p h1 y1
   rcases hcl j blk' hblk' with⟨o',b0',z1,_,z2,z3,z4,z5,_⟩ | ⟨b0',b1',z1,z2,z3,z4,z5,z6,z7,_⟩ | ⟨z1,z2,z3⟩
   ·exact both o o' b0 b0' hp (hRnew j o' q h2 z1) (fun e=>hij o (hisnew i o y1) (by rw[e];exact hisnew j o' z1)) y2 z2 y5 z3 z5
   ·have hq:=hRold j q h2 (hisds j z1).1
    exact both o j b0 b0' hp (hmono j q ⟨hq,.inl z1⟩) (fun e=>hij o (hisnew i o y1) (by rw[e];exact(hisds j z1).2)) y2 z4 y5 z5 z7
   ·exact hmeet j q b blk' (hRold j q h2 z2) hb z1 z3 (hc.ownX hp ha y2 (by rw[<-y5];exact hown))
  ·have hp:=hRold i p h1 (hisds i y1).1
   have hp':=hmono i p ⟨hp,.inl y1⟩
   rcases hcl j blk' hblk' with⟨o',b0',z1,_,z2,z3,z4,z5,_⟩ | ⟨b0',b1',z1,z2,z3,z4,z5,z6,z7,_⟩ | ⟨z1,z2,z3⟩
   ·exact both i o' b0 b0' hp' (hRnew j o' q h2 z1) (fun e=>hij i (hisds i y1).2 (by rw[e];exact hisnew j o' z1)) y4 z2 y7 z3 z5
   ·have hq:=hRold j q h2 (hisds j z1).1
    exact both i j b0 b0' hp' (hmono j q ⟨hq,.inl z1⟩) hne y4 z4 y7 z5 z7
   ·exact h.inj i j p q b hp (hRold j q h2 z2) ha hb hne b1 (hsub _ _ y2) y3 blk' z1
  ·have hp:=hRold i p h1 y2
   rcases hcl j blk' hblk' with⟨o',b0',z1,_,z2,z3,z4,z5,z6⟩ | ⟨b0',b1',z1,z2,z3,z4,z5,z6,z7,_⟩ | ⟨z1,z2,z3⟩
   ·have hq:=hRnew j o' q h2 z1
    obtain ⟨c,e,ow,e1,e2⟩:=outN_some z6
    rw[z2] at e1;cases e1
    cases how:ow with
    | true =>
     subst how
     have:=hmeet i p b blk hp ha y1 y3 (hc.ownX hq hb z2 rfl)
     rw[this.1] at hown;cases hown
    | false =>
     subst how
     refine⟨z5,renC_nil z3 ?_⟩
     rcases e2 with⟨l,rfl,hl⟩ | ⟨ks,n,f,rfl,ho⟩ | ⟨j2,l,n,z,rfl⟩
     ·rcases hl with hl | hl
      ·cases hl
      ·subst hl;rfl
     ·cases ho
     ·rfl
   ·have hq:=hRold j q h2 (hisds j z1).1
    have:=h.inj i j p q b hp hq ha hb hne blk y1 hown b1' (hsub _ _ z2)
    rw[this.1] at z3;cases z3
   ·exact h.inj i j p q b hp (hRold j q h2 z2) ha hb hne blk y1 hown blk' z1
 ·intro i blk hi
    -- cells that the call left
  have left:∀o b0,look s.mem o=some b0->(∀p,R' o p->ROut R R' id nw i p)->(loose i=loose o)->renC (swapR (numN id 0 nw++idR ds)) b0.cells=some blk.cells->blk.elem=b0.elem->blk.own=b0.own->((∃l,b0.cells=.lst l)∨(∃ks n f,b0.cells=.row ks n f)∨∃j l n z,b0.cells=.tail j l n z)->MemOk w0 (ROut R R' id nw) w' i blk:=by
   intro o b0 k1 k2 klo k3 k4 k5 k6
   have hmo:=hc.mem o b0 k1
   obtain ⟨c0,e0,o0⟩:=b0
   obtain ⟨c,e,ow⟩:=blk
   simp only at k3 k4 k5 k6
   subst k4 k5
   have cont:ContOk (wIn GL R mm ds w) R' w' o ⟨c0,e,ow⟩->(∀l',LP R' c0.list l'->LP (ROut R R' id nw) c.list l')->(c0.list=[]->c.list=[])->(∀p size,roomOk o c0 p size->roomOk i c p size)->ContOk w0 (ROut R R' id nw) w' i ⟨c,e,ow⟩:=by
    rintro ⟨p,m1,m2⟩ hlp hnil hroom
    refine⟨p,k2 p m1,?_⟩
    cases hpa:p.a with
    | none=>rw[hpa] at m2;exact hnil m2
    | some b =>
     rw[hpa] at m2
     obtain ⟨cs,fz,n1,n2,n3⟩:=m2
     exact⟨cs,fz,n1,hlp _ n2,fun ho=>⟨(n3 ho).1,hXn b (n3 ho).2.1,hroom _ _ (n3 ho).2.2⟩⟩
   rcases k6 with⟨l,rfl⟩ | ⟨ks,n,f,rfl⟩ | ⟨j,l,n,z,rfl⟩
   ·obtain ⟨m,hm2,k3⟩:=oK_some.1 k3
    have k3:=(Option.some.inj k3).symm;subst k3
    refine cont hmo (fun l' hl'=>?_) (fun h0=>?_) (fun p size hr=>by show loose i=true->_;rw[klo];exact hr)
    ·have hl':LR (V0 R') l (l'.take l.length):=hl'
     show LR (V0 _) m (l'.take m.length)
     rw[renL_len hm2]
     exact LR_ren (r:=V0 R') (fun _ _ _ h1 h2=>V0_ren2 hren hR2 h1 h2) hl' hm2
    ·have h0:l=[]:=h0
     rw[h0] at hm2
     simp only[renL,Option.some.injEq] at hm2
     exact hm2.symm
   ·have k3:=(Option.some.inj k3).symm;subst k3
    refine cont hmo (fun l' hl'=>?_) (fun h0=>h0) (fun p size hr=>by show loose i=true->_;rw[klo];exact hr)
    exact LP_plain (rowL_pl _ _ _ _) ((LR_plain (r:=V0 R') (pl:=pl0) (fun _ _ hv=>V0_plain hv) (rowL_pl ks f n 0)).1 hl')
   ·obtain ⟨j',hj,k3⟩:=oK_some.1 k3
    have k3:=(Option.some.inj k3).symm;subst k3
    obtain ⟨p,q,m1,m2,m3⟩:=hmo
    exact⟨p,q,hR2 j' j p (look_swap hn1 hj) m1,k2 q m2,m3⟩
  rcases hcl i blk hi with⟨o,b0,y1,_,y2,y3,y4,y5,y6⟩ | ⟨b0,b1,y1,y2,y3,y4,y5,y6,y7,c,ow,y8,y9⟩ | ⟨y1,y2,y3⟩
  ·refine left o b0 y2 (fun p hp=>.inr ⟨o,y1,hp⟩) (renOk_loose hren (hisnew i o y1)).1 y3 y4 y5 ?_
   obtain ⟨c,e,ow,e1,e2⟩:=outN_some y6
   rw[y2] at e1;cases e1
   rcases e2 with⟨l,e2,_⟩ | ⟨ks,n,f,e2,_⟩ | e2
   ·exact .inl ⟨l,e2⟩
   ·exact .inr (.inl ⟨ks,n,f,e2⟩)
   ·exact .inr (.inr e2)
  ·refine left i b0 y4 (fun p hp=>.inl (hold i y1 p hp)) rfl y5 y6 y7 ?_
   rw[y4] at y8;cases y8
   rcases y9 with y9 | y9
   ·exact .inl y9
   ·exact .inr (.inl y9)
  ·have hm:=h.mem i blk y1
   have nox:∀p b,R i p->p.a=some b->blk.own=true->¬XIn R mm ds b:=by
    intro p b h1 h2 h3 h4
    have:=hmeet i p b blk h1 h2 y1 y3 (.inl h4)
    rw[this.1] at h3;cases h3
   unfold MemOk at hm ⊢
   split at hm
   ·obtain ⟨p,q,b,k1,k2,k3⟩:=hm;exact⟨p,q,b,.inl k1,.inl k2,k3⟩
   ·obtain ⟨p,q,k1,k2,k3⟩:=hm;exact⟨p,q,.inl k1,.inl k2,k3⟩
   ·refine hm.mono (fun _ _ h1=>.inl h1) (fun b hb=>hsame b (h.frz_lt hb) ?_) (fun ho p b hp hpa=>hsame b (h.lt hp hpa) (nox p b hp hpa ho))
    rintro ⟨i0,p0,b0,k1,k2,k3,k4,k5⟩
    rw[h.frz_own hb k1 k3 (hsub _ _ k4)] at k5;cases k5
   ·obtain ⟨b,k1,k2,k3,k4⟩:=hm
    exact⟨b,.inl k1,by rw[hsame b (h.lt k1 rfl) (nox _ b k1 rfl k4)];exact k2,k3,k4⟩
   ·obtain ⟨p,k1,k2⟩:=hm
    refine⟨p,.inl k1,?_⟩
    cases hpa:p.a with
    | none=>rw[hpa] at k2;exact k2
    | some b =>
     rw[hpa] at k2
     obtain ⟨cs,fz,k3,k4,k5⟩:=k2
     by_cases hxb:XIn R mm ds b
     ·have hwk:=hmeet i p b blk k1 hpa y1 y3 (.inl hxb)
      obtain ⟨i0,p0,b0,m1,m2,m3,m4,m5,⟨cs1,fz1,m6⟩,cs2,fz2,m7⟩:=hX b hxb
      rw[k3] at m6
      simp only[Option.some.injEq,Obj.cells.injEq] at m6
      exact⟨cs2,fz2,by rw[m6.2.1];exact m7,by rw[hwk.2];exact LP_nil,fun ho=>by rw[hwk.1] at ho;cases ho⟩
     ·refine⟨cs,fz,by rw[hsame b (h.lt k1 hpa) hxb];exact k3,LP_mono (fun _ _ h1=>.inl h1) k4,k5⟩
 ·intro i p hp hlt9
  rw[memF_look]
  cases hl:look me i with
  | some b=>rfl
  | none =>
   have hj:=(g1 i).1 hl
   rw[look_app] at hj
   cases hy:look (numN id 0 nw) i with
   | some x=>rw[hy] at hj;cases hj
   | none=>exact h.dom i p (hRold i p hp hy) hlt9
 ·intro i p hp h1 h2
  cases hy:look (numN id 0 nw) i with
  | some x=>have:=(hnum i x hy).2;omega
  | none=>exact h.anc i p (hRold i p hp hy) h1 h2
 ·intro i p b hp hpa
  cases hy:look (numN id 0 nw) i with
  | some o =>
   refine .inl ((hc.there o p b (hRnew i o p hp hy) hpa).loose ?_)
   rw[<-(renOk_loose hren (hisnew i o hy)).1]
   obtain ⟨_,h2,h3⟩:=look_numN hy
   unfold loose
   rw[show Nat.ble 500000 i=true from by rw[Nat.ble_eq];unfold nid at h2;omega,show Nat.blt i 1000000=true from by rw[Nat.blt_eq];exact(hnum i o hy).2]
   rfl
  | none =>
   have hp:=hRold i p hp hy
   by_cases hxb:XIn R mm ds b
   ·obtain ⟨_,_,b0,_,_,_,_,_,_,cs2,fz2,m7⟩:=hX b hxb
    exact .inl ⟨cs2,_,fz2,m7⟩
   ·refine(h.there i p b hp hpa).mono (fun s2 pos hi=>?_) (hsame b (h.lt hp hpa) hxb)
    rw[memF_look]
    cases hl:look me i with
    | none=>rfl
    | some b2 =>
     exfalso
     obtain ⟨o,b0,k1,_⟩:=g2 _ _ hl
     rw[look_app,hy] at k1
     obtain ⟨_,h2⟩:=look_idR k1
     obtain ⟨h3,_⟩:=ownL_mem.1 h2
     obtain ⟨_,b3,h5,h6,_⟩:=hok i h3
     have:=hsub _ _ h5
     rw[hi] at this;cases this
     simp[inB] at h6
 ·intro i p hp hge
  have hy:look (numN id 0 nw) i=none:=by
   cases hy:look (numN id 0 nw) i with
   | none=>rfl
   | some x=>have:=(hnum i x hy).2;omega
  have hp:=hRold i p hp hy
  obtain ⟨h1,h2⟩:=h.fro i p hp hge
  refine⟨h1,fun j q hj hq blk hblk=>?_⟩
  rcases hcl j blk hblk with⟨o',b0',z1,_,z2,z3,z4,z5,_⟩ | ⟨b0',b1',z1,z2,z3,z4,z5,z6,z7,_⟩ | ⟨z1,z2,z3⟩
  ·rw[z5]
   exact(hc.fro i p (hmono i p ⟨hp,.inr hge⟩) hge).2 o' q (hRnew j o' q hj z1) hq b0' z2
  ·have:=h2 j q (hRold j q hj (hisds j z1).1) hq b1' (hsub _ _ z2)
   rw[this] at z3;cases z3
  ·exact h2 j q (hRold j q hj z2) hq blk z1
end
section
variable {P:Program} [Laid P]
theorem fn_memK {C:Cfg} {c:Code} (hC:CfgOk P C c) {K:Nat->Prop} (hLK:∀p F,lookP C.L p=some F->LoopOkK P C.n (loopAt p c) K F) {g:FuncId} {fn:Func} (hf:P.funcs[g]?=some fn) (hb:fn.body=some c) (hn:C.n=fn.ntmps) {w0:Wb (lay P)} {R:Nat->Pl->Prop} {w:World} {args args':List Value} {mem0:List (Nat×Blk)} {next:Nat}
  (hm:MRel w0 R (look mem0) w) (hargs:LR (V2 R) args args') (hlen:args.length<=fn.ntmps) {fuel:Nat} {e:Exit} {s':St} (h1:evS C fuel [] c ⟨argSlots 0 args,mem0,next⟩=some (e,s')) {v:Value} (h2:endK C.T fn e s' some none=some v) :
  Calls P g args'.toArray w fun ex w'=>∃R' v',ex=.returned v'∧MonoK K R R'∧((∀vs,v≠.tuple vs)->V2 R' v v')∧(∀vs,v=.tuple vs->∃vs',v'=.tuple vs'∧LR (V2 R') vs.toList vs'.toList)∧MRel w0 R' (look s'.mem) w':=by
 refine calls_of_wp hf hb ?_
 have hla:=LR_len hargs
 have hrel:Rel w0 C.n R (St.f ⟨argSlots 0 args,mem0,next⟩) { tmps:=args'.toArray++Array.replicate (fn.ntmps - args'.toArray.size) undef,defers:=[] } w:=by
  refine MRel.toR hm rfl (by simp;omega) ?_
  intro t u hu
  obtain ⟨j,rfl,hj⟩:=argSlots_look args 0 t u hu
  obtain ⟨u',h3,h4⟩:=LR_get hargs hj
  refine⟨u',?_,h4⟩
  have hlt:j<args'.length:=by
   rcases Nat.lt_or_ge j args'.length with h | h
   ·exact h
   ·rw[List.getElem?_eq_none h] at h3;simp at h3
  rw[Nat.zero_add,Array.getElem?_append_left (by simpa using hlt)]
  simpa using h3
 refine wp_mono (ev_soundK hC hLK (p:=[]) rfl h1 hrel) ?_
 rintro e' a' w' ⟨rfl,R',hmo,hr'⟩
 have fin:endK C.T fn e' s' some none=some v->(e'=.normal∨e'=.ret)->a'.defers=[]∧∃v',(results fn a'.tmps).run P w'=.ok v' w'∧((∀vs,v≠.tuple vs)->V2 R' v v')∧(∀vs,v=.tuple vs->∃vs',v'=.tuple vs'∧LR (V2 R') vs.toList vs'.toList):=by
  intro h3 h4
  refine⟨hr'.defers,?_⟩
  have h3:resK C.T s' fn.results.toList (fun vs=>oneK vs some) none=some v:=by
   rcases h4 with rfl | rfl<;>exact h3
  obtain ⟨vs,vs',h5,h6,h7⟩:=res_run hC hr' _ h3
  have hrun:(results fn a'.tmps).run P w'=.ok (if h:vs'.toArray.size=1 then vs'.toArray[0] else .tuple vs'.toArray) w':=by
   rw[results_eq,Array.mapM_eq_mapM_toList]
   simp only[Sem.run_bind,Sem.run_map,h7,Result.andThen_ok,Sem.run_pure]
  refine⟨_,hrun,?_⟩
  rcases oneK_some h5 with rfl | ⟨hl,rfl⟩
  ·match vs',h6 with
   | [u],h6 =>
    refine⟨fun _=>by simpa using h6.1,fun ws hw=>?_⟩
    subst hw
    have h6:=h6.1
    obtain ⟨ws',e1,e2⟩:=V2_tuple h6
    exact⟨ws',by simpa using e1,LR_mono (fun _ _=>V2_of_V1) e2⟩
  ·have hl':vs'.length≠1:=by rw[<-LR_len h6];exact hl
   rw[dif_neg (by simpa using hl')]
   exact⟨fun hne=>absurd rfl (hne _),fun ws hw=>by cases hw;exact⟨vs'.toArray,rfl,h6⟩⟩
 cases e' with
 | normal=>obtain ⟨k1,v',k2,k3,k4⟩:=fin h2 (.inl rfl);exact⟨k1,v',k2,R',v',rfl,hmo,k3,k4,hr'.m⟩
 | ret=>obtain ⟨k1,v',k2,k3,k4⟩:=fin h2 (.inr rfl);exact⟨k1,v',k2,R',v',rfl,hmo,k3,k4,hr'.m⟩
 | _=>simp[endK] at h2
theorem endK_some {T:Tab} {fn:Func} {e:Exit} {s:St} {β:Type} {k:Value->Option β} {r:β} (h:endK T fn e s k none=some r):∃v,endK T fn e s some none=some v∧k v=some r:=by
 have:endK T fn e s k none=oK (endK T fn e s some none) k none:=(endK_nat (fun o:Option Value=>oK o k none) T fn e s some none).symm
 rw[this,oK_some] at h
 exact h
theorem inlL_sum {T:Tab} {G:Sums} {n:Nat} {L:List (List Nat×(St->List (Bool×Exit×St)))} {kb:Nat->Bool} {fn:Func} {c:Code} {fuel:Nat} (hC:CfgOk P ⟨T,G,n,L⟩ c)
  (hLK:∀p F,lookP L p=some F->LoopOkK P n (loopAt p c) (fun i=>kb i=true∨1000000000<=i) F) {g:FuncId} (hf:P.funcs[g]?=some fn) (hname:(fn.name=="runtime.NumGoroutine")=false) (hb:fn.body=some c) (hn:n=fn.ntmps) :
  EntOk P g (inlL T G n L kb fn c fuel):=by
 intro w0 R fm w hm vs args' hl mm hsub rd id hlt v l hil hnew
 have hne:fn.name≠"runtime.NumGoroutine":=by simpa using hname
 have hrun:(callFunc g args'.toArray).run P w=.ok (.enter g args'.toArray) w:=by simp[callFunc,hf,hne,hb]
 unfold Invokes
 rw[hrun]
 unfold ilS inF inG at hil
 generalize dedupN rd=ds at hil
 obtain ⟨hcond,hil⟩:=cond_some.1 hil
 simp only[Bool.and_eq_true] at hcond
 obtain ⟨⟨⟨⟨hds,hvs⟩,hkb⟩,hlen⟩,hvt⟩:=hcond
 have hlen:=Nat.le_of_ble_eq_true hlen
 rw[evK_eq,oK_some] at hil
 obtain ⟨⟨e,s⟩,he,hil⟩:=hil
 obtain ⟨vC,hvC,hil⟩:=endK_some hil
 obtain ⟨hnt,hil⟩:=cond_some.1 hil
 unfold expN at hil
 obtain ⟨hcond,hil⟩:=cond_some.1 hil
 simp only[Bool.and_eq_true] at hcond
 obtain ⟨⟨⟨hnw,hod⟩,hle⟩,hren⟩:=hcond
 have hle:=Nat.le_of_ble_eq_true hle
 obtain ⟨u,hu,hil⟩:=oK_some.1 hil
 obtain ⟨me,hme,hil⟩:=oK_some.1 hil
 simp only[Option.some.injEq,Prod.mk.injEq] at hil
 obtain ⟨rfl,rfl⟩:=hil
 have hin:=in_rel hm hsub hds
 have hargs:LR (V2 (RIn R ds)) vs args':=by
  have key:∀(vs args':List Value),(∀v∈vs,notTup v=true∧∀b∈idsV v,b∈ds)->LR (V2 R) vs args'->LR (V2 (RIn R ds)) vs args':=by
   intro vs
   induction vs with
   | nil=>intro a _ h;cases a with
    | nil=>trivial
    | cons _ _=>exact h.elim
   | cons x vs ih =>
    intro a h1 h2
    match a,h2 with
    | x'::a,h2 =>
     refine⟨?_,ih a (fun v hv=>h1 v (List.mem_cons_of_mem _ hv)) h2.2⟩
     exact V2_ids (h1 x (List.mem_cons_self ..)).1 (fun b hb p hp=>⟨hp,.inl ((h1 x (List.mem_cons_self ..)).2 b hb)⟩) h2.1
    | [],h2=>exact h2.elim
  refine key vs args' (fun v hv=>⟨List.all_eq_true.1 hvt v hv,fun b hb=>?_⟩) hl
  exact nmem_iff.1 (List.all_eq_true.1 hvs b (List.mem_flatMap.2 ⟨v,hv,hb⟩))
 refine Calls.mono (fn_memK hC hLK hf hb hn hin hargs (by rw[<-hn];exact hlen) he hvC) ?_
 rintro ex w' ⟨R',v',rfl,hmo,hv1,hv2,hm'⟩
 have hmono:∀i p,RIn R ds i p->R' i p:=by
  intro i p hp
  refine hmo i p ?_ hp
  rcases hp.2 with h1 | h1
  ·exact .inl (List.all_eq_true.1 hkb i h1)
  ·exact .inr h1
 have hfree:∀i x,look (numN id 0 (newN (look s.mem) ds vC (ownL mm ds))) i=some x->fm i=none:=by
  intro i x hx
  obtain ⟨h1,h2,h3⟩:=look_numN hx
  have hi8:i<nid id 8:=by unfold nid at *;omega
  have:∃b,look me i=some b:=by
   cases hl:look me i with
   | some b=>exact⟨b,rfl⟩
   | none =>
    have:=((getMem_look hme).1 i).1 hl
    rw[look_app,hx] at this;cases this
  obtain ⟨b,hb⟩:=this
  exact(hnew (i,b) (look_memB hb)).1 ⟨h2,hi8⟩
 have hout:=out_rel hm hsub hds hm' hmono hlt hnw hod hle hren hme hfree
 refine⟨_,fun _ _=>.inl,?_,hout⟩
 have hR2:∀i o p,look (numN id 0 (newN (look s.mem) ds vC (ownL mm ds))++idR ds) i=some o->R' o p->ROut R R' id (newN (look s.mem) ds vC (ownL mm ds)) i p:=by
  intro i o p hx hp
  rw[look_app] at hx
  cases hy:look (numN id 0 (newN (look s.mem) ds vC (ownL mm ds))) i with
  | some x=>rw[hy] at hx;cases hx;exact .inr ⟨o,hy,hp⟩
  | none =>
   rw[hy] at hx
   obtain ⟨rfl,h2⟩:=look_idR hx
   obtain ⟨_,blk,h3,_⟩:=inOk_some (List.all_eq_true.1 hds o h2)
   obtain ⟨p0,hp0⟩:=hm.pl (hsub _ _ h3)
   have:=hm'.func _ _ _ hp (hmono o p0 ⟨hp0,.inl h2⟩)
   rw[this];exact .inl hp0
 by_cases htup:∃ws,vC=.tuple ws
 ·obtain ⟨ws,rfl⟩:=htup
  obtain ⟨vs',rfl,hl2⟩:=hv2 ws rfl
  unfold ren2 at hu
  obtain ⟨m,hm1,hm2⟩:=oK_some.1 hu
  cases hm2
  have hnt:ws.toList.all notTup=true:=hnt
  refine⟨vs',rfl,?_⟩
  have h1:LR (V1 R') ws.toList vs'.toList:=by
   have key:∀(l l':List Value),l.all notTup=true->LR (V2 R') l l'->LR (V1 R') l l':=by
    intro l
    induction l with
    | nil=>intro l' _ h;cases l' with
     | nil=>trivial
     | cons _ _=>exact h.elim
    | cons x l ih =>
     intro l' h1 h2
     match l',h2 with
     | x'::l',h2 =>
      simp only[List.all_cons,Bool.and_eq_true] at h1
      exact⟨V1_of_V2 h2.1 h1.1,ih l' h1.2 h2.2⟩
     | [],h2=>exact h2.elim
   exact key _ _ hnt hl2
  exact LR_ren (r:=V1 R') (fun _ _ _ h1 h2=>V1_ren2 hren hR2 h1 h2) h1 hm1
 ·exact V2_ren2 hren hR2 (hv1 fun ws e=>htup ⟨ws,e⟩) hu
theorem inl_sum {T:Tab} {G:Sums} {n:Nat} {fn:Func} {c:Code} (hT:TabOk P T) (hG:SumsOk P G) (hmix:P.follows .mixedOrders=true) {g:FuncId} (hf:P.funcs[g]?=some fn) (hname:(fn.name=="runtime.NumGoroutine")=false) (hb:fn.body=some c) (hn:n=fn.ntmps) :
  EntOk P g (inl T G n fn c):=inlL_sum ⟨hmix,hT,hG,fun p F h=>by simp[lookP] at h⟩ (fun p F h=>by simp[lookP] at h) hf hname hb hn
theorem sums_consI {G:Sums} {g:FuncId} {E:Ent} (h:EntOk P g E) (hG:SumsOk P G):SumsOk P ((g,E)::G):=by
 intro g' F' hF
 rw[look_cons] at hF
 by_cases hg:g=g'
 ·subst hg;rw[upd_same] at hF;cases hF;exact h
 ·rw[upd_ne _ _ hg] at hF;exact hG g' F' hF
end
end Go.W

namespace Go.W
open Go
def aggL:Value->List Value
 | .agg cs=>cs.toList
 | _=>[]
noncomputable def isPo (mm:Nat->Option Blk) (v:Value):Bool :=
 aggK v (fun l=>Nat.beq l.length 2&&((srcB mm k32 (nV 0 l)).1&&((srcB mm kP9 (nV 1 l)).1&&okP (srcB mm kP9 (nV 1 l)).2.1 (srcB mm kP9 (nV 1 l)).2.2))) false
theorem isPo_some {mm:Nat->Option Blk} {v:Value} (h:isPo mm v=true):∃s c n f m g,v=.agg #[s,c]∧srcB mm k32 s=(true,n,f)∧srcB mm kP9 c=(true,m,g)∧okP m g=true:=by
 unfold isPo aggK at h
 split at h
 ·rename_i cs
  obtain ⟨l,hc⟩:∃l,cs=List.toArray l:=⟨cs.toList,by simp⟩
  subst hc
  rw[List.toList_toArray] at h
  simp only[Bool.and_eq_true] at h
  obtain ⟨hl,h1,h2,h3⟩:=h
  have hl:l.length=2:=nbeq.1 hl
  match l,hl with
  | [s,c],_ =>
   have h1:(srcB mm k32 s).1=true:=h1
   have h2:(srcB mm kP9 c).1=true:=h2
   refine⟨s,c,(srcB mm k32 s).2.1,(srcB mm k32 s).2.2,(srcB mm kP9 c).2.1,(srcB mm kP9 c).2.2,rfl,?_,?_,h3⟩
   ·rw[<-h1]
   ·rw[<-h2]
 ·cases h
noncomputable def poE (n m:Nat) (V:Nat->RP):Int:=if 8<n∨m<1∨64<m then 4 else if (V 0).1=true then 3 else if alP V m=false then 3 else 0
noncomputable def PofF:List Value->(Nat->Option Blk)->Nat->List (Bool×Value×List (Nat×Blk))
 | [a],mm,_=>[(isPo mm a,i64 (poE (srcB mm k32 (nV 0 (aggL a))).2.1 (srcB mm kP9 (nV 1 (aggL a))).2.1 (pA (srcB mm kP9 (nV 1 (aggL a))).2.2)),[])]
 | _,_,_=>[]
def poT {α:Type} (n m:Nat) (K F:α):α:=bif decide ((n:Int) > 8) then F else bif decide ((m:Int)<1) then F else bif decide ((m:Int) > 64) then F else K
theorem poT_eq {α:Type} (n m:Nat) (K F:α):poT n m K F=if 8<n∨m<1∨64<m then F else K:=by
 unfold poT
 by_cases e1:8<n
 ·rw[decide_eq_true (by omega),if_pos (.inl e1)];rfl
 ·rw[decide_eq_false (by omega),cond_false]
  by_cases e2:m<1
  ·rw[decide_eq_true (by omega),if_pos (.inr (.inl e2))];rfl
  ·rw[decide_eq_false (by omega),cond_false]
   by_cases e3:64<m
   ·rw[decide_eq_true (by omega),if_pos (.inr (.inr e3))];rfl
   ·rw[decide_eq_false (by omega),cond_false,if_neg (by omega)]
end Go.W

namespace Go.W
open Go
def aK (b:Bool) (O:OR):OR:=bif b then O else cE 1
def aFk (i:Bool) (x y:Nat) (O:OR):OR:=bif !i then req (isPt (ptV (i,x,y))) (bif !(errP (ckR (unPt (ptV (i,x,y))))==0) then cE 3 else O) else cE 3
def aLo (a:Nat) (O:OR):OR:=req (isNum (num a)&&isNum (num (primeN 1))) (bif !decide (cmpI (unnum (num a)) (unnum (num (primeN 1)))<0) then cE 2 else O)
def aPz (X Y:Nat×Nat) (O:OR):OR:=bif !eqL (prL X) (prL Y) then cE 1 else O
noncomputable def ackT (k:Int) (i:Bool) (x y:Nat) (lab:ByteArray) (n:Nat) (m:Nat) (h:Nat->List Value) (g:Int) (c r:Nat):OR:=match k with
 | .negSucc _=>cE 19
 | .ofNat 0=>cE 19
 | .ofNat 1=>aK (eqV (ptV (i,x,y)) (ptV (i,x,y))) (aK (lab==lab) (aK ((n:Int)==((0:Nat):Int)) (aK ((m:Int)==((0:Nat):Int)) (aK (g==0) (aPz (c,r) (0,0) (aFk i x y (req (Nat.ble lab.size 1000000) (cE (lbE lab)))))))))
 | .ofNat 2=>aK (eqV (ptV (i,x,y)) (ptV zR)) (aK (lab==⟨#[]⟩) (aK ((n:Int)==(n:Int)) (aK ((m:Int)==(m:Int)) (aK (g==0) (aPz (c,r) (0,0) (req (whN n&&(whN m&&okP m (sg9 m h))) (cE (poE n m (pA (sg9 m h))))))))))
 | .ofNat 3=>aK (eqV (ptV (i,x,y)) (ptV (i,x,y))) (aK (lab==⟨#[]⟩) (aK ((n:Int)==((0:Nat):Int)) (aK ((m:Int)==((0:Nat):Int)) (aK (g==g) (aPz (c,r) (c,r) (bif decide (g<1) then cE 1 else bif decide (g > 8) then cE 1 else aFk i x y (aLo c (aLo r (cE 0)))))))))
 | .ofNat 4=>aK (eqV (ptV (i,x,y)) (ptV (i,x,y))) (aK (lab==⟨#[]⟩) (aK ((n:Int)==((0:Nat):Int)) (aK ((m:Int)==((0:Nat):Int)) (aK (g==0) (aPz (c,r) (c,r) (aFk i x y (aLo c (aLo r (cE 0)))))))))
 | .ofNat 5=>aK (eqV (ptV (i,x,y)) (ptV zR)) (aK (lab==⟨#[]⟩) (aK ((n:Int)==((0:Nat):Int)) (aK ((m:Int)==((0:Nat):Int)) (aK (g==0) (aPz (c,r) (0,0) (cE 0))))))
 | .ofNat (_+6)=>cE 19
theorem aK_eq (b:Bool) (O:OR):aK b O=if b=true then O else cE 1:=by cases b<;>rfl
theorem aFk_eq {i:Bool} {x y:Nat} (h:okR (i,x,y)) (O:OR):aFk i x y O=if fulB (i,x,y)=false then cE 3 else O:=by
 unfold aFk fulB;rw[isPt_ptV,req_true rfl,unPt_ptV h]
 cases i<;>cases ckR (_,x,y)<;>rfl
theorem aLo_eq {a:Nat} (h:a<2^256) (O:OR):aLo a O=if a<pN then O else cE 2:=by
 unfold aLo
 have hp:primeN 1=pN:=rfl
 rw[isNum_num,isNum_num,req_true (b:=true&&true) rfl,unnum_lt h,hp,unnum_lt (by decide)]
 by_cases e:a<pN
 ·rw[if_pos e,show cmpI a pN=-1 from if_pos e];rfl
 ·rw[if_neg e]
  unfold cmpI;rw[if_neg e]
  split<;>rfl
theorem eqL_prL {X Y:Nat×Nat} (h1:X.1<2^256) (h2:X.2<2^256) (h3:Y.1<2^256) (h4:Y.2<2^256):eqL (prL X) (prL Y)=decide (X=Y):=by
 rw[Bool.eq_iff_iff,eqL_iff (ks:=[.i .u64,.i .u64,.i .u64,.i .u64,.i .u64,.i .u64,.i .u64,.i .u64]) rfl rfl,decide_eq_true_eq]
 refine⟨fun h=>?_,fun h=>by rw[h]⟩
 have e:unPrf (prV X.1 X.2)=unPrf (prV Y.1 Y.2):=congrArg (fun l:List Value=>unPrf (.agg l.toArray)) h
 rw[unPrf_prV h1 h2,unPrf_prV h3 h4] at e;exact e
theorem aPz_eq {X Y:Nat×Nat} (h1:X.1<2^256) (h2:X.2<2^256) (h3:Y.1<2^256) (h4:Y.2<2^256) (O:OR):aPz X Y O=if X=Y then O else cE 1:=by
 unfold aPz;rw[eqL_prL h1 h2 h3 h4]
 by_cases e:X=Y
 ·rw[decide_eq_true e,if_pos e];rfl
 ·rw[decide_eq_false e,if_neg e];rfl
theorem aPz0_eq {X:Nat×Nat} (h1:X.1<2^256) (h2:X.2<2^256) (O:OR):aPz X (0,0) O=if X=(0,0) then O else cE 1:=aPz_eq h1 h2 (show(0:Nat)<2^256 by decide) (show(0:Nat)<2^256 by decide) O
theorem aPzS_eq {X:Nat×Nat} (h1:X.1<2^256) (h2:X.2<2^256) (O:OR):aPz X X O=O:=by rw[aPz_eq h1 h2 h1 h2,if_pos rfl]
theorem lab_self (s:ByteArray):(s==s)=true:=by rw[txt_eq];exact decide_eq_true rfl
theorem lab_nil (s:ByteArray):((s==⟨#[]⟩)=true)=(s=⟨#[]⟩):=by rw[txt_eq];exact propext decide_eq_true_iff
theorem int_nat (n:Nat):(((n:Int)==((0:Nat):Int))=true)=(n=0):=by
 rw[beq_iff_eq];exact propext ⟨fun h=>by omega,fun h=>by omega⟩
section
variable {K:RP} {lab:ByteArray} {n m:Nat} {S:Nat->Nat} {h:Nat->List Value} {g:Int} {X:Nat×Nat}
theorem ackT_eq (oK:okR K) (hc:X.1<2^256) (hr:X.2<2^256) (ho:okP m h=true) (hl:lab.size<=1000000):∀k:Int,ackT k K.1 K.2.1 K.2.2 lab n m h g X.1 X.2=cE (ckE ⟨k,K,lab,n,S,m,pA h,g,X⟩):=by
 obtain ⟨i,x,y⟩:=K
 obtain ⟨c,r⟩:=X
 have out:∀k:Int,(k<1∨5<k)->cE (ckE ⟨k,(i,x,y),lab,n,S,m,pA h,g,(c,r)⟩)=cE 19:=by
  intro k hk;unfold ckE;rw[if_pos hk]
 have eg:∀a:Int,((a==a)=true)=True:=fun a=>by simp
 have eb:((g==0)=true)=(g=0):=by simp
 intro k
 match k with
 | .negSucc j=>rw[out _ (.inl (by omega))];rfl
 | .ofNat 0=>rw[out _ (.inl (by decide))];rfl
 | .ofNat (j+6)=>rw[out _ (.inr (by show((j+6:Nat):Int) > 5;omega))];rfl
 | .ofNat 1 =>
  unfold ackT;simp only[aK_eq,aPz0_eq hc hr,aFk_eq oK,eqV_pt oK oK,decide_true,lab_self,int_nat,eb,if_true,Nat.ble_eq_true_of_le hl,req,cond_true,cE_if]
  congr 1
  unfold lbE;rw[hide_eq]
  by_cases p3:n=0<;>by_cases p3b:m=0<;>by_cases p4:g=0<;>by_cases p5:(c,r)=((0,0):Nat×Nat)<;>simp[ckE,bare,keyd,prfd,p3,p3b,p4,p5]<;>cases lblB lab<;>rfl
 | .ofNat 2 =>
  unfold ackT;simp only[aK_eq,aPz0_eq hc hr,eqV_pt oK okR_z,decide_eq_true_eq,lab_nil,eg,eb,if_true,whN_true,okP_sg,ho,req,Bool.and_true,cond_true,pA_sg,cE_if]
  congr 1
  unfold poE
  by_cases p1:(i,x,y)=zR<;>by_cases p2:lab=⟨#[]⟩<;>by_cases p4:g=0<;>by_cases p5:(c,r)=((0,0):Nat×Nat)<;>simp[ckE,bare,keyd,prfd,p1,p2,p4,p5]
  cases alP (pA h) m<;>cases (pA h 0).1<;>rfl
 | .ofNat 3 =>
  have e:∀a:OR,(bif decide (g<1) then cE 1 else bif decide (g > 8) then cE 1 else a)=if g<1∨8<g then cE 1 else a:=by
   intro a
   by_cases e1:g<1
   ·rw[decide_eq_true e1,if_pos (.inl e1)];rfl
   ·by_cases e2:8<g
    ·rw[decide_eq_false e1,decide_eq_true e2,if_pos (.inr e2)];rfl
    ·rw[decide_eq_false e1,decide_eq_false e2,if_neg (by omega)];rfl
  unfold ackT;simp only[aK_eq,aPzS_eq hc hr,aFk_eq oK,eqV_pt oK oK,decide_true,lab_nil,int_nat,eg,if_true,e,aLo_eq hc,aLo_eq hr,cE_if]
  congr 1
  by_cases p2:lab=⟨#[]⟩<;>by_cases p3:n=0<;>by_cases p3b:m=0<;>by_cases q1:c<pN<;>by_cases q2:r<pN<;>simp[ckE,bare,keyd,prfd,p2,p3,p3b,q1,q2]
 | .ofNat 4 =>
  unfold ackT;simp only[aK_eq,aPzS_eq hc hr,aFk_eq oK,eqV_pt oK oK,decide_true,lab_nil,int_nat,eb,if_true,aLo_eq hc,aLo_eq hr,cE_if]
  congr 1
  by_cases p2:lab=⟨#[]⟩<;>by_cases p3:n=0<;>by_cases p3b:m=0<;>by_cases p4:g=0<;>by_cases q1:c<pN<;>by_cases q2:r<pN<;>simp[ckE,bare,keyd,prfd,p2,p3,p3b,p4,q1,q2]
 | .ofNat 5 =>
  unfold ackT;simp only[aK_eq,aPz0_eq hc hr,eqV_pt oK okR_z,decide_eq_true_eq,lab_nil,int_nat,eb,cE_if]
  congr 1
  by_cases p1:(i,x,y)=zR<;>by_cases p2:lab=⟨#[]⟩<;>by_cases p3:n=0<;>by_cases p3b:m=0<;>by_cases p4:g=0<;>by_cases p5:(c,r)=((0,0):Nat×Nat)<;>simp[ckE,bare,keyd,prfd,p1,p2,p3,p3b,p4,p5]
end
end Go.W

namespace Go.Proofs.Ytckbmhegopjnmaa
set_option maxRecDepth 100000
open Go.W
noncomputable def pofS:Sums:=[(60,CChkF)]
theorem pofS_ok:SumsOk Try.prog pofS:=sums_cons cchk_sum sums_nil
noncomputable def pofC0:Cfg:=⟨tab,pofS,40,[([1,1,1,0,1,0],fun _=>[])]⟩
theorem pofC0_ok:CfgOk Try.prog pofC0 (bodyOf Try.f39):=⟨mixed,tabOk,pofS_ok,noneL2⟩
theorem pof_at:codeAt [1,1,1,0,1,0] (bodyOf Try.f39)=some (.loop (loopAt [1,1,1,0,1,0] (bodyOf Try.f39))):=by kernel_rfl
def pofN:List Nat:=[2,28,29,30]
def pofI:Ren:=[(agId 0 1,agId 0 1)]
def pofSt (m:Nat) (f:Nat->List Value) (e0:Nat) (r i:Int):St:=⟨[(2,i64 r),(28,.slice (some ⟨agId 0 1,0,none⟩) m m),(29,i64 (m:Int)),(30,i64 i)],[(agId 0 1,⟨.row kP9 m f,e0,false⟩)],27⟩
theorem pof_r (n:Nat) (V:Nat->RP) (e0 k:Nat):roundS pofC0 60 [1,1,1,0,1,0,0] (loopAt [1,1,1,0,1,0] (bodyOf Try.f39)) pofN pofI 27 pofN pofI 27 (pofSt n (ptF V) e0 0 (k:Int)) =
  bif decide ((k:Int)<(n:Int)) then rdR k n (req (isPt (ptV (V (0+k)))) (bif errP (ckR (unPt (ptV (V (0+k))))) != 0 then some (.ret,pofSt n (ptF V) e0 (errP (ckR (unPt (ptV (V (0+k)))))) (k:Int)) else some (.normal,pofSt n (ptF V) e0 0 (IntKind.i64.wrap ((k:Int)+1)))))
  else some (.exit 0,pofSt n (ptF V) e0 0 (k:Int)):=by kernel_rfl
theorem pof_step {n:Nat} {V:Nat->RP} {e0 k:Nat} (hn:n<=1000) (hV:∀j,j<n->okR (V j)) (hk:k<n):roundS pofC0 60 [1,1,1,0,1,0,0] (loopAt [1,1,1,0,1,0] (bodyOf Try.f39)) pofN pofI 27 pofN pofI 27 (pofSt n (ptF V) e0 0 (k:Int)) =
  bif ckR (V k) then some (.normal,pofSt n (ptF V) e0 0 ((k+1:Nat):Int)) else some (.ret,pofSt n (ptF V) e0 3 (k:Int)):=by
 refine(pof_r n V e0 k).trans ?_
 rw[decide_eq_true (by omega),cond_true,rdR_eq hk,isPt_ptV,req_true rfl,Nat.zero_add,unPt_ptV (hV k hk),wrap_i64 (by omega)]
 cases ckR (V k)<;>rfl
theorem pof_ok {n:Nat} {V:Nat->RP} {e0:Nat} (hn:n<=1000) (hV:∀j,j<n->okR (V j)) (hb:∀i,i<n->ckR (V i)=true):LoopOk Try.prog 40 (loopAt [1,1,1,0,1,0] (bodyOf Try.f39)) (atSt pofN pofI 27 (pofSt n (ptF V) e0 0 0) (.exit 0) (pofSt n (ptF V) e0 0 (n:Int))):=by
 refine loopE (fun _=>pofC0) n (fun _ _=>pofC0_ok) (fun _=>rfl) pof_at (m:=60) (nt:=pofN) (ni:=pofI) (et:=pofN) (ei:=pofI) (nx:=27) (ex:=27) (fun k=>pofSt n (ptF V) e0 0 (k:Int)) rfl (by intro h;cases h) ?_ ?_
 ·intro k hk
  exact⟨_,(pof_step hn hV hk).trans (by rw[hb k hk,cond_true]),stEq_refl rfl⟩
 ·refine⟨_,?_,stEq_refl rfl⟩
  refine(pof_r n V e0 n).trans ?_
  rw[decide_eq_false (by omega),cond_false]
theorem pof_bad {n:Nat} {V:Nat->RP} {e0 k:Nat} (hn:n<=1000) (hV:∀j,j<n->okR (V j)) (hk:k<n) (hc:ckR (V k)=false) (hb:∀i,i<k->ckR (V i)=true):LoopOk Try.prog 40 (loopAt [1,1,1,0,1,0] (bodyOf Try.f39)) (atSt pofN pofI 27 (pofSt n (ptF V) e0 0 0) .ret (pofSt n (ptF V) e0 3 (k:Int))):=by
 refine loopE (fun _=>pofC0) k (fun _ _=>pofC0_ok) (fun _=>rfl) pof_at (m:=60) (nt:=pofN) (ni:=pofI) (et:=pofN) (ei:=pofI) (nx:=27) (ex:=27) (fun k=>pofSt n (ptF V) e0 0 (k:Int)) rfl (by intro h;cases h) ?_ ?_
 ·intro i hi
  exact⟨_,(pof_step hn hV (by omega)).trans (by rw[hb i hi,cond_true]),stEq_refl rfl⟩
 ·exact⟨_,(pof_step hn hV hk).trans (by rw[hc,cond_false]),stEq_refl rfl⟩
noncomputable def pofC (n:Nat) (V:Nat->RP) (e0:Nat) (e:Exit) (r:Int) (k:Nat):Cfg:=⟨tab,pofS,40,[([1,1,1,0,1,0],atSt pofN pofI 27 (pofSt n (ptF V) e0 0 0) e (pofSt n (ptF V) e0 r (k:Int)))]⟩
theorem pof_ev0 (n:Nat) (f:Nat->List Value) (m:Nat) (h:Nat->List Value) (V:Nat->RP) (k:Nat) (es:Nat->TypeId) (er:Nat->Nat->TypeId) (id:Nat):fnX (pofC m V (es (agId 0 1)) (.exit 0) 0 k) 60 Try.f39 (bodyOf Try.f39) (cArgsX [.ag [.sl k32 n f,.sl kP9 m h]] 0) (cMemX es er [.ag [.sl k32 n f,.sl kP9 m h]]) 0 id =
  poT n m (rdR 0 m (bif toB ((h (0+0)).headD (.bool false)) then some (i64 3,[]) else req (stEq (pofSt m h (es (agId 0 1)) 0 0) (pofSt m (ptF V) (es (agId 0 1)) 0 0)) (some (i64 0,[])))) (some (i64 4,[])):=by kernel_rfl
theorem pof_ev1 (n:Nat) (f:Nat->List Value) (m:Nat) (h:Nat->List Value) (V:Nat->RP) (k:Nat) (es:Nat->TypeId) (er:Nat->Nat->TypeId) (id:Nat):fnX (pofC m V (es (agId 0 1)) .ret 3 k) 60 Try.f39 (bodyOf Try.f39) (cArgsX [.ag [.sl k32 n f,.sl kP9 m h]] 0) (cMemX es er [.ag [.sl k32 n f,.sl kP9 m h]]) 0 id =
  poT n m (rdR 0 m (bif toB ((h (0+0)).headD (.bool false)) then some (i64 3,[]) else req (stEq (pofSt m h (es (agId 0 1)) 0 0) (pofSt m (ptF V) (es (agId 0 1)) 0 0)) (some (i64 3,[])))) (some (i64 4,[])):=by kernel_rfl
theorem pof_ev2 (n:Nat) (f:Nat->List Value) (m:Nat) (h:Nat->List Value) (es:Nat->TypeId) (er:Nat->Nat->TypeId) (id:Nat):fnX pofC0 60 Try.f39 (bodyOf Try.f39) (cArgsX [.ag [.sl k32 n f,.sl kP9 m h]] 0) (cMemX es er [.ag [.sl k32 n f,.sl kP9 m h]]) 0 id =
  poT n m (rdR 0 m (bif toB ((h (0+0)).headD (.bool false)) then some (i64 3,[]) else none)) (some (i64 4,[])):=by kernel_rfl
theorem pof_msum:MSum Try.prog 39 PofF:=by
 intro w0 R fm w hm vs args' hl mm hsub id hlt v l hpick hnew
 match vs,hl,hpick with
 | [a],hl,hpick =>
  obtain ⟨hc,rfl,rfl⟩:=pick_one hpick
  obtain ⟨s,c,n,f,m,h,ea,hs,hq,ho⟩:=isPo_some hc
  subst ea
  have e1:srcB mm k32 (nV 0 (aggL (.agg #[s,c])))=(true,n,f):=hs
  have e2:srcB mm kP9 (nV 1 (aggL (.agg #[s,c])))=(true,m,h):=hq
  rw[e1,e2]
  have hm1:=(okP_iff.1 ho).1
  have hV:∀j,j<m->okR (pA h j):=fun j hj=>(el_pt ho hj).2
  refine msum_atX (c:=bodyOf Try.f39) (fuel:=60) (next:=0) Try.func39 (by kernel_rfl) (by kernel_rfl) hm hl hsub hlt
   (A:=[.ag [.sl k32 n f,.sl kP9 m h]]) ⟨⟨_,rfl,⟨⟨hs,nofun⟩,⟨hq,nofun⟩,trivial⟩⟩,trivial⟩ (by kernel_rfl) (by show 1<=Try.f39.ntmps;decide +kernel) (by intro p hp;cases hp) (fun es er=>?_)
  by_cases hb:8<n∨m<1∨64<m
  ·refine⟨pofC0,pofC0_ok,rfl,?_⟩
   refine(pof_ev2 n f m h es er id).trans ?_
   rw[poT_eq,if_pos hb];unfold poE;rw[if_pos hb]
  ·have hm0:0<m:=by omega
   cases hi:(pA h 0).1 with
   | true =>
    refine⟨pofC0,pofC0_ok,rfl,?_⟩
    refine(pof_ev2 n f m h es er id).trans ?_
    rw[poT_eq,if_neg hb,rdR_eq hm0,toB_pt ho (by omega),Nat.zero_add,hi];unfold poE;rw[if_neg hb,if_pos hi];rfl
   | false =>
    cases hal:alP (pA h) m with
    | true =>
     refine⟨pofC m (pA h) (es (agId 0 1)) (.exit 0) 0 m,⟨mixed,tabOk,pofS_ok,oneL (pof_ok hm1 hV (alP_iff.1 hal))⟩,rfl,?_⟩
     refine(pof_ev0 n f m h _ m es er id).trans ?_
     rw[poT_eq,if_neg hb,rdR_eq hm0,toB_pt ho (by omega),Nat.zero_add,hi,cond_false]
     refine(req_true (stEq_mk rfl (mRow (row_pt ho) mNil))).trans ?_
     unfold poE;rw[if_neg hb,hi,if_neg (by simp),hal,if_neg (by simp)]
    | false =>
     obtain ⟨k,hk,hck,hbk⟩:=first_no hal
     refine⟨pofC m (pA h) (es (agId 0 1)) .ret 3 k,⟨mixed,tabOk,pofS_ok,oneL (pof_bad hm1 hV hk hck hbk)⟩,rfl,?_⟩
     refine(pof_ev1 n f m h _ k es er id).trans ?_
     rw[poT_eq,if_neg hb,rdR_eq hm0,toB_pt ho (by omega),Nat.zero_add,hi,cond_false]
     refine(req_true (stEq_mk rfl (mRow (row_pt ho) mNil))).trans ?_
     unfold poE;rw[if_neg hb,hi,if_neg (by simp),hal,if_pos rfl]
 | [],_,h=>simp[PofF,pickM] at h
 | _::_::_,_,h=>simp[PofF,pickM] at h
noncomputable def akyS:Sums:=[(60,CChkF)]
theorem akyS_ok:SumsOk Try.prog akyS:=sums_cons cchk_sum sums_nil
noncomputable def akyE:Ent:=inl tab akyS 11 Try.f58 (bodyOf Try.f58)
theorem akyE_ok:EntOk Try.prog 58 akyE:=inl_sum tabOk akyS_ok mixed Try.func58 (by kernel_rfl) (by kernel_rfl) rfl
noncomputable def alwS:Sums:=[(14,PrimeF),(80,CmpF)]
theorem alwS_ok:SumsOk Try.prog alwS:=sums_cons Prime_sum (sums_cons Cmp_sum sums_nil)
noncomputable def alwE:Ent:=inl tab alwS 7 Try.f61 (bodyOf Try.f61)
theorem alwE_ok:EntOk Try.prog 61 alwE:=inl_sum tabOk alwS_ok mixed Try.func61 (by kernel_rfl) (by kernel_rfl) rfl
noncomputable def arfS:Sums:=[(58,akyE),(59,lChF)]
theorem arfS_ok:SumsOk Try.prog arfS:=sums_consI akyE_ok (sums_cons lck_sum sums_nil)
noncomputable def arfE:Ent:=inl tab arfS 10 Try.f38 (bodyOf Try.f38)
theorem arfE_ok:EntOk Try.prog 38 arfE:=inl_sum tabOk arfS_ok mixed Try.func38 (by kernel_rfl) (by kernel_rfl) rfl
noncomputable def avfS:Sums:=[(58,akyE),(61,alwE)]
theorem avfS_ok:SumsOk Try.prog avfS:=sums_consI akyE_ok (sums_consI alwE_ok sums_nil)
noncomputable def avfE:Ent:=inl tab avfS 19 Try.f41 (bodyOf Try.f41)
theorem avfE_ok:EntOk Try.prog 41 avfE:=inl_sum tabOk avfS_ok mixed Try.func41 (by kernel_rfl) (by kernel_rfl) rfl
noncomputable def adfS:Sums:=[(41,avfE)]
theorem adfS_ok:SumsOk Try.prog adfS:=sums_consI avfE_ok sums_nil
noncomputable def adfE:Ent:=inl tab adfS 14 Try.f40 (bodyOf Try.f40)
theorem adfE_ok:EntOk Try.prog 40 adfE:=inl_sum tabOk adfS_ok mixed Try.func40 (by kernel_rfl) (by kernel_rfl) rfl
noncomputable def aftS:Sums:=[(38,arfE),(39,.me PofF),(40,adfE),(41,avfE)]
theorem aftS_ok:SumsOk Try.prog aftS:=sums_consI arfE_ok (sums_consM pof_msum (sums_consI adfE_ok (sums_consI avfE_ok sums_nil)))
noncomputable def aftE:Ent:=inl tab aftS 44 Try.f20 (bodyOf Try.f20)
theorem aftE_ok:EntOk Try.prog 20 aftE:=inl_sum tabOk aftS_ok mixed Try.func20 (by kernel_rfl) (by kernel_rfl) rfl
noncomputable def awhS:Sums:=[]
theorem awhS_ok:SumsOk Try.prog awhS:=sums_nil
noncomputable def awhE:Ent:=inl tab awhS 62 Try.f21 (bodyOf Try.f21)
theorem awhE_ok:EntOk Try.prog 21 awhE:=inl_sum tabOk awhS_ok mixed Try.func21 (by kernel_rfl) (by kernel_rfl) rfl
noncomputable def afoS:Sums:=[]
theorem afoS_ok:SumsOk Try.prog afoS:=sums_nil
noncomputable def afoE:Ent:=inl tab afoS 45 Try.f17 (bodyOf Try.f17)
theorem afoE_ok:EntOk Try.prog 17 afoE:=inl_sum tabOk afoS_ok mixed Try.func17 (by kernel_rfl) (by kernel_rfl) rfl
noncomputable def abrS:Sums:=[(21,awhE)]
theorem abrS_ok:SumsOk Try.prog abrS:=sums_consI awhE_ok sums_nil
noncomputable def abrE:Ent:=inl tab abrS 52 Try.f28 (bodyOf Try.f28)
theorem abrE_ok:EntOk Try.prog 28 abrE:=inl_sum tabOk abrS_ok mixed Try.func28 (by kernel_rfl) (by kernel_rfl) rfl
noncomputable def ackS:Sums:=[(17,afoE),(28,abrE),(20,aftE)]
theorem ackS_ok:SumsOk Try.prog ackS:=sums_consI afoE_ok (sums_consI abrE_ok (sums_consI aftE_ok sums_nil))
noncomputable def ackC:Cfg:=⟨tab,ackS,14,[]⟩
theorem ack_ev (i:Bool) (x y:Nat) (lab:ByteArray) (n:Nat) (f:Nat->List Value) (m:Nat) (h:Nat->List Value) (g:Int) (c r:Nat) (es:Nat->TypeId) (er:Nat->Nat->TypeId) (id:Nat) :
  ∀k:Int,fnX ackC 60 Try.f15 (bodyOf Try.f15) (cArgsX [.ag (acA k (i,x,y) lab n f m h g (c,r))] 0) (cMemX es er [.ag (acA k (i,x,y) lab n f m h g (c,r))]) 0 id =
  ackT k i x y lab n m h g c r
 | .negSucc j=>by kernel_rfl
 | .ofNat 0=>by kernel_rfl
 | .ofNat 1=>by kernel_rfl
 | .ofNat 2=>by kernel_rfl
 | .ofNat 3=>by kernel_rfl
 | .ofNat 4=>by kernel_rfl
 | .ofNat 5=>by kernel_rfl
 | .ofNat (j+6)=>by kernel_rfl
theorem ack_msum:MSum Try.prog 15 CkeF:=by
 intro w0 R fm w hm vs args' hl mm hsub id hlt v l hpick hnew
 match vs,hl,hpick with
 | [a],hl,hpick =>
  obtain ⟨hc,rfl,rfl⟩:=pick_one hpick
  simp only[Bool.and_eq_true] at hc
  obtain ⟨hc,hz⟩:=hc
  obtain ⟨k,K,lab,s,c,g,X,n,f,m,q,ea,oK,oX,oX',hs,o1,hq,o2,eA⟩:=isA_some hc
  rw[eA] at hz ⊢
  clear eA hc
  subst ea
  refine msum_atX (c:=bodyOf Try.f15) (fuel:=60) (next:=0) Try.func15 (by kernel_rfl) (by kernel_rfl) hm hl hsub hlt
   (A:=[.ag (acA k K lab n f m q g X)]) ⟨⟨_,rfl,acA_ok hs hq⟩,trivial⟩ (by kernel_rfl) (by show 1<=Try.f15.ntmps;decide +kernel) (by intro p hp;cases hp) (fun es er=>?_)
  refine⟨ackC,⟨mixed,tabOk,ackS_ok,noL⟩,rfl,?_⟩
  exact(ack_ev K.1 K.2.1 K.2.2 lab n f m q g X.1 X.2 es er id k).trans (ackT_eq oK oX oX' o2 (Nat.le_of_ble_eq_true hz) k)
 | [],_,h=>simp[CkeF,pickM] at h
 | _::_::_,_,h=>simp[CkeF,pickM] at h
end Go.Proofs.Ytckbmhegopjnmaa

namespace Go.Proofs.Ytckbmhegopjnmaa
set_option maxRecDepth 100000
open Go.W
open Go.RowKit (Below)
def csoNt:List Nat:=[4,5,6,7,8,9,10]
def csoNi:List Nat:=[0,1,2,3,4,6]
def csoSt (n:Nat) (p:RP) (m:Nat) (q:RP) (t:N3) (i:Int):St :=
 ⟨[(4,ptr 0),(5,ptr 1),(6,ptr 2),(7,ptr 3),(8,ptr 4),(9,ptr 6),(10,i64 i)],
  [(0,⟨cells4 n,24,true⟩),(1,⟨ptC p,26,true⟩),(2,⟨cells4 m,24,true⟩),(3,⟨ptC q,26,true⟩),(4,⟨ptC zR,26,true⟩),(6,⟨jacC t,96,true⟩)],15⟩
def csoC0:Cfg:=⟨tab,[(43,DblF),(44,BitF),(45,PlsF)],40,[]⟩
theorem csoOk0:CfgOk Try.prog csoC0 (bodyOf Try.f26):=⟨mixed,tabOk,sums_cons cdbl_sum (sums_cons Bit_sum (sums_cons cpls_sum sums_nil)),noL⟩
theorem cso_at:codeAt [1,1,0,1,0] (bodyOf Try.f26)=some (.loop (loopAt [1,1,0,1,0] (bodyOf Try.f26))):=by kernel_rfl
theorem cso_r (n:Nat) (p:RP) (m:Nat) (q:RP) (t:N3) (i:Int):roundS csoC0 60 [1,1,0,1,0,0] (loopAt [1,1,0,1,0] (bodyOf Try.f26)) csoNt csoNi 15 csoNt csoNi 15 (csoSt n p m q t i) =
  bif decide (i>=0) then suR n p m q t i (fun t=>some (.normal,csoSt n p m q t (IntKind.i64.wrap (i - 1)))) else some (.exit 0,csoSt n p m q t i):=by kernel_rfl
noncomputable def csoC (n:Nat) (p:RP) (m:Nat) (q:RP) (t:N3) (i:Int):Cfg:=⟨tab,[(42,LenF),(46,PtF)],40,[([1,1,0,1,0],atSt csoNt csoNi 15 (csoSt n p m q (0,0,0) i) (.exit 0) (csoSt n p m q t (-1)))]⟩
theorem cso_ev (n:Nat) (p:RP) (m:Nat) (q:RP) (t:N3) (i:Int):fnS (csoC n p m q t i) 60 Try.f26 (bodyOf Try.f26) [num n,ptV p,num m,ptV q] =
  req (isNum (num n)) (req (isNum (num m)) (req (stEq (csoSt n p m q (0,0,0) (IntKind.i64.wrap ((if ((bitLen (unnum (num m)):Nat):Int) > ((bitLen (unnum (num n)):Nat):Int) then ((bitLen (unnum (num m)):Nat):Int) else ((bitLen (unnum (num n)):Nat):Int)) - 1))) (csoSt n p m q (0,0,0) i))
   (req (isJac (jacV t)) (some (ptV (ptR (unJ (jacV t)))))))):=by kernel_rfl
theorem sumOf_sum:Sum Try.prog 26 SuOF:=by
 intro args v h
 unfold SuOF at h
 split at h
 ·rename_i n0 p0 m0 q0
  simp only[Option.some.injEq,Prod.mk.injEq,Bool.and_eq_true] at h
  obtain ⟨⟨⟨⟨⟨⟨h1,h2⟩,h3⟩,h4⟩,c1⟩,c2⟩,rfl⟩:=h
  obtain ⟨n,hn,rfl⟩:=isNum_some h1
  obtain ⟨p,hp,rfl⟩:=isPt_some h2
  obtain ⟨m,hm,rfl⟩:=isNum_some h3
  obtain ⟨q,hq,rfl⟩:=isPt_some h4
  simp only[unnum_lt hn,unnum_lt hm,unPt_ptV hp,unPt_ptV hq] at c1 c2 ⊢
  obtain ⟨L,hL1,hL2,hL3,hL⟩:∃L:Nat,bitLen n<=L∧bitLen m<=L∧L<=256∧((if ((bitLen m:Nat):Int) > ((bitLen n:Nat):Int) then ((bitLen m:Nat):Int) else ((bitLen n:Nat):Int)):Int)=(L:Int):=by
   have a1:=bitLen_lt hn
   have a2:=bitLen_lt hm
   split
   ·exact⟨bitLen m,by omega,by omega,a2,rfl⟩
   ·exact⟨bitLen n,by omega,by omega,a1,rfl⟩
  have hLo:LoopOk Try.prog 40 (loopAt [1,1,0,1,0] (bodyOf Try.f26)) (atSt csoNt csoNi 15 (csoSt n p m q (0,0,0) ((L:Int) - 1)) (.exit 0) (csoSt n p m q (smK n p m q L L) (-1))):=by
   refine atSt_ok fun w0 R a W hrel=>?_
   refine loop_rounds (R:=R) (C:=csoC0) csoOk0 cso_at (m:=60) (nt:=csoNt) (ni:=csoNi) (et:=csoNt) (ei:=csoNi) (nx:=15) (ex:=15) (e:=.exit 0) (sf:=csoSt n p m q (smK n p m q L L) (-1))
    (fun k=>csoSt n p m q (smK n p m q L k) ((L:Int) - 1 - (k:Int))) L (by intro h;cases h) ?_ ?_ ?_
   ·intro k hk
    refine(cso_r _ _ _ _ _ _).trans ?_
    rw[decide_eq_true (by omega),cond_true,suR_eq hn hm hp hq hL3 hk,wrap_i64 (by omega),show((L:Int) - 1 - (k:Int) - 1)=(L:Int) - 1 - ((k+1:Nat):Int) from by omega]
   ·refine(cso_r _ _ _ _ _ _).trans ?_
    have e:(L:Int) - 1 - ((L:Nat):Int)=-1:=by omega
    rw[e];rfl
   ·rw[show(L:Int) - 1 - ((0:Nat):Int)=(L:Int) - 1 from by omega];exact hrel
  have hOk:CfgOk Try.prog (csoC n p m q (smK n p m q L L) ((L:Int) - 1)) (bodyOf Try.f26):=⟨mixed,tabOk,sums_cons Len_sum (sums_cons cptt_sum sums_nil),oneL hLo⟩
  refine sum_at hOk Try.func26 (by kernel_rfl) (by kernel_rfl) rfl (fuel:=60) (by show 4<=Try.f26.ntmps;decide +kernel) ?_ rfl
  refine(cso_ev n p m q _ _).trans ?_
  rw[isNum_num,isNum_num,req_true rfl,req_true rfl,unnum_lt hn,unnum_lt hm,hL,wrap_i64 (by omega),req_true (stEq_refl rfl),isJac_jacV,req_true rfl,unJ_jacV (okJ_sm n hp m hq L L),J3_smL c1 c2 (lt_bitLen hL1) (lt_bitLen hL2)]
 ·simp at h
noncomputable def cBaC:Cfg:=⟨tab,[(27,GF),(26,SuOF)],8,[]⟩
theorem cBaOk:CfgOk Try.prog cBaC (bodyOf Try.f13):=⟨mixed,tabOk,(sums_cons cg_sum (sums_cons sumOf_sum sums_nil)),noL⟩
theorem cBa_ev (n:Nat):fnS cBaC 60 Try.f13 (bodyOf Try.f13) [(num n)]=cBasT (num n):=by kernel_rfl
theorem cBa_sum:Sum Try.prog 13 CBasF:=by
 refine sum_of cBaOk Try.func13 (by kernel_rfl) (by kernel_rfl) rfl (fuel:=60) fun args v h _=>?_
 unfold CBasF at h
 split at h
 ·simp only[Option.some.injEq,Prod.mk.injEq] at h
  obtain ⟨h0,rfl⟩:=h
  obtain ⟨n,hn,rfl⟩:=isNum_some h0
  rw[unnum_lt hn]
  exact⟨by show 1<=Try.f13.ntmps;decide +kernel,(cBa_ev n).trans (cBasT_eq hn),rfl⟩
 ·simp at h
end Go.Proofs.Ytckbmhegopjnmaa

namespace Go.Proofs.Ytckbmhegopjnmaa
set_option maxRecDepth 100000
open Go.W
open Go.RowKit (Below)
def cbyC:Cfg:=⟨tab,[(79,CkF),(49,BytesF),(44,BitF)],22,[]⟩
theorem cbyOk:CfgOk Try.prog cbyC (bodyOf Try.f72):=⟨mixed,tabOk,sums_cons cis_sum (sums_cons Bytes_sum (sums_cons Bit_sum sums_nil)),noL⟩
theorem cby_ev (i:Bool) (X Y:Nat) (es:Nat->Nat) (id:Nat):fnMS cbyC 60 Try.f72 (bodyOf Try.f72) (cArgs [.pl (ptV (i,X,Y))] 0) (cMem es [.pl (ptV (i,X,Y))] 0) 0 id=cBytT 5 id i (num X) (num Y):=by kernel_rfl
theorem cby_msum:MSum Try.prog 72 (CBytF 5):=by
 refine msum_of (fuel:=60) (next:=0) cbyOk Try.func72 (by kernel_rfl) (by kernel_rfl) rfl fun vs mm id v l hpick hlt=>?_
 match vs,hpick with
 | [a],hpick =>
  obtain ⟨r,hr,rfl⟩:∃r,okR r∧a=ptV r:=by
   cases hc:isPt a with
   | true=>exact isPt_some hc
   | false=>rw[CBytF_eq,hc] at hpick;simp[pickM] at hpick
  obtain ⟨i,X,Y⟩:=r
  refine⟨[.pl (ptV (i,X,Y))],⟨rfl,rfl,trivial⟩,by show 1<=Try.f72.ntmps;decide +kernel,CBytF_one hpick,fun es=>?_⟩
  exact(cby_ev i X Y es id).trans ((cBytT_eq hr.1 hr.2).trans hpick)
 | [],h=>simp[CBytF,pickM] at h
 | _::_::_,h=>simp[CBytF,pickM] at h
def crdC:Cfg:=⟨tab,[(74,ReadF),(76,SqAF),(75,RootF),(77,TrnF)],64,[]⟩
theorem crdOk:CfgOk Try.prog crdC (bodyOf Try.f52):=⟨mixed,tabOk,(sums_cons Read_sum (sums_cons csq_sum (sums_cons Root_sum (sums_cons ctrn_sum sums_nil)))),noL⟩
theorem crd_33 (f:Nat->List Value) (es:Nat->Nat) (id:Nat):fnMS crdC 60 Try.f52 (bodyOf Try.f52) (cArgs [.sl kB 33 f] 0) (cMem es [.sl kB 33 f] 0) 0 id=rd33 (bI f 0) (rdK (b32V f) (bI f 0)):=by kernel_rfl
theorem crd_1 (f:Nat->List Value) (es:Nat->Nat) (id:Nat):fnMS crdC 60 Try.f52 (bodyOf Try.f52) (cArgs [.sl kB 1 f] 0) (cMem es [.sl kB 1 f] 0) 0 id=rd1 (bI f 0):=by kernel_rfl
theorem crd_more (k:Nat) (f:Nat->List Value) (es:Nat->Nat) (id:Nat):fnMS crdC 60 Try.f52 (bodyOf Try.f52) (cArgs [.sl kB (k+34) f] 0) (cMem es [.sl kB (k+34) f] 0) 0 id=eT 7:=by kernel_rfl
theorem crd_less (f:Nat->List Value) (es:Nat->Nat) (id:Nat):∀n,n<33->n≠1->fnMS crdC 60 Try.f52 (bodyOf Try.f52) (cArgs [.sl kB n f] 0) (cMem es [.sl kB n f] 0) 0 id=eT 7
 | 0,_,_=>by kernel_rfl
 | 1,_,h=>absurd rfl h
 | 2,_,_=>by kernel_rfl
 | 3,_,_=>by kernel_rfl
 | 4,_,_=>by kernel_rfl
 | 5,_,_=>by kernel_rfl
 | 6,_,_=>by kernel_rfl
 | 7,_,_=>by kernel_rfl
 | 8,_,_=>by kernel_rfl
 | 9,_,_=>by kernel_rfl
 | 10,_,_=>by kernel_rfl
 | 11,_,_=>by kernel_rfl
 | 12,_,_=>by kernel_rfl
 | 13,_,_=>by kernel_rfl
 | 14,_,_=>by kernel_rfl
 | 15,_,_=>by kernel_rfl
 | 16,_,_=>by kernel_rfl
 | 17,_,_=>by kernel_rfl
 | 18,_,_=>by kernel_rfl
 | 19,_,_=>by kernel_rfl
 | 20,_,_=>by kernel_rfl
 | 21,_,_=>by kernel_rfl
 | 22,_,_=>by kernel_rfl
 | 23,_,_=>by kernel_rfl
 | 24,_,_=>by kernel_rfl
 | 25,_,_=>by kernel_rfl
 | 26,_,_=>by kernel_rfl
 | 27,_,_=>by kernel_rfl
 | 28,_,_=>by kernel_rfl
 | 29,_,_=>by kernel_rfl
 | 30,_,_=>by kernel_rfl
 | 31,_,_=>by kernel_rfl
 | 32,_,_=>by kernel_rfl
 | n+33,h,_=>absurd h (by omega)
theorem crd_msum:MSum Try.prog 52 RdF:=by
 refine msum_of (fuel:=60) (next:=0) crdOk Try.func52 (by kernel_rfl) (by kernel_rfl) rfl fun vs mm id v l hpick hlt=>?_
 match vs,hpick with
 | [a],hpick =>
  obtain ⟨hc,rfl,rfl⟩:=pick_one hpick
  simp only[Bool.and_eq_true] at hc
  obtain ⟨ha,hs⟩:=hc
  generalize hqa:srcB mm kB a=qa at ha hs ⊢
  obtain ⟨ok1,n,f⟩:=qa
  simp only at ha hs ⊢
  subst ha
  refine⟨[.sl kB n f],⟨hqa,trivial⟩,by show 1<=Try.f52.ntmps;decide +kernel,.inl trivial,fun es=>?_⟩
  exact rd_all (fun n=>fnMS crdC 60 Try.f52 (bodyOf Try.f52) (cArgs [.sl kB n f] 0) (cMem es [.sl kB n f] 0) 0 id) hs (crd_1 f es id) (crd_33 f es id) (fun h=>rdK_eq h) (crd_less f es id) (fun k=>crd_more k f es id)
 | [],h=>simp[RdF,pickM] at h
 | _::_::_,h=>simp[RdF,pickM] at h
end Go.Proofs.Ytckbmhegopjnmaa

namespace Go.W
def IszF:List Value->Option (Bool×Value)
 | [.int .i64 s]=>some (true,.bool (bif decide (1<=s) then decide (s<=7) else false))
 | _=>none
def mkC (a b:Int):Bool:=decide (a<=b)&&decide (0<=a)&&szOk b.toNat 1&&true&&true&&true&&true&&true
theorem mkC_true {a:Nat} {k:Int} (hk:0<=k) (h:a+k<=2000000):mkC (a:Int) (IntKind.i64.wrap ((a:Int)+k))=true:=by
 unfold mkC
 rw[wrap_i64 (by omega),decide_eq_true (by omega),decide_eq_true (by omega),szOk_small (by omega)];rfl
def cpR (m:Nat) (g:Nat->List Value):Nat->List Value:=cpyF (fun _=>[z8]) 0 (min m m) (sgF m g)
theorem bI_cp {m:Nat} {g:Nat->List Value} {j:Nat} (h:j<m):bI (cpR m g) j=bI g j:=by
 unfold cpR
 rw[bI_cpy,Nat.min_self,if_pos h,bI_sg]
def CopF (e:Nat):List Value->(Nat->Option Blk)->Nat->List (Bool×Value×List (Nat×Blk))
 | [b,.int .i64 k],mm,id=>[((srcB mm kB b).1&&(Nat.ble (srcB mm kB b).2.1 1000000&&(decide (0<=k)&&decide (k<=1000000))),nSl id (srcB mm kB b).2.1,rw1 e id (srcB mm kB b).2.1 (cpR (srcB mm kB b).2.1 (srcB mm kB b).2.2))]
 | _,_,_=>[]
noncomputable def pkB (n s:Int):Bool:=hide (decide (pkOk n s))
theorem pkB_iff {n s:Int}:pkB n s=true↔pkOk n s:=by unfold pkB;rw[hide_eq,decide_eq_true_eq]
noncomputable def LaiF (e:Nat):List Value->(Nat->Option Blk)->Nat->List (Bool×Value×List (Nat×Blk))
 | [b,.int .i64 n,.int .i64 s],mm,id=>[((srcW mm kB e b).1&&(Nat.ble (srcW mm kB e b).2.2.1 900000&&pkB n s),nSl id ((srcW mm kB e b).2.2.1+s.toNat),
   [(nid id 0,⟨.row kB ((srcW mm kB e b).2.2.1+s.toNat) (pkR (srcW mm kB e b).2.2.1 (srcW mm kB e b).2.2.2 n s),e,true⟩),((srcW mm kB e b).2.1,⟨.lst [],e,false⟩)])]
 | _,_,_=>[]
theorem sh8i {i:Nat} (h:i<=7):IntKind.i64.wrap (8*(i:Int))=((8*i:Nat):Int):=by rw[wrap_i64 (by omega)];omega
theorem byt_i {n:Int} (hn:0<=n) {i:Nat} (hi:i<=7):IntKind.u8.wrap (iShr .i64 n (IntKind.i64.wrap (8*(i:Int))))=((n.toNat / 2^(8*i) % 256:Nat):Int):=by
 rw[sh8i hi,shr_n hn (by omega),wrap_u8];omega
theorem pk_id (m:Nat) (g:Nat->List Value) (n s:Int):∀j,j<m->nrmK kB (g j)=nrmK kB (pkR m g n s j):=fun j hj=>by
 rw[nrm_pk,nrm_kB]
 unfold pkJ
 rw[if_pos hj]
def iszB (s:Int):Bool:=bif decide (1<=s) then decide (s<=7) else false
theorem iszB_iff {s:Int}:iszB s=true↔1<=s∧s<=7:=by
 unfold iszB
 by_cases h:1<=s
 ·rw[decide_eq_true h,cond_true,decide_eq_true_eq];omega
 ·rw[decide_eq_false h,cond_false]
  exact⟨fun h=>by simp at h,fun h2=>absurd h2.1 h⟩
def kw (m:Nat):Bool:=true&&Nat.beq m m&&true&&Nat.ble m m
theorem kw_true (m:Nat):kw m=true:=by unfold kw;rw[Nat.beq_refl,bE (Nat.le_refl _)];rfl
theorem pk_cp (m:Nat) (g:Nat->List Value) (n s:Int) (L:Nat):∀j,j<L->nrmK kB (pkR m (cpR m (sgF m g)) n s j)=nrmK kB (pkR m g n s j):=fun j _=>by
 rw[nrm_pk,nrm_pk]
 unfold pkJ
 by_cases h:j<m
 ·rw[if_pos h,if_pos h,bI_cp h,bI_sg]
 ·rw[if_neg h,if_neg h]
def gtT2 (m:Nat) (a s:Int) (x:Option (Value×List (Nat×Blk))):Option (Value×List (Nat×Blk)) :=
 bif !(iszB s) then gtErr 1 else bif decide (a<0) then gtErr 1 else bif decide (a > (m:Int)) then gtErr 1 else bif decide (s > IntKind.i64.wrap ((m:Int) - a)) then gtErr 7 else x
theorem gtT2_eq {m:Nat} (hm:m<=1000000) (a s:Int) (x:Option (Value×List (Nat×Blk))):gtT2 m a s x=if gtE0 m a s=0 then x else gtErr (gtE0 m a s):=by
 rw[<-gtT_eq hm a s x]
 unfold gtT2 gtT
 by_cases h1:s<1
 ·rw[show iszB s=false from by rw[Bool.eq_false_iff,ne_eq,iszB_iff];omega,decide_eq_true h1];rfl
 by_cases h2:s > 7
 ·rw[show iszB s=false from by rw[Bool.eq_false_iff,ne_eq,iszB_iff];omega,decide_eq_false h1,decide_eq_true h2];rfl
 rw[iszB_iff.2 (by omega),decide_eq_false h1,decide_eq_false h2];rfl
def paT {α:Type} (m:Nat) (X Y:Int) (x:Option α):Option α :=
 req (decide (0<=Y)&&decide (Y<=(m:Int))) (req (decide (0<=X)&&decide (X<=((Y.toNat:Nat):Int))) (req (Nat.ble Y.toNat m) x))
theorem paT_eq {α:Type} {m:Nat} {X Y:Int} (h0:0<=X) (h1:X<=Y) (h2:Y<=(m:Int)) (x:Option α):paT m X Y x=x:=by
 unfold paT
 rw[decide_eq_true (by omega),decide_eq_true (by omega),req_true (b:=true&&true) rfl,decide_eq_true (by omega),decide_eq_true (by omega),req_true (b:=true&&true) rfl,bE (by omega),req_true rfl]
def bdT {α:Type} (i:Int) (l c m:Nat) (x:Option α):Option α:=req (inR i c) (req (true&&Nat.ble (l+c) m) (req (Nat.blt i.toNat c&&true) x))
theorem bdT_eq {α:Type} {k l c m:Nat} (h:k<c) (h2:l+c<=m) (x:Option α):bdT (k:Int) l c m x=x:=by
 have:=bdI_eq h x
 unfold bdI at this
 unfold bdT
 rw[bE h2,req_true (b:=true&&true) rfl];exact this
theorem pp_cp (m:Nat) (g:Nat->List Value) (k:Nat) (p:Nat->List Value):∀j,j<m+4+k->nrmK kB (appF (m+4) (pkR m (cpR m (sgF m g)) (k:Nat) 4) (sgF k p) j)=nrmK kB (ppR m g k p j):=fun j hj=>by
 rw[<-pp_row m g k p j hj]
 unfold appF
 by_cases h:j<m+4
 ·rw[bL h,cond_true,cond_true,pk_cp m g _ _ (m+4) j h,nrm_pk,nrm_pk]
  unfold pkJ
  rw[bI_sg]
 ·rw[show Nat.blt j (m+4)=false from by rw[Bool.eq_false_iff,ne_eq,Nat.blt_eq];omega,cond_false,cond_false]
def gpC (e m:Nat) (g:Nat->List Value) (X N:Int) (id:Nat):Option (Value×List (Nat×Blk)) :=
 paT m X (IntKind.i64.wrap (X+N))
  (req (kbT X.toNat ((IntKind.i64.wrap (X+N)).toNat - X.toNat) m&&(Nat.ble ((IntKind.i64.wrap (X+N)).toNat - X.toNat) 1000000&&(decide ((0:Int)<=0)&&decide ((0:Int)<=1000000)))) (req (Nat.ble ((IntKind.i64.wrap (X+N)).toNat - X.toNat) ((IntKind.i64.wrap (X+N)).toNat - X.toNat))
   (some (.tuple #[nSl id ((IntKind.i64.wrap (X+N)).toNat - X.toNat),i64 (IntKind.i64.wrap (X+N)),i64 0],rw1 e id ((IntKind.i64.wrap (X+N)).toNat - X.toNat) (cpR ((IntKind.i64.wrap (X+N)).toNat - X.toNat) (sgA X.toNat ((IntKind.i64.wrap (X+N)).toNat - X.toNat) m g))))))
theorem gpC_eq {e m:Nat} {g:Nat->List Value} {x n id:Nat} (hm:m<=1000000) (h:x+n<=m):gpC e m g (x:Int) (n:Int) id=some (.tuple #[nSl id n,i64 ((x:Int)+(n:Int)),i64 0],rw1 e id n (cpR n (sgA x n m g))):=by
 unfold gpC
 rw[wrap_i64 (by omega),paT_eq (by omega) (by omega) (by omega),show((x:Int)+(n:Int)).toNat=x+n from by omega,Int.toNat_natCast,show x+n - x=n from by omega,kbT_true h,bE (show n<=1000000 by omega),req_true (b:=true&&(true&&(decide ((0:Int)<=0)&&decide ((0:Int)<=1000000)))) rfl,bE (Nat.le_refl _),req_true rfl]
theorem gp_cp (m:Nat) (g:Nat->List Value) (a:Int) (n:Nat):∀j,j<n->nrmK kB (cpR n (sgA (a.toNat+4) n m g) j)=nrmK kB (gpR g a j):=fun j h=>by
 rw[nrm_kB,nrm_kB,bI_cp h,bI_sgA,bI_gp]
noncomputable def gpT (e m:Nat) (g:Nat->List Value) (a:Int) (id:Nat):Option (Value×List (Nat×Blk)) :=
 bif gtE m a 4 != 0 then gpErr (gtE m a 4) else bif decide (gtN m (sgF m g) a 4 > 16384) then gpErr 7 else bif decide (gtN m (sgF m g) a 4 > IntKind.i64.wrap ((m:Int) - gtX m a 4)) then gpErr 7 else gpC e m g (gtX m a 4) (gtN m (sgF m g) a 4) id
theorem gpT_good {e m:Nat} {g:Nat->List Value} {a:Int} (hm:m<=1000000) (hok:gpE0 m g a=0) (id:Nat) :
  gpT e m g a id=some (.tuple #[nSl id (gtV g a.toNat 4),i64 (a+4+((gtV g a.toNat 4:Nat):Int)),i64 0],[(nid id 0,⟨.row kB (gtV g a.toNat 4) (cpR (gtV g a.toNat 4) (sgA (a.toNat+4) (gtV g a.toNat 4) m g)),e,true⟩)]):=by
 obtain ⟨h0,⟨h4,h5⟩,hn,hv⟩:=gpE0_ok hok
 obtain ⟨e1,e2,e3⟩:=gt_hid (g:=sgF m g) h0
 rw[gtV_sg,show((4:Int).toNat)=4 from rfl] at e3
 unfold gpT
 rw[e1,e2,e3,decide_eq_false (by omega),wrap_i64 (by omega),decide_eq_false (by omega),show a+4=((a.toNat+4:Nat):Int) from by omega]
 show gpC e m g ((a.toNat+4:Nat):Int) ((gtV g a.toNat 4:Nat):Int) id=_
 rw[gpC_eq hm hv];rfl
theorem gpT_bad {e m:Nat} {g:Nat->List Value} {a:Int} (hm:m<=1000000) (hok:¬gpE0 m g a=0) (id:Nat):gpT e m g a id=some (.tuple #[.slice none 0 0,i64 0,i64 (gpE0 m g a)],[]):=by
 rw[<-gp_bad (e:=e) hm hok id]
 unfold gpT
 by_cases h0:gtE0 m a 4=0
 ·obtain ⟨e1,e2,e3⟩:=gt_hid (g:=sgF m g) h0
  rw[gtV_sg,show((4:Int).toNat)=4 from rfl] at e3
  obtain ⟨_,_,h4,h5⟩:=gtE0_ok h0
  have hx:(16384:Int)<(gtV g a.toNat 4:Nat)∨(m:Int) - (a+4)<(gtV g a.toNat 4:Nat):=by
   refine Decidable.byContradiction fun hx=>hok ?_
   unfold gpE0
   rw[if_neg (fun h=>h h0),if_neg hx]
  rw[e1,e2,e3,wrap_i64 (show -9223372036854775808<=(m:Int) - (a+4)∧(m:Int) - (a+4)<9223372036854775808 by omega)]
  by_cases h6:(16384:Int)<(gtV g a.toNat 4:Nat)
  ·rw[decide_eq_true (show((gtV g a.toNat 4:Nat):Int) > 16384 from h6)];rfl
  ·have h7:(m:Int) - (a+4)<(gtV g a.toNat 4:Nat):=hx.resolve_left h6
   rw[decide_eq_true (show((gtV g a.toNat 4:Nat):Int) > (m:Int) - (a+4) from h7)];rfl
 ·have e1:gtE m a 4=gtE0 m a 4:=by unfold gtE;rw[hide_eq]
  rw[e1,show(gtE0 m a 4 != 0)=true from by rw[bne_iff_ne];exact h0];rfl
end Go.W
