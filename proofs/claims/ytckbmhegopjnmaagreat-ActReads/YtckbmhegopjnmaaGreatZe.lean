/-
  Several texts in one: M15 M16 Ls M17 M21 M22 N4 N5 N6 N7 N9 N10 M24 M25 Ra M26 M27 Rb W15 M28 M29 M30 M31 W17 M35 M36 M37 M38 M39.
-/
import Derived.Test.YtckbmhegopjnmaaGreatZd
import Derived.KernelRfl
import Derived.ChangeArms
import Derived.Deep.Slices
namespace Go.W
def qP:Nat:=28948022309329048855892746252171976963317496166410141009864396001977208667916
theorem qP_eq:qP=(pP+1) / 4:=by decide
def rootR (A:Nat):Nat:=powN 0 (redN 0 A) qP
def rootIs (A:Nat):Bool:=decide (fmulN 0 (rootR A) (rootR A)=redN 0 A)
def rootNum (A:Nat):Nat:=if fmulN 0 (rootR A) (rootR A)=redN 0 A then (if rootR A%2=1 then fsubN 0 0 (rootR A) else rootR A) else 0
def rootV (A:Nat):Value:=.tuple #[num (rootNum A),.bool (rootIs A)]
def RootF:List Value->Option (Bool×Value)
 | [a]=>some (isNum a,rootV (unnum a))
 | _=>none
def RootEnd (r ra:Value) (x:Nat):Option Value:=
 r2 r r<|bif !(eqV (num (fmulN 0 (unnum r) (unnum r))) ra) then some (.tuple #[num 0,.bool false]) else
  bif iAnd .u64 ((dig x 0:Nat):Int) 1==1 then (r2 (num 0) r<|some (.tuple #[num (fsubN 0 (unnum (num 0)) (unnum r)),.bool true])) else some (.tuple #[r,.bool true])
def RootRT (a:Value):Option Value:=
 req (isNum a)<|r2 (rRed 0 a) (num qP)<|RootEnd (num (powN 0 (unnum (rRed 0 a)) (unnum (num qP)))) (rRed 0 a) (powN 0 (unnum (rRed 0 a)) (unnum (num qP)))
theorem qP_lt:qP<2^256:=by decide
theorem RootEnd_eq {R B:Nat}(hR:R<2^256) (hB:B<2^256):RootEnd (num R) (num B) R=
  some (.tuple #[num (if fmulN 0 R R=B then (if R%2=1 then fsubN 0 0 R else R) else 0),.bool (decide (fmulN 0 R R=B))]):=by
 unfold RootEnd
 have hm:fmulN 0 R R<2^256:=redN_lt _
 rw[r2_num,unnum_lt hR,eqV_num,Nat.mod_eq_of_lt hm,Nat.mod_eq_of_lt hB,unnum_lt (show 0<2^256 by decide),r2_num]
 by_cases h:fmulN 0 R R=B
 ·rw[if_pos h,decide_eq_true h]
  have e:iAnd .u64 ((dig R 0:Nat):Int) 1=((R%2:Nat):Int):=by
   have:=iAnd_u (a:=dig R 0) (b:=1) (dig_lt _ _) (by omega)
   rw[show((1:Nat):Int)=1 from rfl]at this
   rw[this,Nat.and_one_is_mod]
   congr 1
   show R%18446744073709551616%2=R%2
   omega
  rw[e]
  rcases Nat.mod_two_eq_zero_or_one R with h0|h1
  ·rw[h0,if_neg (by decide)];rfl
  ·rw[h1,if_pos rfl];rfl
 ·rw[if_neg h,decide_eq_false h];rfl
theorem RootRT_eq {A:Nat}(hA:A<2^256):RootRT (num A)=some (rootV A):=by
 unfold RootRT rRed rootV rootNum rootIs rootR
 rw[isNum_num,req_true rfl,r2_num,unnum_lt hA,unnum_lt (redN_lt A),unnum_lt qP_lt]
 exact RootEnd_eq (powN_lt qP_lt) (redN_lt _)
def readN (w:Int) (X:Nat):Nat:=if okW w=true then (if X<primeN w then X else 0) else 0
def readE (w:Int) (X:Nat):Int:=if okW w=true then (if X<primeN w then 0 else 2) else 1
def readV (w:Int) (X:Nat):Value:=.tuple #[num (readN w X),i64 (readE w X)]
def ReadF:List Value->Option (Bool×Value)
 | [.int .i64 w,b]=>some (isB32 b,readV w (unbytes b))
 | _=>none
end Go.W

namespace Go.W
def or8R (acc:Int) (x:Nat):Int:=iOr .u64 (iShl .u64 acc 8) (IntKind.u64.wrap (x:Int))
def of8R (x0 x1 x2 x3 x4 x5 x6 x7:Nat):Int:=or8R (or8R (or8R (or8R (or8R (or8R (or8R (or8R 0 x0) x1) x2) x3) x4) x5) x6) x7
theorem or8R_eq {A x:Nat}(hA:A<72057594037927936) (hx:x<256):or8R (A:Int) x=((A*256+x:Nat):Int):=by
 unfold or8R
 have e1:IntKind.u64.wrap (x:Int)=(x:Int):=by rw[wrap_u64];omega
 have e2:iShl .u64 (A:Int) 8=((A*256:Nat):Int):=by
  unfold iShl
  rw[show min (8:Int).toNat IntKind.u64.bits=8 from rfl,wrap_u64]
  omega
 rw[e1,e2,iOr_u (by omega) (by omega)]
 have:=Nat.shiftLeft_add_eq_or_of_lt (b:=x) (i:=8) hx A
 rw[Nat.shiftLeft_eq]at this
 rw[show A*256=A*2^8 from rfl,<-this]
theorem of8R_eq {x0 x1 x2 x3 x4 x5 x6 x7:Nat}(h0:x0<256) (h1:x1<256) (h2:x2<256) (h3:x3<256) (h4:x4<256) (h5:x5<256) (h6:x6<256) (h7:x7<256):
  of8R x0 x1 x2 x3 x4 x5 x6 x7=of8 x0 x1 x2 x3 x4 x5 x6 x7:=by
 rw[of8_eq h0 h1 h2 h3 h4 h5 h6 h7]
 unfold of8R
 have f0:=or8R_eq (A:=0) (x:=x0) (by decide) h0
 rw[Nat.zero_mul,Nat.zero_add,show((0:Nat):Int)=0 from rfl]at f0
 rw[f0,or8R_eq (by omega) h1,or8R_eq (by omega) h2,or8R_eq (by omega) h3,or8R_eq (by omega) h4,or8R_eq (by omega) h5,or8R_eq (by omega) h6,or8R_eq (by omega) h7]
def OfRT (a0 a1 a2 a3 a4 a5 a6 a7 b0 b1 b2 b3 b4 b5 b6 b7 c0 c1 c2 c3 c4 c5 c6 c7 d0 d1 d2 d3 d4 d5 d6 d7:Nat):Option Value:=
 some (.agg #[.int .u64 (of8R d0 d1 d2 d3 d4 d5 d6 d7),.int .u64 (of8R c0 c1 c2 c3 c4 c5 c6 c7),.int .u64 (of8R b0 b1 b2 b3 b4 b5 b6 b7),.int .u64 (of8R a0 a1 a2 a3 a4 a5 a6 a7)])
theorem of8R_dig {a:Nat}(h:a<18446744073709551616):of8R (a / 2^56%256) (a / 2^48%256) (a / 2^40%256) (a / 2^32%256) (a / 2^24%256) (a / 2^16%256) (a / 2^8%256) (a%256)=(a:Int):=by
 rw[of8R_eq (Nat.mod_lt _ (by decide)) (Nat.mod_lt _ (by decide)) (Nat.mod_lt _ (by decide)) (Nat.mod_lt _ (by decide)) (Nat.mod_lt _ (by decide)) (Nat.mod_lt _ (by decide)) (Nat.mod_lt _ (by decide)) (Nat.mod_lt _ (by decide)),of8_dig h]
end Go.W

namespace Go.Proofs.YtckbmhegopjnmaaGreat
set_option maxRecDepth 100000
open Go.W
open Go.RowKit (Below)
def RootRC:Cfg:=⟨tab,[(99,RedF),(44,PrimeF),(100,AddF),(101,PowF),(84,FMulF),(102,FSubF)],56,[]⟩
theorem RootROk:CfgOk Tryz.prog RootRC (bodyOf Tryz.f82):=⟨mixed,tabOk,sums_cons RedR_sum (sums_cons PrimeR_sum (sums_cons AddR_sum (sums_cons PowR_sum (sums_cons FMulR_sum (sums_cons FSubR_sum sums_nil))))),noL⟩
theorem RootR_ev (A:Nat):fnS RootRC 100 Tryz.f82 (bodyOf Tryz.f82) [num A]=RootRT (num A):=by kernel_rfl
theorem RootR_sum:Sum Tryz.prog 82 RootF:=by
 refine sum_of RootROk Tryz.func82 (by kernel_rfl) (by kernel_rfl) rfl (fuel:=100) fun args v h _=>?_
 obtain ⟨A,hA,rfl,rfl⟩:=arg1 (f:=fun x=>rootV (unnum x)) h
 exact⟨by show 1<=Tryz.f82.ntmps;decide +kernel,(RootR_ev A).trans (by rw[RootRT_eq hA,unnum_lt hA]),rfl⟩
def OfRC:Cfg:=⟨tab,[],25,[]⟩
theorem OfROk:CfgOk Tryz.prog OfRC (bodyOf Tryz.f61):=⟨mixed,tabOk,sums_nil,noL⟩
theorem OfR_ev (a0 a1 a2 a3 a4 a5 a6 a7 b0 b1 b2 b3 b4 b5 b6 b7 c0 c1 c2 c3 c4 c5 c6 c7 d0 d1 d2 d3 d4 d5 d6 d7:Nat):fnS OfRC 100 Tryz.f61 (bodyOf Tryz.f61) [by32 a0 a1 a2 a3 a4 a5 a6 a7 b0 b1 b2 b3 b4 b5 b6 b7 c0 c1 c2 c3 c4 c5 c6 c7 d0 d1 d2 d3 d4 d5 d6 d7]=OfRT a0 a1 a2 a3 a4 a5 a6 a7 b0 b1 b2 b3 b4 b5 b6 b7 c0 c1 c2 c3 c4 c5 c6 c7 d0 d1 d2 d3 d4 d5 d6 d7:=by kernel_rfl
theorem OfR_sum:Sum Tryz.prog 61 OfF:=by
 refine sum_of OfROk Tryz.func61 (by kernel_rfl) (by kernel_rfl) rfl (fuel:=100) fun args v h _=>?_
 unfold OfF at h
 split at h
 ·simp only[Option.some.injEq,Prod.mk.injEq]at h
  obtain ⟨h1,rfl⟩:=h
  obtain ⟨X,hX,rfl,h2⟩:=isB32_some h1
  refine⟨by show 1<=Tryz.f61.ntmps;decide +kernel,?_,rfl⟩
  rw[h2]
  obtain ⟨a,b,c,d,k0,k1,k2,k3,e1,e2⟩:=digits hX
  rw[e2,e1,bytesV_by32 k0 k1 k2]
  refine(OfR_ev (d / 2^56%256) (d / 2^48%256) (d / 2^40%256) (d / 2^32%256) (d / 2^24%256) (d / 2^16%256) (d / 2^8%256) (d%256) (c / 2^56%256) (c / 2^48%256) (c / 2^40%256) (c / 2^32%256) (c / 2^24%256) (c / 2^16%256) (c / 2^8%256) (c%256) (b / 2^56%256) (b / 2^48%256) (b / 2^40%256) (b / 2^32%256) (b / 2^24%256) (b / 2^16%256) (b / 2^8%256) (b%256) (a / 2^56%256) (a / 2^48%256) (a / 2^40%256) (a / 2^32%256) (a / 2^24%256) (a / 2^16%256) (a / 2^8%256) (a%256)).trans ?_
  unfold OfRT
  rw[of8R_dig k0,of8R_dig k1,of8R_dig k2,of8R_dig k3]
  rfl
 ·simp at h
end Go.Proofs.YtckbmhegopjnmaaGreat

namespace Go.W
theorem redN_ok {w:Int}(h:okW w=true) (A:Nat):redN w A=A%primeN w:=by unfold redN;rw[if_pos h]
theorem faddN_ok {w:Int}(h:okW w=true) (A B:Nat):faddN w A B=(A+B)%primeN w:=redN_ok h _
theorem fmulN_ok {w:Int}(h:okW w=true) (A B:Nat):fmulN w A B=A*B%primeN w:=redN_ok h _
theorem fsubN_ok {w:Int}(h:okW w=true) (A B:Nat):fsubN w A B=(A+(primeN w-B%primeN w))%primeN w:=redN_ok h _
theorem redN_no {w:Int}(h:¬okW w=true) (A:Nat):redN w A=0:=by unfold redN;rw[if_neg h]
theorem sub_add_mod {p A B:Nat}(hp:0<p):((A+(p-B%p))%p+B)%p=A%p:=by
 have h:=Nat.mod_lt B hp
 have e:=Nat.div_add_mod B p
 rw[Nat.mod_add_mod]
 have:A+(p-B%p)+B=A+p*(B / p+1):=by rw[Nat.mul_add,Nat.mul_one];omega
 rw[this,Nat.add_mul_mod_self_left]
theorem neg_add {p A:Nat}(hp:0<p):((0+(p-A%p))%p+A)%p=0:=by rw[sub_add_mod hp,Nat.zero_mod]
theorem add_cancel_mod {p A B C:Nat}(hp:0<p) (h:(A+C)%p=(B+C)%p):A%p=B%p:=by
 have key:∀X,X%p=((X+C)%p+(p-C%p))%p:=by
  intro X
  have h1:=Nat.mod_lt C hp
  have e:=Nat.div_add_mod C p
  rw[Nat.mod_add_mod]
  have:X+C+(p-C%p)=X+p*(C / p+1):=by rw[Nat.mul_add,Nat.mul_one];omega
  rw[this,Nat.add_mul_mod_self_left]
 rw[key A,key B,h]
end Go.W

namespace Go.W
theorem ok0:okW 0=true:=rfl
theorem prime0:primeN 0=pP:=rfl
theorem pP_facts:1<pP∧pP<2^256∧pP%4=3∧pP%2=1:=by decide
theorem rootR_eq (X:Nat):rootR X=X^qP%pP:=by
 unfold rootR
 rw[powN_ok ok0 qP_lt,redN_ok ok0,prime0,<-Nat.pow_mod]
theorem rootIs_iff (X:Nat):rootIs X=true↔rootR X*rootR X%pP=X%pP:=by
 unfold rootIs
 rw[fmulN_ok ok0,redN_ok ok0,prime0,decide_eq_true_eq]
theorem root_of_sq {X b:Nat}(h:b*b%pP=X%pP):rootIs X=true:=by
 rw[rootIs_iff,rootR_eq,<-Nat.mul_mod,qP_eq]
 exact genP.root pP_facts.2.2.1 h
theorem neg_sq {p R:Nat}(hp:0<p):((0+(p-R%p))%p)*((0+(p-R%p))%p)%p=R*R%p:=by
 have hneg:((0+(p-R%p))%p+R)%p=0:=neg_add hp
 generalize (0+(p-R%p))%p=n at *
 have h1:(n*n+n*R)%p=(R*R+n*R)%p:=by
  rw[<-Nat.mul_add,Nat.mul_mod,hneg,Nat.mul_zero,Nat.zero_mod,Nat.add_comm (R*R),<-Nat.add_mul,Nat.mul_mod,hneg,Nat.zero_mul,Nat.zero_mod]
 exact add_cancel_mod hp h1
theorem root_sq {X:Nat}(h:rootIs X=true):rootNum X*rootNum X%pP=X%pP∧rootNum X%2=0∧rootNum X<pP:=by
 obtain ⟨h1,h2,h3,h4⟩:=pP_facts
 have hs:=(rootIs_iff X).1 h
 have hR:rootR X<pP:=by rw[rootR_eq];exact Nat.mod_lt _ (by omega)
 have hc:fmulN 0 (rootR X) (rootR X)=redN 0 X:=by rw[fmulN_ok ok0,redN_ok ok0,prime0];exact hs
 unfold rootNum
 rw[if_pos hc]
 by_cases hodd:rootR X%2=1
 ·rw[if_pos hodd,fsubN_ok ok0,prime0]
  refine⟨(neg_sq (by omega)).trans hs,?_,Nat.mod_lt _ (by omega)⟩
  rw[Nat.mod_eq_of_lt hR,Nat.zero_add,Nat.mod_eq_of_lt (show pP-rootR X<pP by omega)]
  omega
 ·rw[if_neg hodd]
  exact⟨hs,by omega,hR⟩
end Go.W

namespace Go.W
noncomputable def hideN (n:Nat):Nat:=Classical.choose (⟨n,rfl⟩:∃x:Nat,x=n)
theorem hideN_eq (n:Nat):hideN n=n:=Classical.choose_spec (⟨n,rfl⟩:∃x:Nat,x=n)
noncomputable def Mul64H:List Value->Option (Bool×Value)
 | [x,y]=>some (isU64 x&&isU64 y,.tuple #[u64 (hideN (intN x*intN y) / 18446744073709551616),u64 (hideN (intN x*intN y)%18446744073709551616)])
 | _=>none
theorem Mul64H_eq:Mul64H=Mul64F:=by
 funext l
 unfold Mul64H Mul64F
 simp only[hideN_eq]
 rfl
def PrimeT (w:Int):Option Value:=bif w==0 then some (num pP) else bif w==1 then some (num pN) else some (num 0)
theorem PrimeT_eq (w:Int):PrimeT w=some (num (primeN w)):=by
 unfold PrimeT primeN
 by_cases h0:w=0
 ·subst h0;rfl
 ·rw[if_neg h0,show(w==0)=false from beq_eq_false_iff_ne.2 h0]
  by_cases h1:w=1
  ·subst h1;rfl
  ·rw[if_neg h1,show(w==1)=false from beq_eq_false_iff_ne.2 h1];rfl
def gapN (w:Int):Nat:=if w=0 then sP else sN
noncomputable def GapF:List Value->Option (Bool×Value)
 | [.int .i64 w]=>some (true,num (hideN (gapN w)))
 | _=>none
def gapT (w:Int):Option Value:=bif w==0 then some (num sP) else some (num sN)
theorem gapT_eq (w:Int):gapT w=some (num (hideN (gapN w))):=by
 rw[hideN_eq];unfold gapT gapN
 by_cases h:w=0
 ·subst h;rfl
 ·rw[if_neg h,show(w==0)=false from beq_eq_false_iff_ne.2 h];rfl
theorem gap_small {w:Int}(h:okW w=true):gapN w=smallN w:=by
 rcases okW_iff.1 h with rfl|rfl<;>rfl
def LowF:List Value->Option (Bool×Value)
 | [.int .i64 w,a]=>some (okW w&&isNum a,num (unnum a%primeN w))
 | _=>none
def lowT (w:Int) (a:Value):Option Value:=r2 a (num (primeN w))<|bif ((sB a (num (primeN w)):Nat):Int)==1 then some a else some (sD a (num (primeN w)))
theorem lowT_eq {w:Int}(h:okW w=true){A:Nat}(hA:A<2^256):lowT w (num A)=some (num (A%primeN w)):=by
 obtain ⟨_,hp,_,hp2⟩:=primeN_small h
 unfold lowT
 rw[r2_num,sB_num,sD_num,Nat.mod_eq_of_lt hA,Nat.mod_eq_of_lt hp]
 by_cases hlt:A<primeN w
 ·rw[if_pos hlt,Nat.mod_eq_of_lt hlt];rfl
 ·rw[if_neg hlt,Nat.mod_eq_sub_mod (by omega),Nat.mod_eq_of_lt (by omega),show 2^256+A-primeN w=A-primeN w+2^256*1 from by omega,num_add_mul];rfl
def upS (g T:Nat):Nat->Nat
 | 0=>T
 | k+1=>upS g T k%2^256+g
def upN (g T:Nat):Nat:=if T<2^256 then T else if T%2^256+g<2^256 then T%2^256+g else (T%2^256+g)%2^256+g
theorem up_first {g T:Nat}(hg:g<2^129) (hT:T<2^256+2^256):∃n,upS g T n=upN g T∧upN g T<2^256∧∀k,k<n->upS g T k / 2^256=1:=by
 unfold upN
 by_cases h0:T<2^256
 ·exact⟨0,by rw[if_pos h0];rfl,by rw[if_pos h0];exact h0,by omega⟩
 ·rw[if_neg h0]
  by_cases h1:T%2^256+g<2^256
  ·rw[if_pos h1]
   refine⟨1,rfl,h1,fun k hk=>?_⟩
   have:k=0:=by omega
   subst this
   show T / 2^256=1
   omega
  ·rw[if_neg h1]
   refine⟨2,rfl,by omega,fun k hk=>?_⟩
   have:k=0∨k=1:=by omega
   rcases this with rfl|rfl
   ·show T / 2^256=1
    omega
   ·show(T%2^256+g) / 2^256=1
    omega
theorem up_mod {p g T:Nat}(hp:p+g=2^256) (hg:g<2^129) (hT:T<2^256+2^256):upN g T%p=T%p:=by
 have step:∀X,X / 2^256=1->(X%2^256+g)%p=X%p:=by
  intro X hX
  have:X=X%2^256+g+p:=by omega
  rw[show X%p=(X%2^256+g+p)%p from by rw[<-this],Nat.add_mod_right]
 unfold upN
 split
 ·rfl
 ·split
  ·exact step T (by omega)
  ·rw[step (T%2^256+g) (by omega),step T (by omega)]
def AddUpF:List Value->Option (Bool×Value)
 | [.int .i64 w,a,b]=>some (okW w&&isNum a&&isNum b,num (upN (gapN w) (unnum a+unnum b)))
 | _=>none
def upR {α:Type}(t g:Value) (c:Nat) (k:Nat->Nat->Option α) (out:Option α):Option α:=
 bif ((c:Nat):Int)==1 then (r2 t g<|k (unnum t+unnum g) ((unnum t+unnum g) / 2^256)) else out
theorem upR_eq {α:Type}{T g c:Nat}(hg:g<2^129) (hc:c=1) (k:Nat->Nat->Option α) (out:Option α):upR (num T) (num g) c k out=k (T%2^256+g) ((T%2^256+g) / 2^256):=by
 unfold upR
 rw[r2_num,unnum_num,unnum_lt (show g<2^256 by omega),hc];rfl
theorem upR_out {α:Type}{t g:Value}(k:Nat->Nat->Option α) (out:Option α):upR t g 0 k out=out:=rfl
def dnN (g A B:Nat):Nat:=if B<=A then A-B else if g<=2^256+A-B then 2^256+A-B-g else 2^256+(2^256+A-B)-g-g
def dnS (g A B:Nat):Nat->Nat×Nat
 | 0=>(2^256+A-B,if A<B then 1 else 0)
 | k+1=>(2^256+(dnS g A B k).1%2^256-g,if (dnS g A B k).1%2^256<g then 1 else 0)
theorem dn_first {g A B:Nat}(hg:g<2^129) (hA:A<2^256) (hB:B<2^256):∃n,(dnS g A B n).2=0∧(dnS g A B n).1%2^256=dnN g A B∧∀k,k<n->(dnS g A B k).2=1:=by
 unfold dnN
 by_cases h0:B<=A
 ·refine⟨0,?_,?_,by omega⟩
  ·show(if A<B then 1 else 0)=0
   rw[if_neg (by omega)]
  ·show(2^256+A-B)%2^256=_
   rw[if_pos h0];omega
 ·rw[if_neg h0]
  have b0:(dnS g A B 0).2=1:=by show(if A<B then 1 else 0)=1;rw[if_pos (by omega)]
  have m0:(2^256+A-B)%2^256=2^256+A-B:=Nat.mod_eq_of_lt (by omega)
  by_cases h1:g<=2^256+A-B
  ·rw[if_pos h1]
   refine⟨1,?_,?_,fun k hk=>?_⟩
   ·show(if (2^256+A-B)%2^256<g then 1 else 0)=0
    rw[m0,if_neg (by omega)]
   ·show(2^256+(2^256+A-B)%2^256-g)%2^256=_
    rw[m0];omega
   ·have:k=0:=by omega
    subst this;exact b0
  ·rw[if_neg h1]
   have m1:(2^256+(2^256+A-B)%2^256-g)%2^256=2^256+(2^256+A-B)-g:=by rw[m0];exact Nat.mod_eq_of_lt (by omega)
   refine⟨2,?_,?_,fun k hk=>?_⟩
   ·show(if (2^256+(2^256+A-B)%2^256-g)%2^256<g then 1 else 0)=0
    rw[m1,if_neg (by omega)]
   ·show(2^256+(2^256+(2^256+A-B)%2^256-g)%2^256-g)%2^256=_
    rw[m1];omega
   ·have:k=0∨k=1:=by omega
    rcases this with rfl|rfl
    ·exact b0
    ·show(if (2^256+A-B)%2^256<g then 1 else 0)=1
     rw[m0,if_pos (by omega)]
theorem dn_lt {g A B:Nat}(hg:g<2^129) (hA:A<2^256) (hB:B<2^256):dnN g A B<2^256:=by
 unfold dnN;split
 ·omega
 ·split<;>omega
theorem dn_mod {p g A B:Nat}(hp:p+g=2^256) (hg:g<2^129) (hA:A<2^256) (hB:B<2^256):dnN g A B%p=(A+(p-B%p))%p:=by
 have hp0:0<p:=by omega
 have e:(dnN g A B+B)%p=((A+(p-B%p))%p+B)%p:=by
  rw[sub_add_mod hp0]
  unfold dnN;split
  ·rw[show A-B+B=A from by omega]
  ·split
   ·rw[show 2^256+A-B-g+B=A+p from by omega,Nat.add_mod_right]
   ·rw[show 2^256+(2^256+A-B)-g-g+B=A+p+p from by omega,Nat.add_mod_right,Nat.add_mod_right]
 have:=add_cancel_mod hp0 e
 rw[this,Nat.mod_mod]
def dnR {α:Type}(t g:Value) (c:Nat) (k:Nat->Nat->Option α) (out:Option α):Option α:=
 bif ((c:Nat):Int)==1 then (r2 t g<|k (2^256+unnum t-unnum g) (if unnum t<unnum g then 1 else 0)) else out
theorem dnR_eq {α:Type}{T g c:Nat}(hg:g<2^129) (hc:c=1) (k:Nat->Nat->Option α) (out:Option α):dnR (num T) (num g) c k out=k (2^256+T%2^256-g) (if T%2^256<g then 1 else 0):=by
 unfold dnR
 rw[r2_num,unnum_num,unnum_lt (show g<2^256 by omega),hc];rfl
def fdGo (s:Nat):Nat->Nat->Nat->Nat
 | 0,lo,_=>lo
 | k+1,lo,hi=>if hi=0 then lo else fdGo s k (fdL s lo hi) (fdH s lo hi)
theorem fdK_shift (s lo hi:Nat):∀n,fdK s lo hi (n+1)=fdK s (fdL s lo hi) (fdH s lo hi) n
 | 0=>rfl
 | n+1=>by
  show(fdL s (fdK s lo hi (n+1)).1 (fdK s lo hi (n+1)).2,fdH s (fdK s lo hi (n+1)).1 (fdK s lo hi (n+1)).2)=_
  rw[fdK_shift s lo hi n];rfl
theorem fdGo_eq {s:Nat}:∀(k:Nat){lo hi n:Nat},n<=k->(fdK s lo hi n).2=0->(∀j,j<n->(fdK s lo hi j).2≠0)->fdGo s k lo hi=(fdK s lo hi n).1
 | 0,lo,hi,n,hn,_,_=>by
  have:n=0:=by omega
  subst this;rfl
 | k+1,lo,hi,0,_,h0,_=>by
  have:hi=0:=h0
  show(if hi=0 then lo else _)=lo
  rw[if_pos this]
 | k+1,lo,hi,n+1,hn,h0,h1=>by
  have hne:hi≠0:=h1 0 (by omega)
  show(if hi=0 then lo else _)=_
  rw[if_neg hne,fdK_shift]
  refine fdGo_eq k (by omega) (by rw[<-fdK_shift];exact h0) fun j hj=>?_
  rw[<-fdK_shift];exact h1 (j+1) (by omega)
theorem fdGo_at {lo hi n:Nat}(hlo:lo<2^256) (hhi:hi<2^256) (hn:(fdK sN lo hi n).2=0) (hne:∀j,j<n->(fdK sN lo hi j).2≠0):fdGo sN 4 lo hi=(fdK sN lo hi n).1:=by
 refine fdGo_eq 4 ?_ hn hne
 have hs:sN<2^129:=by decide
 rcases Nat.lt_or_ge 4 n with h|h
 ·exact absurd (fdK_end hlo hhi hs) (hne 4 h)
 ·exact h
theorem fdGo_mod {lo hi:Nat}(hlo:lo<2^256) (hhi:hi<2^256):fdGo sN 4 lo hi<2^256∧fdGo sN 4 lo hi%pN=(hi*2^256+lo)%pN:=by
 have hs:sN<2^129:=by decide
 obtain ⟨n,hn,hne⟩:=fdK_first hlo hhi hs
 rw[fdGo_at hlo hhi hn hne]
 refine⟨(fdK_lt hlo hhi hs n).1,?_⟩
 have:=fdK_mod (lo:=lo) (hi:=hi) (p:=pN) (s:=sN) (by decide) n
 rw[hn,Nat.zero_mul,Nat.zero_add]at this
 exact this
def FoldNF:List Value->Option (Bool×Value)
 | [lo,hi]=>some (isNum lo&&isNum hi,num (fdGo sN 4 (unnum lo) (unnum hi)))
 | _=>none
def fpZ (lo hi:Nat):Nat:=lo+hi*sP
def fpN (lo hi:Nat):Nat:=upN sP (fpZ lo hi%2^256+fpZ lo hi / 2^256*sP)
def FoldPF:List Value->Option (Bool×Value)
 | [lo,hi]=>some (isNum lo&&isNum hi,num (fpN (unnum lo) (unnum hi)))
 | _=>none
def q64 {α:Type}(x y:Value) (k:Option α):Option α:=req (isU64 x&&isU64 y) k
noncomputable def fpT2 (v:Value) (t:Int):Option Value:=
 q64 (.int .u64 t) (u64 4294968273)<|req (okW 0&&isNum v&&isNum (.agg #[u64 (hideN (t.toNat*4294968273)%18446744073709551616),u64 (hideN (t.toNat*4294968273) / 18446744073709551616),u64 0,u64 0])) <|
  some (num (upN (gapN 0) (unnum v+unnum (.agg #[u64 (hideN (t.toNat*4294968273)%18446744073709551616),u64 (hideN (t.toNat*4294968273) / 18446744073709551616),u64 0,u64 0]))))
noncomputable def fpE (lo d e:Value) (c:Nat):Option Value:=
 r2 lo d<|r2 (aS lo d) e<|fpT2 (aS (aS lo d) e) (iAdd .u64 (iAdd .u64 ((c:Nat):Int) ((aC lo d:Nat):Int)) ((aC (aS lo d) e:Nat):Int))
noncomputable def fpT (lo:Value) (h0 h1 h2 h3:Nat):Option Value:=
 q64 (u64 h0) (u64 4294968273)<|q64 (u64 h1) (u64 4294968273)<|q64 (u64 h2) (u64 4294968273)<|q64 (u64 h3) (u64 4294968273) <|
 fpE lo (numd (hideN (h0*4294968273)%18446744073709551616) (hideN (h1*4294968273)%18446744073709551616) (hideN (h2*4294968273)%18446744073709551616) (hideN (h3*4294968273)%18446744073709551616))
  (numd 0 (hideN (h0*4294968273) / 18446744073709551616) (hideN (h1*4294968273) / 18446744073709551616) (hideN (h2*4294968273) / 18446744073709551616)) (hideN (h3*4294968273) / 18446744073709551616)
theorem q64_u {α:Type}{x y:Nat}(hx:x<18446744073709551616) (hy:y<18446744073709551616) (k:Option α):q64 (u64 x) (u64 y) k=k:=by
 unfold q64;rw[isU64_u64 hx,isU64_u64 hy,req_true (b:=true&&true) rfl]
theorem numd_hor {a b c d:Nat}(ha:a<18446744073709551616) (hb:b<18446744073709551616) (hc:c<18446744073709551616) (hd:d<18446744073709551616):numd a b c d=num (hor a b c d):=by
 have:=num_hor ha hb hc hd 0
 rw[Nat.mul_zero,Nat.add_zero]at this
 exact this.symm
theorem fpT2_eq {V t:Nat}(ht:t<=4294968280):fpT2 (num V) (t:Int)=some (num (upN sP (V%2^256+t*sP))):=by
 unfold fpT2
 simp only[hideN_eq]
 rw[show(Value.int .u64 (t:Int))=u64 t from rfl,q64_u (by omega) (by omega),Int.toNat_natCast]
 have e:(Value.agg #[u64 (t*4294968273%18446744073709551616),u64 (t*4294968273 / 18446744073709551616),u64 0,u64 0])=num (t*4294968273):=by
  show numd _ _ _ _=_
  rw[numd_hor (Nat.mod_lt _ (by decide)) (by omega) (by omega) (by omega)]
  congr 1;unfold hor;omega
 rw[e,isNum_num,isNum_num,req_true (b:=okW 0&&true&&true) rfl,unnum_num,unnum_lt (by omega)]
 rfl
theorem dvP {h:Nat}(l:h<18446744073709551616):h*4294968273 / 18446744073709551616<4294968274:=by omega
theorem dvP' {h:Nat}(l:h<18446744073709551616):h*4294968273 / 18446744073709551616<18446744073709551616:=Nat.lt_trans (dvP l) (by decide)
theorem fpE_eq {L D E c:Nat}(hL:L<2^256) (hD:D<2^256) (hE:E<2^256) (hc:c<4294968274):fpE (num L) (num D) (num E) c=
  some (num (upN sP ((L+D+E+2^256*c)%2^256+(L+D+E+2^256*c) / 2^256*sP))):=by
 unfold fpE
 rw[aS_num,aS_num,r2_num,r2_num,aC_num,aC_num,Nat.mod_eq_of_lt hL,Nat.mod_eq_of_lt hD,Nat.mod_eq_of_lt hE,iAdd_u,iAdd_u]
 have e1:(c+(L+D) / 2^256)%18446744073709551616=c+(L+D) / 2^256:=Nat.mod_eq_of_lt (by omega)
 have e2:(c+(L+D) / 2^256+((L+D)%2^256+E) / 2^256)%18446744073709551616=c+(L+D) / 2^256+((L+D)%2^256+E) / 2^256:=Nat.mod_eq_of_lt (by omega)
 rw[e1,e2,fpT2_eq (by omega)]
 have e3:(L+D+E+2^256*c)%2^256=(L+D+E)%2^256:=by omega
 have e4:(L+D+E+2^256*c) / 2^256=c+(L+D) / 2^256+((L+D)%2^256+E) / 2^256:=by omega
 rw[e3,e4]
theorem fpZ_hor (L h0 h1 h2 h3:Nat):fpZ L (hor h0 h1 h2 h3)=L+hor (h0*4294968273%18446744073709551616) (h1*4294968273%18446744073709551616) (h2*4294968273%18446744073709551616) (h3*4294968273%18446744073709551616)
   + hor 0 (h0*4294968273 / 18446744073709551616) (h1*4294968273 / 18446744073709551616) (h2*4294968273 / 18446744073709551616)+2^256*(h3*4294968273 / 18446744073709551616):=by
 unfold fpZ sP hor;omega
theorem fpT_eq {L h0 h1 h2 h3:Nat}(hL:L<2^256) (l0:h0<18446744073709551616) (l1:h1<18446744073709551616) (l2:h2<18446744073709551616) (l3:h3<18446744073709551616):
  fpT (num L) h0 h1 h2 h3=some (num (fpN L (hor h0 h1 h2 h3))):=by
 unfold fpT fpN
 simp only[hideN_eq]
 have g:(4294968273:Nat)<18446744073709551616:=by decide
 have m:∀x,x%18446744073709551616<18446744073709551616:=fun x=>Nat.mod_lt _ (by decide)
 rw[q64_u l0 g,q64_u l1 g,q64_u l2 g,q64_u l3 g,fpZ_hor]
 rw[numd_hor (m _) (m _) (m _) (m _),numd_hor (a:=0) (by decide) (dvP' l0) (dvP' l1) (dvP' l2)]
 exact fpE_eq hL (hor_lt (m _) (m _) (m _) (m _)) (hor_lt (by decide) (dvP' l0) (dvP' l1) (dvP' l2)) (dvP l3)
theorem fp_mod {lo hi:Nat}(hlo:lo<2^256) (hhi:hi<2^256):fpN lo hi<2^256∧fpN lo hi%pP=(hi*2^256+lo)%pP:=by
 have hp:pP+sP=2^256:=by decide
 have hs:sP<2^129:=by decide
 have hz:fpZ lo hi / 2^256<=4294968273:=by unfold fpZ sP;omega
 have hT:fpZ lo hi%2^256+fpZ lo hi / 2^256*sP<2^256+2^256:=by unfold sP;omega
 obtain ⟨_,_,h3,_⟩:=up_first hs hT
 refine⟨h3,?_⟩
 unfold fpN
 rw[up_mod hp hs hT]
 have key:∀(h l:Nat),(l+h*sP)%pP=(h*2^256+l)%pP:=by
  intro h l
  rw[<-hp,Nat.mul_add,Nat.add_assoc,Nat.add_comm (h*pP),Nat.add_mul_mod_self_right,Nat.add_comm]
 rw[key]
 rw[show fpZ lo hi / 2^256*2^256+fpZ lo hi%2^256=fpZ lo hi from by omega]
 exact key hi lo
end Go.W

namespace Go.W
structure Ops (A:Type) where
 zero:A
 one:A
 add:A->A->A
 sub:A->A->A
 mul:A->A->A
structure ORel {A B:Type}(o:Ops A) (o':Ops B) (R:A->B->Prop):Prop where
 zero:R o.zero o'.zero
 one:R o.one o'.one
 add:∀a b a' b',R a a'->R b b'->R (o.add a b) (o'.add a' b')
 sub:∀a b a' b',R a a'->R b b'->R (o.sub a b) (o'.sub a' b')
 mul:∀a b a' b',R a a'->R b b'->R (o.mul a b) (o'.mul a' b')
inductive PE where
 | v (i:Nat)
 | one
 | add (a b:PE)
 | sub (a b:PE)
 | mul (a b:PE)
def PE.ev {A:Type}(o:Ops A) (env:Nat->A):PE->A
 | .v i=>env i
 | .one=>o.one
 | .add a b=>o.add (a.ev o env) (b.ev o env)
 | .sub a b=>o.sub (a.ev o env) (b.ev o env)
 | .mul a b=>o.mul (a.ev o env) (b.ev o env)
theorem PE.rel {A B:Type}{o:Ops A}{o':Ops B}{R:A->B->Prop}(h:ORel o o' R){env:Nat->A}{env':Nat->B}(he:∀i,R (env i) (env' i)):∀e:PE,R (e.ev o env) (e.ev o' env')
 | .v i=>he i
 | .one=>h.one
 | .add a b=>h.add _ _ _ _ (PE.rel h he a) (PE.rel h he b)
 | .sub a b=>h.sub _ _ _ _ (PE.rel h he a) (PE.rel h he b)
 | .mul a b=>h.mul _ _ _ _ (PE.rel h he a) (PE.rel h he b)
section
variable {A:Type}(o:Ops A)
def addL:List A->List A->List A
 | [],m=>m
 | a::l,[]=>a::l
 | a::l,b::m=>o.add a b::addL l m
def subL:List A->List A->List A
 | [],m=>m.map (o.sub o.zero)
 | a::l,[]=>a::l
 | a::l,b::m=>o.sub a b::subL l m
def mulL:List A->List A->List A
 | [],_=>[]
 | a::l,m=>addL o (m.map (o.mul a)) (o.zero::mulL l m)
def lOps:Ops (List A):=⟨[],[o.one],addL o,subL o,mulL o⟩
def yOps (r:A):Ops (A×A):=
 ⟨(o.zero,o.zero),(o.one,o.zero),fun u v=>(o.add u.1 v.1,o.add u.2 v.2),fun u v=>(o.sub u.1 v.1,o.sub u.2 v.2),
  fun u v=>(o.add (o.mul u.1 v.1) (o.mul (o.mul u.2 v.2) r),o.add (o.mul u.1 v.2) (o.mul u.2 v.1))⟩
end
structure RgOk {K:Type}(k:Ops K):Prop where
 r1:∀b,k.add k.zero b=b
 r2:∀a,k.add a k.zero=a
 r3:∀a b l m t,k.add (k.add a b) (k.mul t (k.add l m))=k.add (k.add a (k.mul t l)) (k.add b (k.mul t m))
 r4:k.sub k.zero k.zero=k.zero
 r5:∀a l t,k.add (k.sub k.zero a) (k.mul t (k.sub k.zero l))=k.sub k.zero (k.add a (k.mul t l))
 r6:∀a,k.sub a k.zero=a
 r7:∀a b l m t,k.add (k.sub a b) (k.mul t (k.sub l m))=k.sub (k.add a (k.mul t l)) (k.add b (k.mul t m))
 r8:∀a,k.mul a k.zero=k.zero
 r9:∀a b l t,k.add (k.mul a b) (k.mul t (k.mul a l))=k.mul a (k.add b (k.mul t l))
 r10:∀m,k.mul k.zero m=k.zero
 r11:∀a l m t,k.add (k.mul a m) (k.add k.zero (k.mul t (k.mul l m)))=k.mul (k.add a (k.mul t l)) m
 r14:∀a b c d y,k.add (k.add a c) (k.mul (k.add b d) y)=k.add (k.add a (k.mul b y)) (k.add c (k.mul d y))
 r15:∀a b c d y,k.add (k.sub a c) (k.mul (k.sub b d) y)=k.sub (k.add a (k.mul b y)) (k.add c (k.mul d y))
 r16:∀a b c d y,k.add (k.add (k.mul a c) (k.mul (k.mul b d) (k.mul y y))) (k.mul (k.add (k.mul a d) (k.mul b c)) y)=k.mul (k.add a (k.mul b y)) (k.add c (k.mul d y))
section
variable {A K:Type}{k:Ops K}{o:Ops A}{φ:A->K}{t:K}
def evL (k:Ops K) (φ:A->K) (t:K):List A->K
 | []=>k.zero
 | a::l=>k.add (φ a) (k.mul t (evL k φ t l))
abbrev Hom (k:Ops K) (o:Ops A) (φ:A->K):Prop:=ORel o k (fun a x=>φ a=x)
theorem Hom.z (h:Hom k o φ):φ o.zero=k.zero:=h.zero
theorem Hom.a (h:Hom k o φ) (a b:A):φ (o.add a b)=k.add (φ a) (φ b):=h.add _ _ _ _ rfl rfl
theorem Hom.s (h:Hom k o φ) (a b:A):φ (o.sub a b)=k.sub (φ a) (φ b):=h.sub _ _ _ _ rfl rfl
theorem Hom.m (h:Hom k o φ) (a b:A):φ (o.mul a b)=k.mul (φ a) (φ b):=h.mul _ _ _ _ rfl rfl
theorem evL_add (hk:RgOk k) (h:Hom k o φ):∀l m:List A,evL k φ t (addL o l m)=k.add (evL k φ t l) (evL k φ t m)
 | [],m=>by simp only[addL,evL,hk.r1]
 | a::l,[]=>by simp only[addL,evL,hk.r2]
 | a::l,b::m=>by simp only[addL,evL,h.a,evL_add hk h l m,hk.r3]
theorem evL_neg (hk:RgOk k) (h:Hom k o φ):∀m:List A,evL k φ t (m.map (o.sub o.zero))=k.sub k.zero (evL k φ t m)
 | []=>by simp only[List.map_nil,evL,hk.r4]
 | a::l=>by simp only[List.map_cons,evL,h.s,h.z,evL_neg hk h l,hk.r5]
theorem evL_sub (hk:RgOk k) (h:Hom k o φ):∀l m:List A,evL k φ t (subL o l m)=k.sub (evL k φ t l) (evL k φ t m)
 | [],m=>by simp only[subL,evL_neg hk h,evL]
 | a::l,[]=>by simp only[subL,evL,hk.r6]
 | a::l,b::m=>by simp only[subL,evL,h.s,evL_sub hk h l m,hk.r7]
theorem evL_scale (hk:RgOk k) (h:Hom k o φ) (a:A):∀m:List A,evL k φ t (m.map (o.mul a))=k.mul (φ a) (evL k φ t m)
 | []=>by simp only[List.map_nil,evL,hk.r8]
 | b::l=>by simp only[List.map_cons,evL,h.m,evL_scale hk h a l,hk.r9]
theorem evL_mul (hk:RgOk k) (h:Hom k o φ):∀l m:List A,evL k φ t (mulL o l m)=k.mul (evL k φ t l) (evL k φ t m)
 | [],m=>by simp only[mulL,evL,hk.r10]
 | a::l,m=>by simp only[mulL,evL,evL_add hk h,evL_scale hk h,h.z,evL_mul hk h l m,hk.r11]
theorem hom_lOps (hk:RgOk k) (h:Hom k o φ):Hom k (lOps o) (evL k φ t) where
 zero:=rfl
 one:=by show k.add (φ o.one) (k.mul t k.zero)=k.one;rw[show φ o.one=k.one from h.one,hk.r8,hk.r2]
 add:=by rintro a b _ _ rfl rfl;exact evL_add hk h a b
 sub:=by rintro a b _ _ rfl rfl;exact evL_sub hk h a b
 mul:=by rintro a b _ _ rfl rfl;exact evL_mul hk h a b
theorem hom_yOps (hk:RgOk k) (h:Hom k o φ){r:A}{y:K}(hy:k.mul y y=φ r):Hom k (yOps o r) (fun q=>k.add (φ q.1) (k.mul (φ q.2) y)) where
 zero:=by show k.add (φ o.zero) (k.mul (φ o.zero) y)=k.zero;rw[h.z,hk.r10,hk.r2]
 one:=by show k.add (φ o.one) (k.mul (φ o.zero) y)=k.one;rw[h.z,show φ o.one=k.one from h.one,hk.r10,hk.r2]
 add:=by rintro a b _ _ rfl rfl;simp only[yOps,h.a,hk.r14]
 sub:=by rintro a b _ _ rfl rfl;simp only[yOps,h.s,hk.r15]
 mul:=by rintro a b _ _ rfl rfl;simp only[yOps,h.a,h.m,<-hy,hk.r16]
end
section
variable {A:Type}{o:Ops A}{ν:A->Nat}{w:Nat}
structure Nrm (o:Ops A) (ν:A->Nat):Prop where
 zero:ν o.zero=0
 one:ν o.one<=1
 add:∀a b,ν (o.add a b)<=ν a+ν b
 sub:∀a b,ν (o.sub a b)<=ν a+ν b
 mul:∀a b,ν (o.mul a b)<=ν a*ν b
def nL (ν:A->Nat) (w:Nat):List A->Nat
 | []=>0
 | a::l=>ν a+w*nL ν w l
theorem nL_add (h:Nrm o ν):∀l m:List A,nL ν w (addL o l m)<=nL ν w l+nL ν w m
 | [],m=>by simp only[addL,nL];omega
 | a::l,[]=>by simp only[addL,nL];omega
 | a::l,b::m=>by
  have h1:=h.add a b
  have h2:=Nat.mul_le_mul_left w (nL_add h l m)
  rw[Nat.mul_add]at h2
  simp only[addL,nL];omega
theorem nL_neg (h:Nrm o ν):∀m:List A,nL ν w (m.map (o.sub o.zero))<=nL ν w m
 | []=>by simp[nL]
 | a::l=>by
  have h1:=h.sub o.zero a
  rw[h.zero]at h1
  have h2:=Nat.mul_le_mul_left w (nL_neg h l)
  simp only[List.map_cons,nL];omega
theorem nL_sub (h:Nrm o ν):∀l m:List A,nL ν w (subL o l m)<=nL ν w l+nL ν w m
 | [],m=>by simp only[subL,nL,Nat.zero_add];exact nL_neg h m
 | a::l,[]=>by simp only[subL,nL];omega
 | a::l,b::m=>by
  have h1:=h.sub a b
  have h2:=Nat.mul_le_mul_left w (nL_sub h l m)
  rw[Nat.mul_add]at h2
  simp only[subL,nL];omega
theorem nL_scale (h:Nrm o ν) (a:A):∀m:List A,nL ν w (m.map (o.mul a))<=ν a*nL ν w m
 | []=>by simp[nL]
 | b::l=>by
  have h1:=h.mul a b
  have h2:=Nat.mul_le_mul_left w (nL_scale h a l)
  simp only[List.map_cons,nL,Nat.mul_add]
  rw[Nat.mul_left_comm w]at h2
  omega
theorem nL_mul (h:Nrm o ν):∀l m:List A,nL ν w (mulL o l m)<=nL ν w l*nL ν w m
 | [],m=>by simp[mulL,nL]
 | a::l,m=>by
  have h1:=nL_add (w:=w) h (m.map (o.mul a)) (o.zero::mulL o l m)
  have h2:=nL_scale (w:=w) h a m
  have h3:=Nat.mul_le_mul_left w (nL_mul h l m)
  simp only[nL,h.zero,Nat.zero_add]at h1
  simp only[mulL,nL,Nat.add_mul,Nat.mul_assoc]
  omega
theorem nrm_lOps (h:Nrm o ν):Nrm (lOps o) (nL ν w) where
 zero:=rfl
 one:=by show ν o.one+w*0<=1;have:=h.one;omega
 add:=nL_add h
 sub:=nL_sub h
 mul:=nL_mul h
def aOps:Ops Nat:=⟨0,1,(·+·),(·+·),(·*·)⟩
theorem nrm_rel (h:Nrm o ν):ORel o aOps (fun a n=>ν a<=n) where
 zero:=by show ν o.zero<=0;rw[h.zero];exact Nat.le_refl _
 one:=h.one
 add:=fun a b a' b' h1 h2=>Nat.le_trans (h.add a b) (Nat.add_le_add h1 h2)
 sub:=fun a b a' b' h1 h2=>Nat.le_trans (h.sub a b) (Nat.add_le_add h1 h2)
 mul:=fun a b a' b' h1 h2=>Nat.le_trans (h.mul a b) (Nat.mul_le_mul h1 h2)
theorem rel_yOps {B:Type}{o':Ops B}{R:A->B->Prop}(h:ORel o o' R){r:A}{r':B}(hr:R r r'):ORel (yOps o r) (yOps o' r') (fun q q'=>R q.1 q'.1∧R q.2 q'.2) where
 zero:=⟨h.zero,h.zero⟩
 one:=⟨h.one,h.zero⟩
 add:=fun _ _ _ _ h1 h2=>⟨h.add _ _ _ _ h1.1 h2.1,h.add _ _ _ _ h1.2 h2.2⟩
 sub:=fun _ _ _ _ h1 h2=>⟨h.sub _ _ _ _ h1.1 h2.1,h.sub _ _ _ _ h1.2 h2.2⟩
 mul:=fun _ _ _ _ h1 h2=>⟨h.add _ _ _ _ (h.mul _ _ _ _ h1.1 h2.1) (h.mul _ _ _ _ (h.mul _ _ _ _ h1.2 h2.2) hr),h.add _ _ _ _ (h.mul _ _ _ _ h1.1 h2.2) (h.mul _ _ _ _ h1.2 h2.1)⟩
end
end Go.W

namespace Go.W
def oI:Ops Int:=⟨0,1,(·+·),(· - ·),(·*·)⟩
theorem rgI:RgOk oI:=by
 constructor<;>simp only[oI]<;>(intros;grind)
def oF (P0:Nat) [NeZero P0]:Ops (Fin P0):=⟨0,1,(·+·),(· - ·),(·*·)⟩
theorem rgF (P0:Nat) [NeZero P0]:RgOk (oF P0):=by
 constructor<;>simp only[oF]<;>(intros;grind)
section
variable {A:Type}{φ:A->Int}{ν:A->Nat}
theorem nL_mem (ν:A->Nat):∀(l:List A) (a:A),a∈l->ν a<=nL ν 1 l
 | b::l,a,h=>by
  rcases List.mem_cons.1 h with rfl|h
  ·simp only[nL];omega
  ·have:=nL_mem ν l a h
   simp only[nL];omega
theorem natAbs_evL (h:∀a,(φ a).natAbs<=ν a) (N:Nat):∀l:List A,(evL oI φ (N:Int) l).natAbs<=nL ν N l
 | []=>Nat.le_refl 0
 | a::l=>by
  have h1:=h a
  have h2:=Nat.mul_le_mul_left N (natAbs_evL h N l)
  have h3:=Int.natAbs_add_le (φ a) ((N:Int)*evL oI φ (N:Int) l)
  have h4:((N:Int)*evL oI φ (N:Int) l).natAbs=N*(evL oI φ (N:Int) l).natAbs:=by rw[Int.natAbs_mul,Int.natAbs_natCast]
  show(φ a+(N:Int)*evL oI φ (N:Int) l).natAbs<=ν a+N*nL ν N l
  omega
theorem stepZ (h:∀a,(φ a).natAbs<=ν a){N:Nat}:∀(l:List A),nL ν 1 l<N->evL oI φ (N:Int) l=0->∀a∈l,φ a=0
 | [],_,_,a,ha=>by simp at ha
 | b::l,hn,hz,a,ha=>by
  simp only[nL,Nat.one_mul]at hn
  replace hz:φ b+(N:Int)*evL oI φ (N:Int) l=0:=hz
  have h1:=h b
  have hb:φ b=0:=by
   have hd:(N:Int) ∣ φ b:=⟨-(evL oI φ (N:Int) l),by rw[Int.mul_neg];omega⟩
   refine Int.eq_zero_of_dvd_of_natAbs_lt_natAbs hd ?_
   rw[Int.natAbs_natCast];omega
  rw[hb,Int.zero_add]at hz
  have hl:evL oI φ (N:Int) l=0:=by
   rcases Int.mul_eq_zero.1 hz with h|h
   ·omega
   ·exact h
  rcases List.mem_cons.1 ha with rfl|ha
  ·exact hb
  ·exact stepZ h l (by omega) hl a ha
theorem evL_zero {K:Type}{k:Ops K}(hk:RgOk k){φ:A->K}{t:K}:∀(l:List A),(∀a∈l,φ a=k.zero)->evL k φ t l=k.zero
 | [],_=>rfl
 | a::l,h=>by
  simp only[evL,h a (by simp),evL_zero hk l fun b hb=>h b (by simp[hb]),hk.r8,hk.r2]
end
abbrev P1:=List Int
abbrev P2:=List P1
abbrev P3:=List P2
def o1:Ops P1:=lOps oI
def o2:Ops P2:=lOps o1
def o3:Ops P3:=lOps o2
def X1:P3:=[[[0,1]]]
def X2:P3:=[[[],[1]]]
def X3:P3:=[[],[[1]]]
def idI (z:Int):Int:=z
theorem homI:Hom oI oI idI:=⟨rfl,rfl,by rintro _ _ _ _ rfl rfl;rfl,by rintro _ _ _ _ rfl rfl;rfl,by rintro _ _ _ _ rfl rfl;rfl⟩
theorem fin_ext {P0:Nat}{a b:Fin P0}(h:(a.val:Int)=(b.val:Int)):a=b:=Fin.ext (by omega)
section
variable {P0:Nat} [NeZero P0]
def castI (P0:Nat) [NeZero P0] (z:Int):Fin P0:=Fin.ofNat P0 (z%(P0:Int)).toNat
theorem cast_val (z:Int):((castI P0 z).val:Int)=z%(P0:Int):=by
 have hp:0<P0:=Nat.pos_of_ne_zero (NeZero.ne P0)
 have h1:0<=z%(P0:Int):=Int.emod_nonneg _ (by omega)
 have h2:z%(P0:Int)<P0:=Int.emod_lt_of_pos _ (by omega)
 show(((z%(P0:Int)).toNat%P0:Nat):Int)=_
 rw[Nat.mod_eq_of_lt (by omega)];omega
theorem cast0:castI P0 0=0:=by
 apply fin_ext;rw[cast_val]
 show(0:Int)%_=(((0:Nat)%P0:Nat):Int)
 rw[Nat.zero_mod,Int.zero_emod];rfl
theorem cast1:castI P0 1=1:=by
 apply fin_ext;rw[cast_val]
 show(1:Int)%_=(((1:Nat)%P0:Nat):Int)
 rw[Int.natCast_emod];rfl
theorem homK:Hom (oF P0) oI (castI P0) where
 zero:=cast0
 one:=cast1
 add:=by
  rintro a b _ _ rfl rfl
  apply fin_ext
  show((castI P0 (a+b)).val:Int)=((((castI P0 a).val+(castI P0 b).val)%P0:Nat):Int)
  rw[cast_val,Int.natCast_emod,Int.natCast_add,cast_val,cast_val,<-Int.add_emod]
 sub:=by
  rintro a b _ _ rfl rfl
  have key:castI P0 (a-b)+castI P0 b=castI P0 a:=by
   apply fin_ext
   show((((castI P0 (a-b)).val+(castI P0 b).val)%P0:Nat):Int)=_
   rw[Int.natCast_emod,Int.natCast_add,cast_val,cast_val,cast_val,<-Int.add_emod,Int.sub_add_cancel]
  show castI P0 (a-b)=castI P0 a-castI P0 b
  rw[<-key];grind
 mul:=by
  rintro a b _ _ rfl rfl
  apply fin_ext
  show((castI P0 (a*b)).val:Int)=((((castI P0 a).val*(castI P0 b).val)%P0:Nat):Int)
  rw[cast_val,Int.natCast_emod,Int.natCast_mul,cast_val,cast_val,<-Int.mul_emod]
end
theorem nrmI:Nrm oI Int.natAbs where
 zero:=rfl
 one:=by decide
 add:=Int.natAbs_add_le
 sub:=fun a b=>by show(a-b).natAbs<=_;omega
 mul:=fun a b=>Nat.le_of_eq (Int.natAbs_mul a b)
def φ3 {K:Type}(k:Ops K) (f:Int->K) (a b c:K):P3->K:=evL k (evL k (evL k f a) b) c
def ν3 (a b c:Nat):P3->Nat:=nL (nL (nL Int.natAbs a) b) c
theorem hom3 {K:Type}{k:Ops K}(hk:RgOk k){f:Int->K}(h:Hom k oI f) (a b c:K):Hom k o3 (φ3 k f a b c):=hom_lOps hk (hom_lOps hk (hom_lOps hk h))
theorem nrm3 (a b c:Nat):Nrm o3 (ν3 a b c):=nrm_lOps (nrm_lOps (nrm_lOps nrmI))
theorem zero3 {N1 N2 N3 M:Nat}{p:P3}(h0:(M:Int) ∣ φ3 oI idI (N1:Int) (N2:Int) (N3:Int) p) (hM:ν3 N1 N2 N3 p<M) (h3:ν3 N1 N2 1 p<N3) (h2:ν3 N1 1 1 p<N2) (h1:ν3 1 1 1 p<N1)
  {P0:Nat} [NeZero P0] (a b c:Fin P0):φ3 (oF P0) (castI P0) a b c p=0:=by
 have q0:∀z:Int,(idI z).natAbs<=Int.natAbs z:=fun z=>Nat.le_refl _
 have q1:∀l:P1,(evL oI idI (N1:Int) l).natAbs<=nL Int.natAbs N1 l:=natAbs_evL q0 N1
 have q2:∀l:P2,(evL oI (evL oI idI (N1:Int)) (N2:Int) l).natAbs<=nL (nL Int.natAbs N1) N2 l:=natAbs_evL q1 N2
 have q3:(φ3 oI idI (N1:Int) (N2:Int) (N3:Int) p).natAbs<=ν3 N1 N2 N3 p:=natAbs_evL q2 N3 p
 have hz:φ3 oI idI (N1:Int) (N2:Int) (N3:Int) p=0:=Int.eq_zero_of_dvd_of_natAbs_lt_natAbs h0 (by rw[Int.natAbs_natCast];omega)
 have z2:=stepZ q2 p h3 hz
 refine evL_zero (rgF P0) p fun q hq=>?_
 have n2:nL (nL Int.natAbs N1) 1 q<N2:=Nat.lt_of_le_of_lt (nL_mem (nL (nL Int.natAbs N1) 1) p q hq) h2
 have z1:=stepZ q1 q n2 (z2 q hq)
 refine evL_zero (rgF P0) q fun s hs=>?_
 have n1:nL Int.natAbs 1 s<N1:=Nat.lt_of_le_of_lt (nL_mem (nL Int.natAbs 1) q s hs) (Nat.lt_of_le_of_lt (nL_mem (nL (nL Int.natAbs 1) 1) p q hq) h1)
 have z0:=stepZ q0 s n1 (z1 s hs)
 refine evL_zero (rgF P0) s fun z hz=>?_
 have:z=0:=z0 z hz
 rw[this];exact cast0
abbrev T8 (A:Type):=((A×A)×(A×A))×((A×A)×(A×A))
section
variable {A:Type}(o:Ops A)
def seven:A:=o.add (o.add (o.add o.one o.one) (o.add o.one o.one)) (o.add (o.add o.one o.one) o.one)
def cub (x:A):A:=o.add (o.mul (o.mul x x) x) (seven o)
def tow (x1 x2 x3:A):Ops (T8 A):=yOps (yOps (yOps o (cub o x1)) (cub o x2,o.zero)) ((cub o x3,o.zero),(o.zero,o.zero))
def env8 (x1 x2 x3:A):Nat->T8 A
 | 0=>(((x1,o.zero),(o.zero,o.zero)),((o.zero,o.zero),(o.zero,o.zero)))
 | 1=>(((o.zero,o.one),(o.zero,o.zero)),((o.zero,o.zero),(o.zero,o.zero)))
 | 2=>(((x2,o.zero),(o.zero,o.zero)),((o.zero,o.zero),(o.zero,o.zero)))
 | 3=>(((o.zero,o.zero),(o.one,o.zero)),((o.zero,o.zero),(o.zero,o.zero)))
 | 4=>(((x3,o.zero),(o.zero,o.zero)),((o.zero,o.zero),(o.zero,o.zero)))
 | _=>(((o.zero,o.zero),(o.zero,o.zero)),((o.one,o.zero),(o.zero,o.zero)))
end
def all8 {A B:Type}(R:A->B->Prop) (u:T8 A) (v:T8 B):Prop:=
 ((R u.1.1.1 v.1.1.1∧R u.1.1.2 v.1.1.2)∧(R u.1.2.1 v.1.2.1∧R u.1.2.2 v.1.2.2))∧((R u.2.1.1 v.2.1.1∧R u.2.1.2 v.2.1.2)∧(R u.2.2.1 v.2.2.1∧R u.2.2.2 v.2.2.2))
section
variable {A B:Type}{o:Ops A}{o':Ops B}{R:A->B->Prop}
theorem rel_seven (h:ORel o o' R):R (seven o) (seven o'):=by
 unfold seven
 have h2:=h.add _ _ _ _ h.one h.one
 exact h.add _ _ _ _ (h.add _ _ _ _ h2 h2) (h.add _ _ _ _ h2 h.one)
theorem rel_cub (h:ORel o o' R){x:A}{x':B}(hx:R x x'):R (cub o x) (cub o' x'):=h.add _ _ _ _ (h.mul _ _ _ _ (h.mul _ _ _ _ hx hx) hx) (rel_seven h)
theorem rel_tow (h:ORel o o' R){x1 x2 x3:A}{y1 y2 y3:B}(h1:R x1 y1) (h2:R x2 y2) (h3:R x3 y3):ORel (tow o x1 x2 x3) (tow o' y1 y2 y3) (all8 R):=
 rel_yOps (rel_yOps (rel_yOps h (rel_cub h h1)) ⟨rel_cub h h2,h.zero⟩) ⟨⟨rel_cub h h3,h.zero⟩,⟨h.zero,h.zero⟩⟩
theorem rel_env (h:ORel o o' R){x1 x2 x3:A}{y1 y2 y3:B}(h1:R x1 y1) (h2:R x2 y2) (h3:R x3 y3) (i:Nat):all8 R (env8 o x1 x2 x3 i) (env8 o' y1 y2 y3 i):=by
 have z:=h.zero
 have e:=h.one
 match i with
 | 0=>exact⟨⟨⟨h1,z⟩,z,z⟩,⟨z,z⟩,z,z⟩
 | 1=>exact⟨⟨⟨z,e⟩,z,z⟩,⟨z,z⟩,z,z⟩
 | 2=>exact⟨⟨⟨h2,z⟩,z,z⟩,⟨z,z⟩,z,z⟩
 | 3=>exact⟨⟨⟨z,z⟩,e,z⟩,⟨z,z⟩,z,z⟩
 | 4=>exact⟨⟨⟨h3,z⟩,z,z⟩,⟨z,z⟩,z,z⟩
 | _+5=>exact⟨⟨⟨z,z⟩,z,z⟩,⟨e,z⟩,z,z⟩
end
def mOps (M:Nat):Ops Nat:=⟨0,1,fun a b=>(a+b)%M,fun a b=>(a+(M-b%M))%M,fun a b=>a*b%M⟩
def mdR (M:Nat) (f:P3->Int) (p:P3) (n:Nat):Prop:=(M:Int) ∣ f p-(n:Int)
theorem rel_mod {M:Nat}(hM:0<M){f:P3->Int}(h:Hom oI o3 f):ORel o3 (mOps M) (mdR M f):=by
 have red:∀(z:Int) (n:Nat),(M:Int) ∣ z-(n:Int)->(M:Int) ∣ z-((n%M:Nat):Int):=by
  intro z n hz
  have e:(n:Int)=(M:Int)*((n / M:Nat):Int)+((n%M:Nat):Int):=by exact_mod_cast (Nat.div_add_mod n M).symm
  obtain ⟨k,hk⟩:=hz
  exact⟨k+((n / M:Nat):Int),by rw[Int.mul_add];omega⟩
 have Z0:f o3.zero=0:=h.z
 have Ad:∀a b,f (o3.add a b)=f a+f b:=fun a b=>h.a a b
 have Sb:∀a b,f (o3.sub a b)=f a-f b:=fun a b=>h.s a b
 have Mu:∀a b,f (o3.mul a b)=f a*f b:=fun a b=>h.m a b
 refine⟨?_,?_,?_,?_,?_⟩
 ·show(M:Int) ∣ f o3.zero-((0:Nat):Int);rw[Z0];exact⟨0,by simp⟩
 ·show(M:Int) ∣ f o3.one-((1:Nat):Int);rw[show f o3.one=1 from h.one];exact⟨0,by simp⟩
 ·rintro a b m n ⟨k,hk⟩ ⟨l,hl⟩
  refine red _ _ ⟨k+l,?_⟩
  rw[Ad,Int.mul_add];omega
 ·rintro a b m n ⟨k,hk⟩ ⟨l,hl⟩
  refine red _ _ ?_
  have hlt:n%M<M:=Nat.mod_lt _ hM
  have e:(n:Int)=(M:Int)*((n / M:Nat):Int)+((n%M:Nat):Int):=by exact_mod_cast (Nat.div_add_mod n M).symm
  refine⟨k-l-((n / M:Nat):Int)-1,?_⟩
  rw[Sb,Int.mul_sub,Int.mul_sub,Int.mul_sub];omega
 ·rintro a b m n ⟨k,hk⟩ ⟨l,hl⟩
  refine red _ _ ⟨k*f b+(m:Int)*l,?_⟩
  rw[Mu]
  have e1:f a=(m:Int)+(M:Int)*k:=by omega
  have e2:f b=(n:Int)+(M:Int)*l:=by omega
  rw[e1,e2,Int.natCast_mul]
  grind
def frc {R:Type}(n:Nat) (k:Nat->R):R:=
 match n with
 | 0=>k 0
 | m+1=>k (m+1)
theorem frc_eq {R:Type}(n:Nat) (k:Nat->R):frc n k=k n:=by cases n<;>rfl
def frc8 (u:T8 Nat):T8 Nat:=
 frc u.1.1.1 fun a=>frc u.1.1.2 fun b=>frc u.1.2.1 fun c=>frc u.1.2.2 fun d=>frc u.2.1.1 fun e=>frc u.2.1.2 fun f=>frc u.2.2.1 fun g=>frc u.2.2.2 fun h=>(((a,b),(c,d)),((e,f),(g,h)))
theorem frc8_eq (u:T8 Nat):frc8 u=u:=by simp only[frc8,frc_eq]
def fOps (o:Ops (T8 Nat)):Ops (T8 Nat):=⟨o.zero,o.one,fun u v=>frc8 (o.add u v),fun u v=>frc8 (o.sub u v),fun u v=>frc8 (o.mul u v)⟩
theorem fOps_eq (o:Ops (T8 Nat)):fOps o=o:=by unfold fOps;simp only[frc8_eq]
def lt8 (N:Nat) (u:T8 Nat):Bool:=Nat.blt u.1.1.1 N&&Nat.blt u.1.1.2 N&&Nat.blt u.1.2.1 N&&Nat.blt u.1.2.2 N&&Nat.blt u.2.1.1 N&&Nat.blt u.2.1.2 N&&Nat.blt u.2.2.1 N&&Nat.blt u.2.2.2 N
def absOk (a b c N:Nat) (e:PE):Bool:=lt8 N (e.ev (fOps (tow aOps a b c)) (env8 aOps a b c))
def modOk (a b c M:Nat) (e:PE):Bool:=lt8 1 (e.ev (fOps (tow (mOps M) a b c)) (env8 (mOps M) a b c))
def chkP (N1 N2 N3 M:Nat) (e:PE):Bool:=absOk 1 1 1 N1 e&&absOk N1 1 1 N2 e&&absOk N1 N2 1 N3 e&&absOk N1 N2 N3 M e&&modOk N1 N2 N3 M e
theorem lt8_iff {N:Nat}{u:T8 Nat}(h:lt8 N u=true):((u.1.1.1<N∧u.1.1.2<N)∧(u.1.2.1<N∧u.1.2.2<N))∧((u.2.1.1<N∧u.2.1.2<N)∧(u.2.2.1<N∧u.2.2.2<N)):=by
 simp only[lt8,Bool.and_eq_true,Nat.blt_eq]at h
 obtain ⟨⟨⟨⟨⟨⟨⟨h0,h1⟩,h2⟩,h3⟩,h4⟩,h5⟩,h6⟩,h7⟩:=h
 exact⟨⟨⟨h0,h1⟩,h2,h3⟩,⟨h4,h5⟩,h6,h7⟩
def PE.p8 (e:PE):T8 P3:=e.ev (tow o3 X1 X2 X3) (env8 o3 X1 X2 X3)
theorem abs_le (a b c N:Nat) (e:PE) (h:absOk a b c N e=true):all8 (fun(p:P3) (_:Nat)=>ν3 a b c p<N) e.p8 (((0,0),(0,0)),((0,0),(0,0))):=by
 unfold absOk at h
 rw[fOps_eq]at h
 have hr:=nrm_rel (nrm3 a b c)
 have x1:ν3 a b c X1<=a:=by simp[ν3,X1,nL]
 have x2:ν3 a b c X2<=b:=by simp[ν3,X2,nL]
 have x3:ν3 a b c X3<=c:=by simp[ν3,X3,nL]
 have key:=PE.rel (rel_tow hr x1 x2 x3) (rel_env hr x1 x2 x3) e
 obtain ⟨⟨⟨k0,k1⟩,k2,k3⟩,⟨k4,k5⟩,k6,k7⟩:=key
 obtain ⟨⟨⟨l0,l1⟩,l2,l3⟩,⟨l4,l5⟩,l6,l7⟩:=lt8_iff h
 exact⟨⟨⟨Nat.lt_of_le_of_lt k0 l0,Nat.lt_of_le_of_lt k1 l1⟩,Nat.lt_of_le_of_lt k2 l2,Nat.lt_of_le_of_lt k3 l3⟩,⟨Nat.lt_of_le_of_lt k4 l4,Nat.lt_of_le_of_lt k5 l5⟩,Nat.lt_of_le_of_lt k6 l6,Nat.lt_of_le_of_lt k7 l7⟩
theorem mod_zero (a b c M:Nat) (hM:0<M) (e:PE) (h:modOk a b c M e=true):all8 (fun(p:P3) (_:Nat)=>(M:Int) ∣ φ3 oI idI (a:Int) (b:Int) (c:Int) p) e.p8 (((0,0),(0,0)),((0,0),(0,0))):=by
 unfold modOk at h
 rw[fOps_eq]at h
 have hr:=rel_mod hM (hom3 rgI homI (a:Int) (b:Int) (c:Int))
 have x1:mdR M (φ3 oI idI (a:Int) (b:Int) (c:Int)) X1 a:=⟨0,by simp[φ3,X1,evL,idI,oI]⟩
 have x2:mdR M (φ3 oI idI (a:Int) (b:Int) (c:Int)) X2 b:=⟨0,by simp[φ3,X2,evL,idI,oI]⟩
 have x3:mdR M (φ3 oI idI (a:Int) (b:Int) (c:Int)) X3 c:=⟨0,by simp[φ3,X3,evL,idI,oI]⟩
 have key:=PE.rel (rel_tow hr x1 x2 x3) (rel_env hr x1 x2 x3) e
 have z:∀(p:P3) (n:Nat),mdR M (φ3 oI idI (a:Int) (b:Int) (c:Int)) p n->n<1->(M:Int) ∣ φ3 oI idI (a:Int) (b:Int) (c:Int) p:=by
  intro p n hp hn
  have:n=0:=by omega
  subst this
  obtain ⟨k,hk⟩:=hp
  exact⟨k,by omega⟩
 obtain ⟨⟨⟨k0,k1⟩,k2,k3⟩,⟨k4,k5⟩,k6,k7⟩:=key
 obtain ⟨⟨⟨l0,l1⟩,l2,l3⟩,⟨l4,l5⟩,l6,l7⟩:=lt8_iff h
 exact⟨⟨⟨z _ _ k0 l0,z _ _ k1 l1⟩,z _ _ k2 l2,z _ _ k3 l3⟩,⟨z _ _ k4 l4,z _ _ k5 l5⟩,z _ _ k6 l6,z _ _ k7 l7⟩
section
variable {P0:Nat} [NeZero P0]
def envK (x1 y1 x2 y2 x3 y3:Fin P0):Nat->Fin P0
 | 0=>x1
 | 1=>y1
 | 2=>x2
 | 3=>y2
 | 4=>x3
 | _=>y3
theorem e8a (a y1 y2 y3:Fin P0):((a+0*y1)+(0+0*y1)*y2)+((0+0*y1)+(0+0*y1)*y2)*y3=a:=by grind
theorem e8b (y1 y2 y3:Fin P0):((0+1*y1)+(0+0*y1)*y2)+((0+0*y1)+(0+0*y1)*y2)*y3=y1:=by grind
theorem e8c (y1 y2 y3:Fin P0):((0+0*y1)+(1+0*y1)*y2)+((0+0*y1)+(0+0*y1)*y2)*y3=y2:=by grind
theorem e8d (y1 y2 y3:Fin P0):((0+0*y1)+(0+0*y1)*y2)+((1+0*y1)+(0+0*y1)*y2)*y3=y3:=by grind
theorem e8s (x1 x2 x3:Fin P0):φ3 (oF P0) (castI P0) x1 x2 x3 (seven o3)=7:=by
 have:=rel_seven (hom3 (rgF P0) (homK (P0:=P0)) x1 x2 x3)
 rw[this];simp only[seven,oF];grind
theorem e8x (x1 x2 x3:Fin P0):φ3 (oF P0) (castI P0) x1 x2 x3 X1=x1:=by simp only[φ3,X1,evL,cast0,cast1,oF];grind
theorem e8y (x1 x2 x3:Fin P0):φ3 (oF P0) (castI P0) x1 x2 x3 X2=x2:=by simp only[φ3,X2,evL,cast1,oF];grind
theorem e8z (x1 x2 x3:Fin P0):φ3 (oF P0) (castI P0) x1 x2 x3 X3=x3:=by simp only[φ3,X3,evL,cast1,oF];grind
theorem e8r (a y:Fin P0):a+0*y=a:=by grind
theorem poly_zero {N1 N2 N3 M:Nat}{e:PE}(hM:0<M) (h:chkP N1 N2 N3 M e=true){x1 y1 x2 y2 x3 y3:Fin P0}(h1:y1*y1=x1*x1*x1+7) (h2:y2*y2=x2*x2*x2+7) (h3:y3*y3=x3*x3*x3+7):
  e.ev (oF P0) (envK x1 y1 x2 y2 x3 y3)=0:=by
 simp only[chkP,Bool.and_eq_true]at h
 obtain ⟨⟨⟨⟨a1,a2⟩,a3⟩,a4⟩,a5⟩:=h
 have b1:=abs_le _ _ _ _ e a1
 have b2:=abs_le _ _ _ _ e a2
 have b3:=abs_le _ _ _ _ e a3
 have b4:=abs_le _ _ _ _ e a4
 have b5:=mod_zero _ _ _ _ hM e a5
 have z:∀p:P3,((M:Int) ∣ φ3 oI idI (N1:Int) (N2:Int) (N3:Int) p)->ν3 N1 N2 N3 p<M->ν3 N1 N2 1 p<N3->ν3 N1 1 1 p<N2->ν3 1 1 1 p<N1->φ3 (oF P0) (castI P0) x1 x2 x3 p=0:=
  fun p q0 q1 q2 q3 q4=>zero3 q0 q1 q2 q3 q4 x1 x2 x3
 have hφ:=hom3 (rgF P0) (homK (P0:=P0)) x1 x2 x3
 have s7:=e8s x1 x2 x3
 have c1:=e8x x1 x2 x3
 have c2:=e8y x1 x2 x3
 have c3:=e8z x1 x2 x3
 generalize φ3 (oF P0) (castI P0) x1 x2 x3=φ at hφ s7 c1 c2 c3 z
 have hz:φ o3.zero=0:=hφ.z
 have ho:φ o3.one=1:=hφ.one
 have cu:∀(X:P3) (x:Fin P0),φ X=x->φ (cub o3 X)=x*x*x+7:=by
  intro X x hx
  have e:φ (cub o3 X)=φ X*φ X*φ X+φ (seven o3):=by unfold cub;rw[hφ.a,hφ.m,hφ.m];rfl
  rw[e,hx,s7]
 have H1:=hom_yOps (rgF P0) hφ (r:=cub o3 X1) (y:=y1) (by rw[cu _ _ c1];exact h1)
 have H2:=hom_yOps (rgF P0) H1 (r:=(cub o3 X2,o3.zero)) (y:=y2) (by
  show y2*y2=φ (cub o3 X2)+φ o3.zero*y1
  rw[cu _ _ c2,hz,e8r,h2])
 have H3:=hom_yOps (rgF P0) H2 (r:=((cub o3 X3,o3.zero),(o3.zero,o3.zero))) (y:=y3) (by
  show y3*y3=(φ (cub o3 X3)+φ o3.zero*y1)+(φ o3.zero+φ o3.zero*y1)*y2
  rw[cu _ _ c3,hz,e8r,e8r,e8r,h3])
 have key:=PE.rel H3 (env:=env8 o3 X1 X2 X3) (env':=envK x1 y1 x2 y2 x3 y3) (by
  intro i
  match i with
  | 0=>
   show((φ X1+φ o3.zero*y1)+(φ o3.zero+φ o3.zero*y1)*y2)+((φ o3.zero+φ o3.zero*y1)+(φ o3.zero+φ o3.zero*y1)*y2)*y3=x1
   rw[hz,c1];exact e8a _ _ _ _
  | 1=>
   show((φ o3.zero+φ o3.one*y1)+(φ o3.zero+φ o3.zero*y1)*y2)+((φ o3.zero+φ o3.zero*y1)+(φ o3.zero+φ o3.zero*y1)*y2)*y3=y1
   rw[hz,ho];exact e8b _ _ _
  | 2=>
   show((φ X2+φ o3.zero*y1)+(φ o3.zero+φ o3.zero*y1)*y2)+((φ o3.zero+φ o3.zero*y1)+(φ o3.zero+φ o3.zero*y1)*y2)*y3=x2
   rw[hz,c2];exact e8a _ _ _ _
  | 3=>
   show((φ o3.zero+φ o3.zero*y1)+(φ o3.one+φ o3.zero*y1)*y2)+((φ o3.zero+φ o3.zero*y1)+(φ o3.zero+φ o3.zero*y1)*y2)*y3=y2
   rw[hz,ho];exact e8c _ _ _
  | 4=>
   show((φ X3+φ o3.zero*y1)+(φ o3.zero+φ o3.zero*y1)*y2)+((φ o3.zero+φ o3.zero*y1)+(φ o3.zero+φ o3.zero*y1)*y2)*y3=x3
   rw[hz,c3];exact e8a _ _ _ _
  | _+5=>
   show((φ o3.zero+φ o3.zero*y1)+(φ o3.zero+φ o3.zero*y1)*y2)+((φ o3.one+φ o3.zero*y1)+(φ o3.zero+φ o3.zero*y1)*y2)*y3=y3
   rw[hz,ho];exact e8d _ _ _) e
 rw[<-key]
 show((φ e.p8.1.1.1+φ e.p8.1.1.2*y1)+(φ e.p8.1.2.1+φ e.p8.1.2.2*y1)*y2)+((φ e.p8.2.1.1+φ e.p8.2.1.2*y1)+(φ e.p8.2.2.1+φ e.p8.2.2.2*y1)*y2)*y3=0
 rw[z _ b5.1.1.1 b4.1.1.1 b3.1.1.1 b2.1.1.1 b1.1.1.1,z _ b5.1.1.2 b4.1.1.2 b3.1.1.2 b2.1.1.2 b1.1.1.2,z _ b5.1.2.1 b4.1.2.1 b3.1.2.1 b2.1.2.1 b1.1.2.1,z _ b5.1.2.2 b4.1.2.2 b3.1.2.2 b2.1.2.2 b1.1.2.2,
  z _ b5.2.1.1 b4.2.1.1 b3.2.1.1 b2.2.1.1 b1.2.1.1,z _ b5.2.1.2 b4.2.1.2 b3.2.1.2 b2.2.1.2 b1.2.1.2,z _ b5.2.2.1 b4.2.2.1 b3.2.2.1 b2.2.2.1 b1.2.2.1,z _ b5.2.2.2 b4.2.2.2 b3.2.2.2 b2.2.2.2 b1.2.2.2]
 exact e8a 0 _ _ _
end
end Go.W

namespace Go.W
section
variable {P0:Nat} [NeZero P0]
def fX (X1 Y1 Z1 X2 Y2 Z2:(Fin P0)):(Fin P0):=(X1*Y2+X2*Y1)*(Y1*Y2-21*(Z1*Z2))-21*(Y1*Z2+Y2*Z1)*(X1*Z2+X2*Z1)
def fY (X1 Y1 Z1 X2 Y2 Z2:(Fin P0)):(Fin P0):=(Y1*Y2+21*(Z1*Z2))*(Y1*Y2-21*(Z1*Z2))+63*(X1*X2)*(X1*Z2+X2*Z1)
def fZ (X1 Y1 Z1 X2 Y2 Z2:(Fin P0)):(Fin P0):=(Y1*Z2+Y2*Z1)*(Y1*Y2+21*(Z1*Z2))+3*(X1*X2)*(X1*Y2+X2*Y1)
end
def e3:PE:=.add (.add .one .one) .one
def e7:PE:=.add (.add (.add .one .one) (.add .one .one)) e3
def e21:PE:=.mul e3 e7
def e63:PE:=.mul e3 e21
def eX (X1 Y1 Z1 X2 Y2 Z2:PE):PE:=.sub (.mul (.add (.mul X1 Y2) (.mul X2 Y1)) (.sub (.mul Y1 Y2) (.mul e21 (.mul Z1 Z2)))) (.mul (.mul e21 (.add (.mul Y1 Z2) (.mul Y2 Z1))) (.add (.mul X1 Z2) (.mul X2 Z1)))
def eY (X1 Y1 Z1 X2 Y2 Z2:PE):PE:=.add (.mul (.add (.mul Y1 Y2) (.mul e21 (.mul Z1 Z2))) (.sub (.mul Y1 Y2) (.mul e21 (.mul Z1 Z2)))) (.mul (.mul e63 (.mul X1 X2)) (.add (.mul X1 Z2) (.mul X2 Z1)))
def eZ (X1 Y1 Z1 X2 Y2 Z2:PE):PE:=.add (.mul (.add (.mul Y1 Z2) (.mul Y2 Z1)) (.add (.mul Y1 Y2) (.mul e21 (.mul Z1 Z2)))) (.mul (.mul e3 (.mul X1 X2)) (.add (.mul X1 Y2) (.mul X2 Y1)))
def ePQ (f:PE->PE->PE->PE->PE->PE->PE):PE:=f (.v 0) (.v 1) .one (.v 2) (.v 3) .one
def eQR (f:PE->PE->PE->PE->PE->PE->PE):PE:=f (.v 2) (.v 3) .one (.v 4) (.v 5) .one
def eL (f:PE->PE->PE->PE->PE->PE->PE):PE:=f (ePQ eX) (ePQ eY) (ePQ eZ) (.v 4) (.v 5) .one
def eR (f:PE->PE->PE->PE->PE->PE->PE):PE:=f (.v 0) (.v 1) .one (eQR eX) (eQR eY) (eQR eZ)
def asX:PE:=.sub (.mul (eL eX) (eR eZ)) (.mul (eL eZ) (eR eX))
def asY:PE:=.sub (.mul (eL eY) (eR eZ)) (.mul (eL eZ) (eR eY))
theorem asX_chk:chkP (2^49) (2^472) (2^6114) (2^61036) asX=true:=by kernel_rfl
theorem asY_chk:chkP (2^49) (2^472) (2^6114) (2^61036) asY=true:=by kernel_rfl
section
variable {P0:Nat} [NeZero P0]
theorem e3_ev (env:Nat->(Fin P0)):e3.ev (oF P0) env=3:=by simp only[e3,PE.ev,oF];grind
theorem e7_ev (env:Nat->(Fin P0)):e7.ev (oF P0) env=7:=by simp only[e7,e3,PE.ev,oF];grind
theorem e21_ev (env:Nat->(Fin P0)):e21.ev (oF P0) env=21:=by
 show e3.ev (oF P0) env*e7.ev (oF P0) env=21
 rw[e3_ev,e7_ev];grind
theorem e63_ev (env:Nat->(Fin P0)):e63.ev (oF P0) env=63:=by
 show e3.ev (oF P0) env*e21.ev (oF P0) env=63
 rw[e3_ev,e21_ev];grind
theorem eX_ev (env:Nat->(Fin P0)) (a b c d e f:PE):(eX a b c d e f).ev (oF P0) env=fX (a.ev (oF P0) env) (b.ev (oF P0) env) (c.ev (oF P0) env) (d.ev (oF P0) env) (e.ev (oF P0) env) (f.ev (oF P0) env):=by
 unfold fX
 rw[<-e21_ev env];rfl
theorem eY_ev (env:Nat->(Fin P0)) (a b c d e f:PE):(eY a b c d e f).ev (oF P0) env=fY (a.ev (oF P0) env) (b.ev (oF P0) env) (c.ev (oF P0) env) (d.ev (oF P0) env) (e.ev (oF P0) env) (f.ev (oF P0) env):=by
 unfold fY
 rw[<-e21_ev env,<-e63_ev env];rfl
theorem eZ_ev (env:Nat->(Fin P0)) (a b c d e f:PE):(eZ a b c d e f).ev (oF P0) env=fZ (a.ev (oF P0) env) (b.ev (oF P0) env) (c.ev (oF P0) env) (d.ev (oF P0) env) (e.ev (oF P0) env) (f.ev (oF P0) env):=by
 unfold fZ
 rw[<-e21_ev env,<-e3_ev env];rfl
theorem assocX {x1 y1 x2 y2 x3 y3:(Fin P0)}(h1:y1*y1=x1*x1*x1+7) (h2:y2*y2=x2*x2*x2+7) (h3:y3*y3=x3*x3*x3+7):
  fX (fX x1 y1 1 x2 y2 1) (fY x1 y1 1 x2 y2 1) (fZ x1 y1 1 x2 y2 1) x3 y3 1*fZ x1 y1 1 (fX x2 y2 1 x3 y3 1) (fY x2 y2 1 x3 y3 1) (fZ x2 y2 1 x3 y3 1)=
  fZ (fX x1 y1 1 x2 y2 1) (fY x1 y1 1 x2 y2 1) (fZ x1 y1 1 x2 y2 1) x3 y3 1*fX x1 y1 1 (fX x2 y2 1 x3 y3 1) (fY x2 y2 1 x3 y3 1) (fZ x2 y2 1 x3 y3 1):=by
 have h:=poly_zero (Nat.two_pow_pos _) asX_chk h1 h2 h3
 have e:asX.ev (oF P0) (envK x1 y1 x2 y2 x3 y3)=(eL eX).ev (oF P0) (envK x1 y1 x2 y2 x3 y3)*(eR eZ).ev (oF P0) (envK x1 y1 x2 y2 x3 y3)-(eL eZ).ev (oF P0) (envK x1 y1 x2 y2 x3 y3)*(eR eX).ev (oF P0) (envK x1 y1 x2 y2 x3 y3):=rfl
 rw[e]at h
 simp only[eL,eR,ePQ,eQR,eX_ev,eY_ev,eZ_ev,PE.ev,envK]at h
 have o:(oF P0).one=1:=rfl
 rw[o]at h
 generalize fX (fX x1 y1 1 x2 y2 1) (fY x1 y1 1 x2 y2 1) (fZ x1 y1 1 x2 y2 1) x3 y3 1=A at *
 generalize fZ (fX x1 y1 1 x2 y2 1) (fY x1 y1 1 x2 y2 1) (fZ x1 y1 1 x2 y2 1) x3 y3 1=B at *
 generalize fX x1 y1 1 (fX x2 y2 1 x3 y3 1) (fY x2 y2 1 x3 y3 1) (fZ x2 y2 1 x3 y3 1)=C at *
 generalize fZ x1 y1 1 (fX x2 y2 1 x3 y3 1) (fY x2 y2 1 x3 y3 1) (fZ x2 y2 1 x3 y3 1)=D at *
 grind
theorem assocY {x1 y1 x2 y2 x3 y3:(Fin P0)}(h1:y1*y1=x1*x1*x1+7) (h2:y2*y2=x2*x2*x2+7) (h3:y3*y3=x3*x3*x3+7):
  fY (fX x1 y1 1 x2 y2 1) (fY x1 y1 1 x2 y2 1) (fZ x1 y1 1 x2 y2 1) x3 y3 1*fZ x1 y1 1 (fX x2 y2 1 x3 y3 1) (fY x2 y2 1 x3 y3 1) (fZ x2 y2 1 x3 y3 1)=
  fZ (fX x1 y1 1 x2 y2 1) (fY x1 y1 1 x2 y2 1) (fZ x1 y1 1 x2 y2 1) x3 y3 1*fY x1 y1 1 (fX x2 y2 1 x3 y3 1) (fY x2 y2 1 x3 y3 1) (fZ x2 y2 1 x3 y3 1):=by
 have h:=poly_zero (Nat.two_pow_pos _) asY_chk h1 h2 h3
 have e:asY.ev (oF P0) (envK x1 y1 x2 y2 x3 y3)=(eL eY).ev (oF P0) (envK x1 y1 x2 y2 x3 y3)*(eR eZ).ev (oF P0) (envK x1 y1 x2 y2 x3 y3)-(eL eZ).ev (oF P0) (envK x1 y1 x2 y2 x3 y3)*(eR eY).ev (oF P0) (envK x1 y1 x2 y2 x3 y3):=rfl
 rw[e]at h
 simp only[eL,eR,ePQ,eQR,eX_ev,eY_ev,eZ_ev,PE.ev,envK]at h
 have o:(oF P0).one=1:=rfl
 rw[o]at h
 generalize fY (fX x1 y1 1 x2 y2 1) (fY x1 y1 1 x2 y2 1) (fZ x1 y1 1 x2 y2 1) x3 y3 1=A at *
 generalize fZ (fX x1 y1 1 x2 y2 1) (fY x1 y1 1 x2 y2 1) (fZ x1 y1 1 x2 y2 1) x3 y3 1=B at *
 generalize fY x1 y1 1 (fX x2 y2 1 x3 y3 1) (fY x2 y2 1 x3 y3 1) (fZ x2 y2 1 x3 y3 1)=C at *
 generalize fZ x1 y1 1 (fX x2 y2 1 x3 y3 1) (fY x2 y2 1 x3 y3 1) (fZ x2 y2 1 x3 y3 1)=D at *
 grind
end
end Go.W

namespace Go.W
section
variable {P0:Nat} [NeZero P0]
theorem g1 {a b c x:(Fin P0)}(h:a-b-c=x):a=x+b+c:=by grind
theorem g2 (k x1 y1 x3:(Fin P0)):(k*(x1-x3)-y1)*(k*(x1-x3)-y1)=(k*k)*((x3-x1)*(x3-x1))+(2*k*y1)*(x3-x1)+y1*y1:=by grind
theorem g3 {a b c:(Fin P0)}(h:a-b-c=0):c=a-b:=by grind
theorem g4 (x1 x2 x3:(Fin P0)):(x3+x1+x2)*((x3-x1)*(x3-x1))+(x1*x1+x1*x2+x2*x2-(x3+x1+x2)*(x2-x1))*(x3-x1)+(x1*x1*x1+7)=x3*x3*x3+7:=by grind
theorem g5 {a b c:(Fin P0)}(h1:a*a=c) (h2:b*b=c):(a+b)*(a-b)=0:=by grind
theorem g6 {a b:(Fin P0)}(h:a-b=0):a=b:=by grind
theorem g7 (x1 y1 x2 k:(Fin P0)):(x2-x1)*(x1*x1+x1*x2+x2*x2-k*k*(x2-x1)-2*k*y1)=(x2*x2*x2+7)-(x1*x1*x1+7)-(k*(x2-x1))*(k*(x2-x1)+2*y1):=by grind
theorem g8 (y1 y2:(Fin P0)):y2*y2-y1*y1-(y2-y1)*(y2-y1+2*y1)=0:=by grind
theorem g9 (a i d:(Fin P0)):a*i*d=a*(d*i):=by grind
theorem g10 (a:(Fin P0)):a*1=a:=by grind
theorem g11 (y:(Fin P0)):(0-y)*(0-y)=y*y:=by grind
theorem g12 (k d x1 x2 y1:(Fin P0)):(k*d)*((x1+x1+x2)*(d*d)-(k*d)*(k*d))-y1*(d*d*d)=d*(d*(d*(k*(x1-(k*k-x1-x2))-y1))):=by grind
theorem g13 (C k d x1 x2:(Fin P0)):C*((k*d)*(k*d)-(x1+x2)*(d*d))=d*d*(C*(k*k-x1-x2)):=by grind
theorem g14 (C k d x1 x2 y1:(Fin P0)):C*((k*d)*((x1+x1+x2)*(d*d)-(k*d)*(k*d))-y1*(d*d*d))=d*d*d*(C*(k*(x1-(k*k-x1-x2))-y1)):=by grind
theorem g15 (k d x:(Fin P0)):d*((k*d)*(k*d)-(x+x)*(d*d))=d*(d*d)*(k*k-x-x):=by grind
theorem g16 (k d x y:(Fin P0)):(k*d)*((x+x+x)*(d*d)-(k*d)*(k*d))-y*(d*(d*d))=d*(d*d)*(k*(x-(k*k-x-x))-y):=by grind
theorem g17 (a:(Fin P0)):a=a*1:=by grind
theorem g18 {a b:(Fin P0)}(h:a+b=0):b=0-a:=by grind
theorem g19 (a b c:(Fin P0)):a*a*(b*c)=a*a*b*c:=by grind
theorem g21 {c d x1 x2:(Fin P0)}(h:c*x1*(d*1)=c*1*(d*x2)):c*d*x1=c*d*x2:=by grind
theorem g22 {c d y:(Fin P0)}(h:c*1*(d*1)=c*0*(d*y)):c*d=0:=by grind
theorem g23 {c d y:(Fin P0)}(h:c*y*(d*0)=c*1*(d*1)):c*d=0:=by grind
theorem g24 {a b c:(Fin P0)}(h:a*b=a*c):a*(b-c)=0:=by grind
theorem g25 {x y k:(Fin P0)}(hk:k*(2*y)=3*(x*x)):x*x+x*x+x*x-k*k*(x-x)-2*k*y=0:=by grind
theorem g26 (a i b:(Fin P0)) (h:a*i=1):b=i*(a*b):=by grind
theorem g27 (a:(Fin P0)):a*0=0:=by grind
theorem g30 (a b:(Fin P0)):a*b=b*a:=by grind
end
structure Fld (P0:Nat) [NeZero P0] (inv:Fin P0->Fin P0):Prop where
 inv:∀a:(Fin P0),a≠0->a*inv a=1
 one:(1:(Fin P0))≠0
 two:(2:(Fin P0))≠0
 tor:∀x y:(Fin P0),y*y=x*x*x+7->y≠0
inductive Pt (KK:Type) where
 | inf
 | aff (x y:KK)
 deriving DecidableEq
section
variable {P0:Nat} [NeZero P0]
theorem gz {x1 y1 x2 y2:(Fin P0)}(h1:y1*y1=x1*x1*x1+7) (h2:y2*y2=x2*x2*x2+7):
  fZ x1 y1 1 x2 y2 1=(0-y2-y1)*((x1+x1+x2)*((x2-x1)*(x2-x1))-(0-y2-y1)*(0-y2-y1))-y1*((x2-x1)*(x2-x1)*(x2-x1)):=by unfold fZ;grind
theorem gxx {x1 y1 x2 y2:(Fin P0)}(h1:y1*y1=x1*x1*x1+7) (h2:y2*y2=x2*x2*x2+7):
  (x2-x1)*(x2-x1)*fX x1 y1 1 x2 y2 1=fZ x1 y1 1 x2 y2 1*((y2-y1)*(y2-y1)-(x1+x2)*((x2-x1)*(x2-x1))):=by unfold fX fZ;grind
theorem gyy {x1 y1 x2 y2:(Fin P0)}(h1:y1*y1=x1*x1*x1+7) (h2:y2*y2=x2*x2*x2+7):
  (x2-x1)*(x2-x1)*(x2-x1)*fY x1 y1 1 x2 y2 1=fZ x1 y1 1 x2 y2 1*((y2-y1)*((x1+x1+x2)*((x2-x1)*(x2-x1))-(y2-y1)*(y2-y1))-y1*((x2-x1)*(x2-x1)*(x2-x1))):=by unfold fY fZ;grind
theorem gtz {x y:(Fin P0)}(h1:y*y=x*x*x+7):fZ x y 1 x y 1=(2*y)*((2*y)*(2*y)):=by unfold fZ;grind
theorem gtx {x y:(Fin P0)}(h1:y*y=x*x*x+7):fX x y 1 x y 1=(2*y)*((3*(x*x))*(3*(x*x))-(x+x)*((2*y)*(2*y))):=by unfold fX;grind
theorem gty {x y:(Fin P0)}(h1:y*y=x*x*x+7):fY x y 1 x y 1=(3*(x*x))*((x+x+x)*((2*y)*(2*y))-(3*(x*x))*(3*(x*x)))-y*((2*y)*((2*y)*(2*y))):=by unfold fY;grind
theorem gox (x y:(Fin P0)):fX x y 1 x (0-y) 1=0:=by unfold fX;grind
theorem goz (x y:(Fin P0)):fZ x y 1 x (0-y) 1=0:=by unfold fZ;grind
theorem goy {x y:(Fin P0)}(h1:y*y=x*x*x+7):fY x y 1 x (0-y) 1=(3*(x*x))*((x+x+x)*((2*y)*(2*y))-(3*(x*x))*(3*(x*x)))-y*((2*y)*(2*y)*(2*y)):=by unfold fY;grind
end
section
variable {P0:Nat} [NeZero P0] {inv:Fin P0->Fin P0}
theorem Fld.dom (F:Fld P0 inv){a b:(Fin P0)}(h:a*b=0):a=0∨b=0:=by
 by_cases ha:a=0
 ·exact .inl ha
 ·right
  have h1:=F.inv a ha
  rw[g26 a (inv a) b h1,h,g27]
theorem Fld.mul_ne (F:Fld P0 inv){a b:(Fin P0)}(ha:a≠0) (hb:b≠0):a*b≠0:=fun h=>(F.dom h).elim ha hb
theorem Fld.cancel (F:Fld P0 inv){a b c:(Fin P0)}(ha:a≠0) (h:a*b=a*c):b=c:=by
 rcases F.dom (g24 h) with h1|h1
 ·exact absurd h1 ha
 ·exact g6 h1
def On:Pt (Fin P0)->Prop
 | .inf=>True
 | .aff x y=>y*y=x*x*x+7
def negP:Pt (Fin P0)->Pt (Fin P0)
 | .inf=>.inf
 | .aff x y=>.aff x (0-y)
def line (k x1 y1 x2:(Fin P0)):Pt (Fin P0):=.aff (k*k-x1-x2) (k*(x1-(k*k-x1-x2))-y1)
theorem line_on {k x1 y1 x2:(Fin P0)}(h1:y1*y1=x1*x1*x1+7) (hE:x1*x1+x1*x2+x2*x2-k*k*(x2-x1)-2*k*y1=0):On (line k x1 y1 x2):=by
 show(k*(x1-(k*k-x1-x2))-y1)*(k*(x1-(k*k-x1-x2))-y1)=(k*k-x1-x2)*(k*k-x1-x2)*(k*k-x1-x2)+7
 generalize hx:k*k-x1-x2=x3
 have hk:k*k=x3+x1+x2:=g1 hx
 have e2:=g3 hE
 rw[hk]at e2
 rw[g2,e2,hk,h1];exact g4 x1 x2 x3
theorem sq_eq (F:Fld P0 inv){x y1 y2:(Fin P0)}(h1:y1*y1=x*x*x+7) (h2:y2*y2=x*x*x+7):y1+y2=0∨y1=y2:=by
 rcases F.dom (g5 h1 h2) with h|h
 ·exact .inl h
 ·exact .inr (g6 h)
theorem chord_E (F:Fld P0 inv){x1 y1 x2 y2 k:(Fin P0)}(h1:y1*y1=x1*x1*x1+7) (h2:y2*y2=x2*x2*x2+7) (hd:x2-x1≠0) (hk:k*(x2-x1)=y2-y1):
  x1*x1+x1*x2+x2*x2-k*k*(x2-x1)-2*k*y1=0:=by
 have e:=g7 x1 y1 x2 k
 rw[hk,<-h1,<-h2,g8]at e
 exact(F.dom e).resolve_left hd
theorem tan_E {x y k:(Fin P0)}(hk:k*(2*y)=3*(x*x)):x*x+x*x+x*x-k*k*(x-x)-2*k*y=0:=g25 hk
theorem chord_k (F:Fld P0 inv){x1 y1 x2 y2:(Fin P0)}(hd:x2-x1≠0):(y2-y1)*inv (x2-x1)*(x2-x1)=y2-y1:=by
 rw[g9,F.inv _ hd,g10]
theorem tan_k (F:Fld P0 inv){x y:(Fin P0)}(hd:2*y≠0):3*(x*x)*inv (2*y)*(2*y)=3*(x*x):=by
 rw[g9,F.inv _ hd,g10]
def pX:Pt (Fin P0)->(Fin P0)
 | .inf=>0
 | .aff x _=>x
def pY:Pt (Fin P0)->(Fin P0)
 | .inf=>1
 | .aff _ y=>y
def pZ:Pt (Fin P0)->(Fin P0)
 | .inf=>0
 | .aff _ _=>1
def Is (c:(Fin P0)) (p:Pt (Fin P0)) (X Y Z:(Fin P0)):Prop:=X=c*pX p∧Y=c*pY p∧Z=c*pZ p
theorem chord_is (F:Fld P0 inv){x1 y1 x2 y2 k:(Fin P0)}(h1:y1*y1=x1*x1*x1+7) (h2:y2*y2=x2*x2*x2+7) (hd:x2-x1≠0) (hk:k*(x2-x1)=y2-y1):
  fZ x1 y1 1 x2 y2 1≠0∧Is (fZ x1 y1 1 x2 y2 1) (line k x1 y1 x2) (fX x1 y1 1 x2 y2 1) (fY x1 y1 1 x2 y2 1) (fZ x1 y1 1 x2 y2 1):=by
 constructor
 ·-- the other point's counterpart
  have h2':(0-y2)*(0-y2)=x2*x2*x2+7:=by rw[g11,h2]
  have hk':=chord_k F (y1:=y1) (y2:=0-y2) hd
  have hon:=line_on h1 (chord_E F h1 h2' hd hk')
  generalize (0-y2-y1)*inv (x2-x1)=k' at hk' hon
  have hy:=F.tor _ _ hon
  have e:fZ x1 y1 1 x2 y2 1=(x2-x1)*((x2-x1)*((x2-x1)*(k'*(x1-(k'*k' - x1-x2))-y1))):=by
   rw[gz h1 h2,<-hk'];exact g12 _ _ _ _ _
  rw[e]
  exact F.mul_ne hd (F.mul_ne hd (F.mul_ne hd hy))
 ·have gx:=gxx h1 h2
  have gy:=gyy h1 h2
  generalize fX x1 y1 1 x2 y2 1=A at *
  generalize fY x1 y1 1 x2 y2 1=B at *
  generalize fZ x1 y1 1 x2 y2 1=C at *
  have hd2:=F.mul_ne hd hd
  refine⟨F.cancel hd2 ?_,F.cancel (F.mul_ne hd2 hd) ?_,?_⟩
  ·show(x2-x1)*(x2-x1)*A=(x2-x1)*(x2-x1)*(C*(k*k-x1-x2))
   rw[gx,<-hk];exact g13 _ _ _ _ _
  ·show(x2-x1)*(x2-x1)*(x2-x1)*B=(x2-x1)*(x2-x1)*(x2-x1)*(C*(k*(x1-(k*k-x1-x2))-y1))
   rw[gy,<-hk];exact g14 _ _ _ _ _ _
  ·show C=C*1
   exact g17 _
theorem tan_is (F:Fld P0 inv){x y k:(Fin P0)}(h1:y*y=x*x*x+7) (hk:k*(2*y)=3*(x*x)):
  fZ x y 1 x y 1≠0∧Is (fZ x y 1 x y 1) (line k x y x) (fX x y 1 x y 1) (fY x y 1 x y 1) (fZ x y 1 x y 1):=by
 have hy:=F.tor _ _ h1
 have h2:=F.mul_ne F.two hy
 have hz:=gtz h1
 constructor
 ·rw[hz];exact F.mul_ne h2 (F.mul_ne h2 h2)
 ·have gx:=gtx h1
  have gy:=gty h1
  refine⟨?_,?_,?_⟩
  ·show _=fZ x y 1 x y 1*(k*k-x-x)
   rw[gx,hz,<-hk];exact g15 _ _ _
  ·show _=fZ x y 1 x y 1*(k*(x-(k*k-x-x))-y)
   rw[gy,hz,<-hk];exact g16 _ _ _ _
  ·show _=fZ x y 1 x y 1*1
   exact g17 _
theorem same_pt (F:Fld P0 inv){p q:Pt (Fin P0)}{c d X Y Z X' Y' Z':(Fin P0)}(hc:c≠0) (hd:d≠0) (hp:Is c p X Y Z) (hq:Is d q X' Y' Z') (hx:X*Z'=Z*X') (hy:Y*Z'=Z*Y'):p=q:=by
 obtain ⟨rfl,rfl,rfl⟩:=hp
 obtain ⟨rfl,rfl,rfl⟩:=hq
 have hcd:=F.mul_ne hc hd
 match p,q,hx,hy with
 | .inf,.inf,_,_=>rfl
 | .inf,.aff x y,hx,hy=>
  simp only[pY,pZ]at hy
  exact absurd (g22 hy) hcd
 | .aff x y,.inf,hx,hy=>
  simp only[pY,pZ]at hy
  exact absurd (g23 hy) hcd
 | .aff x1 y1,.aff x2 y2,hx,hy=>
  simp only[pX,pY,pZ]at hx hy
  have e1:x1=x2:=F.cancel hcd (g21 hx)
  have e2:y1=y2:=F.cancel hcd (g21 hy)
  rw[e1,e2]
theorem f_left (c X Y Z X' Y' Z':(Fin P0)):fX (c*X) (c*Y) (c*Z) X' Y' Z'=c*c*fX X Y Z X' Y' Z'∧fY (c*X) (c*Y) (c*Z) X' Y' Z'=c*c*fY X Y Z X' Y' Z'∧fZ (c*X) (c*Y) (c*Z) X' Y' Z'=c*c*fZ X Y Z X' Y' Z':=by
 refine⟨?_,?_,?_⟩
 ·unfold fX;grind
 ·unfold fY;grind
 ·unfold fZ;grind
theorem f_right (c X Y Z X' Y' Z':(Fin P0)):fX X' Y' Z' (c*X) (c*Y) (c*Z)=c*c*fX X' Y' Z' X Y Z∧fY X' Y' Z' (c*X) (c*Y) (c*Z)=c*c*fY X' Y' Z' X Y Z∧fZ X' Y' Z' (c*X) (c*Y) (c*Z)=c*c*fZ X' Y' Z' X Y Z:=by
 refine⟨?_,?_,?_⟩
 ·unfold fX;grind
 ·unfold fY;grind
 ·unfold fZ;grind
theorem neg_on {p:Pt (Fin P0)}(hp:On p):On (negP p):=by
 cases p with
 | inf=>trivial
 | aff x y=>
  have hp':y*y=x*x*x+7:=hp
  show(0-y)*(0-y)=x*x*x+7
  rw[<-hp'];exact g11 _
def addP (inv:(Fin P0)->(Fin P0)):Pt (Fin P0)->Pt (Fin P0)->Pt (Fin P0)
 | .inf,q=>q
 | .aff x y,.inf=>.aff x y
 | .aff x1 y1,.aff x2 y2=>
  if x1=x2 then (if y1+y2=0 then .inf else line (3*(x1*x1)*inv (2*y1)) x1 y1 x1)
  else line ((y2-y1)*inv (x2-x1)) x1 y1 x2
theorem addP_aff (x1 y1 x2 y2:(Fin P0)):addP inv (.aff x1 y1) (.aff x2 y2)=if x1=x2 then (if y1+y2=0 then .inf else line (3*(x1*x1)*inv (2*y1)) x1 y1 x1)
  else line ((y2-y1)*inv (x2-x1)) x1 y1 x2:=rfl
theorem add_on (F:Fld P0 inv){p q:Pt (Fin P0)}(hp:On p) (hq:On q):On (addP inv p q):=by
 match p,q,hp,hq with
 | .inf,q,_,hq=>exact hq
 | .aff x y,.inf,hp,_=>exact hp
 | .aff x1 y1,.aff x2 y2,hp,hq=>
  rw[addP_aff]
  split
  ·rename_i hx
   split
   ·trivial
   ·have hy:y1≠0:=F.tor _ _ hp
    exact line_on hp (tan_E (tan_k F (F.mul_ne F.two hy)))
  ·rename_i hx
   have hd:x2-x1≠0:=fun h=>hx (g6 h).symm
   exact line_on hp (chord_E F hp hq hd (chord_k F hd))
theorem add_is (F:Fld P0 inv){p q:Pt (Fin P0)}(hp:On p) (hq:On q):∃c,c≠0∧
  Is c (addP inv p q) (fX (pX p) (pY p) (pZ p) (pX q) (pY q) (pZ q)) (fY (pX p) (pY p) (pZ p) (pX q) (pY q) (pZ q)) (fZ (pX p) (pY p) (pZ p) (pX q) (pY q) (pZ q)):=by
 match p,q,hp,hq with
 | .inf,.inf,_,_=>
  refine⟨1,F.one,?_,?_,?_⟩<;>simp only[fX,fY,fZ,pX,pY,pZ,addP]<;>grind
 | .inf,.aff x y,_,hq=>
  refine⟨y,F.tor _ _ hq,?_,?_,?_⟩<;>simp only[fX,fY,fZ,pX,pY,pZ,addP]<;>grind
 | .aff x y,.inf,hp,_=>
  refine⟨y,F.tor _ _ hp,?_,?_,?_⟩<;>simp only[fX,fY,fZ,pX,pY,pZ,addP]<;>grind
 | .aff x1 y1,.aff x2 y2,hp,hq=>
  rw[addP_aff]
  split
  ·rename_i hx
   subst hx
   split
   ·rename_i hy
    have e:y2=0-y1:=g18 hy
    subst e
    have hy1:=F.tor _ _ hp
    have hk:=tan_k F (x:=x1) (F.mul_ne F.two hy1)
    have hon:=line_on hp (tan_E hk)
    generalize 3*(x1*x1)*inv (2*y1)=k at hk hon
    have hy3:=F.tor _ _ hon
    have h2:=F.mul_ne F.two hy1
    have e:fY x1 y1 1 x1 (0-y1) 1=(2*y1)*((2*y1)*((2*y1)*(k*(x1-(k*k-x1-x1))-y1))):=by
     rw[goy hp,<-hk];exact g12 _ _ _ _ _
    refine⟨fY x1 y1 1 x1 (0-y1) 1,by rw[e];exact F.mul_ne h2 (F.mul_ne h2 (F.mul_ne h2 hy3)),?_,?_,?_⟩
    ·show fX x1 y1 1 x1 (0-y1) 1=_*0
     rw[gox,g27]
    ·show _=fY x1 y1 1 x1 (0-y1) 1*1
     exact g17 _
    ·show fZ x1 y1 1 x1 (0-y1) 1=_*0
     rw[goz,g27]
   ·rename_i hy
    have e:y1=y2:=(sq_eq F hp hq).resolve_left hy
    subst e
    have hy1:=F.tor _ _ hp
    exact⟨_,tan_is F hp (tan_k F (F.mul_ne F.two hy1))⟩
  ·rename_i hx
   have hd:x2-x1≠0:=fun h=>hx (g6 h).symm
   exact⟨_,chord_is F hp hq hd (chord_k F hd)⟩
theorem add_comm (F:Fld P0 inv){p q:Pt (Fin P0)}(hp:On p) (hq:On q):addP inv p q=addP inv q p:=by
 obtain ⟨c,hc,h1⟩:=add_is F hp hq
 obtain ⟨d,hd,h2⟩:=add_is F hq hp
 refine same_pt F hc hd h1 h2 ?_ ?_
 ·have a:∀X1 Y1 Z1 X2 Y2 Z2:(Fin P0),fX X1 Y1 Z1 X2 Y2 Z2=fX X2 Y2 Z2 X1 Y1 Z1:=by intros;unfold fX;grind
  have b:∀X1 Y1 Z1 X2 Y2 Z2:(Fin P0),fZ X1 Y1 Z1 X2 Y2 Z2=fZ X2 Y2 Z2 X1 Y1 Z1:=by intros;unfold fZ;grind
  rw[a (pX p),b (pX p)];exact g30 _ _
 ·have a:∀X1 Y1 Z1 X2 Y2 Z2:(Fin P0),fY X1 Y1 Z1 X2 Y2 Z2=fY X2 Y2 Z2 X1 Y1 Z1:=by intros;unfold fY;grind
  have b:∀X1 Y1 Z1 X2 Y2 Z2:(Fin P0),fZ X1 Y1 Z1 X2 Y2 Z2=fZ X2 Y2 Z2 X1 Y1 Z1:=by intros;unfold fZ;grind
  rw[a (pX p),b (pX p)];exact g30 _ _
theorem add_inf (p:Pt (Fin P0)):addP inv p .inf=p:=by cases p<;>rfl
theorem add_assoc (F:Fld P0 inv){p q r:Pt (Fin P0)}(hp:On p) (hq:On q) (hr:On r):addP inv (addP inv p q) r=addP inv p (addP inv q r):=by
 match p,q,r,hp,hq,hr with
 | .inf,q,r,_,_,_=>rfl
 | .aff x1 y1,.inf,r,_,_,_=>rfl
 | .aff x1 y1,.aff x2 y2,.inf,_,_,_=>rw[add_inf,add_inf]
 | .aff x1 y1,.aff x2 y2,.aff x3 y3,hp,hq,hr=>
  obtain ⟨c1,n1,a1,a2,a3⟩:=add_is F hp hq
  obtain ⟨c2,n2,b1,b2,b3⟩:=add_is F (add_on F hp hq) hr
  obtain ⟨c3,n3,d1,d2,d3⟩:=add_is F hq hr
  obtain ⟨c4,n4,g1,g2,g3⟩:=add_is F hp (add_on F hq hr)
  replace a1:fX x1 y1 1 x2 y2 1=_:=a1
  replace a2:fY x1 y1 1 x2 y2 1=_:=a2
  replace a3:fZ x1 y1 1 x2 y2 1=_:=a3
  replace d1:fX x2 y2 1 x3 y3 1=_:=d1
  replace d2:fY x2 y2 1 x3 y3 1=_:=d2
  replace d3:fZ x2 y2 1 x3 y3 1=_:=d3
  have hX:=assocX hp hq hr
  have hY:=assocY hp hq hr
  rw[a1,a2,a3,d1,d2,d3]at hX hY
  obtain ⟨l1,l2,l3⟩:=f_left c1 (pX (addP inv (.aff x1 y1) (.aff x2 y2))) (pY (addP inv (.aff x1 y1) (.aff x2 y2))) (pZ (addP inv (.aff x1 y1) (.aff x2 y2))) x3 y3 1
  obtain ⟨r1,r2,r3⟩:=f_right c3 (pX (addP inv (.aff x2 y2) (.aff x3 y3))) (pY (addP inv (.aff x2 y2) (.aff x3 y3))) (pZ (addP inv (.aff x2 y2) (.aff x3 y3))) x1 y1 1
  rw[l1,l3,r1,r3]at hX
  rw[l2,l3,r2,r3]at hY
  have k1:c1*c1*c2≠0:=F.mul_ne (F.mul_ne n1 n1) n2
  have k2:c3*c3*c4≠0:=F.mul_ne (F.mul_ne n3 n3) n4
  refine same_pt F k1 k2 (X:=c1*c1*fX (pX (addP inv (.aff x1 y1) (.aff x2 y2))) (pY (addP inv (.aff x1 y1) (.aff x2 y2))) (pZ (addP inv (.aff x1 y1) (.aff x2 y2))) x3 y3 1) (Y:=c1*c1*fY (pX (addP inv (.aff x1 y1) (.aff x2 y2))) (pY (addP inv (.aff x1 y1) (.aff x2 y2))) (pZ (addP inv (.aff x1 y1) (.aff x2 y2))) x3 y3 1) (Z:=c1*c1*fZ (pX (addP inv (.aff x1 y1) (.aff x2 y2))) (pY (addP inv (.aff x1 y1) (.aff x2 y2))) (pZ (addP inv (.aff x1 y1) (.aff x2 y2))) x3 y3 1)
   (X':=c3*c3*fX x1 y1 1 (pX (addP inv (.aff x2 y2) (.aff x3 y3))) (pY (addP inv (.aff x2 y2) (.aff x3 y3))) (pZ (addP inv (.aff x2 y2) (.aff x3 y3)))) (Y':=c3*c3*fY x1 y1 1 (pX (addP inv (.aff x2 y2) (.aff x3 y3))) (pY (addP inv (.aff x2 y2) (.aff x3 y3))) (pZ (addP inv (.aff x2 y2) (.aff x3 y3)))) (Z':=c3*c3*fZ x1 y1 1 (pX (addP inv (.aff x2 y2) (.aff x3 y3))) (pY (addP inv (.aff x2 y2) (.aff x3 y3))) (pZ (addP inv (.aff x2 y2) (.aff x3 y3)))) ?_ ?_ hX hY
  ·refine⟨?_,?_,?_⟩
   ·rw[show fX (pX (addP inv (.aff x1 y1) (.aff x2 y2))) (pY (addP inv (.aff x1 y1) (.aff x2 y2))) (pZ (addP inv (.aff x1 y1) (.aff x2 y2))) x3 y3 1=_ from b1];exact g19 _ _ _
   ·rw[show fY (pX (addP inv (.aff x1 y1) (.aff x2 y2))) (pY (addP inv (.aff x1 y1) (.aff x2 y2))) (pZ (addP inv (.aff x1 y1) (.aff x2 y2))) x3 y3 1=_ from b2];exact g19 _ _ _
   ·rw[show fZ (pX (addP inv (.aff x1 y1) (.aff x2 y2))) (pY (addP inv (.aff x1 y1) (.aff x2 y2))) (pZ (addP inv (.aff x1 y1) (.aff x2 y2))) x3 y3 1=_ from b3];exact g19 _ _ _
  ·refine⟨?_,?_,?_⟩
   ·rw[show fX x1 y1 1 (pX (addP inv (.aff x2 y2) (.aff x3 y3))) (pY (addP inv (.aff x2 y2) (.aff x3 y3))) (pZ (addP inv (.aff x2 y2) (.aff x3 y3)))=_ from g1];exact g19 _ _ _
   ·rw[show fY x1 y1 1 (pX (addP inv (.aff x2 y2) (.aff x3 y3))) (pY (addP inv (.aff x2 y2) (.aff x3 y3))) (pZ (addP inv (.aff x2 y2) (.aff x3 y3)))=_ from g2];exact g19 _ _ _
   ·rw[show fZ x1 y1 1 (pX (addP inv (.aff x2 y2) (.aff x3 y3))) (pY (addP inv (.aff x2 y2) (.aff x3 y3))) (pZ (addP inv (.aff x2 y2) (.aff x3 y3)))=_ from g3];exact g19 _ _ _
end
end Go.W

namespace Go.W
instance neP:NeZero pP:=⟨by decide⟩
abbrev Kp:=Fin pP
def zP (X:Nat):Kp:=Fin.ofNat pP X
theorem zP_self (a:Kp):zP a.val=a:=by
 apply Fin.ext
 show a.val%pP=a.val
 exact Nat.mod_eq_of_lt a.isLt
theorem zP_eq {X Y:Nat}:zP X=zP Y↔X%pP=Y%pP:=by
 constructor
 ·intro h;exact congrArg Fin.val h
 ·intro h;exact Fin.ext h
theorem zP_mod (X:Nat):zP (X%pP)=zP X:=zP_eq.2 (Nat.mod_mod _ _)
theorem zP_add (X Y:Nat):zP (X+Y)=zP X+zP Y:=by
 apply Fin.ext
 show(X+Y)%pP=(X%pP+Y%pP)%pP
 exact Nat.add_mod _ _ _
theorem zP_mul (X Y:Nat):zP (X*Y)=zP X*zP Y:=by
 apply Fin.ext
 show(X*Y)%pP=(X%pP*(Y%pP))%pP
 exact Nat.mul_mod _ _ _
theorem zP_sub (X Y:Nat):zP (X+(pP-Y%pP))=zP X-zP Y:=by
 apply Fin.ext
 show(X+(pP-Y%pP))%pP=(pP-Y%pP+X%pP)%pP
 rw[Nat.add_comm,Nat.add_mod_mod]
theorem zP_zero:zP 0=0:=rfl
theorem prime_pos:0<pP∧1<pP:=by decide
theorem fermat {A:Nat}(h:A%pP≠0):A^(pP-1)%pP=1:=by
 have:=genP.inv h
 rw[show pP-1=(pP-2)+1 from by have:=prime_pos;omega,Nat.pow_succ,Nat.mul_comm]
 exact this
def thP:Nat:=38597363079105398474523661669562635951089994888546854679819194669302944890554
theorem thP_eq:3*thP=pP-1:=by decide
theorem seven_not_cube:powF 256 (pP-7) thP pP≠1:=by
 have h:Nat.beq (powF 256 (pP-7) thP pP) 1=false:=by kernel_rfl
 intro e;rw[e]at h;simp at h
theorem no_cube (X:Nat):(X*X*X+7)%pP≠0:=by
 intro h
 have h7:X*X*X%pP=pP-7:=by
  have e:=Nat.div_add_mod (X*X*X) pP
  have hlt:=Nat.mod_lt (X*X*X) prime_pos.1
  rw[Nat.add_mod]at h
  have h77:7%pP=7:=by decide
  rw[h77]at h
  have big:7<pP:=by decide
  generalize X*X*X%pP=r at *
  by_cases hr:r+7<pP
  ·rw[Nat.mod_eq_of_lt hr]at h;omega
  ·have:r+7-pP=0:=by
    have h2:(r+7)%pP=r+7-pP:=by rw[Nat.mod_eq_sub_mod (by omega),Nat.mod_eq_of_lt (by omega)]
    omega
   omega
 have hX:X%pP≠0:=by
  intro hx
  have:X*X*X%pP=0:=by rw[Nat.mul_mod,hx,Nat.mul_zero,Nat.zero_mod]
  rw[this]at h7
  have big:7<pP:=by decide
  omega
 have hf:=fermat hX
 rw[<-thP_eq,Nat.pow_mul]at hf
 have e3:X^3=X*X*X:=by rw[Nat.pow_succ,Nat.pow_succ,Nat.pow_succ,Nat.pow_zero,Nat.one_mul]
 rw[e3,Nat.pow_mod,h7,<-powF_eq 256 _ _ _ (show thP<2^256 by decide)]at hf
 exact seven_not_cube hf
abbrev N3:=Nat×Nat×Nat
end Go.W

namespace Go.W
section
variable {P0:Nat} [NeZero P0]
theorem j1 (x b:(Fin P0)):(x+b)*(x+b)-x*x-b*b=2*(x*b):=by grind
theorem j2 (k a b z:(Fin P0)):(k*(2*b)*(z*z*(z*z)))*(k*(2*b)*(z*z*(z*z)))-(4*(a*(z*z)*(b*(z*z*z)*(b*(z*z*z))))+4*(a*(z*z)*(b*(z*z*z)*(b*(z*z*z)))))=
  (k*k-a-a)*((b*(z*z*z)*z+b*(z*z*z)*z)*(b*(z*z*z)*z+b*(z*z*z)*z)):=by grind
theorem j3 (a z:(Fin P0)):a*(z*z)*(a*(z*z))+a*(z*z)*(a*(z*z))+a*(z*z)*(a*(z*z))=3*(a*a)*(z*z*(z*z)):=by grind
theorem j4 (k a b z:(Fin P0)):(k*(2*b)*(z*z*(z*z)))*(4*(a*(z*z)*(b*(z*z*z)*(b*(z*z*z))))-(k*k-a-a)*((b*(z*z*z)*z+b*(z*z*z)*z)*(b*(z*z*z)*z+b*(z*z*z)*z)))
  - 8*(b*(z*z*z)*(b*(z*z*z))*(b*(z*z*z)*(b*(z*z*z))))=
  (k*(a-(k*k-a-a))-b)*((b*(z*z*z)*z+b*(z*z*z)*z)*(b*(z*z*z)*z+b*(z*z*z)*z)*(b*(z*z*z)*z+b*(z*z*z)*z)):=by grind
end
def Jr {P0:Nat} [NeZero P0] (p:Pt (Fin P0)) (x y z:(Fin P0)):Prop:=(z=0∧p=.inf)∨(z≠0∧∃a b,p=.aff a b∧x=a*(z*z)∧y=b*(z*z*z))
section
variable {P0:Nat} [NeZero P0] {inv:Fin P0->Fin P0}
end
section
variable {P0:Nat} [NeZero P0] {inv:Fin P0->Fin P0}
def twX (x y:(Fin P0)):(Fin P0):=(x*x+x*x+x*x)*(x*x+x*x+x*x)-(((x+y*y)*(x+y*y)-x*x-y*y*(y*y)+((x+y*y)*(x+y*y)-x*x-y*y*(y*y)))+((x+y*y)*(x+y*y)-x*x-y*y*(y*y)+((x+y*y)*(x+y*y)-x*x-y*y*(y*y))))
def twY (x y:(Fin P0)):(Fin P0):=(x*x+x*x+x*x)*(((x+y*y)*(x+y*y)-x*x-y*y*(y*y)+((x+y*y)*(x+y*y)-x*x-y*y*(y*y)))-twX x y) -
 (y*y*(y*y)+y*y*(y*y)+(y*y*(y*y)+y*y*(y*y))+(y*y*(y*y)+y*y*(y*y)+(y*y*(y*y)+y*y*(y*y))))
def twZ (y z:(Fin P0)):(Fin P0):=y*z+y*z
def plU (x1 z2:(Fin P0)):(Fin P0):=x1*(z2*z2)
def plS (y1 z2:(Fin P0)):(Fin P0):=y1*(z2*z2*z2)
def plX (u h r:(Fin P0)):(Fin P0):=r*r-h*h*h-(u*(h*h)+u*(h*h))
def plZ (h z1 z2:(Fin P0)):(Fin P0):=h*(z1*z2)
end
end Go.W

namespace Go.W
abbrev RP:=Bool×Nat×Nat
def ptV (r:RP):Value:=.agg #[.bool r.1,u64 (dig r.2.1 0),u64 (dig r.2.1 1),u64 (dig r.2.1 2),u64 (dig r.2.1 3),u64 (dig r.2.2 0),u64 (dig r.2.2 1),u64 (dig r.2.2 2),u64 (dig r.2.2 3)]
def isBl:Value->Bool
 | .bool _=>true
 | _=>false
def isPtL:List Value->Bool
 | b::r=>isBl b&&Nat.beq r.length 8&&r.all isU64
 | []=>false
def isPt (v:Value):Bool:=aggK v isPtL false
def hdB:List Value->Bool
 | .bool b::_=>b
 | _=>false
def unPt (v:Value):RP:=(hdB v.cells.toList,limbs ((v.cells.toList.drop 1).take 4),limbs ((v.cells.toList.drop 5).take 4))
def okR (r:RP):Prop:=r.2.1<2^256∧r.2.2<2^256
theorem limbs4 (X:Nat):limbs [u64 (dig X 0),u64 (dig X 1),u64 (dig X 2),u64 (dig X 3)]=X%2^256:=unnum_num X
theorem unPt_ptV {r:RP}(h:okR r):unPt (ptV r)=r:=by
 obtain ⟨i,X,Y⟩:=r
 show(i,limbs [u64 (dig X 0),u64 (dig X 1),u64 (dig X 2),u64 (dig X 3)],limbs [u64 (dig Y 0),u64 (dig Y 1),u64 (dig Y 2),u64 (dig Y 3)])=_
 rw[limbs4,limbs4,Nat.mod_eq_of_lt h.1,Nat.mod_eq_of_lt h.2]
theorem isPt_ptV (r:RP):isPt (ptV r)=true:=by
 show(true&&Nat.beq 8 8&&[u64 _,u64 _,u64 _,u64 _,u64 _,u64 _,u64 _,u64 _].all isU64)=true
 rw[List.all_cons,List.all_cons,List.all_cons,List.all_cons,List.all_cons,List.all_cons,List.all_cons,List.all_cons,isU64_u64 (dig_lt _ _),isU64_u64 (dig_lt _ _),isU64_u64 (dig_lt _ _),isU64_u64 (dig_lt _ _),isU64_u64 (dig_lt _ _),isU64_u64 (dig_lt _ _),isU64_u64 (dig_lt _ _),isU64_u64 (dig_lt _ _)]
 rfl
theorem isPt_some {v:Value}(h:isPt v=true):∃r,okR r∧v=ptV r:=by
 unfold isPt aggK at h
 split at h
 ·rename_i cs
  obtain ⟨l,hc⟩:∃l,cs=List.toArray l:=⟨cs.toList,by simp⟩
  subst hc
  rw[List.toList_toArray]at h
  obtain ⟨b,r,rfl⟩:∃b r,l=b::r:=by
   cases l with
   | nil=>simp[isPtL]at h
   | cons b r=>exact⟨b,r,rfl⟩
  simp only[isPtL,Bool.and_eq_true]at h
  obtain ⟨⟨hb,hl⟩,hall⟩:=h
  have hl:r.length=8:=nbeq.1 hl
  obtain ⟨i,rfl⟩:∃i,b=.bool i:=by cases b<;>first|exact⟨_,rfl⟩|simp[isBl]at hb
  match r,hl,hall with
  | [x0,x1,x2,x3,y0,y1,y2,y3],_,hall=>
   simp only[Bool.and_eq_true,List.all_cons,List.all_nil,Bool.and_true]at hall
   obtain ⟨h0,h1,h2,h3,k0,k1,k2,k3⟩:=hall
   obtain ⟨a0,l0,rfl⟩:=isU64_some h0
   obtain ⟨a1,l1,rfl⟩:=isU64_some h1
   obtain ⟨a2,l2,rfl⟩:=isU64_some h2
   obtain ⟨a3,l3,rfl⟩:=isU64_some h3
   obtain ⟨b0,m0,rfl⟩:=isU64_some k0
   obtain ⟨b1,m1,rfl⟩:=isU64_some k1
   obtain ⟨b2,m2,rfl⟩:=isU64_some k2
   obtain ⟨b3,m3,rfl⟩:=isU64_some k3
   refine⟨(i,hor a0 a1 a2 a3,hor b0 b1 b2 b3),⟨hor_lt l0 l1 l2 l3,hor_lt m0 m1 m2 m3⟩,?_⟩
   have e1:=num_hor l0 l1 l2 l3 0
   have e2:=num_hor m0 m1 m2 m3 0
   rw[Nat.mul_zero,Nat.add_zero]at e1 e2
   simp only[num,numd,Value.agg.injEq,Array.mk.injEq,List.cons.injEq,and_true]at e1 e2
   unfold ptV
   simp only[e1.1,e1.2.1,e1.2.2.1,e1.2.2.2,e2.1,e2.2.1,e2.2.2.1,e2.2.2.2]
 ·simp at h
def mp (a b:Nat):Nat:=fmulN 0 a b
def ap (a b:Nat):Nat:=faddN 0 a b
def sp (a b:Nat):Nat:=fsubN 0 a b
theorem mp_eq (a b:Nat):mp a b=a*b%pP:=fmulN_ok ok0 a b
theorem ap_eq (a b:Nat):ap a b=(a+b)%pP:=faddN_ok ok0 a b
theorem sp_eq (a b:Nat):sp a b=(a+(pP-b%pP))%pP:=fsubN_ok ok0 a b
theorem z_mp (a b:Nat):zP (mp a b)=zP a*zP b:=by rw[mp_eq,zP_mod,zP_mul]
theorem z_ap (a b:Nat):zP (ap a b)=zP a+zP b:=by rw[ap_eq,zP_mod,zP_add]
theorem z_sp (a b:Nat):zP (sp a b)=zP a-zP b:=by rw[sp_eq,zP_mod,zP_sub]
theorem mp_lt (a b:Nat):mp a b<pP:=by rw[mp_eq];exact Nat.mod_lt _ prime_pos.1
theorem ap_lt (a b:Nat):ap a b<pP:=by rw[ap_eq];exact Nat.mod_lt _ prime_pos.1
theorem sp_lt (a b:Nat):sp a b<pP:=by rw[sp_eq];exact Nat.mod_lt _ prime_pos.1
def ckR (r:RP):Bool:=
 if r.1=true then decide (r.2.1=0∧r.2.2=0) else decide (r.2.1<pP∧r.2.2<pP∧mp r.2.2 r.2.2=ap (mp (mp r.2.1 r.2.1) r.2.1) 7)
def toPt (r:RP):Pt Kp:=if r.1=true then .inf else .aff (zP r.2.1) (zP r.2.2)
def ofPt:Pt Kp->RP
 | .inf=>(true,0,0)
 | .aff x y=>(false,x.val,y.val)
theorem zP_inj {X Y:Nat}(hX:X<pP) (hY:Y<pP) (h:zP X=zP Y):X=Y:=by
 have:=zP_eq.1 h
 rwa [Nat.mod_eq_of_lt hX,Nat.mod_eq_of_lt hY]at this
theorem zP_val_lt {X:Nat}(h:X<pP):(zP X).val=X:=Nat.mod_eq_of_lt h
theorem ck_of {r:RP}(h:ckR r=true):On (toPt r)∧ofPt (toPt r)=r:=by
 obtain ⟨i,X,Y⟩:=r
 unfold ckR at h
 cases i with
 | true=>
  rw[if_pos rfl]at h
  have h:=of_decide_eq_true h
  simp only at h
  obtain ⟨rfl,rfl⟩:=h
  exact⟨trivial,rfl⟩
 | false=>
  rw[if_neg Bool.false_ne_true]at h
  have h:=of_decide_eq_true h
  simp only at h
  obtain ⟨hX,hY,he⟩:=h
  constructor
  ·show zP Y*zP Y=zP X*zP X*zP X+7
   have:=congrArg zP he
   rw[z_mp,z_ap,z_mp,z_mp]at this
   exact this
  ·show(false,(zP X).val,(zP Y).val)=(false,X,Y)
   rw[zP_val_lt hX,zP_val_lt hY]
theorem ck_ofPt {p:Pt Kp}(h:On p):ckR (ofPt p)=true:=by
 cases p with
 | inf=>rfl
 | aff x y=>
  show decide (x.val<pP∧y.val<pP∧mp y.val y.val=ap (mp (mp x.val x.val) x.val) 7)=true
  refine decide_eq_true ⟨x.isLt,y.isLt,zP_inj (mp_lt _ _) (ap_lt _ _) ?_⟩
  rw[z_mp,z_ap,z_mp,z_mp,zP_self,zP_self]
  exact h
theorem okR_ofPt (p:Pt Kp):okR (ofPt p):=by
 have hp:pP<2^256:=by decide
 cases p with
 | inf=>exact⟨by decide,by decide⟩
 | aff x y=>exact⟨Nat.lt_trans x.isLt hp,Nat.lt_trans y.isLt hp⟩
structure J3 (p:Pt Kp) (t:N3):Prop where
 jr:Jr p (zP t.1) (zP t.2.1) (zP t.2.2)
 x:t.1<pP
 y:t.2.1<pP
 z:t.2.2<pP
end Go.W

namespace Go.W
def mv (a b:Value):Value:=num (mp (unnum a) (unnum b))
def av (a b:Value):Value:=num (ap (unnum a) (unnum b))
def sv (a b:Value):Value:=num (sp (unnum a) (unnum b))
def MvF:List Value->Option (Bool×Value)
 | [x,y]=>some (isNum x&&isNum y,mv x y)
 | _=>none
def AvF:List Value->Option (Bool×Value)
 | [x,y]=>some (isNum x&&isNum y,av x y)
 | _=>none
def SvF:List Value->Option (Bool×Value)
 | [x,y]=>some (isNum x&&isNum y,sv x y)
 | _=>none
def lt6 (X:Nat):Prop:=X<2^256
theorem mp_l (a b:Nat):lt6 (mp a b):=Nat.lt_trans (mp_lt a b) (by decide)
theorem ap_l (a b:Nat):lt6 (ap a b):=Nat.lt_trans (ap_lt a b) (by decide)
theorem sp_l (a b:Nat):lt6 (sp a b):=Nat.lt_trans (sp_lt a b) (by decide)
section
variable {α:Type}
def m2 (a b:Value) (k:Value->Option α):Option α:=r2 a b (k (mv a b))
def a2 (a b:Value) (k:Value->Option α):Option α:=r2 a b (k (av a b))
def s2 (a b:Value) (k:Value->Option α):Option α:=r2 a b (k (sv a b))
theorem m2_num {X Y:Nat}(hX:lt6 X) (hY:lt6 Y) (k:Value->Option α):m2 (num X) (num Y) k=k (num (mp X Y)):=by unfold m2 mv;rw[r2_num,unnum_lt hX,unnum_lt hY]
theorem a2_num {X Y:Nat}(hX:lt6 X) (hY:lt6 Y) (k:Value->Option α):a2 (num X) (num Y) k=k (num (ap X Y)):=by unfold a2 av;rw[r2_num,unnum_lt hX,unnum_lt hY]
theorem s2_num {X Y:Nat}(hX:lt6 X) (hY:lt6 Y) (k:Value->Option α):s2 (num X) (num Y) k=k (num (sp X Y)):=by unfold s2 sv;rw[r2_num,unnum_lt hX,unnum_lt hY]
end
theorem eq0_num {X:Nat}(h:lt6 X):eqV (num X) (num 0)=decide (X=0):=by rw[eqV_num,Nat.zero_mod,Nat.mod_eq_of_lt h]
def pt3 (i:Bool) (x y:Value):Value:=.agg (.bool i::(x.cells.toList++y.cells.toList)).toArray
theorem pt3_num (i:Bool) (X Y:Nat):pt3 i (num X) (num Y)=ptV (i,X,Y):=rfl
def CkF:List Value->Option (Bool×Value)
 | [p]=>some (isPt p,.bool (ckR (unPt p)))
 | _=>none
def ckT (i:Bool) (x y:Value):Option Value:=
 bif i then (bif eqV x (num 0) then some (.bool (eqV y (num 0))) else fls) else
  r2 x (num (primeN 0))<|bif decide (cI x (num (primeN 0))<0) then (r2 y (num (primeN 0))<|bif decide (cI y (num (primeN 0))<0) then
   (m2 y y fun a=>m2 x x fun b=>m2 b x fun c=>a2 c (num 7) fun d=>some (.bool (eqV a d))) else fls) else fls
theorem cI_lt {X Y:Nat}(hX:X<2^256) (hY:Y<2^256):decide (cI (num X) (num Y)<0)=decide (X<Y):=by
 rw[cI_num hX hY];unfold cmpI
 by_cases h:X<Y
 ·rw[if_pos h,decide_eq_true h];rfl
 ·rw[if_neg h,decide_eq_false h];split<;>rfl
theorem ckT_eq {i:Bool}{X Y:Nat}(hX:lt6 X) (hY:lt6 Y):ckT i (num X) (num Y)=some (.bool (ckR (i,X,Y))):=by
 have hp:pP<2^256:=by decide
 have h7:lt6 7:=by unfold lt6;decide
 unfold ckT ckR
 cases i with
 | true=>
  rw[eq0_num hX,eq0_num hY,if_pos rfl,cond_true]
  by_cases h1:X=0
  ·rw[decide_eq_true h1,cond_true]
   congr 2
   rw[Bool.eq_iff_iff,decide_eq_true_eq,decide_eq_true_eq]
   exact⟨fun h=>⟨h1,h⟩,fun h=>h.2⟩
  ·rw[decide_eq_false h1,show decide ((true,X,Y).2.1=0∧(true,X,Y).2.2=0)=false from decide_eq_false (fun h:X=0∧Y=0=>h1 h.1)];rfl
 | false=>
  rw[if_neg Bool.false_ne_true,cond_false,prime0,r2_num,r2_num,cI_lt hX hp,cI_lt hY hp]
  simp only[m2_num,a2_num,mp_l,hX,hY,h7]
  by_cases h1:X<pP
  ·rw[decide_eq_true h1,cond_true]
   by_cases h2:Y<pP
   ·rw[decide_eq_true h2,cond_true,eqV_num,Nat.mod_eq_of_lt (mp_l _ _),Nat.mod_eq_of_lt (ap_l _ _)]
    congr 2
    rw[Bool.eq_iff_iff,decide_eq_true_eq,decide_eq_true_eq]
    exact⟨fun h=>⟨h1,h2,h⟩,fun h=>h.2.2⟩
   ·rw[decide_eq_false h2,show decide (X<pP∧Y<pP∧mp Y Y=ap (mp (mp X X) X) 7)=false from decide_eq_false (fun h=>h2 h.2.1)];rfl
  ·rw[decide_eq_false h1,show decide (X<pP∧Y<pP∧mp Y Y=ap (mp (mp X X) X) 7)=false from decide_eq_false (fun h=>h1 h.1)];rfl
def InfF:List Value->Option (Bool×Value)
 | []=>some (true,ptV (true,0,0))
 | _=>none
def ngR (r:RP):RP:=if r.1=true then r else (false,r.2.1,sp 0 r.2.2)
end Go.W

namespace Go.Proofs.YtckbmhegopjnmaaGreat
set_option maxRecDepth 100000
open Go.W
open Go.RowKit (Below)
def mulC:Cfg:=⟨tab,[(84,FMulF)],8,[]⟩
theorem mulOk:CfgOk Tryz.prog mulC (bodyOf Tryz.f62):=⟨mixed,tabOk,sums_cons FMulR_sum sums_nil,noL⟩
theorem mul_ev (A B:Nat):fnS mulC 60 Tryz.f62 (bodyOf Tryz.f62) [num A,num B]=r2 (num A) (num B) (some (mv (num A) (num B))):=by kernel_rfl
theorem mul_sum:Sum Tryz.prog 62 MvF:=by
 refine sum_of mulOk Tryz.func62 (by kernel_rfl) (by kernel_rfl) rfl (fuel:=60) fun args v h _=>?_
 obtain ⟨X,Y,hX,hY,rfl,rfl⟩:=arg2 (f:=fun x y=>mv x y) h
 exact⟨by show 2<=Tryz.f62.ntmps;decide +kernel,by rw[mul_ev,r2_num],rfl⟩
def addC:Cfg:=⟨tab,[(85,FAddF)],8,[]⟩
theorem addOk:CfgOk Tryz.prog addC (bodyOf Tryz.f63):=⟨mixed,tabOk,sums_cons FAddR_sum sums_nil,noL⟩
theorem add_ev (A B:Nat):fnS addC 60 Tryz.f63 (bodyOf Tryz.f63) [num A,num B]=r2 (num A) (num B) (some (av (num A) (num B))):=by kernel_rfl
theorem add_sum:Sum Tryz.prog 63 AvF:=by
 refine sum_of addOk Tryz.func63 (by kernel_rfl) (by kernel_rfl) rfl (fuel:=60) fun args v h _=>?_
 obtain ⟨X,Y,hX,hY,rfl,rfl⟩:=arg2 (f:=fun x y=>av x y) h
 exact⟨by show 2<=Tryz.f63.ntmps;decide +kernel,by rw[add_ev,r2_num],rfl⟩
def subC:Cfg:=⟨tab,[(102,FSubF)],8,[]⟩
theorem subOk:CfgOk Tryz.prog subC (bodyOf Tryz.f83):=⟨mixed,tabOk,sums_cons FSubR_sum sums_nil,noL⟩
theorem sub_ev (A B:Nat):fnS subC 60 Tryz.f83 (bodyOf Tryz.f83) [num A,num B]=r2 (num A) (num B) (some (sv (num A) (num B))):=by kernel_rfl
theorem sub_sum:Sum Tryz.prog 83 SvF:=by
 refine sum_of subOk Tryz.func83 (by kernel_rfl) (by kernel_rfl) rfl (fuel:=60) fun args v h _=>?_
 obtain ⟨X,Y,hX,hY,rfl,rfl⟩:=arg2 (f:=fun x y=>sv x y) h
 exact⟨by show 2<=Tryz.f83.ntmps;decide +kernel,by rw[sub_ev,r2_num],rfl⟩
def infC:Cfg:=⟨tab,[],2,[]⟩
theorem infOk:CfgOk Tryz.prog infC (bodyOf Tryz.f81):=⟨mixed,tabOk,sums_nil,noL⟩
theorem inf_ev:fnS infC 60 Tryz.f81 (bodyOf Tryz.f81) []=some (ptV (true,0,0)):=by kernel_rfl
theorem inf_sum:Sum Tryz.prog 81 InfF:=by
 refine sum_of infOk Tryz.func81 (by kernel_rfl) (by kernel_rfl) rfl (fuel:=60) fun args v h _=>?_
 unfold InfF at h
 split at h
 ·simp only[Option.some.injEq,Prod.mk.injEq,true_and]at h
  subst h
  exact⟨by show 0<=Tryz.f81.ntmps;decide +kernel,inf_ev,rfl⟩
 ·simp at h
def ckC:Cfg:=⟨tab,[(62,MvF),(63,AvF),(45,CmpF),(44,PrimeF)],45,[]⟩
theorem ckOk:CfgOk Tryz.prog ckC (bodyOf Tryz.f42):=⟨mixed,tabOk,sums_cons mul_sum (sums_cons add_sum (sums_cons CmpR_sum (sums_cons PrimeR_sum (sums_nil)))),noL⟩
theorem ck_ev (i:Bool) (X Y:Nat):fnS ckC 60 Tryz.f42 (bodyOf Tryz.f42) [ptV (i,X,Y)]=ckT i (num X) (num Y):=by kernel_rfl
theorem ck_sum:Sum Tryz.prog 42 CkF:=by
 refine sum_of ckOk Tryz.func42 (by kernel_rfl) (by kernel_rfl) rfl (fuel:=60) fun args v h _=>?_
 unfold CkF at h
 split at h
 ·simp only[Option.some.injEq,Prod.mk.injEq]at h
  obtain ⟨h1,rfl⟩:=h
  obtain ⟨⟨i,X,Y⟩,⟨hX,hY⟩,rfl⟩:=isPt_some h1
  rw[unPt_ptV (r:=(i,X,Y)) ⟨hX,hY⟩]
  exact⟨by show 1<=Tryz.f42.ntmps;decide +kernel,(ck_ev i X Y).trans (ckT_eq hX hY),rfl⟩
 ·simp at h
end Go.Proofs.YtckbmhegopjnmaaGreat

namespace Go.W
noncomputable def hide {α:Type}(a:α):α:=Classical.choose (⟨a,rfl⟩:∃x:α,x=a)
theorem hide_eq {α:Type}(a:α):hide a=a:=Classical.choose_spec (⟨a,rfl⟩:∃x:α,x=a)
def ptC (r:RP):List Value:=[.bool r.1,u64 (dig r.2.1 0),u64 (dig r.2.1 1),u64 (dig r.2.1 2),u64 (dig r.2.1 3),u64 (dig r.2.2 0),u64 (dig r.2.2 1),u64 (dig r.2.2 2),u64 (dig r.2.2 3)]
theorem ngR_ok {p:RP}(hp:ckR p=true):ngR p=ofPt (negP (toPt p)):=by
 obtain ⟨i,X,Y⟩:=p
 unfold ckR at hp
 cases i with
 | true=>
  rw[if_pos rfl]at hp
  obtain ⟨rfl,rfl⟩:=(show X=0∧Y=0 from of_decide_eq_true hp)
  rfl
 | false=>
  rw[if_neg Bool.false_ne_true]at hp
  obtain ⟨hX,hY,_⟩:=(show X<pP∧Y<pP∧_ from of_decide_eq_true hp)
  show(false,X,sp 0 Y)=(false,(zP X).val,(0-zP Y:Kp).val)
  have:(0-zP Y:Kp)=zP (sp 0 Y):=by rw[z_sp,zP_zero]
  rw[this,zP_val_lt hX,zP_val_lt (sp_lt _ _)]
theorem ck_okR {r:RP}(h:ckR r=true):okR r:=by rw[<-(ck_of h).2];exact okR_ofPt _
end Go.W

namespace Go.W
def KpF:List Value->Option (Bool×Value)
 | [p,q]=>some (isPt p&&isPt q,.bool (decide (unPt p=unPt q)))
 | _=>none
def kpT (i:Bool) (x y:Value) (i2:Bool) (x2 y2:Value):Option Value:=bif i==i2 then (bif eqV x x2 then some (.bool (eqV y y2)) else fls) else fls
theorem kpT_eq {i i2:Bool}{X Y X2 Y2:Nat}(h:okR (i,X,Y)) (h2:okR (i2,X2,Y2)):kpT i (num X) (num Y) i2 (num X2) (num Y2)=some (.bool (decide ((i,X,Y)=(i2,X2,Y2)))):=by
 unfold kpT
 rw[eqV_num,eqV_num,Nat.mod_eq_of_lt h.1,Nat.mod_eq_of_lt h.2,Nat.mod_eq_of_lt h2.1,Nat.mod_eq_of_lt h2.2]
 by_cases h3:i=i2
 ·rw[beq_iff_eq.2 h3,cond_true]
  by_cases h4:X=X2
  ·rw[decide_eq_true h4,cond_true]
   congr 2
   rw[Bool.eq_iff_iff,decide_eq_true_eq,decide_eq_true_eq]
   constructor
   ·intro h5;rw[h3,h4,show Y=Y2 from h5]
   ·intro h5;exact(Prod.mk.inj (Prod.mk.inj h5).2).2
  ·rw[decide_eq_false h4,decide_eq_false (fun e=>h4 (Prod.mk.inj (Prod.mk.inj e).2).1)];rfl
 ·rw[beq_eq_false_iff_ne.2 h3,decide_eq_false (fun e=>h3 (Prod.mk.inj e).1)];rfl
def zR:RP:=(false,0,0)
theorem okR_z:okR zR:=⟨by decide,by decide⟩
noncomputable def negS (p:RP):RP:=hide (ofPt (negP (toPt p)))
def errP (b:Bool):Int:=if b=true then 0 else 3
def CChkF:List Value->Option (Bool×Value)
 | [p]=>some (isPt p,i64 (errP (ckR (unPt p))))
 | _=>none
theorem ck_neg {p:RP}(h:ckR p=true):ckR (negS p)=true:=by unfold negS;rw[hide_eq];exact ck_ofPt (neg_on (ck_of h).1)
end Go.W

namespace Go.Proofs.YtckbmhegopjnmaaGreat
set_option maxRecDepth 100000
open Go.W
open Go.RowKit (Below)
def kpC:Cfg:=⟨tab,[],24,[]⟩
theorem kpOk:CfgOk Tryz.prog kpC (bodyOf Tryz.f29):=⟨mixed,tabOk,sums_nil,noL⟩
theorem kp_ev (i i2:Bool) (X Y X2 Y2:Nat):fnS kpC 60 Tryz.f29 (bodyOf Tryz.f29) [ptV (i,X,Y),ptV (i2,X2,Y2)]=kpT i (num X) (num Y) i2 (num X2) (num Y2):=by kernel_rfl
theorem kp_sum:Sum Tryz.prog 29 KpF:=by
 refine sum_of kpOk Tryz.func29 (by kernel_rfl) (by kernel_rfl) rfl (fuel:=60) fun args v h _=>?_
 unfold KpF at h
 split at h
 ·simp only[Option.some.injEq,Prod.mk.injEq,Bool.and_eq_true]at h
  obtain ⟨⟨h1,h2⟩,rfl⟩:=h
  obtain ⟨⟨i,X,Y⟩,hp,rfl⟩:=isPt_some h1
  obtain ⟨⟨i2,X2,Y2⟩,hq,rfl⟩:=isPt_some h2
  rw[unPt_ptV hp,unPt_ptV hq]
  exact⟨by show 2<=Tryz.f29.ntmps;decide +kernel,(kp_ev i i2 X Y X2 Y2).trans (kpT_eq hp hq),rfl⟩
 ·simp at h
end Go.Proofs.YtckbmhegopjnmaaGreat

namespace Go.W
open Go.RowKit (Below)
def srcB (mm:Nat->Option Blk) (ks:List CK) (v:Value):Bool×Nat×(Nat->List Value):=
 match v with
 | .slice none n c=>(Nat.beq n 0&&Nat.beq c 0,0,fun _=>[])
 | .slice (some ⟨b,off,none⟩) n c=>(match mm b with
  | some blk=>(match blk.cells with
   | .lst l=>(Nat.ble (off+n*ks.length) l.length&&fitsK (repK n ks) ((l.drop off).take (n*ks.length))&&Nat.ble n c,n,lstF l off ks.length)
   | .row ks' m f=>(Nat.beq off 0&&Nat.ble n m&&ksEq ks' ks&&Nat.ble n c,n,segF ⟨b,0,m,ks',m,f,blk.elem,blk.own,[b]⟩)
   | .tail i l cnt sz=>(match mm i with
    | some base=>(match base.cells with
     | .row ks' m f=>((Nat.beq ks'.length sz&&Nat.ble (l+cnt) m)&&(Nat.beq off 0&&Nat.ble n cnt&&ksEq ks' ks&&Nat.ble n c),n,segF ⟨i,l,cnt,ks',m,f,base.elem,base.own,[b,i]⟩)
     | _=>(false,0,fun _=>[]))
    | none=>(false,0,fun _=>[]))
   | _=>(false,0,fun _=>[]))
  | none=>(false,0,fun _=>[]))
 | _=>(false,0,fun _=>[])
inductive Arg where
 | pl (v:Value)
 | sl (ks:List CK) (n:Nat) (g:Nat->List Value)
def argId (k:Nat):Nat:=1500000+k
def cArgs:List Arg->Nat->List Value
 | [],_=>[]
 | .pl v::r,k=>v::cArgs r (k+1)
 | .sl _ n _::r,k=>.slice (some ⟨argId k,0,none⟩) n n::cArgs r (k+1)
def cMem (es:Nat->TypeId):List Arg->Nat->List (Nat×Blk)
 | [],_=>[]
 | .pl _::r,k=>cMem es r (k+1)
 | .sl ks n g::r,k=>(argId k,⟨.row ks n g,es k,false⟩)::cMem es r (k+1)
def AOk (mm:Nat->Option Blk):List Value->List Arg->Prop
 | [],[]=>True
 | v::vs,.pl u::A=>v=u∧pl2 u=true∧AOk mm vs A
 | v::vs,.sl ks n g::A=>srcB mm ks v=(true,n,g)∧AOk mm vs A
 | _,_=>False
def joinL (l m:List (Nat×Blk)):Option (List (Nat×Blk)):=
 match l with
 | []=>some m
 | p::l=>(match m with
  | []=>some (p::l)
  | _=>none)
section
variable {R:Type}
def isTail:Cells->Bool
 | .tail _ _ _ _=>true
 | _=>false
def tailOf (mem:Nat->Option Blk) (c:Cells):Option Seg:=
 match c with
 | .tail i l cnt sz=>(match mem i with
  | some base=>(match base.cells with
   | .row ks n g=>bif Nat.beq ks.length sz&&Nat.ble (l+cnt) n then some ⟨i,l,cnt,ks,n,g,base.elem,base.own,[]⟩ else none
   | _=>none)
  | none=>none)
 | _=>none
def expV (T:Tab) (mem:Nat->Option Blk) (id:Nat) (v:Value) (k:Value->List (Nat×Blk)->R) (f:R):R:=
 match v with
 | .slice (some ⟨j,off,none⟩) m c=>oK (mem j) (fun blk=>bif isTail blk.cells then oK (tailOf mem blk.cells) (fun q=>bif q.own&&loose j&&Nat.beq off 0&&Nat.ble m q.cnt&&Nat.ble m c&&Nat.blt 0 m then
    k (.slice (some ⟨nid id 0,0,none⟩) m m) [(nid id 0,⟨.row q.ks m (fun x=>q.f (q.start+x)),q.elem,loose q.base⟩)] else f) f else bif blk.own&&Nat.blt j 1000000 then (match blk.cells with
   | .row ks n g=>bif loose j&&Nat.beq off 0&&Nat.ble m c then k (.slice (some ⟨nid id 0,0,none⟩) m c) [(nid id 0,⟨.row ks n g,blk.elem,true⟩)] else f
   | .lst l=>oK (look T blk.elem) (fun i=>bif !(loose j)&&ksOk i&&Nat.ble m c&&Nat.ble (off+c*i.siz) l.length&&fitsK (repK c i.eqk) ((l.drop off).take (c*i.siz)) then
     k (.slice (some ⟨nid id 0,0,none⟩) m c) [(nid id 0,⟨.row i.eqk c (lstF l off i.siz),blk.elem,true⟩)] else f) f
   | .fam ks n es g=>bif loose j&&Nat.beq off 0&&Nat.ble m c then k (.slice (some ⟨nid id 0,0,none⟩) m c) [(nid id 0,⟨.fam ks n es g,blk.elem,true⟩)] else f
   | _=>f) else f) f
 | v=>bif pl1 v then k v [] else f
def expL (T:Tab) (mem:Nat->Option Blk) (id:Nat):List Value->(List Value->List (Nat×Blk)->R)->R->R
 | [],k,_=>k [] []
 | v::r,k,f=>expV T mem id v (fun u l=>expL T mem id r (fun us m=>oK (joinL l m) (fun x=>k (u::us) x) f) f) f
def expK (T:Tab) (mem:Nat->Option Blk) (id:Nat) (v:Value) (k:Value->List (Nat×Blk)->R) (f:R):R:=
 match v with
 | .tuple vs=>expL T mem id vs.toList (fun us l=>k (.tuple us.toArray) l) f
 | v=>expV T mem id v k f
def fnM (C:Cfg) (fuel:Nat) (fn:Func) (c:Code) (args:List Value) (mem:List (Nat×Blk)) (next id:Nat) (k:Value->List (Nat×Blk)->R) (f:R):R:=
 evK C fuel [] c ⟨argSlots 0 args,mem,next⟩ (fun e s=>endK C.T fn e s (fun v=>expK C.T (look s.mem) id v k f) f) f
variable {R':Type}(h:R->R')
theorem expV_nat (T:Tab) (mem:Nat->Option Blk) (id:Nat) (v:Value) (k:Value->List (Nat×Blk)->R) (f:R):h (expV T mem id v k f)=expV T mem id v (fun a b=>h (k a b)) (h f):=by
 unfold expV
 split
 ·rw[oK_nat h]
  congr 1;funext blk
  rw[cond_nat h]
  congr 1
  ·simp only[oK_nat h,cond_nat h]
  rw[cond_nat h]
  congr 1
  split
  ·rw[cond_nat h]
  ·simp only[oK_nat h,cond_nat h]
  ·rw[cond_nat h]
  ·rfl
 ·rw[cond_nat h]
theorem expL_nat (T:Tab) (mem:Nat->Option Blk) (id:Nat):∀(vs:List Value) (k:List Value->List (Nat×Blk)->R) (f:R),h (expL T mem id vs k f)=expL T mem id vs (fun a b=>h (k a b)) (h f)
 | [],_,_=>rfl
 | v::r,k,f=>by
  simp only[expL,expV_nat h,expL_nat T mem id r,oK_nat h]
end
theorem expV_some {β:Type}{T:Tab}{mem:Nat->Option Blk}{id:Nat}{v:Value}{k:Value->List (Nat×Blk)->Option β}{r:β}:expV T mem id v k none=some r↔∃u l,expV T mem id v (fun a b=>some (a,b)) none=some (u,l)∧k u l=some r:=by
 have:expV T mem id v k none=oK (expV T mem id v (fun a b=>some (a,b)) none) (fun q=>k q.1 q.2) none:=(expV_nat (fun o:Option (Value×List (Nat×Blk))=>oK o (fun q=>k q.1 q.2) none) T mem id v (fun a b=>some (a,b)) none).symm
 rw[this,oK_some]
 exact⟨fun⟨q,h1,h2⟩=>⟨q.1,q.2,h1,h2⟩,fun⟨u,l,h1,h2⟩=>⟨(u,l),h1,h2⟩⟩
theorem expL_some {β:Type}{T:Tab}{mem:Nat->Option Blk}{id:Nat}{vs:List Value}{k:List Value->List (Nat×Blk)->Option β}{r:β}:expL T mem id vs k none=some r↔∃u l,expL T mem id vs (fun a b=>some (a,b)) none=some (u,l)∧k u l=some r:=by
 have:expL T mem id vs k none=oK (expL T mem id vs (fun a b=>some (a,b)) none) (fun q=>k q.1 q.2) none:=(expL_nat (fun o:Option (List Value×List (Nat×Blk))=>oK o (fun q=>k q.1 q.2) none) T mem id vs (fun a b=>some (a,b)) none).symm
 rw[this,oK_some]
 exact⟨fun⟨q,h1,h2⟩=>⟨q.1,q.2,h1,h2⟩,fun⟨u,l,h1,h2⟩=>⟨(u,l),h1,h2⟩⟩
def fnMS (C:Cfg) (fuel:Nat) (fn:Func) (c:Code) (args:List Value) (mem:List (Nat×Blk)) (next id:Nat):Option (Value×List (Nat×Blk)):=fnM C fuel fn c args mem next id (fun v l=>some (v,l)) none
section
variable {P:Program}{GL:Glob}{w0:Wb GL}{R:Nat->Pl->Prop}{fm:Nat->Option Blk}{w:World}
theorem src_heap (h:MRel w0 R fm w){ks:List CK}{v v':Value}{n:Nat}{g:Nat->List Value}(hq:srcB fm ks v=(true,n,g)) (hv:V2 R v v'):
  ∃(p:Pl) (e:TypeId),n<=p.c∧(match p.a with
   | some b=>v'=.slice (some ⟨b,p.d,none⟩) n p.c∧∃cs fz,w.heap[b]?=some (.cells cs e fz)∧LP R (rowL ks g 0 n) (cs.toList.drop p.d)
   | none=>n=0∧p.c=0∧p.d=0∧Emp v'):=by
 unfold srcB at hq
 split at hq
 ·rename_i n0 c
  simp only[Prod.mk.injEq,Bool.and_eq_true]at hq
  obtain ⟨⟨h0,h1⟩,rfl,_⟩:=hq
  have h0:=nbeq.1 h0;subst h0
  have h1:=nbeq.1 h1;subst h1
  have:=(V2_plain (R:=R) (v:=.slice none 0 0) rfl).1 hv
  exact⟨⟨none,0,0⟩,0,Nat.le_refl _,rfl,rfl,rfl,none,this⟩
 ·rename_i b off n0 c
  obtain ⟨p0,hp0,hsl⟩:=V2_slice hv
    -- where it lies
  have key:(∀s pos,fm b≠some ⟨.itr s pos,0,true⟩)->∀(hn:n0=n) (hnc:n<=c) (e:TypeId),(∀bl,p0.a=some bl->n≠0->∃cs fz,w.heap[bl]?=some (.cells cs e fz)∧LP R (rowL ks g 0 n) (cs.toList.drop (p0.d+off)))->
    ∃(p:Pl) (e:TypeId),n<=p.c∧(match p.a with
     | some b=>v'=.slice (some ⟨b,p.d,none⟩) n p.c∧∃cs fz,w.heap[b]?=some (.cells cs e fz)∧LP R (rowL ks g 0 n) (cs.toList.drop p.d)
     | none=>n=0∧p.c=0∧p.d=0∧Emp v'):=by
   intro hni hn hnc e hcont
   subst hn
   have some_case:∀bl c',p0.a=some bl->c<=c'->v'=.slice (some ⟨bl,p0.d+off,none⟩) n0 c'->∃(p:Pl) (e:TypeId),n0<=p.c∧(match p.a with
     | some b=>v'=.slice (some ⟨b,p.d,none⟩) n0 p.c∧∃cs fz,w.heap[b]?=some (.cells cs e fz)∧LP R (rowL ks g 0 n0) (cs.toList.drop p.d)
     | none=>n0=0∧p.c=0∧p.d=0∧Emp v'):=by
    intro bl c' hpa hcc hv'
    by_cases h0:n0=0
    ·obtain ⟨cs,e1,fz,h1⟩:=(h.there _ _ _ hp0 hpa).cells hni
     exact⟨⟨some bl,p0.d+off,c'⟩,e1,by simp only;omega,hv',cs,fz,h1,by rw[h0];exact LP_nil⟩
    ·obtain ⟨cs,fz,h1,h2⟩:=hcont bl hpa h0
     exact⟨⟨some bl,p0.d+off,c'⟩,e,by simp only;omega,hv',cs,fz,h1,h2⟩
   cases hlo:loose b with
   | false=>
    obtain ⟨bl,h1,h2⟩:=SlOk_tight hlo hsl
    exact some_case bl c h1 (Nat.le_refl _) h2
   | true=>
    obtain ⟨rfl,h2,⟨bl,h3,h4⟩|⟨h3,h4,h5,h6⟩⟩:=SlOk_loose hlo hsl
    ·exact some_case bl p0.c h3 h2 (by rw[Nat.add_zero];exact h4)
    ·exact⟨⟨none,0,0⟩,0,by simp only;omega,h4,rfl,rfl,h6⟩
  split at hq
  ·rename_i blk hb
   obtain ⟨cells,e,own⟩:=blk
   simp only at hq
   split at hq
   ·rename_i l
    simp only[Prod.mk.injEq,Bool.and_eq_true]at hq
    obtain ⟨⟨⟨h1,h2⟩,h3⟩,h4,h5⟩:=hq
    have h1:=Nat.le_of_ble_eq_true h1
    refine key (fun s pos hs=>by rw[hb]at hs;cases hs) h4 (by rw[<-h4];exact Nat.le_of_ble_eq_true h3) e (fun bl hpa h0=>?_)
    subst h4
    obtain ⟨p',hp',hcont⟩:=memOk_lst h hb
    have:=h.func _ _ _ hp0 hp';subst this
    rw[hpa]at hcont
    obtain ⟨cs,fz,k1,k2,_⟩:=hcont
    have k2:LP R l (cs.toList.drop p0.d):=k2
    refine⟨cs,fz,k1,?_⟩
    rw[<-h5,rowL_lst h2 n0 (Nat.le_refl _)]
    have:=LP_part k2 (off:=off) (n:=n0*ks.length) h1
    unfold LP
    rw[<-List.drop_drop,List.length_take,List.length_drop,Nat.min_eq_left (by omega)]
    exact this
   ·rename_i ks' m f
    simp only[Prod.mk.injEq,Bool.and_eq_true]at hq
    obtain ⟨⟨⟨⟨h1,h2⟩,h2'⟩,h3⟩,h4,h5⟩:=hq
    have h1:=nbeq.1 h1
    have h2:=Nat.le_of_ble_eq_true h2
    have h2':=ksEq_eq h2'
    subst h1 h2'
    refine key (fun s pos hs=>by rw[hb]at hs;cases hs) h4 (by rw[<-h4];exact Nat.le_of_ble_eq_true h3) e (fun bl hpa h0=>?_)
    subst h4
    have hs:segS fm b=some ⟨b,0,m,ks',m,f,e,own,[b]⟩:=by simp only[segS,segK,hb,oK]
    obtain ⟨p1,cs,fz,_,_,_,_,_,k3,k4,k5,_⟩:=seg_cells h hs hp0 hpa (by simp only;omega)
    simp only at k3 k4 k5
    refine⟨cs,fz,k3,?_⟩
    rw[<-h5,Nat.add_zero]
    have e1:=rowL_seg ⟨b,0,m,ks',m,f,e,own,[b]⟩ n0 0
    simp only[Nat.add_zero]at e1
    rw[e1]
    refine LP_plain (rowL_pl _ _ _ _) ?_
    rw[rowL_len]
    have:=congrArg (List.take (n0*ks'.length)) k4
    rw[List.take_take,Nat.min_eq_left (Nat.mul_le_mul_right _ h2),rowL_take ks' f n0 m 0 h2]at this
    exact this
   ·rename_i i l cnt sz
    split at hq
    ·rename_i base hi
     obtain ⟨cells2,e2,own2⟩:=base
     simp only at hq
     split at hq
     ·rename_i ks' m f
      simp only[Prod.mk.injEq,Bool.and_eq_true]at hq
      obtain ⟨⟨⟨g1,g2⟩,⟨⟨h1,h2⟩,h2'⟩,h3⟩,h4,h5⟩:=hq
      have h1:=nbeq.1 h1
      have h2:=Nat.le_of_ble_eq_true h2
      have h2':=ksEq_eq h2'
      subst h1 h2'
      refine key (fun s pos hs=>by rw[hb]at hs;cases hs) h4 (by rw[<-h4];exact Nat.le_of_ble_eq_true h3) e2 (fun bl hpa h0=>?_)
      subst h4
      have hs:segS fm b=some ⟨i,l,cnt,ks',m,f,e2,own2,[b,i]⟩:=by simp only[segS,segK,hb,hi,oK,g1,g2,Bool.and_self,cond_true]
      obtain ⟨p1,cs,fz,_,_,_,_,_,k3,k4,k5,_⟩:=seg_cells h hs hp0 hpa (by simp only;omega)
      simp only at k3 k4 k5
      refine⟨cs,fz,k3,?_⟩
      rw[<-h5,Nat.add_zero]
      have e1:=rowL_seg ⟨i,l,cnt,ks',m,f,e2,own2,[b,i]⟩ n0 0
      simp only[Nat.add_zero]at e1
      rw[e1]
      refine LP_plain (rowL_pl _ _ _ _) ?_
      rw[rowL_len]
      have:=congrArg (List.take (n0*ks'.length)) k4
      rw[List.take_take,Nat.min_eq_left (Nat.mul_le_mul_right _ h2),rowL_take ks' f n0 cnt l h2]at this
      exact this
     ·simp at hq
    ·simp at hq
   ·simp at hq
  ·simp at hq
 ·simp at hq
theorem argId_loose (k:Nat):loose (argId k)=true:=by
 unfold loose argId
 rw[show Nat.ble 1500000 (1500000+k)=true from by rw[Nat.ble_eq];omega,Bool.or_true]
theorem cMem_congr {es es':Nat->TypeId}:∀(A:List Arg) (k:Nat),(∀j,k<=j->es j=es' j)->cMem es A k=cMem es' A k
 | [],_,_=>rfl
 | .pl _::r,k,h=>cMem_congr r (k+1) (fun j hj=>h j (by omega))
 | .sl ks n g::r,k,h=>by simp only[cMem,h k (Nat.le_refl _),cMem_congr r (k+1) (fun j hj=>h j (by omega))]
def plAt (k:Nat) (p:Pl) (pl:Nat->Option Pl) (j:Nat):Option Pl:=if j=k then some p else pl j
theorem plAt_same (k:Nat) (p:Pl) (pl:Nat->Option Pl):plAt k p pl k=some p:=if_pos rfl
theorem plAt_ne {k j:Nat}(p:Pl) (pl:Nat->Option Pl) (h:j≠k):plAt k p pl j=pl j:=if_neg h
def PlOk (w:World) (i:Nat) (blk:Blk) (p:Pl):Prop:=blk.own=false∧(∃ks n g,blk.cells=.row ks n g)∧(match p.a with
 | none=>blk.cells.list=[]
 | some b=>∃cs fz,w.heap[b]?=some (.cells cs blk.elem fz)∧LP (fun _ _=>False) blk.cells.list (cs.toList.drop p.d))∧i=i
theorem callee_mem (h:MRel w0 R fm w):∀(A:List Arg) (vs args':List Value) (k:Nat),AOk fm vs A->LR (V2 R) vs args'->
  ∃(es:Nat->TypeId) (pl:Nat->Option Pl),(∀i,i<k->pl i=none)∧
   (∀i blk,look (cMem es A k) i=some blk->∃j p,i=argId j∧pl j=some p∧PlOk w i blk p)∧
   (∀j p,pl j=some p->(look (cMem es A k) (argId j)).isSome=true∧∀b,p.a=some b->∃cs e fz,w.heap[b]?=some (.cells cs e fz))∧
   LR (V2 fun i p=>∃j,i=argId j∧pl j=some p) (cArgs A k) args'
 | [],[],[],k,_,_=>⟨fun _=>0,fun _=>none,fun _ _=>rfl,fun i blk hi=>by simp[cMem,look]at hi,fun j p hp=>by simp at hp,trivial⟩
 | .pl u::A,v::vs,v'::args',k,hA,hl=>by
  obtain ⟨rfl,hp,hA⟩:=hA
  obtain ⟨es,pl,h1,h2,h3,h4⟩:=callee_mem h A vs args' (k+1) hA hl.2
  have:=(V2_plain hp).1 hl.1;subst this
  exact⟨es,pl,fun i hi=>h1 i (by omega),h2,h3,(V2_plain hp).2 rfl,h4⟩
 | .sl ks n g::A,v::vs,v'::args',k,hA,hl=>by
  obtain ⟨hs,hA⟩:=hA
  obtain ⟨es,pl,h1,h2,h3,h4⟩:=callee_mem h A vs args' (k+1) hA hl.2
  obtain ⟨p,e,hc,hm⟩:=src_heap h hs hl.1
  have hcm:cMem (fun j=>if j=k then e else es j) A (k+1)=cMem es A (k+1):=cMem_congr A (k+1) (fun j hj=>by rw[if_neg (by omega)])
  have hlk:∀i,look (cMem (fun j=>if j=k then e else es j) (.sl ks n g::A) k) i=upd (look (cMem es A (k+1))) (argId k) ⟨.row ks n g,e,false⟩ i:=by
   intro i
   rw[cMem,hcm,look_cons,if_pos rfl]
  refine⟨fun j=>if j=k then e else es j,plAt k p pl,?_,?_,?_,?_,?_⟩
  ·intro i hi
   rw[plAt_ne _ _ (by omega)];exact h1 i (by omega)
  ·intro i blk hi
   rw[hlk]at hi
   by_cases e1:argId k=i
   ·subst e1
    rw[upd_same]at hi
    cases hi
    refine⟨k,p,rfl,plAt_same _ _ _,rfl,⟨ks,n,g,rfl⟩,?_,rfl⟩
    cases hpa:p.a with
    | none=>
     rw[hpa]at hm
     show rowL ks g 0 n=[]
     rw[hm.1];rfl
    | some b=>
     rw[hpa]at hm
     obtain ⟨_,cs,fz,k1,k2⟩:=hm
     refine⟨cs,fz,k1,?_⟩
     show LP _ (rowL ks g 0 n) _
     have:=(LR_plain (r:=V0 R) (pl:=pl0) (fun _ _ hv=>V0_plain hv) (rowL_pl ks g n 0)).1 k2
     exact LP_plain (rowL_pl _ _ _ _) this
   ·rw[upd_ne _ _ e1]at hi
    obtain ⟨j,p',rfl,k2,k3⟩:=h2 i blk hi
    have hjk:j≠k:=fun e2=>e1 (by rw[e2])
    exact⟨j,p',rfl,by rw[plAt_ne _ _ hjk];exact k2,k3⟩
  ·intro j p' hp'
   rw[hlk]
   by_cases e1:j=k
   ·subst e1
    rw[upd_same]
    rw[plAt_same]at hp'
    cases hp'
    refine⟨rfl,fun b hb=>?_⟩
    rw[hb]at hm
    obtain ⟨_,cs,fz,k1,_⟩:=hm
    exact⟨cs,e,fz,k1⟩
   ·rw[plAt_ne _ _ e1]at hp'
    rw[upd_ne _ _ (by unfold argId;omega)]
    exact h3 j p' hp'
  ·refine slice_V2 (q:=p) (argId_loose k) ⟨k,rfl,plAt_same _ _ _⟩ hc ?_
   cases hpa:p.a with
   | none=>rw[hpa]at hm;exact⟨hm.1,hm.2.1,hm.2.2.2⟩
   | some b=>rw[hpa]at hm;exact hm.1
  ·refine LR_mono (fun u u' hu=>V2_mono ?_ hu) h4
   rintro i q ⟨j,rfl,hj⟩
   have hjk:j≠k:=fun e2=>by
    have:=h1 k (by omega)
    rw[e2,this]at hj;simp at hj
   exact⟨j,rfl,by rw[plAt_ne _ _ hjk];exact hj⟩
 | [],_::_,_,_,hA,_=>hA.elim
 | .pl _::_,[],_,_,hA,_=>hA.elim
 | .sl _ _ _::_,[],_,_,hA,_=>hA.elim
 | [],[],_::_,_,_,hl=>hl.elim
 | .pl _::_,_::_,[],_,_,hl=>hl.elim
 | .sl _ _ _::_,_::_,[],_,_,hl=>hl.elim
theorem cMem_lt {es:Nat->TypeId}:∀(A:List Arg) (k j:Nat),(look (cMem es A k) (argId j)).isSome=true->j<k+A.length
 | [],k,j,h=>by simp[cMem,look]at h
 | .pl _::r,k,j,h=>by
  have:=cMem_lt r (k+1) j h
  simp only[List.length_cons];omega
 | .sl ks n g::r,k,j,h=>by
  rw[cMem,look_cons]at h
  by_cases e:argId k=argId j
  ·unfold argId at e;simp only[List.length_cons];omega
  ·rw[upd_ne _ _ e]at h
   have:=cMem_lt r (k+1) j h
   simp only[List.length_cons];omega
theorem callee_rel (hg:GOk GL w){es:Nat->TypeId}{pl:Nat->Option Pl}{A:List Arg}(h2:∀i blk,look (cMem es A 0) i=some blk->∃j p,i=argId j∧pl j=some p∧PlOk w i blk p)
  (h3:∀j p,pl j=some p->(look (cMem es A 0) (argId j)).isSome=true∧∀b,p.a=some b->∃cs e fz,w.heap[b]?=some (.cells cs e fz)) (hA:A.length<=900000000):
  MRel (⟨w,fun _=>False,fun i p=>∃j,i=argId j∧pl j=some p⟩:Wb GL) (fun i p=>∃j,i=argId j∧pl j=some p) (look (cMem es A 0)) w:=by
 refine⟨BelowX.refl _ _ _ hg (fun _ _ h=>h),?_,?_,?_,?_,fun _ _ h _ _=>h,?_,?_⟩
 ·rintro i p p' ⟨j,rfl,hj⟩ ⟨j',e,hj'⟩
  have:j=j':=by unfold argId at e;omega
  subst this
  rw[hj]at hj';exact Option.some.inj hj'
 ·rintro i j p q b _ _ _ _ _ blk hblk hown _ _
  obtain ⟨_,_,_,_,k⟩:=h2 _ _ hblk
  rw[k.1]at hown;simp at hown
 ·intro i blk hi
  obtain ⟨j,p,rfl,k2,k3,⟨ks,n,g,k4⟩,k5,_⟩:=h2 _ _ hi
  have hc:ContOk (⟨w,fun _=>False,fun i p=>∃j,i=argId j∧pl j=some p⟩:Wb GL) (fun i p=>∃j,i=argId j∧pl j=some p) w (argId j) blk:=by
   refine⟨p,⟨j,rfl,k2⟩,?_⟩
   cases hpa:p.a with
   | none=>rw[hpa]at k5;exact k5
   | some b=>
    rw[hpa]at k5
    obtain ⟨cs,fz,m1,m2⟩:=k5
    exact⟨cs,fz,m1,LP_mono (fun _ _ h=>h.elim) m2,fun ho=>by rw[k3]at ho;simp at ho⟩
  unfold MemOk
  rw[k4];exact hc
 ·rintro i p ⟨j,rfl,hj⟩ _;exact(h3 j p hj).1
 ·rintro i p b ⟨j,rfl,hj⟩ hb;exact .inl ((h3 j p hj).2 b hb)
 ·rintro i p ⟨j,rfl,hj⟩ hge
  have:=cMem_lt A 0 j (h3 j p hj).1
  unfold argId at hge;omega
theorem MRel.adopt (h:MRel w0 R fm w){w':World}(hbel:Below w.heap.size w w'){id:Nat}(hid:fm id=none) (hsm:id<1000000){q:Pl}{c:Cells}{e:TypeId}(hv:∀i k sz,c≠.elt i k sz) (hv2:∀i l k sz,c≠.tail i l k sz) (hv3:∀ks n es g,c≠.fam ks n es g)
  (hq:match q.a with
   | none=>c.list=[]
   | some b=>w.heap.size<=b∧∃cs fz,w'.heap[b]?=some (.cells cs e fz)∧FzOk fz cs.size∧LP (fun _ _=>False) c.list (cs.toList.drop q.d)∧roomOk id c q cs.size) (hv4:∀s pos,c≠.itr s pos:=by intro _ _ h;cases h):
  MRel w0 (fun i p=>R i p∨(i=id∧p=q)) (upd fm id ⟨c,e,true⟩) w':=by
 have hm:=h.world hbel
 cases hqa:q.a with
 | none=>
  rw[hqa]at hq
  refine hm.view hid hsm (.inr (.inl hqa)) (fun b hb=>by rw[hqa]at hb;simp at hb) (fun R' _ hR=>?_)
  have hc:ContOk w0 R' w' id ⟨c,e,true⟩:=⟨q,hR,by rw[hqa];exact hq⟩
  unfold MemOk
  split
  ·rename_i hc2;exact absurd hc2 (hv _ _ _)
  ·rename_i hc2;exact absurd hc2 (hv2 _ _ _ _)
  ·rename_i hc2;exact absurd hc2 (hv3 _ _ _ _)
  ·rename_i hc2;exact absurd hc2 (hv4 _ _)
  ·exact hc
 | some b=>
  rw[hqa]at hq
  obtain ⟨hge,cs,fz,h1,hfz,h2,h3⟩:=hq
  refine hm.rename hid hsm (b:=b) (fun j p blk' hp hpa _=>?_) (fun hf=>by have:=h.frz_lt hf;omega) hqa h1 hfz (.inr (Nat.le_trans h.below.size hge)) hv hv2 hv3 (LP_mono (fun _ _ h=>h.elim) h2) h3 hv4
  have:=h.lt hp hpa
  omega
end
section
variable {GL:Glob}{w0:Wb GL}{R:Nat->Pl->Prop}{fm:Nat->Option Blk}{w:World}
theorem MRel.adoptF (h:MRel w0 R fm w){w':World}(hbel:Below w.heap.size w w'){id:Nat}(hid:fm id=none) (hsm:id<1000000){q:Pl}{c:Cells}{e:TypeId}(hv:∀i k sz,c≠.elt i k sz) (hv2:∀i l k sz,c≠.tail i l k sz) (hv3:∀ks n es g,c≠.fam ks n es g)
  (hq:match q.a with
   | none=>c.list=[]
   | some b=>w.heap.size<=b∧∃cs fz,w'.heap[b]?=some (.cells cs e fz)∧LP (fun _ _=>False) c.list (cs.toList.drop q.d)) (hv4:∀s pos,c≠.itr s pos:=by intro _ _ h;cases h):
  MRel w0 (fun i p=>R i p∨(i=id∧p=q)) (upd fm id ⟨c,e,false⟩) w':=by
 have hm:=h.world hbel
 have hmem:∀R':Nat->Pl->Prop,(∀i p,R i p->R' i p)->R' id q->MemOk w0 R' w' id ⟨c,e,false⟩:=by
  intro R' _ hR
  have hc:ContOk w0 R' w' id ⟨c,e,false⟩:=by
   refine⟨q,hR,?_⟩
   cases hqa:q.a with
   | none=>rw[hqa]at hq;exact hq
   | some b=>
    rw[hqa]at hq
    obtain ⟨_,cs,fz,h1,h2⟩:=hq
    exact⟨cs,fz,h1,LP_mono (fun _ _ h=>h.elim) h2,fun ho=>by simp at ho⟩
  unfold MemOk
  split
  ·rename_i hc2;exact absurd hc2 (hv _ _ _)
  ·rename_i hc2;exact absurd hc2 (hv2 _ _ _ _)
  ·rename_i hc2;exact absurd hc2 (hv3 _ _ _ _)
  ·rename_i hc2;exact absurd hc2 (hv4 _ _)
  ·exact hc
 have hR:∀p,¬R id p:=fun p hp=>by have:=h.dom id p hp (by omega);rw[hid]at this;simp at this
 have hno:∀i p b,R i p->p.a=some b->q.a=some b->False:=by
  intro i p b h1 h2 h3
  rw[h3]at hq
  have:=h.lt h1 h2
  have:=hq.1
  omega
 refine⟨hm.below,?_,?_,?_,?_,?_,?_,?_⟩
 ·rintro i p p' (h1|⟨rfl,rfl⟩) (h2|⟨h3,rfl⟩)
  ·exact hm.func _ _ _ h1 h2
  ·subst h3;exact absurd h1 (hR _)
  ·exact absurd h2 (hR _)
  ·rfl
 ·rintro i j p p2 b (h1|⟨rfl,rfl⟩) (h2|⟨rfl,rfl⟩) ha hb hne blk1 hblk hown blk' hblk'
  ·by_cases e1:id=i
   ·subst e1;exact absurd h1 (hR _)
   ·by_cases e2:id=j
    ·subst e2;exact absurd h2 (hR _)
    ·rw[upd_ne _ _ e1]at hblk
     rw[upd_ne _ _ e2]at hblk'
     exact hm.inj _ _ _ _ _ h1 h2 ha hb hne blk1 hblk hown blk' hblk'
  ·exact(hno _ _ _ h1 ha hb).elim
  ·exact(hno _ _ _ h2 hb ha).elim
  ·exact absurd rfl hne
 ·intro i blk1 hi
  by_cases e1:id=i
  ·subst e1
   rw[upd_same]at hi
   cases hi
   exact hmem _ (fun _ _=>.inl) (.inr ⟨rfl,rfl⟩)
  ·rw[upd_ne _ _ e1]at hi
   have hm1:=hm.mem i blk1 hi
   unfold MemOk at hm1 ⊢
   split at hm1
   ·obtain ⟨p,q,b,k1,k2,k3⟩:=hm1;exact⟨p,q,b,.inl k1,.inl k2,k3⟩
   ·obtain ⟨p,q,k1,k2,k3⟩:=hm1;exact⟨p,q,.inl k1,.inl k2,k3⟩
   ·exact hm1.mono (fun _ _=>.inl) (fun _ _=>rfl) (fun _ _ _ _ _=>rfl)
   ·exact hm1.mono (fun _ _=>.inl) (fun _ _=>rfl)
   ·obtain ⟨p,k1,k2⟩:=hm1
    refine⟨p,.inl k1,?_⟩
    cases hpa:p.a with
    | none=>rw[hpa]at k2;exact k2
    | some b=>
     rw[hpa]at k2
     obtain ⟨cs',fz,k3,k4,k5⟩:=k2
     exact⟨cs',fz,k3,LP_mono (fun _ _=>.inl) k4,k5⟩
 ·rintro i p (h1|⟨rfl,rfl⟩) hvb
  ·by_cases e1:id=i
   ·subst e1;simp[upd_same]
   ·rw[upd_ne _ _ e1];exact hm.dom _ _ h1 hvb
  ·simp[upd_same]
 ·rintro i p (h1|⟨rfl,rfl⟩) hge hvb
  ·exact hm.anc _ _ h1 hge hvb
  ·omega
 ·rintro i p b (h1|⟨rfl,rfl⟩) hb
  ·refine(hm.there _ _ _ h1 hb).mono (fun s pos hs=>?_) rfl
   by_cases e1:id=i
   ·subst e1;exact absurd h1 (hR _)
   ·rw[upd_ne _ _ e1]
  ·rw[hb]at hq
   obtain ⟨_,cs,fz,k1,_⟩:=hq
   exact .inl ⟨cs,e,fz,k1⟩
 ·rintro i p (h1|⟨rfl,rfl⟩) hge
  ·obtain ⟨h2,h3⟩:=hm.fro i p h1 hge
   refine⟨h2,?_⟩
   rintro j q2 (h4|⟨rfl,rfl⟩) hq2 blk2 hblk
   ·by_cases e1:id=j
    ·subst e1;exact absurd h4 (hR _)
    ·rw[upd_ne _ _ e1]at hblk;exact h3 j q2 h4 hq2 blk2 hblk
   ·rw[upd_same]at hblk
    cases hblk;rfl
  ·omega
theorem MRel.adoptFam (h:MRel w0 R fm w){w':World}(hbel:Below w.heap.size w w'){id:Nat}(hid:fm id=none) (hsm:id<1000000){q:Pl}{e:TypeId}{ks:List CK}{n:Nat}{es:Nat->TypeId}{g:Nat->Nat×(Nat->List Value)}
  (hq:match q.a with
   | none=>n=0
   | some b=>w.heap.size<=b∧∃cs,w'.heap[b]?=some (.cells cs e (0,0))∧(∀j,j<n->∃v,cs.toList[q.d+j]?=some v∧((((g j).1=0∧Emp v))∨∃bl d c cs2 fz,v=.slice (some ⟨bl,d,none⟩) (g j).1 c∧(g j).1<=c∧w.heap.size<=bl∧bl≠b∧w'.heap[bl]?=some (.cells cs2 (es j) fz)∧(cs2.toList.drop d).take ((g j).1*ks.length)=rowL ks (g j).2 0 (g j).1))∧(q.c≠0->q.d+q.c<=cs.size)):
  ∃R2:Nat->Pl->Prop,(∀i p,R i p->R2 i p)∧R2 id q∧MRel w0 R2 (upd fm id ⟨.fam ks n es g,e,true⟩) w':=by
 have hm:=h.world hbel
 have hR:∀p,¬R id p:=fun p hp=>by have:=h.dom id p hp (by omega);rw[hid]at this;simp at this
 have hq1:∀b,q.a=some b->w.heap.size<=b:=fun b hb=>by rw[hb]at hq;exact hq.1
 have hold:∀i p b,R i p->p.a=some b->b<w.heap.size:=fun i p b h1 h2=>h.lt h1 h2
 refine⟨fun i p=>R i p∨(i=id∧p=q)∨∃bl,(w.heap.size<=bl∧q.a≠some bl∧∃cs e fz,w'.heap[bl]?=some (.cells cs e fz))∧i=1000000000+bl∧p=⟨some bl,0,0⟩,fun _ _=>.inl,.inr (.inl ⟨rfl,rfl⟩),hm.below,?_,?_,?_,?_,?_,?_,?_⟩
 ·rintro i p p' (h1|⟨rfl,rfl⟩|⟨bl,g1,rfl,rfl⟩) (h2|⟨h3,rfl⟩|⟨bl',g2,h3,rfl⟩)
  ·exact hm.func _ _ _ h1 h2
  ·subst h3;exact absurd h1 (hR _)
  ·subst h3
   have h5:=(hm.fro _ _ h1 (Nat.le_add_right _ _)).1
   rw[h5,Nat.add_sub_cancel_left]
  ·exact absurd h2 (hR _)
  ·rfl
  ·omega
  ·have h5:=(hm.fro _ _ h2 (Nat.le_add_right _ _)).1
   rw[h5,Nat.add_sub_cancel_left]
  ·omega
  ·have:bl=bl':=by omega
   rw[this]
 ·intro i j p p2 b hp hp2 ha hb hne blk1 hblk hown blk' hblk'
  have notmark:∀i blk,upd fm id ⟨.fam ks n es g,e,true⟩ i=some blk->blk.own=true->∀bl,i=1000000000+bl->False:=by
   intro i blk hi ho bl e1
   rw[upd_ne _ _ (by omega)]at hi
   have h5:=hm.mem _ _ hi
   have h6:∃p,R i p:=by
    unfold MemOk at h5
    split at h5
    ·obtain ⟨_,q,_,_,h6,_⟩:=h5;exact⟨q,h6⟩
    ·obtain ⟨_,q,_,h6,_⟩:=h5;exact⟨q,h6⟩
    ·obtain ⟨p,h6,_⟩:=h5;exact⟨p,h6⟩
    ·obtain ⟨p,h6,_⟩:=h5;exact⟨_,h6⟩
    ·obtain ⟨p,h6,_⟩:=h5;exact⟨p,h6⟩
   obtain ⟨p6,h6⟩:=h6
   have:=(hm.fro _ _ h6 (by omega)).2 _ _ h6 rfl blk hi
   rw[this]at ho;simp at ho
  rcases hp with h1|⟨rfl,rfl⟩|⟨bl,g1,rfl,rfl⟩
  ·have hbl:=hold _ _ _ h1 ha
   rcases hp2 with h2|⟨rfl,rfl⟩|⟨bl,g2,rfl,rfl⟩
   ·by_cases e1:id=i
    ·subst e1;exact absurd h1 (hR _)
    ·by_cases e2:id=j
     ·subst e2;exact absurd h2 (hR _)
     ·rw[upd_ne _ _ e1]at hblk
      rw[upd_ne _ _ e2]at hblk'
      exact hm.inj _ _ _ _ _ h1 h2 ha hb hne blk1 hblk hown blk' hblk'
   ·have:=hq1 _ hb;omega
   ·simp only[Option.some.injEq]at hb;omega
  ·rcases hp2 with h2|⟨rfl,rfl⟩|⟨bl,g2,rfl,rfl⟩
   ·have:=hold _ _ _ h2 hb
    have:=hq1 _ ha;omega
   ·exact absurd rfl hne
   ·simp only[Option.some.injEq]at hb
    subst hb
    exact absurd ha g2.2.1
  ·exact(notmark _ _ hblk hown bl rfl).elim
 ·intro i blk1 hi
  by_cases e1:id=i
  ·subst e1
   rw[upd_same]at hi
   cases hi
   refine⟨q,.inr (.inl ⟨rfl,rfl⟩),?_⟩
   cases hqa:q.a with
   | none=>rw[hqa]at hq;exact hq
   | some b=>
    rw[hqa]at hq
    obtain ⟨hge,cs,y1,y2,y3⟩:=hq
    refine⟨cs,(0,0),y1,fun jj hjj=>?_,fun hx=>by simp at hx,fun _=>⟨rfl,.inr (Nat.le_trans h.below.size hge),y3,fun jj hjj v5 hcell=>?_⟩⟩
    ·obtain ⟨v,z1,z2⟩:=y2 jj hjj
     refine⟨v,z1,?_⟩
     rcases z2 with z2|⟨bl,d,c,cs2,fz,o1,o2,o3,o4,o5,o6⟩
     ·exact .inl z2
     ·exact .inr ⟨bl,d,c,cs2,fz,o1,o2,.inr (.inr ⟨bl,⟨o3,fun e9=>o4 (Option.some.inj e9).symm,cs2,es jj,fz,o5⟩,rfl,rfl⟩),o5,o6⟩
    ·obtain ⟨v,z1,z2⟩:=y2 jj hjj
     rw[z1]at hcell
     have hcell:=Option.some.inj hcell
     rw[<-hcell]
     rcases z2 with z2|⟨bl,d,c,cs2,fz,o1,o2,o3,_⟩
     ·exact .inl z2
     ·exact .inr ⟨bl,d,_,c,o1,.inr (Nat.le_trans h.below.size o3)⟩
  ·rw[upd_ne _ _ e1]at hi
   have hm1:=hm.mem i blk1 hi
   unfold MemOk at hm1 ⊢
   split at hm1
   ·obtain ⟨p,q,b,k1,k2,k3⟩:=hm1;exact⟨p,q,b,.inl k1,.inl k2,k3⟩
   ·obtain ⟨p,q,k1,k2,k3⟩:=hm1;exact⟨p,q,.inl k1,.inl k2,k3⟩
   ·exact hm1.mono (fun _ _=>.inl) (fun _ _=>rfl) (fun _ _ _ _ _=>rfl)
   ·exact hm1.mono (fun _ _=>.inl) (fun _ _=>rfl)
   ·obtain ⟨p,k1,k2⟩:=hm1
    refine⟨p,.inl k1,?_⟩
    cases hpa:p.a with
    | none=>rw[hpa]at k2;exact k2
    | some b=>
     rw[hpa]at k2
     obtain ⟨cs',fz,k3,k4,k5⟩:=k2
     exact⟨cs',fz,k3,LP_mono (fun _ _=>.inl) k4,k5⟩
 ·rintro i p (h1|⟨rfl,rfl⟩|⟨bl,g1,rfl,rfl⟩) hvb
  ·by_cases e1:id=i
   ·subst e1;simp[upd_same]
   ·rw[upd_ne _ _ e1];exact hm.dom _ _ h1 hvb
  ·simp[upd_same]
  ·omega
 ·rintro i p (h1|⟨rfl,rfl⟩|⟨bl,g1,rfl,rfl⟩) hge hvb
  ·exact hm.anc _ _ h1 hge hvb
  ·omega
  ·omega
 ·rintro i p b (h1|⟨rfl,rfl⟩|⟨bl,g1,rfl,rfl⟩) hb
  ·refine(hm.there _ _ _ h1 hb).mono (fun s pos hs=>?_) rfl
   by_cases e1:id=i
   ·subst e1;exact absurd h1 (hR _)
   ·rw[upd_ne _ _ e1]
  ·rw[hb]at hq
   obtain ⟨_,cs,k1,_⟩:=hq
   exact .inl ⟨cs,e,_,k1⟩
  ·simp only[Option.some.injEq]at hb
   subst hb
   exact .inl g1.2.2
 ·rintro i p (h1|⟨rfl,rfl⟩|⟨bl,g1,rfl,rfl⟩) hge
  ·obtain ⟨h2,h3⟩:=hm.fro i p h1 hge
   have hbl:=hold _ _ (i-1000000000) h1 (by rw[h2])
   refine⟨h2,?_⟩
   rintro j q2 (h4|⟨rfl,rfl⟩|⟨bl',g2,rfl,rfl⟩) hq2 blk2 hblk
   ·by_cases e1:id=j
    ·subst e1;exact absurd h4 (hR _)
    ·rw[upd_ne _ _ e1]at hblk;exact h3 j q2 h4 hq2 blk2 hblk
   ·rw[h2]at hq2
    have:=hq1 _ hq2;omega
   ·rw[h2]at hq2
    simp only[Option.some.injEq]at hq2;omega
  ·omega
  ·refine⟨by rw[Nat.add_sub_cancel_left],?_⟩
   rintro j q2 (h4|⟨rfl,rfl⟩|⟨bl',g2,rfl,rfl⟩) hq2 blk2 hblk
   ·have:=hold _ _ _ h4 hq2
    have:=g1.1;omega
   ·exact absurd hq2 g1.2.1
   ·rw[upd_ne _ _ (by omega)]at hblk
    cases ho:blk2.own with
    | false=>rfl
    | true=>
     have h5:=hm.mem _ _ hblk
     have h6:∃p,R (1000000000+bl') p:=by
      unfold MemOk at h5
      split at h5
      ·obtain ⟨_,q,_,_,h6,_⟩:=h5;exact⟨q,h6⟩
      ·obtain ⟨_,q,_,h6,_⟩:=h5;exact⟨q,h6⟩
      ·obtain ⟨p,h6,_⟩:=h5;exact⟨p,h6⟩
      ·obtain ⟨p,h6,_⟩:=h5;exact⟨_,h6⟩
      ·obtain ⟨p,h6,_⟩:=h5;exact⟨p,h6⟩
     obtain ⟨p6,h6⟩:=h6
     have:=(hm.fro _ _ h6 (Nat.le_add_right _ _)).2 _ _ h6 rfl blk2 hblk
     rw[this]at ho;simp at ho
theorem tailOf_some {mem:Nat->Option Blk}{c:Cells}{q:Seg}(h:tailOf mem c=some q):∃sz,c=.tail q.base q.start q.cnt sz∧mem q.base=some ⟨.row q.ks q.n q.f,q.elem,q.own⟩∧q.ks.length=sz∧q.start+q.cnt<=q.n:=by
 unfold tailOf at h
 split at h
 ·rename_i i l cnt sz
  split at h
  ·rename_i base hb
   obtain ⟨cells,e,own⟩:=base
   simp only at h
   split at h
   ·obtain ⟨h1,h2⟩:=cond_some.1 h
    simp only[Bool.and_eq_true]at h1
    cases h2
    exact⟨sz,rfl,hb,nbeq.1 h1.1,Nat.le_of_ble_eq_true h1.2⟩
   ·simp at h
  ·simp at h
 ·simp at h
end
section
variable {P:Program} [Laid P] {C:Cfg}{c:Code}
def noTT:Value->Bool
 | .tuple vs=>vs.toList.all notTup
 | _=>true
theorem V1_of_V2 {R:Nat->Pl->Prop}{v v':Value}(h:V2 R v v') (ht:notTup v=true):V1 R v v':=by
 cases v<;>first|exact h|simp[notTup]at ht
theorem fn_mem (hC:CfgOk P C c){g:FuncId}{fn:Func}(hf:P.funcs[g]?=some fn) (hb:fn.body=some c) (hn:C.n=fn.ntmps){w0:Wb (lay P)}{R:Nat->Pl->Prop}{w:World}{args args':List Value}{mem0:List (Nat×Blk)}{next:Nat}
  (hm:MRel w0 R (look mem0) w) (hargs:LR (V2 R) args args') (hlen:args.length<=fn.ntmps){fuel:Nat}{e:Exit}{s':St}(h1:evS C fuel [] c ⟨argSlots 0 args,mem0,next⟩=some (e,s')){v:Value}(h2:endK C.T fn e s' some none=some v):
  Calls P g args'.toArray w fun ex w'=>∃R' v',ex=.returned v'∧((∀vs,v≠.tuple vs)->V2 R' v v')∧(∀vs,v=.tuple vs->∃vs',v'=.tuple vs'∧LR (V2 R') vs.toList vs'.toList)∧MRel w0 R' (look s'.mem) w':=by
 refine calls_of_wp hf hb ?_
 have hla:=LR_len hargs
 have hrel:Rel w0 C.n R (St.f ⟨argSlots 0 args,mem0,next⟩) { tmps:=args'.toArray++Array.replicate (fn.ntmps-args'.toArray.size) undef,defers:=[] } w:=by
  refine MRel.toR hm rfl (by simp;omega) ?_
  intro t u hu
  obtain ⟨j,rfl,hj⟩:=argSlots_look args 0 t u hu
  obtain ⟨u',h3,h4⟩:=LR_get hargs hj
  refine⟨u',?_,h4⟩
  have hlt:j<args'.length:=by
   rcases Nat.lt_or_ge j args'.length with h|h
   ·exact h
   ·rw[List.getElem?_eq_none h]at h3;simp at h3
  rw[Nat.zero_add,Array.getElem?_append_left (by simpa using hlt)]
  simpa using h3
 refine wp_mono (ev_sound hC (p:=[]) rfl h1 hrel) ?_
 rintro e' a' w' ⟨rfl,R',hr'⟩
 have fin:endK C.T fn e' s' some none=some v->(e'=.normal∨e'=.ret)->a'.defers=[]∧∃v',(results fn a'.tmps).run P w'=.ok v' w'∧((∀vs,v≠.tuple vs)->V2 R' v v')∧(∀vs,v=.tuple vs->∃vs',v'=.tuple vs'∧LR (V2 R') vs.toList vs'.toList):=by
  intro h3 h4
  refine⟨hr'.defers,?_⟩
  have h3:resK C.T s' fn.results.toList (fun vs=>oneK vs some) none=some v:=by
   rcases h4 with rfl|rfl<;>exact h3
  obtain ⟨vs,vs',h5,h6,h7⟩:=res_run hC hr' _ h3
  have hrun:(results fn a'.tmps).run P w'=.ok (if h:vs'.toArray.size=1 then vs'.toArray[0] else .tuple vs'.toArray) w':=by
   rw[results_eq,Array.mapM_eq_mapM_toList]
   simp only[Sem.run_bind,Sem.run_map,h7,Result.andThen_ok,Sem.run_pure]
  refine⟨_,hrun,?_⟩
  rcases oneK_some h5 with rfl|⟨hl,rfl⟩
  ·match vs',h6 with
   | [u],h6=>
    refine⟨fun _=>by simpa using h6.1,fun ws hw=>?_⟩
    subst hw
    have h6:=h6.1
    obtain ⟨ws',e1,e2⟩:=V2_tuple h6
    exact⟨ws',by simpa using e1,LR_mono (fun _ _=>V2_of_V1) e2⟩
  ·have hl':vs'.length≠1:=by rw[<-LR_len h6];exact hl
   rw[dif_neg (by simpa using hl')]
   exact⟨fun hne=>absurd rfl (hne _),fun ws hw=>by cases hw;exact⟨vs'.toArray,rfl,h6⟩⟩
 cases e' with
 | normal=>obtain ⟨k1,v',k2,k3,k4⟩:=fin h2 (.inl rfl);exact⟨k1,v',k2,R',v',rfl,k3,k4,hr'.m⟩
 | ret=>obtain ⟨k1,v',k2,k3,k4⟩:=fin h2 (.inr rfl);exact⟨k1,v',k2,R',v',rfl,k3,k4,hr'.m⟩
 | _=>simp[endK]at h2
theorem srcB_mono {mm fm:Nat->Option Blk}(hsub:∀b blk,mm b=some blk->fm b=some blk){ks:List CK}{v:Value}{n:Nat}{g:Nat->List Value}(h:srcB mm ks v=(true,n,g)):srcB fm ks v=(true,n,g):=by
 unfold srcB at h ⊢
 split at h
 ·exact h
 ·rename_i b off n0 c0
  split at h
  ·rename_i blk hb
   rw[hsub b blk hb]
   obtain ⟨cells,e,own⟩:=blk
   simp only at h ⊢
   split at h
   ·exact h
   ·exact h
   ·rename_i i l cnt sz
    split at h
    ·rename_i base hi
     simp only[hsub i base hi]
     exact h
    ·simp at h
   ·simp at h
  ·simp at h
 ·simp at h
theorem AOk_mono {mm fm:Nat->Option Blk}(hsub:∀b blk,mm b=some blk->fm b=some blk):∀{vs:List Value}{A:List Arg},AOk mm vs A->AOk fm vs A
 | [],[],_=>trivial
 | _::_,.pl _::_,h=>⟨h.1,h.2.1,AOk_mono hsub h.2.2⟩
 | _::_,.sl _ _ _::_,h=>⟨srcB_mono hsub h.1,AOk_mono hsub h.2⟩
 | [],.pl _::_,h=>h.elim
 | [],.sl _ _ _::_,h=>h.elim
 | _::_,[],h=>h.elim
theorem cArgs_len:∀(A:List Arg) (k:Nat),(cArgs A k).length=A.length
 | [],_=>rfl
 | .pl _::r,k=>by simp[cArgs,cArgs_len r]
 | .sl _ _ _::r,k=>by simp[cArgs,cArgs_len r]
section
variable {T:Tab}{GL:Glob}{w0:Wb GL}{R R':Nat->Pl->Prop}{fm:Nat->Option Blk}{w w':World}{wc:Wb GL}{mC:Nat->Option Blk}
theorem expV_ok (h:MRel w0 R fm w) (hc:MRel wc R' mC w') (hwc:wc.w=w) (hX:∀k,¬wc.X k){id:Nat}(hid:fm (nid id 0)=none) (hlt:id<60000){v v':Value}(hv:V2 R' v v'){u:Value}{l:List (Nat×Blk)}
  (he:expV T mC id v (fun a b=>some (a,b)) none=some (u,l)):
  (l=[]∧u=v∧pl1 v=true∧v'=v)∨∃R2:Nat->Pl->Prop,(∀i p,R i p->R2 i p)∧V2 R2 u v'∧notTup u=true∧MRel w0 R2 (memF fm l) w':=by
 have hbel:Below w.heap.size w w':=by have:=hc.below.below hX;rw[hwc]at this;exact this
 unfold expV at he
 split at he
 ·rename_i j off m cc
  obtain ⟨blk,hb,he⟩:=oK_some.1 he
  obtain ⟨cells,e,own⟩:=blk
  dsimp only at he
  cases hit:isTail cells with
  | true=>
   rw[hit,cond_true]at he
   obtain ⟨s,hs,he⟩:=oK_some.1 he
   obtain ⟨hcond,he⟩:=cond_some.1 he
   simp only[Bool.and_eq_true,Nat.blt_eq]at hcond
   obtain ⟨⟨⟨⟨⟨hown,hlo⟩,hoff⟩,hmc⟩,hmc2⟩,hm0⟩:=hcond
   simp only[Option.some.injEq,Prod.mk.injEq]at he
   obtain ⟨rfl,rfl⟩:=he
   have hmc:=Nat.le_of_ble_eq_true hmc
   have hmc2:=Nat.le_of_ble_eq_true hmc2
   right
   obtain ⟨sz,rfl,hbase,hks,hle⟩:=tailOf_some hs
   obtain ⟨p,hp,hsl⟩:=V2_slice hv
   obtain ⟨pb,q',hpb,hq',hcase,_⟩:∃p q,R' s.base p∧R' j q∧(s.cnt=0∨(q.a=p.a∧q.d=p.d+s.start*sz∧q.c+s.start<=p.c))∧own=false:=hc.mem j _ hb
   have:=hc.func _ _ _ hp hq';subst this
   obtain ⟨_,hcc,hsl2⟩:=SlOk_loose hlo hsl
   rw[hown]at hbase
   have hvs:(∃b,p.a=some b∧v'=.slice (some ⟨b,p.d,none⟩) m p.c):=by
    rcases hsl2 with⟨b,hpa,hv'⟩|⟨_,hm1,_,_⟩
    ·exact⟨b,hpa,hv'⟩
    ·omega
   obtain ⟨b,hpa,hv'⟩:=hvs
   obtain ⟨h1,h2,h3⟩:=hcase.resolve_left (by omega)
   obtain ⟨cs,fz,g1,g2,g3,g4⟩:=row_cells hc hbase hpb (by rw[<-h1];exact hpa)
   obtain ⟨hfz,hge,hroom⟩:=g4 rfl
   have hge:w.heap.size<=b:=by
    rcases hge with hx|hx
    ·exact absurd hx (hX b)
    ·rw[hwc]at hx;exact hx
   have hLP:LP (fun _ _=>False) (rowL s.ks (fun x=>s.f (s.start+x)) 0 m) (cs.toList.drop p.d):=by
    refine LP_plain (rowL_pl _ _ _ _) ?_
    rw[rowL_len,rowL_shift,Nat.add_zero,h2,<-hks,<-List.drop_drop]
    have e1:=congrArg (fun l=>(List.drop (s.start*s.ks.length) l).take (m*s.ks.length)) g2
    rw[List.drop_take,List.take_take,Nat.min_eq_left (by
     rw[<-Nat.sub_mul]
     exact Nat.mul_le_mul_right _ (by omega)),rowL_drop s.ks s.f s.start s.n 0 (by omega),Nat.zero_add,rowL_take s.ks s.f m (s.n-s.start) s.start (by omega)]at e1
    exact e1
   cases hlb:loose s.base with
   | false=>
    refine⟨_,fun _ _=>.inl,slice_V2 (nid_loose hlt (by omega)) (.inr ⟨rfl,rfl⟩) (show m<=p.c by omega) (by rw[hpa];exact hv'),rfl,h.adoptF hbel hid (nid_lt hlt (by omega)) (q:=p) nofun nofun nofun ?_⟩
    rw[hpa]
    exact⟨hge,cs,fz,g1,LP_mono (fun _ _ hf=>hf.elim) hLP⟩
   | true=>
    refine⟨_,fun _ _=>.inl,slice_V2 (nid_loose hlt (by omega)) (.inr ⟨rfl,rfl⟩) (show m<=p.c by omega) (by rw[hpa];exact hv'),rfl,h.adopt hbel hid (nid_lt hlt (by omega)) (q:=p) nofun nofun nofun ?_⟩
    rw[hpa]
    refine⟨hge,cs,fz,g1,hfz,hLP,fun _ hc0=>?_⟩
    have hr:=hroom hlb (by omega)
    have e2:(p.c+s.start)*s.ks.length<=pb.c*s.ks.length:=Nat.mul_le_mul_right _ h3
    rw[Nat.add_mul]at e2
    rw[h2,<-hks]
    omega
  | false=>
  rw[hit,cond_false]at he
  have hcond:=(cond_some.1 he).1
  have he2:=(cond_some.1 he).2
  clear he
  simp only[Bool.and_eq_true]at hcond
  obtain ⟨hown,_⟩:=hcond
  subst hown
  obtain ⟨p,hp,hsl⟩:=V2_slice hv
  split at he2
  ·rename_i ks n g
   obtain ⟨hcond,he⟩:=cond_some.1 he2
   simp only[Bool.and_eq_true]at hcond
   obtain ⟨⟨hlo,_⟩,_⟩:=hcond
   simp only[Option.some.injEq,Prod.mk.injEq]at he
   obtain ⟨rfl,rfl⟩:=he
   right
   obtain ⟨p',hp',hcont⟩:=memOk_row hc hb
   have:=hc.func _ _ _ hp hp';subst this
   obtain ⟨_,hcc,hcase⟩:=SlOk_loose hlo hsl
   refine⟨_,fun _ _=>.inl,slice_V2 (nid_loose hlt (by omega)) (.inr ⟨rfl,rfl⟩) hcc ?_,rfl,h.adopt hbel hid (nid_lt hlt (by omega)) (q:=p) nofun nofun nofun ?_⟩
   ·rcases hcase with⟨b,hpa,hv'⟩|⟨hpa,hm0,hc0,hv'⟩
    ·rw[hpa];exact hv'
    ·rw[hpa];exact⟨hm0,hc0,hv'⟩
   ·cases hpa:p.a with
    | none=>rw[hpa]at hcont;exact hcont
    | some b=>
     rw[hpa]at hcont
     obtain ⟨cs,fz,g1,g2,g3⟩:=hcont
     obtain ⟨hfz,hge,hroom⟩:=g3 rfl
     have hge:w.heap.size<=b:=by
      rcases hge with hx|hx
      ·exact absurd hx (hX b)
      ·rw[hwc]at hx;exact hx
     refine⟨hge,cs,fz,g1,hfz,?_,fun _ hc0=>hroom hlo hc0⟩
     have g2:LP R' (rowL ks g 0 n) (cs.toList.drop p.d):=g2
     have:=(LR_plain (r:=V0 R') (pl:=pl0) (fun _ _ hv=>V0_plain hv) (rowL_pl ks g n 0)).1 g2
     exact LP_plain (rowL_pl _ _ _ _) this
  ·rename_i ls
   obtain ⟨i,hi,he3⟩:=oK_some.1 he2
   obtain ⟨hcond,he⟩:=cond_some.1 he3
   simp only[Bool.and_eq_true,Bool.not_eq_true']at hcond
   obtain ⟨⟨⟨⟨hlo,hks⟩,hmc⟩,hle⟩,hfit⟩:=hcond
   simp only[Option.some.injEq,Prod.mk.injEq]at he
   obtain ⟨rfl,rfl⟩:=he
   right
   obtain ⟨hke,hkl,_,_⟩:=ksOk_parts hks
   have hle:=Nat.le_of_ble_eq_true hle
   obtain ⟨p',hp',hcont⟩:=memOk_lst hc hb
   have:=hc.func _ _ _ hp hp';subst this
   obtain ⟨b,hpa,hv'⟩:=SlOk_tight hlo hsl
   rw[hpa]at hcont
   obtain ⟨cs,fz,g1,g2,g3⟩:=hcont
   obtain ⟨hfz,hge,_⟩:=g3 rfl
   have hge:w.heap.size<=b:=by
    rcases hge with hx|hx
    ·exact absurd hx (hX b)
    ·rw[hwc]at hx;exact hx
   have g2:LP R' ls (cs.toList.drop p.d):=g2
   have hl2:=LP_le g2
   rw[List.length_drop]at hl2
   have ecs:cs.toList.length=cs.size:=Array.length_toList
   refine⟨_,fun _ _=>.inl,slice_V2 (nid_loose hlt (by omega)) (.inr ⟨rfl,rfl⟩) (Nat.le_refl _) hv',rfl,h.adopt hbel hid (nid_lt hlt (by omega)) (q:=⟨some b,p.d+off,cc⟩) nofun nofun nofun ⟨hge,cs,fz,g1,hfz,?_,?_⟩⟩
   ·show LP _ (rowL i.eqk (lstF ls off i.siz) 0 cc) _
    have e5:=rowL_lst (ks:=i.eqk) (l:=ls) (off:=off) (n:=cc) (by rw[hkl];exact hfit) cc (Nat.le_refl _)
    rw[hkl]at e5
    have e6:=LP_part g2 (off:=off) (n:=cc*i.siz) hle
    have e7:=(LR_plain (r:=V0 R') (pl:=pl0) (fun _ _ hv=>V0_plain hv) (fitsK_pl hfit)).1 e6
    refine LP_plain (rowL_pl _ _ _ _) ?_
    rw[rowL_len,hkl,e5,<-List.drop_drop];exact e7
   ·show loose (nid id 0)=true->_
    intro _ hc0
    have:0<i.eqk.length:=List.length_pos_iff.2 hke
    have:0<cc*i.siz:=Nat.mul_pos (by simp only at hc0;omega) (by omega)
    show p.d+off+cc*i.eqk.length<=cs.size
    rw[hkl];omega
  ·rename_i ks n es g
   obtain ⟨hcond,he⟩:=cond_some.1 he2
   simp only[Bool.and_eq_true]at hcond
   obtain ⟨⟨hlo,_⟩,_⟩:=hcond
   simp only[Option.some.injEq,Prod.mk.injEq]at he
   obtain ⟨rfl,rfl⟩:=he
   right
   obtain ⟨p',hp',hcont⟩:FamOk wc R' w' j e true ks n es g:=hc.mem j _ hb
   have:=hc.func _ _ _ hp hp';subst this
   obtain ⟨_,hcc,hcase⟩:=SlOk_loose hlo hsl
   obtain ⟨R2,y1,y2,y3⟩:=h.adoptFam hbel hid (nid_lt hlt (by omega)) (q:=p) (e:=e) (ks:=ks) (n:=n) (es:=es) (g:=g) (by
    cases hpa:p.a with
    | none=>rw[hpa]at hcont;exact hcont
    | some b=>
     rw[hpa]at hcont
     obtain ⟨cs,fz,g1,g2,_,g4⟩:=hcont
     obtain ⟨rfl,hge,hroom,hnr⟩:=g4 rfl
     have new:∀b,(wc.X b∨wc.w.heap.size<=b)->w.heap.size<=b:=fun b hge=>by
      rcases hge with hx|hx
      ·exact absurd hx (hX b)
      ·rw[hwc]at hx;exact hx
     refine⟨new b hge,cs,g1,fun jj hjj=>?_,hroom⟩
     obtain ⟨v5,q1,q2⟩:=g2 jj hjj
     refine⟨v5,q1,?_⟩
     rcases q2 with q2|⟨b5,d5,c5,cs5,fz5,o1,o2,o3,o4,o5⟩
     ·exact .inl q2
     ·rcases hnr jj hjj v5 q1 with hz|⟨b6,d6,m6,c6,hv6,hge6⟩
      ·exact .inl hz
      ·rw[o1]at hv6
       simp only[Value.slice.injEq,Option.some.injEq,Addr.mk.injEq]at hv6
       rw[<-hv6.1.1]at hge6
       refine .inr ⟨b5,d5,c5,cs5,fz5,o1,o2,new b5 hge6,?_,o4,o5⟩
       rintro rfl
       have:=hc.frz_own o3 hp hpa hb
       simp at this)
   refine⟨R2,y1,slice_V2 (nid_loose hlt (by omega)) y2 hcc ?_,rfl,y3⟩
   rcases hcase with⟨b,hpa,hv'⟩|⟨hpa,hm0,hc0,hv'⟩
   ·rw[hpa];exact hv'
   ·rw[hpa];exact⟨hm0,hc0,hv'⟩
  ·simp at he2
 ·obtain ⟨hpl,he⟩:=cond_some.1 he
  cases he
  have hp2:pl2 v=true:=by
   unfold pl2;split
   ·simp[pl1,pl0]at hpl
   ·exact hpl
  exact .inl ⟨rfl,rfl,hpl,(V2_plain hp2).1 hv⟩
theorem expL_nil {id:Nat}(hc:MRel wc R' mC w'):∀{vs us vs':List Value},LR (V2 R') vs vs'->expL T mC id vs (fun a b=>some (a,b)) none=some (us,[])->us.all pl1=true∧vs'=us
 | [],us,[],_,he=>by simp only[expL,Option.some.injEq,Prod.mk.injEq]at he;rw[<-he.1];exact⟨rfl,rfl⟩
 | v::vs,us,v'::vs',hl,he=>by
  simp only[expL]at he
  obtain ⟨u,l,hu,he⟩:=expV_some.1 he
  obtain ⟨us2,m,hus,he⟩:=expL_some.1 he
  obtain ⟨x,hx,he⟩:=oK_some.1 he
  simp only[Option.some.injEq,Prod.mk.injEq]at he
  obtain ⟨rfl,rfl⟩:=he
  cases l with
  | cons q l=>cases m<;>simp[joinL]at hx
  | nil=>
   have hx:some m=some []:=hx
   cases hx
   obtain ⟨k1,k2⟩:=expL_nil hc hl.2 hus
   unfold expV at hu
   split at hu
   ·obtain ⟨blk,hb,hu⟩:=oK_some.1 hu
    cases hit:isTail blk.cells with
    | true=>
     rw[hit,cond_true]at hu
     obtain ⟨_,_,hu⟩:=oK_some.1 hu
     obtain ⟨_,hu⟩:=cond_some.1 hu;simp at hu
    | false=>
    rw[hit,cond_false]at hu
    obtain ⟨_,hu⟩:=cond_some.1 hu
    split at hu
    ·obtain ⟨_,hu⟩:=cond_some.1 hu;simp at hu
    ·obtain ⟨_,_,hu⟩:=oK_some.1 hu
     obtain ⟨_,hu⟩:=cond_some.1 hu;simp at hu
    ·obtain ⟨_,hu⟩:=cond_some.1 hu;simp at hu
    ·simp at hu
   ·obtain ⟨hpl,hu⟩:=cond_some.1 hu
    simp only[Option.some.injEq,Prod.mk.injEq,and_true]at hu
    subst hu
    have hp2:pl2 v=true:=by
     unfold pl2;split
     ·simp[pl1,pl0]at hpl
     ·exact hpl
    rw[List.all_cons,hpl,k1,k2,(V2_plain hp2).1 hl.1]
    exact⟨rfl,rfl⟩
 | [],_,_::_,h,_=>h.elim
 | _::_,_,[],h,_=>h.elim
theorem expL_ok (h:MRel w0 R fm w) (hc:MRel wc R' mC w') (hwc:wc.w=w) (hX:∀k,¬wc.X k){id:Nat}(hid:fm (nid id 0)=none) (hlt:id<60000):∀{vs us vs':List Value}{l:List (Nat×Blk)},LR (V2 R') vs vs'->expL T mC id vs (fun a b=>some (a,b)) none=some (us,l)->
  ∃R2:Nat->Pl->Prop,(∀i p,R i p->R2 i p)∧LR (V1 R2) us vs'∧MRel w0 R2 (memF fm l) w'
 | [],us,[],l,_,he=>by
  simp only[expL,Option.some.injEq,Prod.mk.injEq]at he
  obtain ⟨rfl,rfl⟩:=he
  have hbel:Below w.heap.size w w':=by have:=hc.below.below hX;rw[hwc]at this;exact this
  exact⟨R,fun _ _ h=>h,trivial,h.world hbel⟩
 | v::vs,us,v'::vs',l,hl,he=>by
  simp only[expL]at he
  obtain ⟨u,l1,hu,he⟩:=expV_some.1 he
  obtain ⟨us2,m,hus,he⟩:=expL_some.1 he
  obtain ⟨x,hx,he⟩:=oK_some.1 he
  simp only[Option.some.injEq,Prod.mk.injEq]at he
  obtain ⟨rfl,rfl⟩:=he
  rcases expV_ok h hc hwc hX hid hlt hl.1 hu with⟨rfl,rfl,hpl,rfl⟩|⟨R2,k1,k2,k3,k4⟩
  ·have hx:some m=some x:=hx
   cases hx
   obtain ⟨R2,k1,k2,k3⟩:=expL_ok h hc hwc hX hid hlt hl.2 hus
   exact⟨R2,k1,⟨(V1_plain hpl).2 rfl,k2⟩,k3⟩
  ·cases l1 with
   | nil=>
    have hx:some m=some x:=hx
    cases hx
        -- a plain one after all
    unfold expV at hu
    split at hu
    ·obtain ⟨blk,hb,hu⟩:=oK_some.1 hu
     cases hit:isTail blk.cells with
     | true=>
      rw[hit,cond_true]at hu
      obtain ⟨_,_,hu⟩:=oK_some.1 hu
      obtain ⟨_,hu⟩:=cond_some.1 hu;simp at hu
     | false=>
     rw[hit,cond_false]at hu
     obtain ⟨_,hu⟩:=cond_some.1 hu
     split at hu
     ·obtain ⟨_,hu⟩:=cond_some.1 hu;simp at hu
     ·obtain ⟨_,_,hu⟩:=oK_some.1 hu
      obtain ⟨_,hu⟩:=cond_some.1 hu;simp at hu
     ·obtain ⟨_,hu⟩:=cond_some.1 hu;simp at hu
     ·simp at hu
    ·obtain ⟨hpl,hu⟩:=cond_some.1 hu
     simp only[Option.some.injEq,Prod.mk.injEq,and_true]at hu
     subst hu
     have hp2:pl2 v=true:=by
      unfold pl2;split
      ·simp[pl1,pl0]at hpl
      ·exact hpl
     have:=(V2_plain hp2).1 hl.1;subst this
     obtain ⟨R3,j1,j2,j3⟩:=expL_ok h hc hwc hX hid hlt hl.2 hus
     exact⟨R3,j1,⟨(V1_plain hpl).2 rfl,j2⟩,j3⟩
   | cons q l1=>
    cases m with
    | cons _ _=>simp[joinL]at hx
    | nil=>
     have hx:some (q::l1)=some x:=hx
     cases hx
     obtain ⟨j1,j2⟩:=expL_nil hc hl.2 hus
     subst j2
     refine⟨R2,k1,⟨V1_of_V2 k2 k3,?_⟩,k4⟩
     exact(LR_plain (r:=V1 R2) (pl:=pl1) (fun _ _ hv=>V1_plain hv) j1).2 rfl
 | [],_,_::_,_,h,_=>h.elim
 | _::_,_,[],_,h,_=>h.elim
end
theorem msum_at {g:FuncId}{fn:Func}{c:Code}(hf:P.funcs[g]?=some fn) (hname:(fn.name=="runtime.NumGoroutine")=false) (hb:fn.body=some c){fuel next:Nat}
  {w0:Wb (lay P)}{R:Nat->Pl->Prop}{fm:Nat->Option Blk}{w:World}(hm:MRel w0 R fm w){vs args':List Value}(hl:LR (V2 R) vs args'){mm:Nat->Option Blk}(hsub:∀b blk,mm b=some blk->fm b=some blk){id:Nat}(hlt:id<60000)
  {A:List Arg}(hA:AOk mm vs A) (hlen:A.length<=fn.ntmps){v:Value}{l:List (Nat×Blk)}(hl1:l=[]∨∃blk,l=[(nid id 0,blk)]) (hnew:∀p∈l,(nid id 0<=p.1∧p.1<nid id 8->fm p.1=none)∧(¬(nid id 0<=p.1∧p.1<nid id 8)->(mm p.1).isSome=true))
  (hev0:∀es,∃C,CfgOk P C c∧C.n=fn.ntmps∧fnMS C fuel fn c (cArgs A 0) (cMem es A 0) next id=some (v,l)) (hnt:fn.ntmps<=900000000:=by decide +kernel):
  Invokes P g args'.toArray w fun v' w'=>∃R':Nat->Pl->Prop,(∀i p,R i p->R' i p)∧V2 R' v v'∧MRel w0 R' (memF fm l) w':=by
 have hne:fn.name≠"runtime.NumGoroutine":=by simpa using hname
 have hrun:(callFunc g args'.toArray).run P w=.ok (.enter g args'.toArray) w:=by simp[callFunc,hf,hne,hb]
 unfold Invokes
 rw[hrun]
 obtain ⟨es,pl,h1,h2,h3,h4⟩:=callee_mem hm A vs args' 0 (AOk_mono hsub hA) hl
 have hmC:=callee_rel hm.below.gok h2 h3 (Nat.le_trans hlen hnt)
 obtain ⟨C,hC,hn,hev⟩:=hev0 es
 unfold fnMS fnM at hev
 rw[evK_eq,oK_some]at hev
 obtain ⟨⟨e,s'⟩,he1,he2⟩:=hev
 obtain ⟨vC,he3,he4⟩:∃vC,endK C.T fn e s' some none=some vC∧expK C.T (look s'.mem) id vC (fun v l=>some (v,l)) none=some (v,l):=by
  unfold endK at he2 ⊢
  have key:∀lr:List ResultVar,resK C.T s' lr (fun vs=>oneK vs fun v=>expK C.T (look s'.mem) id v (fun v l=>some (v,l)) none) none=some (v,l)->∃vC,resK C.T s' lr (fun vs=>oneK vs some) none=some vC∧expK C.T (look s'.mem) id vC (fun v l=>some (v,l)) none=some (v,l):=by
   intro lr hh
   have e1:resK C.T s' lr (fun vs=>oneK vs fun v=>expK C.T (look s'.mem) id v (fun v l=>some (v,l)) none) none=oK (resK C.T s' lr (fun vs=>oneK vs some) none) (fun v=>expK C.T (look s'.mem) id v (fun v l=>some (v,l)) none) none:=by
    rw[resK_nat (fun o:Option Value=>oK o (fun v=>expK C.T (look s'.mem) id v (fun v l=>some (v,l)) none) none)]
    congr 1;funext vs
    exact(oneK_nat (fun o:Option Value=>oK o (fun v=>expK C.T (look s'.mem) id v (fun v l=>some (v,l)) none) none) vs some).symm
   rw[e1]at hh
   exact oK_some.1 hh
  cases e<;>simp only at he2 ⊢<;>first|exact key _ he2|(simp at he2;done)
 refine Calls.mono (fn_mem hC hf hb hn hmC h4 (by rw[cArgs_len];exact hlen) he1 he3) ?_
 rintro ex w' ⟨R',v',rfl,hvv,hvt,hm'⟩
 show ∃R2:Nat->Pl->Prop,_∧_∧_
 have hX:∀k,¬(⟨w,fun _=>False,fun i p=>∃j,i=argId j∧pl j=some p⟩:Wb (lay P)).X k:=fun _ h=>h
 have h8:nid id 0<nid id 8:=by unfold nid;omega
 have hbel:Below w.heap.size w w':=hm'.below.below hX
  -- no new row
 have none_case:l=[]->expK C.T (look s'.mem) id vC (fun v l=>some (v,l)) none=some (v,[])->∃R2:Nat->Pl->Prop,(∀i p,R i p->R2 i p)∧V2 R2 v v'∧MRel w0 R2 (memF fm []) w':=by
  intro _ he
  refine⟨R,fun _ _ h=>h,?_,hm.world hbel⟩
  unfold expK at he
  split at he
  ·rename_i ws
   obtain ⟨us,l2,hu,he⟩:=expL_some.1 he
   simp only[Option.some.injEq,Prod.mk.injEq]at he
   obtain ⟨rfl,rfl⟩:=he
   obtain ⟨vs',rfl,hl2⟩:=hvt ws rfl
   obtain ⟨j1,j2⟩:=expL_nil hm' hl2 hu
   refine⟨vs',rfl,?_⟩
   rw[j2,List.toList_toArray]
   exact(LR_plain (r:=V1 R) (pl:=pl1) (fun _ _ hv=>V1_plain hv) j1).2 rfl
  ·rename_i hnt
   have hv2:=hvv hnt
   have:=expL_nil (T:=C.T) (id:=id) hm' (vs:=[vC]) (us:=[v]) (vs':=[v']) ⟨hv2,trivial⟩ (by
    simp only[expL]
    exact expV_some.2 ⟨v,[],he,rfl⟩)
   obtain ⟨j1,j2⟩:=this
   simp only[List.all_cons,List.all_nil,Bool.and_true]at j1
   simp only[List.cons.injEq,and_true]at j2
   subst j2
   exact V2_of_V1 ((V1_plain j1).2 rfl)
 rcases hl1 with rfl|⟨blk,rfl⟩
 ·exact none_case rfl he4
 ·have hid:fm (nid id 0)=none:=(hnew _ (List.mem_singleton.2 rfl)).1 ⟨Nat.le_refl _,h8⟩
  unfold expK at he4
  split at he4
  ·rename_i ws
   obtain ⟨us,l2,hu,he⟩:=expL_some.1 he4
   simp only[Option.some.injEq,Prod.mk.injEq]at he
   obtain ⟨rfl,rfl⟩:=he
   obtain ⟨vs',rfl,hl2⟩:=hvt ws rfl
   obtain ⟨R2,j1,j2,j3⟩:=expL_ok hm hm' rfl hX hid hlt hl2 hu
   exact⟨R2,j1,⟨vs',rfl,by rw[List.toList_toArray];exact j2⟩,j3⟩
  ·rename_i hnt
   have hv2:=hvv hnt
   rcases expV_ok hm hm' rfl hX hid hlt hv2 he4 with⟨h0,_⟩|⟨R2,j1,j2,_,j4⟩
   ·simp at h0
   ·exact⟨R2,j1,j2,j4⟩
theorem msum_of {C:Cfg}{c:Code}(hC:CfgOk P C c){g:FuncId}{fn:Func}(hf:P.funcs[g]?=some fn) (hname:(fn.name=="runtime.NumGoroutine")=false) (hb:fn.body=some c) (hn:C.n=fn.ntmps){fuel next:Nat}
  {F:List Value->(Nat->Option Blk)->Nat->List (Bool×Value×List (Nat×Blk))}
  (h:∀vs mm id v l,pickM (F vs mm id)=some (v,l)->id<60000->∃A:List Arg,AOk mm vs A∧A.length<=fn.ntmps∧(l=[]∨∃blk,l=[(nid id 0,blk)])∧∀es,fnMS C fuel fn c (cArgs A 0) (cMem es A 0) next id=some (v,l)) (hnt:fn.ntmps<=900000000:=by decide +kernel):MSum P g F:=by
 intro w0 R fm w hm vs args' hl mm hsub id hlt v l hpick hnew
 obtain ⟨A,hA,hlen,hl1,hev⟩:=h vs mm id v l hpick hlt
 exact msum_at hf hname hb hm hl hsub hlt hA hlen hl1 hnew (fun es=>⟨C,hC,hn,hev es⟩) hnt
end
end Go.W

namespace Go.W
theorem negS_ok {p:RP}(h:ckR p=true):negS p=ngR p:=by unfold negS;rw[hide_eq,ngR_ok h]
theorem lt6_0:lt6 0:=by unfold lt6;decide
end Go.W

namespace Go.W
def TrnF:List Value->Option (Bool×Value)
 | [a]=>some (isNum a,sv (num 0) a)
 | _=>none
def LowPF:List Value->Option (Bool×Value)
 | [a]=>some (isNum a,.bool (decide (unnum a<pP)))
 | _=>none
def sqN (X:Nat):Nat:=ap (mp (mp X X) X) 7
def SqAF:List Value->Option (Bool×Value)
 | [a]=>some (isNum a,num (sqN (unnum a)))
 | _=>none
def sqT (x:Value):Option Value:=m2 x x fun b=>m2 b x fun c=>a2 c (num 7) fun d=>some d
theorem lt6_7:lt6 7:=by unfold lt6;decide
theorem sqT_eq {X:Nat}(hX:lt6 X):sqT (num X)=some (num (sqN X)):=by
 unfold sqT;simp only[m2_num,a2_num,mp_l,hX,lt6_7];rfl
def lowPT (x:Value):Option Value:=r2 x (num (primeN 0))<|some (.bool (decide (cI x (num (primeN 0))<0)))
theorem lowPT_eq {X:Nat}(hX:lt6 X):lowPT (num X)=some (.bool (decide (X<pP))):=by
 have hp:pP<2^256:=by decide
 unfold lowPT;rw[prime0,r2_num,cI_lt hX hp]
theorem eqV_pt {r s:RP}(h:okR r) (h2:okR s):eqV (ptV r) (ptV s)=decide (r=s):=by
 obtain ⟨i,X,Y⟩:=r
 obtain ⟨j,A,B⟩:=s
 have e:eqV (ptV (i,X,Y)) (ptV (j,A,B))=((i==j)&&(eqV (num X) (num A)&&eqV (num Y) (num B))):=by
  show((i==j)&&eqL [u64 (dig X 0),u64 (dig X 1),u64 (dig X 2),u64 (dig X 3),u64 (dig Y 0),u64 (dig Y 1),u64 (dig Y 2),u64 (dig Y 3)] [u64 (dig A 0),u64 (dig A 1),u64 (dig A 2),u64 (dig A 3),u64 (dig B 0),u64 (dig B 1),u64 (dig B 2),u64 (dig B 3)])=
   ((i==j)&&(eqL [u64 (dig X 0),u64 (dig X 1),u64 (dig X 2),u64 (dig X 3)] [u64 (dig A 0),u64 (dig A 1),u64 (dig A 2),u64 (dig A 3)]&&eqL [u64 (dig Y 0),u64 (dig Y 1),u64 (dig Y 2),u64 (dig Y 3)] [u64 (dig B 0),u64 (dig B 1),u64 (dig B 2),u64 (dig B 3)]))
  simp only[eqL_u64,eqL,Bool.and_true,Bool.and_assoc]
 rw[e,eqV_num,eqV_num,Nat.mod_eq_of_lt h.1,Nat.mod_eq_of_lt h.2,Nat.mod_eq_of_lt h2.1,Nat.mod_eq_of_lt h2.2,Bool.eq_iff_iff]
 simp only[Bool.and_eq_true,beq_iff_eq,decide_eq_true_eq,Prod.mk.injEq]
def isPT (i:Bool) (x y:Value):Option Value:=
 bif i then some (.bool (eqV (pt3 i x y) (ptV (true,0,0)))) else
  req (isNum x)<|bif decide (unnum x<pP) then (req (isNum y)<|bif decide (unnum y<pP) then (m2 y y fun a=>req (isNum x)<|some (.bool (eqV a (num (sqN (unnum x)))))) else fls) else fls
theorem isPT_eq {i:Bool}{X Y:Nat}(hX:lt6 X) (hY:lt6 Y):isPT i (num X) (num Y)=some (.bool (ckR (i,X,Y))):=by
 unfold isPT ckR
 cases i with
 | true=>
  rw[if_pos rfl,cond_true,pt3_num,eqV_pt (r:=(true,X,Y)) (s:=(true,0,0)) ⟨hX,hY⟩ ⟨lt6_0,lt6_0⟩]
  congr 2
  rw[Bool.eq_iff_iff,decide_eq_true_eq,decide_eq_true_eq]
  constructor
  ·intro e;exact⟨(Prod.mk.inj (Prod.mk.inj e).2).1,(Prod.mk.inj (Prod.mk.inj e).2).2⟩
  ·rintro ⟨h1,h2⟩;rw[show X=0 from h1,show Y=0 from h2]
 | false=>
  rw[if_neg Bool.false_ne_true,cond_false,isNum_num,isNum_num,req_true rfl,req_true rfl,unnum_lt hX,unnum_lt hY,m2_num hY hY,req_true rfl]
  by_cases h1:X<pP
  ·rw[decide_eq_true h1,cond_true]
   by_cases h2:Y<pP
   ·rw[decide_eq_true h2,cond_true,eqV_num,Nat.mod_eq_of_lt (mp_l _ _),Nat.mod_eq_of_lt (show sqN X<2^256 from ap_l _ _)]
    congr 2
    rw[Bool.eq_iff_iff,decide_eq_true_eq,decide_eq_true_eq]
    exact⟨fun h=>⟨h1,h2,h⟩,fun h=>h.2.2⟩
   ·rw[decide_eq_false h2,show decide (X<pP∧Y<pP∧mp Y Y=ap (mp (mp X X) X) 7)=false from decide_eq_false (fun h=>h2 h.2.1)];rfl
  ·rw[decide_eq_false h1,show decide (X<pP∧Y<pP∧mp Y Y=ap (mp (mp X X) X) 7)=false from decide_eq_false (fun h=>h1 h.1)];rfl
section
variable {P0:Nat} [NeZero P0]
theorem d1 (x y:Fin P0):(x*x+(x*x+x*x))*(x*x+(x*x+x*x))-(x*((y+y)*(y+y))+x*((y+y)*(y+y)))=twX x y:=by unfold twX;grind
theorem d2 (x y:Fin P0):(x*x+(x*x+x*x))*(x*((y+y)*(y+y))-twX x y)-(y+y)*(y+y)*(y+y)*y=twY x y:=by unfold twY;generalize twX x y=w;grind
theorem d3 (y z:Fin P0):(y+y)*z=twZ y z:=by unfold twZ;grind
end
section
variable {P0:Nat} [NeZero P0]
theorem p1 (x2 z x:Fin P0):x2*(z*z)-x=plU x2 z-plU x 1:=by unfold plU;grind
theorem p2 (y2 z y:Fin P0):y2*(z*(z*z))-y=plS y2 z-plS y 1:=by unfold plS;grind
theorem p3 (x h r:Fin P0):r*r-h*(h*h)-(x*(h*h)+x*(h*h))=plX (plU x 1) h r:=by unfold plX plU;grind
theorem p4 (x y h r w:Fin P0):r*(x*(h*h)-w)-y*(h*(h*h))=r*(plU x 1*(h*h)-w)-plS y 1*(h*h*h):=by unfold plU plS;grind
theorem p5 (z h:Fin P0):z*h=plZ h z 1:=by unfold plZ;grind
end
def chkT (p:Value):Option Value:=req (isPt p)<|bif ckR (unPt p) then some (i64 0) else some (i64 3)
theorem chkT_eq {p:RP}(hp:okR p):chkT (ptV p)=some (i64 (errP (ckR p))):=by
 unfold chkT;rw[isPt_ptV,req_true rfl,unPt_ptV hp];cases ckR p<;>rfl
end Go.W

namespace Go.W
def infR:RP:=(true,0,0)
end Go.W

namespace Go.W
def kB:List CK:=[.i .u8]
def bI (f:Nat->List Value) (j:Nat):Int:=toI ((f j).headD (.bool false))
theorem nrm_kB (f:Nat->List Value) (j:Nat):nrmK kB (f j)=[.int .u8 (bI f j)]:=rfl
def aSl (k n:Nat):Value:=.slice (some ⟨1500000+k,0,none⟩) n n
noncomputable def eqR (n:Nat) (f:Nat->List Value) (m:Nat) (g:Nat->List Value):Bool:=@decide (n=m∧∀j,j<n->bI f j=bI g j) (Classical.propDecidable _)
theorem eqR_iff {n m:Nat}{f g:Nat->List Value}:eqR n f m g=true↔n=m∧∀j,j<n->bI f j=bI g j:=by
 unfold eqR
 exact⟨fun h=>@of_decide_eq_true _ (Classical.propDecidable _) h,fun h=>@decide_eq_true _ (Classical.propDecidable _) h⟩
noncomputable def KbF:List Value->(Nat->Option Blk)->Nat->List (Bool×Value×List (Nat×Blk))
 | [a,b],mm,_=>[((srcB mm kB a).1&&(srcB mm kB b).1&&Nat.ble (srcB mm kB a).2.1 9223372036854775807,.bool (eqR (srcB mm kB a).2.1 (srcB mm kB a).2.2 (srcB mm kB b).2.1 (srcB mm kB b).2.2),[])]
 | _,_,_=>[]
theorem pick_one {b:Bool}{v u:Value}{l m:List (Nat×Blk)}(h:pickM [(b,v,l)]=some (u,m)):b=true∧u=v∧m=l:=by
 simp only[pickM]at h
 obtain ⟨h1,h2⟩:=cond_some.1 h
 cases h2;exact⟨h1,rfl,rfl⟩
def kbR {α:Type}(n:Nat) (f:Nat->List Value) (m:Nat) (g:Nat->List Value) (i:Int) (next ret out:Option α):Option α:=
 bif decide (i<(n:Int)) then (req (inR i n)<|req (Nat.blt i.toNat n&&true)<|req (inR i m)<|req (Nat.blt i.toNat m&&true)<|bif bI f (0+i.toNat) != bI g (0+i.toNat) then ret else next) else out
theorem kbR_eq {α:Type}{n:Nat}{f g:Nat->List Value}{k:Nat}(hk:k<n) (next ret out:Option α):kbR n f n g (k:Int) next ret out=if bI f k=bI g k then next else ret:=by
 unfold kbR
 have h1:inR (k:Int) n=true:=by unfold inR;simp only[Bool.and_eq_true,decide_eq_true_eq];omega
 have h2:Nat.blt ((k:Int)).toNat n=true:=by rw[Nat.blt_eq];omega
 rw[decide_eq_true (by omega),cond_true,h1,h2,Bool.and_true,req_true rfl,req_true rfl,req_true rfl,req_true rfl,Nat.zero_add,Int.toNat_natCast]
 by_cases h:bI f k=bI g k
 ·rw[if_pos h,h,bne_self_eq_false];rfl
 ·rw[if_neg h,bne_iff_ne.2 h];rfl
theorem kbR_out {α:Type}{n:Nat}{f g:Nat->List Value}(next ret out:Option α):kbR n f n g (n:Int) next ret out=out:=by
 unfold kbR
 rw[decide_eq_false (by omega)];rfl
theorem first_diff {n:Nat}{f g:Nat->List Value}(h:¬∀j,j<n->bI f j=bI g j):∃k,k<n∧bI f k≠bI g k∧∀j,j<k->bI f j=bI g j:=by
 induction n with
 | zero=>exact absurd (fun j hj=>by omega) h
 | succ n ih=>
  by_cases h1:∀j,j<n->bI f j=bI g j
  ·refine⟨n,by omega,fun e=>h (fun j hj=>?_),h1⟩
   rcases Nat.lt_or_ge j n with h2|h2
   ·exact h1 j h2
   ·have:j=n:=by omega
    rw[this];exact e
  ·obtain ⟨k,h2,h3,h4⟩:=ih h1
   exact⟨k,by omega,h3,h4⟩
def twF (f:Nat->List Value):Nat->List Value:=fun j=>nrmK kB (f (0+j))
theorem bI_tw (f:Nat->List Value) (j:Nat):bI (twF f) j=bI f j:=by show bI f (0+j)=bI f j;rw[Nat.zero_add]
def TwnF (e:Nat):List Value->(Nat->Option Blk)->Nat->List (Bool×Value×List (Nat×Blk))
 | [a],mm,id=>[((srcB mm kB a).1&&szOk (srcB mm kB a).2.1 1,.slice (some ⟨nid id 0,0,none⟩) (srcB mm kB a).2.1 (srcB mm kB a).2.1,[(nid id 0,⟨.row kB (srcB mm kB a).2.1 (twF (srcB mm kB a).2.2),e,true⟩)])]
 | _,_,_=>[]
end Go.W

namespace Go.W
open Go.RowKit (Below)
section
variable {P:Program}{w:World}
def SrcW (w:World) (ks:List CK) (n:Nat) (g:Nat->List Value) (v':Value):Prop:=∃(p:Pl) (e:TypeId),n<=p.c∧(match p.a with
   | some b=>v'=.slice (some ⟨b,p.d,none⟩) n p.c∧∃cs fz,w.heap[b]?=some (.cells cs e fz)∧LP (fun _ _=>False) (rowL ks g 0 n) (cs.toList.drop p.d)
   | none=>n=0∧p.c=0∧p.d=0∧Emp v')
def fnA (C:Cfg) (fuel:Nat) (fn:Func) (c:Code) (args:List Value) (mem:List (Nat×Blk)) (next:Nat):Option Value:=evK C fuel [] c ⟨argSlots 0 args,mem,next⟩ (fun e s=>endK C.T fn e s some none) none
end
theorem take_rowL {f:Nat->List Value}:∀(n lo:Nat) (l:List Value),(∀i,i<n->l[i]?=some (.int .u8 (bI f (lo+i))))->l.take n=rowL kB f lo n
 | 0,_,_,_=>rfl
 | n+1,lo,l,h=>by
  cases l with
  | nil=>have:=h 0 (by omega);simp at this
  | cons x l=>
   have h0:=h 0 (by omega)
   simp only[List.getElem?_cons_zero,Option.some.injEq,Nat.add_zero]at h0
   have ih:=take_rowL n (lo+1) l (fun i hi=>by
    have:=h (i+1) (by omega)
    rw[List.getElem?_cons_succ]at this
    rw[this,Nat.add_assoc,Nat.add_comm 1 i])
   rw[List.take_succ_cons,rowL,nrm_kB,ih,h0];rfl
theorem wf_u8 {x:Int}(h:(Lit.int .u8 x).wf=true):∃n:Nat,n<256∧x=n:=by
 simp only[Lit.wf,decide_eq_true_eq,Bool.and_eq_true]at h
 have h1:(IntKind.u8.min:Int)=0:=rfl
 have h2:(IntKind.u8.max:Int)=255:=rfl
 rw[h1,h2]at h
 exact⟨x.toNat,by omega,by omega⟩
section
variable {P:Program}{H:Type}{enc:TypeId×Value->H}{W:World}{base b0:Nat}{sp:Nat->Bool}{held:Bool}{r:Reach}{t e:TypeId}{v:Value}{d:DataW H}{p:List MemPlace}
open Go.ChangeShapes Go.WideShapes
theorem open_bytes (ht:P.underlying t=some (.slice e)) (he:P.underlying e=some (.int .u8)) (hce:P.cellsOf e=1) (hv:Value.okWide P W r base t v) (h:DataW.Trod enc P W b0 sp held t v d p):
  ∃n f,SrcW W kB n f v∧∀i,∃x:Nat,x<256∧f i=[.int .u8 (x:Int)]:=by
 obtain ⟨a0,len,cap,rfl⟩:=okWide_slice ht hv
 obtain ⟨fuel,hf⟩:=h
 have hv':Cell.ok P W r base t (.slice a0 len cap):=by
  unfold Value.okWide at hv;rw[ht]at hv
  simp only[Cell.okWide,ht]at hv
  exact hv
 rcases open_ints ht he hce hf with⟨h1,_⟩|⟨a,len',cap',zs,h1,_,hl,_,hz,_,hcell,hwf⟩
 ·have h1:Value.slice a0 len cap=.slice none 0 0:=by simpa [Value.cells] using h1
  cases h1
  exact⟨0,fun _=>[.int .u8 ((0:Nat):Int)],⟨⟨none,0,0⟩,0,Nat.le_refl _,rfl,rfl,rfl,none,rfl⟩,fun _=>⟨0,by omega,rfl⟩⟩
 ·have h1:Value.slice a0 len cap=.slice (some a) len' cap':=by simpa [Value.cells] using h1
  cases h1
  unfold Cell.ok at hv'
  rw[ht]at hv'
  obtain ⟨_,_,_,hs,row,cells,hsh,_⟩:=hv'
  have hlz:len<=zs.length:=by rw[hz];split<;>omega
  obtain ⟨cs,fz,hb⟩:∃cs fz,W.heap[a.block]?=some (.cells cs row fz):=by
   unfold World.shape? at hsh
   split at hsh
   ·rename_i c e1 fz hb
    simp only[Option.some.injEq,Prod.mk.injEq]at hsh
    obtain ⟨rfl,_⟩:=hsh
    exact⟨c,fz,hb⟩
   ·cases hsh
  refine⟨len,fun i=>[.int .u8 (zs.getD i 0)],⟨⟨some a.block,a.off,cap⟩,row,hl,?_,cs,fz,hb,?_⟩,?_⟩
  ·obtain ⟨bl,off,spot⟩:=a
   simp only at hs;subst hs;rfl
  ·refine LP_plain (rowL_pl _ _ _ _) ?_
   rw[rowL_len,show len*kB.length=len from Nat.mul_one _]
   refine take_rowL len 0 _ (fun i hi=>?_)
   have:=hcell i (by omega)
   unfold World.cell? at this
   rw[block_add,hb]at this
   simp only at this
   split at this
   ·cases this
   ·rw[List.getElem?_drop,Array.getElem?_toList,Nat.zero_add]
    have eo:(a.add i).off=a.off+i:=by unfold Addr.add;split<;>simp_all
    rw[eo]at this;exact this
  ·intro i
   by_cases hi:i<zs.length
   ·have hm:zs.getD i 0∈zs:=by
     simp only[List.getD,List.getElem?_eq_getElem hi,Option.getD_some];exact List.getElem_mem hi
    obtain ⟨x,hx,e1⟩:=wf_u8 (hwf _ hm)
    exact⟨x,hx,by simp only[e1]⟩
   ·refine⟨0,by omega,?_⟩
    have:zs.getD i 0=0:=by simp[List.getD,List.getElem?_eq_none (show zs.length<=i by omega)]
    simp only[this];rfl
end
end Go.W

namespace Go.W
def w32 (X:Nat):Value:=.int .u32 (X:Int)
def rotN (X n:Nat):Nat:=(X*2^(32-n)%4294967296) ||| (X / 2^n)
theorem szOk_small {n:Nat}(h:n<=2000000):szOk n 1=true:=by unfold szOk;rw[Nat.ble_eq];omega
end Go.W

namespace Go.W
def ad (a b:Nat):Nat:=(a+b)%4294967296
def ntN (a:Nat):Nat:=4294967295 ^^^ a
def kL:List Nat:=[1116352408,1899447441,3049323471,3921009573,961987163,1508970993,2453635748,2870763221,3624381080,310598401,607225278,1426881987,1925078388,2162078206,2614888103,3248222580,3835390401,4022224774,264347078,604807628,770255983,1249150122,1555081692,1996064986,2554220882,2821834349,2952996808,3210313671,3336571891,3584528711,113926993,338241895,666307205,773529912,1294757372,1396182291,1695183700,1986661051,2177026350,2456956037,2730485921,2820302411,3259730800,3345764771,3516065817,3600352804,4094571909,275423344,430227734,506948616,659060556,883997877,958139571,1322822218,1537002063,1747873779,1955562222,2024104815,2227730452,2361852424,2428436474,2756734187,3204031479,3329325298]
def kN (t:Nat):Nat:=kL.getD t 0
def s0N (x:Nat):Nat:=rotN x 7 ^^^ rotN x 18 ^^^ (x / 2^3)
def s1N (x:Nat):Nat:=rotN x 17 ^^^ rotN x 19 ^^^ (x / 2^10)
def S0N (x:Nat):Nat:=rotN x 2 ^^^ rotN x 13 ^^^ rotN x 22
def S1N (x:Nat):Nat:=rotN x 6 ^^^ rotN x 11 ^^^ rotN x 25
def chN (e f g:Nat):Nat:=(e &&& f) ^^^ (ntN e &&& g)
def maN (a b c:Nat):Nat:=(a &&& b) ^^^ (a &&& c) ^^^ (b &&& c)
def wdN (a b c d:Nat):Nat:=((a*2^24%4294967296) ||| (b*2^16%4294967296) ||| (c*2^8%4294967296)) ||| d
def nxN (w16 w15 w7 w2:Nat):Nat:=ad (ad (ad (s1N w2) w7) (s0N w15)) w16
def wNew (B:Nat->Nat) (t:Nat) (l:List Nat):Nat:=bif Nat.blt t 16 then wdN (B (4*t)) (B (4*t+1)) (B (4*t+2)) (B (4*t+3)) else nxN (l.getD 15 0) (l.getD 14 0) (l.getD 6 0) (l.getD 1 0)
def wL (B:Nat->Nat):Nat->List Nat
 | 0=>[]
 | t+1=>wNew B t (wL B t)::wL B t
def wT (B:Nat->Nat) (t:Nat):Nat:=wNew B t (wL B t)
structure S8 where
 a:Nat
 b:Nat
 c:Nat
 d:Nat
 e:Nat
 f:Nat
 g:Nat
 h:Nat
def S8.ok (s:S8):Prop:=s.a<4294967296∧s.b<4294967296∧s.c<4294967296∧s.d<4294967296∧s.e<4294967296∧s.f<4294967296∧s.g<4294967296∧s.h<4294967296
def t1N (s:S8) (k w:Nat):Nat:=ad (ad (ad (ad s.h (S1N s.e)) (chN s.e s.f s.g)) k) w
def t2N (s:S8):Nat:=ad (S0N s.a) (maN s.a s.b s.c)
def rnd (k w:Nat) (s:S8):S8:=⟨ad (t1N s k w) (t2N s),s.a,s.b,s.c,ad s.d (t1N s k w),s.e,s.f,s.g⟩
def rnds (W:Nat->Nat) (s:S8):Nat->S8
 | 0=>s
 | t+1=>rnd (kN t) (W t) (rnds W s t)
def adS (s v:S8):S8:=⟨ad s.a v.a,ad s.b v.b,ad s.c v.c,ad s.d v.d,ad s.e v.e,ad s.f v.f,ad s.g v.g,ad s.h v.h⟩
theorem mix_ex (s:S8) (B:Nat->Nat):∃x,x=adS s (rnds (wT B) s 64):=⟨_,rfl⟩
noncomputable def mixN (s:S8) (B:Nat->Nat):S8:=Classical.choose (mix_ex s B)
noncomputable def hs (s:S8) (B:Nat->Nat):Nat->S8
 | 0=>s
 | k+1=>mixN (hs s B k) (fun j=>B (64*k+j))
def S8.at(s:S8):Nat->Nat
 | 0=>s.a
 | 1=>s.b
 | 2=>s.c
 | 3=>s.d
 | 4=>s.e
 | 5=>s.f
 | 6=>s.g
 | _=>s.h
def h0:S8:=⟨1779033703,3144134277,1013904242,2773480762,1359893119,2600822924,528734635,1541459225⟩
end Go.W

namespace Go.W
def z8:Value:=.int .u8 0
def w8 (s:S8):List Value:=[w32 s.a,w32 s.b,w32 s.c,w32 s.d,w32 s.e,w32 s.f,w32 s.g,w32 s.h]
end Go.W

namespace Go.W
def S8.beq (s t:S8):Bool:=Nat.beq s.a t.a&&Nat.beq s.b t.b&&Nat.beq s.c t.c&&Nat.beq s.d t.d&&Nat.beq s.e t.e&&Nat.beq s.f t.f&&Nat.beq s.g t.g&&Nat.beq s.h t.h
theorem bI_lst {l:List Value}{j:Nat}{x:Int}(h:l[j]?=some (.int .u8 x)):bI (lstF l 0 1) j=x:=by
 show toI (((l.drop (0+j*1)).take 1).headD (.bool false))=x
 rw[Nat.zero_add,Nat.mul_one]
 have hlt:j<l.length:=by
  rcases Nat.lt_or_ge j l.length with h1|h1
  ·exact h1
  ·rw[List.getElem?_eq_none h1]at h;simp at h
 rw[List.drop_eq_getElem_cons hlt]
 rw[List.getElem?_eq_getElem hlt]at h
 rw[Option.some.inj h];rfl
def sgF (n:Nat) (f:Nat->List Value):Nat->List Value:=segF ⟨0,0,n,kB,n,f,0,false,[]⟩
theorem bI_sg (n:Nat) (f:Nat->List Value) (j:Nat):bI (sgF n f) j=bI f j:=by show bI f (0+j)=bI f j;rw[Nat.zero_add]
end Go.W

namespace Go.W
theorem bI_cpy (f:Nat->List Value) (m:Nat) (g:Nat->List Value) (j:Nat):bI (cpyF f 0 m g) j=if j<m then bI g j else bI f j:=by
 by_cases hj:j<m
 ·rw[if_pos hj]
  show toI ((bif Nat.ble 0 j&&Nat.blt j (0+m) then g (j-0) else f j).headD _)=_
  rw[show(Nat.ble 0 j&&Nat.blt j (0+m))=true from by rw[Bool.and_eq_true,Nat.ble_eq,Nat.blt_eq];omega,cond_true,Nat.sub_zero];rfl
 ·rw[if_neg hj]
  show toI ((bif Nat.ble 0 j&&Nat.blt j (0+m) then g (j-0) else f j).headD _)=_
  rw[show(Nat.ble 0 j&&Nat.blt j (0+m))=false from by rw[Bool.eq_false_iff,ne_eq,Bool.and_eq_true,Nat.ble_eq,Nat.blt_eq];omega,cond_false];rfl
theorem blt_of {a b:Nat}(h:a<b):Nat.blt a b=true:=by rw[Nat.blt_eq];exact h
theorem bI_app (m:Nat) (f g:Nat->List Value) (j:Nat):bI (appF m f g) j=if j<m then bI f j else bI g (j-m):=by
 by_cases hj:j<m
 ·rw[if_pos hj]
  show toI ((bif Nat.blt j m then f j else g (j-m)).headD _)=_
  rw[blt_of hj,cond_true];rfl
 ·rw[if_neg hj]
  show toI ((bif Nat.blt j m then f j else g (j-m)).headD _)=_
  rw[show Nat.blt j m=false from by rw[Bool.eq_false_iff,ne_eq,Nat.blt_eq];exact hj,cond_false];rfl
end Go.W
