/-
  Several texts in one: M32 N14 M55 M58s M63 W22 W28 W31 W32 W33 W34 W27 W36 M33r M42 M77 M78 M87 M94 M65 W35 Ya M88 M89.
-/
import Derived.Test.YtckbmhegopjnmaaGreatZe
import Derived.KernelRfl
namespace Go.W
def nSl (id n:Nat):Value:=.slice (some ⟨nid id 0,0,none⟩) n n
def pbF (h:Value) (bs:List Value):Nat->List Value:=appF 1 (lstF [h] 0 1) (lstF bs 0 1)
def rw1 (e id n:Nat) (f:Nat->List Value):List (Nat×Blk):=[(nid id 0,⟨.row kB n f,e,true⟩)]
def cBytT (e id:Nat) (i:Bool) (x y:Value):Option (Value×List (Nat×Blk)) :=
 req (isPt (pt3 i x y)) <| bif !(ckR (unPt (pt3 i x y))) then some (.tuple #[.slice none 0 0,i64 3],[]) else
 bif i then some (.tuple #[nSl id 1,i64 0],rw1 e id 1 (lstF [.int .u8 0] 0 1)) else
 req (isNum x) <| req (isNum y) <| some (.tuple #[nSl id 33,i64 0],rw1 e id 33 (pbF (.int .u8 (IntKind.u8.wrap (IntKind.i64.wrap (2+bitI (unnum y) 0)))) (bytesL 32 (unnum x))))
def rBytT (e id:Nat) (i:Bool) (x:Value) (d:Nat):Option (Value×List (Nat×Blk)) :=
 bif i then some (nSl id 1,rw1 e id 1 (lstF [.int .u8 0] 0 1)) else
 req (isNum x) <| some (nSl id 33,rw1 e id 33 (pbF (.int .u8 (IntKind.u8.wrap (2+IntKind.u8.wrap (iAnd .u64 ((d:Nat):Int) 1)))) (bytesL 32 (unnum x))))
def hdY (Y:Nat):Value:=.int .u8 ((2+Y % 2:Nat):Int)
def CBytF (e:Nat):List Value->(Nat->Option Blk)->Nat->List (Bool×Value×List (Nat×Blk))
 | [p],_,id=>[(isPt p&&!(ckR (unPt p)),.tuple #[.slice none 0 0,i64 3],[]),(isPt p&&(unPt p).1,.tuple #[nSl id 1,i64 0],rw1 e id 1 (lstF [.int .u8 0] 0 1)),(isPt p,.tuple #[nSl id 33,i64 0],rw1 e id 33 (pbF (hdY (unPt p).2.2) (bytesL 32 (unPt p).2.1)))]
 | _,_,_=>[]
def RBytF (e:Nat):List Value->(Nat->Option Blk)->Nat->List (Bool×Value×List (Nat×Blk))
 | [p],_,id=>[(isPt p&&(unPt p).1,nSl id 1,rw1 e id 1 (lstF [.int .u8 0] 0 1)),(isPt p,nSl id 33,rw1 e id 33 (pbF (hdY (unPt p).2.2) (bytesL 32 (unPt p).2.1)))]
 | _,_,_=>[]
theorem CBytF_eq (e:Nat) (p:Value) (mm:Nat->Option Blk) (id:Nat):CBytF e [p] mm id=[(isPt p&&!(ckR (unPt p)),.tuple #[.slice none 0 0,i64 3],[]),(isPt p&&(unPt p).1,.tuple #[nSl id 1,i64 0],rw1 e id 1 (lstF [.int .u8 0] 0 1)),(isPt p,.tuple #[nSl id 33,i64 0],rw1 e id 33 (pbF (hdY (unPt p).2.2) (bytesL 32 (unPt p).2.1)))]:=rfl
theorem RBytF_eq (e:Nat) (p:Value) (mm:Nat->Option Blk) (id:Nat):RBytF e [p] mm id=[(isPt p&&(unPt p).1,nSl id 1,rw1 e id 1 (lstF [.int .u8 0] 0 1)),(isPt p,nSl id 33,rw1 e id 33 (pbF (hdY (unPt p).2.2) (bytesL 32 (unPt p).2.1)))]:=rfl
theorem CBytF_one {e:Nat} {p v:Value} {mm:Nat->Option Blk} {id:Nat} {l:List (Nat×Blk)} (h:pickM (CBytF e [p] mm id)=some (v,l)):l=[]∨∃blk,l=[(nid id 0,blk)]:=by
 rw[CBytF_eq] at h
 simp only[pickM] at h
 cases h1:(isPt p&&!(ckR (unPt p))) with
 | true=>rw[h1,cond_true] at h;exact .inl (congrArg Prod.snd (Option.some.inj h)).symm
 | false =>
  rw[h1,cond_false] at h
  cases h2:(isPt p&&(unPt p).1) with
  | true=>rw[h2,cond_true] at h;exact .inr ⟨_,(congrArg Prod.snd (Option.some.inj h)).symm⟩
  | false =>
   rw[h2,cond_false] at h
   cases h3:isPt p with
   | true=>rw[h3,cond_true] at h;exact .inr ⟨_,(congrArg Prod.snd (Option.some.inj h)).symm⟩
   | false=>rw[h3,cond_false] at h;cases h
theorem RBytF_one {e:Nat} {p v:Value} {mm:Nat->Option Blk} {id:Nat} {l:List (Nat×Blk)} (h:pickM (RBytF e [p] mm id)=some (v,l)):l=[]∨∃blk,l=[(nid id 0,blk)]:=by
 rw[RBytF_eq] at h
 simp only[pickM] at h
 cases h2:(isPt p&&(unPt p).1) with
 | true=>rw[h2,cond_true] at h;exact .inr ⟨_,(congrArg Prod.snd (Option.some.inj h)).symm⟩
 | false =>
  rw[h2,cond_false] at h
  cases h3:isPt p with
  | true=>rw[h3,cond_true] at h;exact .inr ⟨_,(congrArg Prod.snd (Option.some.inj h)).symm⟩
  | false=>rw[h3,cond_false] at h;cases h
theorem hd_c {Y:Nat} (h:lt6 Y):Value.int .u8 (IntKind.u8.wrap (IntKind.i64.wrap (2+bitI (unnum (num Y)) 0)))=hdY Y:=by
 have:=bitI_nat (A:=Y) (n:=0) (by omega)
 rw[show((0:Nat):Int)=0 from rfl] at this
 rw[unnum_lt h,this]
 unfold bitN hdY
 rw[Nat.pow_zero,Nat.div_one]
 rcases Nat.mod_two_eq_zero_or_one Y with h0 | h0<;>rw[h0]<;>rfl
theorem hd_r (Y:Nat):Value.int .u8 (IntKind.u8.wrap (2+IntKind.u8.wrap (iAnd .u64 ((dig Y 0:Nat):Int) 1)))=hdY Y:=by
 have e:iAnd .u64 ((dig Y 0:Nat):Int) 1=((Y % 2:Nat):Int):=by
  have:=iAnd_u (a:=dig Y 0) (b:=1) (dig_lt _ _) (by omega)
  rw[show((1:Nat):Int)=1 from rfl] at this
  rw[this,Nat.and_one_is_mod]
  unfold dig
  congr 1
  omega
 rw[e]
 unfold hdY
 rcases Nat.mod_two_eq_zero_or_one Y with h0 | h0<;>rw[h0]<;>rfl
theorem cBytT_eq {e id:Nat} {i:Bool} {X Y:Nat} (hX:lt6 X) (hY:lt6 Y):cBytT e id i (num X) (num Y)=pickM (CBytF e [ptV (i,X,Y)] (fun _=>none) id):=by
 unfold cBytT
 rw[CBytF_eq,pt3_num,isPt_ptV,req_true rfl,unPt_ptV (r:=(i,X,Y)) ⟨hX,hY⟩,isNum_num,isNum_num,req_true rfl,req_true rfl,hd_c hY,unnum_lt hX]
 cases hc:ckR (i,X,Y) with
 | false=>rfl
 | true =>
  cases i with
  | true=>rfl
  | false=>rfl
theorem rBytT_eq {e id:Nat} {i:Bool} {X Y:Nat} (hX:lt6 X) (hY:lt6 Y):rBytT e id i (num X) (dig Y 0)=pickM (RBytF e [ptV (i,X,Y)] (fun _=>none) id):=by
 unfold rBytT
 rw[RBytF_eq,isPt_ptV,unPt_ptV (r:=(i,X,Y)) ⟨hX,hY⟩,isNum_num,req_true rfl,hd_r,unnum_lt hX]
 cases i with
 | true=>rfl
 | false=>rfl
def b32V (f:Nat->List Value):Value:=.agg (rowL kB f 1 32).toArray
def rdX (X:Nat) (b:Int):RP×Int :=
 if X<pP then (if rootIs (sqN X)=true then ((false,X,if b=3 then sp 0 (rootNum (sqN X)) else rootNum (sqN X)),0) else (zR,3)) else (zR,2)
noncomputable def rdS (n:Nat) (f:Nat->List Value):RP×Int :=
 hide (if n=1∧bI f 0=0 then (infR,0) else if n=33∧(bI f 0=2∨bI f 0=3) then rdX (unbytes (b32V f)) (bI f 0) else (zR,7))
def rdOk (n:Nat) (f:Nat->List Value):Bool:=!(Nat.beq n 33)||isB32 (b32V f)
noncomputable def rdV (n:Nat) (f:Nat->List Value):Value:=.tuple #[ptV (rdS n f).1,i64 (rdS n f).2]
noncomputable def RdF:List Value->(Nat->Option Blk)->Nat->List (Bool×Value×List (Nat×Blk))
 | [v],mm,_=>[((srcB mm kB v).1&&rdOk (srcB mm kB v).2.1 (srcB mm kB v).2.2,rdV (srcB mm kB v).2.1 (srcB mm kB v).2.2,[])]
 | _,_,_=>[]
abbrev VL:=Value×List (Nat×Blk)
def eT (e:Int):Option VL:=some (.tuple #[ptV zR,i64 e],[])
def rdK (v:Value) (b0:Int):Option VL :=
 req (isB32 v) <| (fun X=>bif readE 0 X != 0 then eT (readE 0 X) else req (isNum (num (readN 0 X))) <| (fun A=>req (isNum (num A)) <| (fun B=>bif !(rootIs B) then eT 3 else
  bif b0==3 then req (isNum (num (rootNum B))) (some (.tuple #[pt3 false (num (readN 0 X)) (sv (num 0) (num (rootNum B))),i64 0],[])) else some (.tuple #[pt3 false (num (readN 0 X)) (num (rootNum B)),i64 0],[])) (unnum (num A))) (sqN (unnum (num (readN 0 X))))) (unbytes v)
def rd33 (b0:Int) (k:Option VL):Option VL:=bif b0 != 2 then (bif b0 != 3 then eT 7 else k) else k
def rd1 (b0:Int):Option VL:=bif b0==0 then some (.tuple #[ptV infR,i64 0],[]) else eT 7
theorem rootNum_lt (A:Nat):lt6 (rootNum A):=by
 unfold rootNum
 split
 ·split
  ·exact sp_l 0 _
  ·exact powN_lt qP_lt
 ·exact lt6_0
theorem rdK_eq {v:Value} (hv:isB32 v=true) {b0:Int}:rdK v b0=some (.tuple #[ptV (rdX (unbytes v) b0).1,i64 (rdX (unbytes v) b0).2],[]):=by
 obtain ⟨X,hX,rfl,h2⟩:=isB32_some hv
 unfold rdK rdX
 rw[hv,req_true rfl,h2]
 have ok:okW 0=true:=rfl
 have hp:primeN 0=pP:=prime0
 by_cases hlt:X<pP
 ·have e1:readE 0 X=0:=by unfold readE;rw[if_pos ok,hp,if_pos hlt]
  have e2:readN 0 X=X:=by unfold readN;rw[if_pos ok,hp,if_pos hlt]
  simp only[e1,e2,isNum_num,unnum_lt hX,unnum_lt (show lt6 (sqN X) from ap_l _ _),if_pos hlt]
  rw[req_true rfl,req_true rfl,req_true rfl]
  show(bif !(rootIs (sqN X)) then eT 3 else _)=_
  cases hr:rootIs (sqN X) with
  | false=>rfl
  | true =>
   rw[if_pos rfl,Bool.not_true,cond_false]
   unfold sv
   rw[unnum_lt lt6_0,unnum_lt (rootNum_lt _),pt3_num,pt3_num]
   by_cases h3:b0=3
   ·rw[if_pos h3,beq_iff_eq.2 h3];rfl
   ·rw[if_neg h3,beq_eq_false_iff_ne.2 h3];rfl
 ·have e1:readE 0 X=2:=by unfold readE;rw[if_pos ok,hp,if_neg hlt]
  simp only[e1,if_neg hlt]
  rfl
theorem rd_all {f:Nat->List Value} (E:Nat->Option VL) {n:Nat} {K:Option VL} (hs:rdOk n f=true) (h1:E 1=rd1 (bI f 0)) (h33:E 33=rd33 (bI f 0) K)
  (hK:isB32 (b32V f)=true->K=some (.tuple #[ptV (rdX (unbytes (b32V f)) (bI f 0)).1,i64 (rdX (unbytes (b32V f)) (bI f 0)).2],[])) (hless:∀n,n<33->n≠1->E n=eT 7) (hmore:∀k,E (k+34)=eT 7):E n=some (rdV n f,[]):=by
 unfold rdV rdS
 rw[hide_eq]
 by_cases e1:n=1
 ·subst e1
  rw[h1]
  unfold rd1
  by_cases h0:bI f 0=0
  ·rw[if_pos ⟨rfl,h0⟩,beq_iff_eq.2 h0];rfl
  ·rw[if_neg (fun h=>h0 h.2),if_neg (fun h=>absurd h.1 (by decide)),beq_eq_false_iff_ne.2 h0];rfl
 ·rw[if_neg (fun h=>e1 h.1)]
  by_cases e2:n=33
  ·subst e2
   have hb:isB32 (b32V f)=true:=by
    unfold rdOk at hs
    rw[Nat.beq_refl,Bool.not_true,Bool.false_or] at hs;exact hs
   rw[h33,hK hb]
   unfold rd33
   by_cases h2:bI f 0=2
   ·rw[if_pos ⟨rfl,.inl h2⟩,h2];rfl
   ·by_cases h3:bI f 0=3
    ·rw[if_pos ⟨rfl,.inr h3⟩,h3];rfl
    ·rw[if_neg (fun h=>h.2.elim h2 h3),bne_iff_ne.2 h2,bne_iff_ne.2 h3];rfl
  ·rw[if_neg (fun h=>e2 h.1)]
   rcases Nat.lt_or_ge n 33 with h | h
   ·exact hless n h e1
   ·obtain ⟨k,rfl⟩:∃k,n=k+34:=⟨n - 34,by omega⟩
    exact hmore k
end Go.W

namespace Go.W
def cg (a b:Int):Prop:=((pN:Nat):Int) ∣ a - b
end Go.W

namespace Go.W
theorem nrm_take:∀(ks:List CK) (l:List Value),nrmK ks (l.take ks.length)=nrmK ks l
 | [],_=>rfl
 | _::_,[]=>by rw[List.take_nil]
 | k::ks,a::l=>by
  show nrm1 k a::nrmK ks (l.take ks.length)=nrm1 k a::nrmK ks l
  rw[nrm_take ks l]
theorem lst0_row {ks:List CK} {L:List Value} (off:Nat):nrmK ks (lstF L off ks.length 0)=nrmK ks (L.drop off):=by
 show nrmK ks ((L.drop (off+0*ks.length)).take ks.length)=_
 rw[Nat.zero_mul,Nat.add_zero,nrm_take]
theorem app_row {ks:List CK} {g h:Nat->List Value} {m:Nat} {L:List Value} (hg:∀j,j<m->nrmK ks (g j)=nrmK ks (h j)) (hL:nrmK ks L=nrmK ks (h m)):∀j,j<m+1->nrmK ks (appF m g (lstF L 0 ks.length) j)=nrmK ks (h j):=by
 intro j hj
 unfold appF
 by_cases h1:j<m
 ·rw[bL h1,cond_true];exact hg j h1
 ·have:j=m:=by omega
  subst this
  rw[show Nat.blt j j=false from by rw[Bool.eq_false_iff,ne_eq,Nat.blt_eq];omega,cond_false,Nat.sub_self,lst0_row,List.drop_zero,hL]
end Go.W

namespace Go.W
theorem MSum_sub {P:Program} [Laid P] {g:FuncId} {F F':List Value->(Nat->Option Blk)->Nat->List (Bool×Value×List (Nat×Blk))} (h:MSum P g F) (hs:∀vs mm id v l,pickM (F' vs mm id)=some (v,l)->pickM (F vs mm id)=some (v,l)):MSum P g F':=by
 intro w0 R fm w hm vs args' hl mm hsub id hlt v l hpick hnew
 exact h w0 R fm w hm vs args' hl mm hsub id hlt v l (hs _ _ _ _ _ hpick) hnew
end Go.W

namespace Go.W
theorem ptF_congr {n:Nat} {V W:Nat->RP} (h:∀j,j<n->V j=W j):∀j,j<n->nrmK kP9 (ptF V j)=nrmK kP9 (ptF W j):=by
 intro j hj;unfold ptF;rw[h j hj]
theorem first_no {V:Nat->RP} {n:Nat} (h:alP V n=false):∃k,k<n∧ckR (V k)=false∧∀j,j<k->ckR (V j)=true:=by
 have hne:∃i,i<n∧ckR (V i)=false:=by
  refine Classical.byContradiction fun hn=>?_
  have:alP V n=true:=alP_iff.2 fun j hj=>by
   cases e:ckR (V j) with
   | true=>rfl
   | false=>exact absurd ⟨j,hj,e⟩ hn
  rw[this] at h;cases h
 obtain ⟨i,a,b,c⟩:=first_bad hne
 refine⟨i,a,b,fun j hj=>?_⟩
 cases e:ckR (V j) with
 | true=>rfl
 | false=>exact absurd e (c j hj)
def rw9 (e id n:Nat) (f:Nat->List Value):List (Nat×Blk):=[(nid id 0,⟨.row kP9 n f,e,true⟩)]
end Go.W

namespace Go.W
open Go.RowKit (Below)
def apart2 (mm:Nat->Option Blk) (b:Nat) (u:Value):Bool :=
 match u with
 | .slice none _ _=>true
 | .slice (some a) _ _=>!(Nat.beq b a.block)&&(match mm a.block with
  | some blk=>(match blk.cells with
   | .lst _=>true
   | .row _ _ _=>true
   | _=>false)
  | none=>false)
 | .int _ _=>true
 | _=>false
section
variable {GL:Glob} {w0:Wb GL} {R:Nat->Pl->Prop} {fm:Nat->Option Blk} {w:World}
end
section
variable {P:Program} [Laid P]
end
end Go.W

namespace Go.W
open Go.RowKit (Below)
def srcW (mm:Nat->Option Blk) (ks:List CK) (e:TypeId) (v:Value):Bool×Nat×Nat×(Nat->List Value) :=
 match v with
 | .slice (some ⟨b,off,none⟩) n c=>(match mm b with
  | some blk=>(match blk.cells with
   | .row ks' m f=>(loose b&&blk.own&&Nat.beq blk.elem e&&Nat.beq off 0&&Nat.beq n m&&ksEq ks' ks&&Nat.ble n c,b,n,f)
   | _=>(false,0,0,fun _=>[]))
  | none=>(false,0,0,fun _=>[]))
 | _=>(false,0,0,fun _=>[])
theorem srcW_some {mm:Nat->Option Blk} {ks:List CK} {e:TypeId} {v:Value} {b n:Nat} {f:Nat->List Value} (h:srcW mm ks e v=(true,b,n,f)):∃c,v=.slice (some ⟨b,0,none⟩) n c∧mm b=some ⟨.row ks n f,e,true⟩∧loose b=true∧n<=c:=by
 unfold srcW at h
 split at h
 ·rename_i b0 off n0 c
  split at h
  ·rename_i blk hb
   obtain ⟨cells,e0,own⟩:=blk
   simp only at h
   split at h
   ·rename_i ks' m f'
    simp only[Prod.mk.injEq,Bool.and_eq_true] at h
    obtain ⟨⟨⟨⟨⟨⟨⟨h1,h2⟩,h3⟩,h4⟩,h5⟩,h6⟩,h7⟩,rfl,rfl,rfl⟩:=h
    have h3:=nbeq.1 h3
    have h4:=nbeq.1 h4
    have h5:=nbeq.1 h5
    have h6:=ksEq_eq h6
    subst h2 h3 h4 h5 h6
    exact⟨c,rfl,hb,h1,Nat.le_of_ble_eq_true h7⟩
   ·simp at h
  ·simp at h
 ·simp at h
section
variable {GL:Glob} {w0:Wb GL} {R:Nat->Pl->Prop} {fm:Nat->Option Blk} {w:World}
end
section
variable {GL:Glob} {w0:Wb GL} {R:Nat->Pl->Prop} {fm:Nat->Option Blk} {w:World}
theorem MRel.recell (h:MRel w0 R fm w) {i:Nat} {ks:List CK} {n:Nat} {f f':Nat->List Value} {e:TypeId} {o:Bool} (hi:fm i=some ⟨.row ks n f,e,o⟩) (hl:rowL ks f 0 n=rowL ks f' 0 n):MRel w0 R (upd fm i ⟨.row ks n f',e,o⟩) w:=by
 have hx:∀j blk,upd fm i ⟨.row ks n f',e,o⟩ j=some blk->∃blk',fm j=some blk'∧blk'.own=blk.own∧blk'.cells.list=blk.cells.list:=by
  intro j blk hj
  by_cases e1:i=j
  ·subst e1;rw[upd_same] at hj;cases hj;exact⟨_,hi,rfl,hl⟩
  ·rw[upd_ne _ _ e1] at hj;exact⟨blk,hj,rfl,rfl⟩
 refine⟨h.below,h.func,?_,?_,?_,h.anc,fun i1 p1 b1 h1 h2=>(h.there i1 p1 b1 h1 h2).mono (fun s pos hs=>by
  have e1:i≠i1:=by
   rintro rfl
   rw[hi] at hs;cases hs
  rw[upd_ne _ _ e1]) rfl,?_⟩
 ·intro i0 j0 p q b h5 h6 ha hb hne blk hblk hown blk' hblk'
  obtain ⟨b1,k1,k2,_⟩:=hx _ _ hblk
  obtain ⟨b2,k3,k4,k5⟩:=hx _ _ hblk'
  have:=h.inj _ _ _ _ _ h5 h6 ha hb hne b1 k1 (k2.trans hown) b2 k3
  exact⟨k4.symm.trans this.1,k5.symm.trans this.2⟩
 ·intro j blk hj
  by_cases e1:i=j
  ·subst e1;rw[upd_same] at hj;cases hj
   obtain ⟨p,hp,hc⟩:ContOk w0 R w i ⟨.row ks n f,e,o⟩:=h.mem i _ hi
   have hl2:(Cells.row ks n f).list=(Cells.row ks n f').list:=hl
   have h1:ContOk w0 R w i ⟨.row ks n f',e,o⟩:=by
    refine⟨p,hp,?_⟩
    cases hpa:p.a with
    | none=>rw[hpa] at hc;exact hl2.symm.trans hc
    | some b =>
     rw[hpa] at hc
     obtain ⟨cs,fz,k1,k2,k3⟩:=hc
     exact⟨cs,fz,k1,hl2 ▸ k2,k3⟩
   exact h1
  ·rw[upd_ne _ _ e1] at hj;exact h.mem j blk hj
 ·intro j p hp hlt
  by_cases e1:i=j
  ·subst e1;rw[upd_same];rfl
  ·rw[upd_ne _ _ e1];exact h.dom j p hp hlt
 ·intro j p hp hge
  obtain ⟨h2,h3⟩:=h.fro j p hp hge
  refine⟨h2,fun k q hk hq blk hblk=>?_⟩
  obtain ⟨b1,k1,k2,_⟩:=hx _ _ hblk
  exact k2 ▸ h3 k q hk hq b1 k1
end
section
variable {P:Program} [Laid P]
end
end Go.W

namespace Go.W
open Go.RowKit (Below)
def isNilL:Cells->Bool
 | .lst []=>true
 | _=>false
def ancOk (mem:Nat->Option Blk) (e:TypeId):Bool :=
 match mem 1400000 with
 | some blk=>Nat.beq blk.elem e&&isNilL blk.cells
 | none=>false
def takK (mem:Nat->Option Blk) (e:TypeId) (v:Value):Option (Nat×Blk) :=
 match v with
 | .slice (some ⟨j,off,none⟩) m c=>oK (mem j) (fun blk=>match blk.cells with
  | .row ks n g=>bif blk.own&&loose j&&Nat.blt j 1000000&&Nat.beq off 0&&Nat.ble m c&&Nat.beq m n&&ancOk mem e then some (m,⟨.row ks n g,blk.elem,true⟩) else none
  | _=>none) none
 | _=>none
def fnT (C:Cfg) (fuel:Nat) (fn:Func) (c:Code) (args:List Value) (mem:List (Nat×Blk)) (next:Nat) (e:TypeId):Option (Nat×Blk) :=
 evK C fuel [] c ⟨argSlots 0 args,mem,next⟩ (fun ex s=>endK C.T fn ex s (fun v=>takK (look s.mem) e v) none) none
theorem takK_some {mem:Nat->Option Blk} {e:TypeId} {v:Value} {m:Nat} {blk:Blk} (h:takK mem e v=some (m,blk)) :
  ∃j c ks g e2,v=.slice (some ⟨j,0,none⟩) m c∧mem j=some ⟨.row ks m g,e2,true⟩∧blk=⟨.row ks m g,e2,true⟩∧loose j=true∧j<1000000∧m<=c∧∃o,mem 1400000=some ⟨.lst [],e,o⟩:=by
 unfold takK at h
 split at h
 ·rename_i j off m0 c
  obtain ⟨blk0,hb,h⟩:=oK_some.1 h
  obtain ⟨cells,e2,own⟩:=blk0
  simp only at h
  split at h
  ·rename_i ks n g
   obtain ⟨hc,h⟩:=cond_some.1 h
   simp only[Bool.and_eq_true,Nat.blt_eq] at hc
   obtain ⟨⟨⟨⟨⟨⟨h1,h2⟩,h3⟩,h4⟩,h5⟩,h6⟩,h7⟩:=hc
   have h4:=nbeq.1 h4
   have h6:=nbeq.1 h6
   simp only[Option.some.injEq,Prod.mk.injEq] at h
   obtain ⟨rfl,rfl⟩:=h
   subst h1 h4 h6
   refine⟨j,c,ks,g,e2,rfl,hb,rfl,h2,h3,Nat.le_of_ble_eq_true h5,?_⟩
   unfold ancOk at h7
   split at h7
   ·rename_i blk1 hb1
    obtain ⟨cells1,e1,o1⟩:=blk1
    simp only[Bool.and_eq_true] at h7
    obtain ⟨k1,k2⟩:=h7
    have k1:=nbeq.1 k1
    subst k1
    unfold isNilL at k2
    split at k2
    ·exact⟨o1,hb1⟩
    ·simp at k2
   ·simp at h7
  ·simp at h
 ·simp at h
section
variable {GL:Glob} {w0:Wb GL} {R:Nat->Pl->Prop} {fm:Nat->Option Blk} {w:World}
theorem MRel.swap (h:MRel w0 R fm w) {b:Nat} {e:TypeId} (hfree:∀j q blk',R j q->q.a=some b->fm j=some blk'->weak blk') (hnf:¬Frz R b) (hge:w0.X b∨w0.w.heap.size<=b) (hold:∃cs fz,w.heap[b]?=some (.cells cs e fz))
  {w':World} {A:Nat->Pl->Prop} (hb:BelowX (⟨w,fun k=>some b=some k,A⟩:Wb GL) w') (hnew:∃cs fz,w'.heap[b]?=some (.cells cs e fz)):MRel w0 R fm w':=by
 have hsame:∀k,k<w.heap.size->k≠b->w'.heap[k]?=w.heap[k]?:=fun k hk hne=>hb.block k hk (fun h=>hne (Option.some.inj h).symm)
 obtain ⟨cs1,fz1,ho⟩:=hold
 obtain ⟨cs2,fz2,hn⟩:=hnew
 refine⟨⟨hb.os.trans h.below.os,hb.tape.trans h.below.tape,hb.output.trans h.below.output,Nat.le_trans h.below.size hb.size,fun k hk hx=>?_,h.below.glob⟩,h.func,h.inj,?_,h.dom,h.anc,fun i p b2 h1 h2=>?_,h.fro⟩
 ·have hne:k≠b:=by
   rintro rfl
   rcases hge with h5 | h5
   ·exact hx h5
   ·omega
  exact(hsame k (Nat.lt_of_lt_of_le hk h.below.size) hne).trans (h.below.block k hk hx)
 ·intro i blk hi
  have hm:=h.mem i blk hi
  unfold MemOk at hm ⊢
  split at hm
  ·exact hm
  ·exact hm
  ·refine hm.mono (fun _ _ h=>h) (fun b2 hb2=>hsame b2 (h.frz_lt hb2) ?_) (fun hown p b2 hp hpa=>hsame b2 (h.lt hp hpa) ?_)
   ·rintro rfl;exact hnf hb2
   ·rintro rfl
    have:=(hfree _ _ _ hp hpa hi).1
    rw[hown] at this;simp at this
  ·obtain ⟨b2,k1,k2,k3⟩:=hm
   have hne:b2≠b:=by rintro rfl;rw[ho] at k2;simp at k2
   exact⟨b2,k1,by rw[hsame b2 (h.lt k1 rfl) hne];exact k2,k3⟩
  ·obtain ⟨p,k1,k2⟩:=hm
   refine⟨p,k1,?_⟩
   cases hpa:p.a with
   | none=>rw[hpa] at k2;exact k2
   | some b2 =>
    rw[hpa] at k2
    obtain ⟨cs',fz,k3,k4,k5⟩:=k2
    by_cases hne:b2=b
    ·subst hne
     have hwk:=hfree _ _ _ k1 hpa hi
     rw[ho] at k3
     simp only[Option.some.injEq,Obj.cells.injEq] at k3
     exact⟨cs2,fz2,by rw[<-k3.2.1];exact hn,by rw[hwk.2];exact LP_nil,fun hown=>by rw[hwk.1] at hown;simp at hown⟩
    ·exact⟨cs',fz,by rw[hsame b2 (h.lt k1 hpa) hne];exact k3,k4,k5⟩
 ·by_cases hne:b2=b
  ·subst hne;exact .inl ⟨cs2,e,fz2,hn⟩
  ·exact(h.there i p b2 h1 h2).mono (fun _ _ _=>rfl) (hsame b2 (h.lt h1 h2) hne)
theorem apart_nil (hm:MRel w0 R fm w) {mm:Nat->Option Blk} (hsub:∀b blk,mm b=some blk->fm b=some blk) {i:Nat} {p:Pl} {blk:Blk} {b':Nat} (hp:R i p) (hpa:p.a=some b') (hi:fm i=some blk) (hown:blk.own=true)
  {v:Value} {d m c:Nat} (hv:V2 R v (.slice (some ⟨b',d,none⟩) m c)) (hap:apart2 mm i v=true) {ks:List CK} {g:Nat->List Value} (hs:srcB mm ks v=(true,m,g)):rowL ks g 0 m=[]:=by
 by_cases hm0:m=0
 ·subst hm0;rfl
 unfold apart2 at hap
 split at hap
 ·have:=(V2_plain (R:=R) (v:=.slice none _ _) rfl).1 hv
  simp at this
 ·rename_i a2 n2 c2
  obtain ⟨b2,off2,sp2⟩:=a2
  have hsp:sp2=none:=by
   cases sp2 with
   | none=>rfl
   | some x=>simp[srcB] at hs
  subst hsp
  simp only[Bool.and_eq_true,Bool.not_eq_true'] at hap
  obtain ⟨ha1,ha2⟩:=hap
  have hne2:i≠b2:=fun e2=>by rw[e2,Nat.beq_refl] at ha1;simp at ha1
  obtain ⟨q,hq,hsl2⟩:=V2_slice hv
  have hqa:q.a=some b':=by
   cases hlo2:loose b2 with
   | false =>
    obtain ⟨b3,h5,h6⟩:=SlOk_tight hlo2 hsl2
    simp only[Value.slice.injEq,Option.some.injEq,Addr.mk.injEq] at h6
    rw[h5,h6.1.1]
   | true =>
    obtain ⟨_,_,⟨b3,h5,h6⟩ | ⟨_,_,_,h6⟩⟩:=SlOk_loose hlo2 hsl2
    ·simp only[Value.slice.injEq,Option.some.injEq,Addr.mk.injEq] at h6
     rw[h5,h6.1.1]
    ·obtain ⟨a9,h6⟩:=h6
     simp only[Value.slice.injEq] at h6
     exact absurd h6.2.1 hm0
  split at ha2
  ·rename_i blk2 hb2
   have hwk:=hm.inj _ _ _ _ _ hp hq hpa hqa hne2 _ hi hown blk2 (hsub _ _ hb2)
   obtain ⟨cells2,e2,own2⟩:=blk2
   have hl0:cells2.list=[]:=hwk.2
   have hsrc2:=hs
   unfold srcB at hsrc2
   simp only[hb2] at hsrc2
   simp only at ha2
   split at ha2
   ·rename_i l
    have hl0:l=[]:=hl0
    subst hl0
    simp only[Prod.mk.injEq,Bool.and_eq_true,List.length_nil] at hsrc2
    obtain ⟨⟨⟨h5,h6⟩,_⟩,h7,_⟩:=hsrc2
    have h5:=Nat.le_of_ble_eq_true h5
    apply List.length_eq_zero_iff.1
    rw[rowL_len,<-h7];omega
   ·rename_i ks2 m2 f2
    have hl0:rowL ks2 f2 0 m2=[]:=hl0
    simp only[Prod.mk.injEq,Bool.and_eq_true] at hsrc2
    obtain ⟨⟨⟨⟨_,h5⟩,h6⟩,_⟩,h7,_⟩:=hsrc2
    have h5:=Nat.le_of_ble_eq_true h5
    have h6:=ksEq_eq h6
    subst h6
    have:=congrArg List.length hl0
    rw[rowL_len,List.length_nil] at this
    apply List.length_eq_zero_iff.1
    rw[rowL_len]
    have:m*ks2.length<=m2*ks2.length:=Nat.mul_le_mul_right _ (by omega)
    omega
   ·simp at ha2
  ·simp at ha2
 ·simp[srcB] at hs
 ·simp at hap
theorem args_apart (hm:MRel w0 R fm w) {mm:Nat->Option Blk} (hsub:∀b blk,mm b=some blk->fm b=some blk) {i:Nat} {p:Pl} {blk:Blk} {b':Nat} (hp:R i p) (hpa:p.a=some b') (hi:fm i=some blk) (hown:blk.own=true)
  {es:Nat->TypeId} {Rc:Nat->Pl->Prop} (hfun:∀i p p',Rc i p->Rc i p'->p=p'):∀(A:List Arg) (vs args':List Value) (k:Nat),AOk mm vs A->LR (V2 R) vs args'->LR (V2 Rc) (cArgs A k) args'->vs.all (apart2 mm i)=true ->
   ∀j blk' q,look (cMem es A k) j=some blk'->Rc j q->q.a=some b'->blk'.cells.list=[]
 | [],_,_,_,_,_,_,_=>fun j blk' q h _ _=>by simp[cMem,look] at h
 | .pl u::A,[],_,_,hA,_,_,_=>hA.elim
 | .sl _ _ _::A,[],_,_,hA,_,_,_=>hA.elim
 | .pl _::_,_::_,[],_,_,hl,_,_=>hl.elim
 | .sl _ _ _::_,_::_,[],_,_,hl,_,_=>hl.elim
 | .pl u::A,v::vs,v'::args',k,hA,hl,hc,hap=>by
  simp only[List.all_cons,Bool.and_eq_true] at hap
  exact args_apart hm hsub hp hpa hi hown hfun A vs args' (k+1) hA.2.2 hl.2 hc.2 hap.2
 | .sl ks n g::A,v::vs,v'::args',k,hA,hl,hc,hap=>by
  simp only[List.all_cons,Bool.and_eq_true] at hap
  intro j blk' q hj hq hqa
  rw[cMem,look_cons] at hj
  by_cases e1:argId k=j
  ·subst e1
   rw[upd_same] at hj;cases hj
   show rowL ks g 0 n=[]
   obtain ⟨q2,hq2,hsl⟩:=V2_slice hc.1
   have:=hfun _ _ _ hq hq2;subst this
   obtain ⟨_,hcc,⟨b3,h5,h6⟩ | ⟨h5,h6,_,_⟩⟩:=SlOk_loose (argId_loose k) hsl
   ·rw[hqa] at h5;cases h5
    subst h6
    exact apart_nil hm hsub hp hpa hi hown hl.1 hap.1 hA.1
   ·rw[hqa] at h5;simp at h5
  ·rw[upd_ne _ _ e1] at hj
   exact args_apart hm hsub hp hpa hi hown hfun A vs args' (k+1) hA.2 hl.2 hc.2 hap.2 j blk' q hj hq hqa
def RtF (p:Pl) (pl:Nat->Option Pl) (i:Nat) (q:Pl):Prop:=(i=999999∧q=p)∨(i=1400000∧q=p)∨∃j,i=argId j∧pl j=some q
theorem take_rel (hg:GOk GL w) {es:Nat->TypeId} {pl:Nat->Option Pl} {A:List Arg} (h2:∀i blk,look (cMem es A 1) i=some blk->∃j p,i=argId j∧pl j=some p∧PlOk w i blk p)
  (h3:∀j p,pl j=some p->(look (cMem es A 1) (argId j)).isSome=true∧∀b,p.a=some b->∃cs e fz,w.heap[b]?=some (.cells cs e fz)) (hA:A.length<=900000000)
  {p:Pl} {ks:List CK} {n:Nat} {f:Nat->List Value} {e:TypeId} (hp:match p.a with
   | none=>n=0
   | some b=>∃cs fz,w.heap[b]?=some (.cells cs e fz)∧FzOk fz cs.size∧(cs.toList.drop p.d).take (n*ks.length)=rowL ks f 0 n∧(p.c≠0->p.d+p.c*ks.length<=cs.size))
  (hap:∀j blk' q b,look (cMem es A 1) j=some blk'->RtF p pl j q->q.a=some b->p.a=some b->blk'.cells.list=[]) (hgl:∀x∈GL,p.a≠some x.1) :
  MRel (⟨w,fun k=>p.a=some k,RtF p pl⟩:Wb GL) (RtF p pl) (look ((999999,⟨.row ks n f,e,true⟩)::(1400000,⟨.lst [],e,false⟩)::cMem es A 1)) w:=by
 have hid:∀j,argId j≠999999∧argId j≠1400000:=fun j=>by unfold argId;omega
 have hmem:∀i blk,look ((999999,⟨.row ks n f,e,true⟩)::(1400000,⟨.lst [],e,false⟩)::cMem es A 1) i=some blk->(i=999999∧blk=⟨.row ks n f,e,true⟩)∨(i=1400000∧blk=⟨.lst [],e,false⟩)∨(∃j q,i=argId j∧pl j=some q∧look (cMem es A 1) i=some blk∧PlOk w i blk q):=by
  intro i blk hi
  rw[look_cons] at hi
  by_cases e1:999999=i
  ·subst e1;rw[upd_same] at hi;cases hi;exact .inl ⟨rfl,rfl⟩
  rw[upd_ne _ _ e1,look_cons] at hi
  by_cases e2:1400000=i
  ·subst e2;rw[upd_same] at hi;cases hi;exact .inr (.inl ⟨rfl,rfl⟩)
  rw[upd_ne _ _ e2] at hi
  obtain ⟨j,q,h5,h6,h7⟩:=h2 i blk hi
  exact .inr (.inr ⟨j,q,h5,h6,hi,h7⟩)
 have hfun:∀i q q',RtF p pl i q->RtF p pl i q'->q=q':=by
  rintro i q q' (⟨rfl,rfl⟩ | ⟨rfl,rfl⟩ | ⟨j,rfl,hj⟩) (⟨h5,rfl⟩ | ⟨h5,rfl⟩ | ⟨j',h5,hj'⟩)
  ·rfl
  ·omega
  ·exact absurd h5.symm (hid _).1
  ·omega
  ·rfl
  ·exact absurd h5.symm (hid _).2
  ·exact absurd h5 (hid _).1
  ·exact absurd h5 (hid _).2
  ·have:j=j':=by unfold argId at h5;omega
   subst this
   rw[hj] at hj';exact Option.some.inj hj'
 refine⟨BelowX.refl _ _ _ hg (fun x hx h=>hgl x hx h),hfun,?_,?_,?_,fun _ _ h _ _=>h,?_,?_⟩
 ·intro i j q q' b hq hq' ha hb hne blk hblk hown blk' hblk'
  rcases hmem i blk hblk with⟨rfl,rfl⟩ | ⟨rfl,rfl⟩ | ⟨j1,q1,rfl,_,_,k⟩
  ·have:=hfun _ _ _ hq (.inl ⟨rfl,rfl⟩);subst this
   rcases hmem j blk' hblk' with⟨rfl,rfl⟩ | ⟨rfl,rfl⟩ | ⟨j1,q1,rfl,h5,h6,k⟩
   ·exact absurd rfl hne
   ·exact⟨rfl,rfl⟩
   ·exact⟨k.1,hap _ _ _ _ h6 hq' hb ha⟩
  ·simp at hown
  ·rw[k.1] at hown;simp at hown
 ·intro i blk hi
  rcases hmem i blk hi with⟨rfl,rfl⟩ | ⟨rfl,rfl⟩ | ⟨j,q,rfl,k2,_,k3,⟨ks1,n1,g1,k4⟩,k5,_⟩
  ·refine⟨p,.inl ⟨rfl,rfl⟩,?_⟩
   cases hpa:p.a with
   | none=>rw[hpa] at hp;show rowL ks f 0 n=[];rw[hp];rfl
   | some b =>
    rw[hpa] at hp
    obtain ⟨cs,fz,m1,hfz,m2,m3⟩:=hp
    exact⟨cs,fz,m1,LP_plain (rowL_pl _ _ _ _) (by rw[show(Cells.row ks n f).list=rowL ks f 0 n from rfl,rowL_len];exact m2),fun _=>⟨hfz,.inl rfl,fun _=>m3⟩⟩
  ·refine⟨p,.inr (.inl ⟨rfl,rfl⟩),?_⟩
   cases hpa:p.a with
   | none=>rfl
   | some b =>
    rw[hpa] at hp
    obtain ⟨cs,fz,m1,_,m2,m3⟩:=hp
    exact⟨cs,fz,m1,LP_nil,fun ho=>by simp at ho⟩
  ·have hc:ContOk (⟨w,fun k=>p.a=some k,RtF p pl⟩:Wb GL) (RtF p pl) w (argId j) blk:=by
    refine⟨q,.inr (.inr ⟨j,rfl,k2⟩),?_⟩
    cases hqa:q.a with
    | none=>rw[hqa] at k5;exact k5
    | some b =>
     rw[hqa] at k5
     obtain ⟨cs,fz,m1,m2⟩:=k5
     exact⟨cs,fz,m1,LP_mono (fun _ _ h=>h.elim) m2,fun ho=>by rw[k3] at ho;simp at ho⟩
   unfold MemOk
   rw[k4];exact hc
 ·rintro i q (⟨rfl,rfl⟩ | ⟨rfl,rfl⟩ | ⟨j,rfl,hj⟩) _
  ·rw[look_cons,upd_same];rfl
  ·rw[look_cons,upd_ne _ _ (by omega),look_cons,upd_same];rfl
  ·rw[look_cons,upd_ne _ _ (Ne.symm (hid j).1),look_cons,upd_ne _ _ (Ne.symm (hid j).2)]
   exact(h3 j q hj).1
 ·have hthere:∀b,p.a=some b->∃cs e fz,w.heap[b]?=some (.cells cs e fz):=fun b hb=>by
   rw[hb] at hp
   obtain ⟨cs,fz,m1,_⟩:=hp
   exact⟨cs,e,fz,m1⟩
  rintro i q b (⟨rfl,rfl⟩ | ⟨rfl,rfl⟩ | ⟨j,rfl,hj⟩) hb
  ·exact .inl (hthere b hb)
  ·exact .inl (hthere b hb)
  ·exact .inl ((h3 j q hj).2 b hb)
 ·rintro i q (⟨rfl,rfl⟩ | ⟨rfl,rfl⟩ | ⟨j,rfl,hj⟩) hge
  ·omega
  ·omega
  ·have:=cMem_lt A 1 j (h3 j q hj).1
   unfold argId at hge;omega
end
section
variable {P:Program} [Laid P]
theorem msum_take {g:FuncId} {fn:Func} {c:Code} (hf:P.funcs[g]?=some fn) (hname:(fn.name=="runtime.NumGoroutine")=false) (hb:fn.body=some c) {fuel next:Nat}
  {w0:Wb (lay P)} {R:Nat->Pl->Prop} {fm:Nat->Option Blk} {w:World} (hm:MRel w0 R fm w) {v0:Value} {vs args':List Value} (hl:LR (V2 R) (v0::vs) args') {mm:Nat->Option Blk} (hsub:∀b blk,mm b=some blk->fm b=some blk) {id:Nat} (hlt:id<60000)
  {ks:List CK} {e:TypeId} {i n:Nat} {f:Nat->List Value} (h0:srcW mm ks e v0=(true,i,n,f)) {A:List Arg} (hA:AOk mm vs A) (hap:vs.all (apart2 mm i)=true) (hlen:A.length+1<=fn.ntmps) {m:Nat} {blk:Blk} (hnew:fm (nid id 0)=none)
  (hev0:∀es,∃C,CfgOk P C c∧C.n=fn.ntmps∧fnT C fuel fn c (.slice (some ⟨999999,0,none⟩) n n::cArgs A 1) ((999999,⟨.row ks n f,e,true⟩)::(1400000,⟨.lst [],e,false⟩)::cMem es A 1) next e=some (m,blk)) (hnt:fn.ntmps<=900000000:=by decide +kernel) :
  Invokes P g args'.toArray w fun v' w'=>∃R':Nat->Pl->Prop,(∀i p,R i p->R' i p)∧V2 R' (.slice (some ⟨nid id 0,0,none⟩) m m) v'∧MRel w0 R' (memF fm [(nid id 0,blk),(i,⟨.lst [],e,false⟩)]) w':=by
 have hne:fn.name≠"runtime.NumGoroutine":=by simpa using hname
 have hrun:(callFunc g args'.toArray).run P w=.ok (.enter g args'.toArray) w:=by simp[callFunc,hf,hne,hb]
 unfold Invokes
 rw[hrun]
 obtain ⟨cc,rfl,hbm,hlo,hncc⟩:=srcW_some h0
 have hbf:=hsub _ _ hbm
 match args',hl with
 | [],hl=>exact hl.elim
 | v0'::args1',hl =>
 obtain ⟨es,pl,h1,h2,h3,h4⟩:=callee_mem hm A vs args1' 1 (AOk_mono hsub hA) hl.2
 obtain ⟨p,hp,hsl⟩:=V2_slice hl.1
 obtain ⟨_,hcc,hcase⟩:=SlOk_loose hlo hsl
 have hcont:match p.a with
   | none=>n=0
   | some b=>∃cs fz,w.heap[b]?=some (.cells cs e fz)∧FzOk fz cs.size∧(cs.toList.drop p.d).take (n*ks.length)=rowL ks f 0 n∧(p.c≠0->p.d+p.c*ks.length<=cs.size):=by
  rcases hcase with⟨b',hpa,_⟩ | ⟨hpa,hn0,_,_⟩
  ·rw[hpa]
   obtain ⟨cs,fz,g1,g2,g3,g4⟩:=row_cells hm hbf hp hpa
   obtain ⟨hfz,_,hroom⟩:=g4 rfl
   exact⟨cs,fz,g1,hfz,g2,fun hc=>hroom hlo hc⟩
  ·rw[hpa];exact hn0
 have hfun:∀i q q',RtF p pl i q->RtF p pl i q'->q=q':=by
  rintro i q q' (⟨rfl,rfl⟩ | ⟨rfl,rfl⟩ | ⟨j,rfl,hj⟩) (⟨h5,rfl⟩ | ⟨h5,rfl⟩ | ⟨j',h5,hj'⟩)<;>first | rfl | (unfold argId at h5;omega) | omega | skip
  have:j=j':=by unfold argId at h5;omega
  subst this
  rw[hj] at hj';exact Option.some.inj hj'
 have hargs1:LR (V2 (RtF p pl)) (cArgs A 1) args1':=LR_mono (fun _ _ hu=>V2_mono (fun i q hq=>.inr (.inr hq)) hu) h4
 have hown:∀b,p.a=some b->w0.X b∨w0.w.heap.size<=b:=fun b hpa=>hm.ownX hp hpa hbf rfl
 have hgl:∀x∈lay P,p.a≠some x.1:=by
  intro x hx e1
  obtain ⟨fz1,k1⟩:=hm.below.glob.1 x hx
  have k2:=hm.below.glob.2 x hx
  rcases hown _ e1 with h5 | h5
  ·exact k2 h5
  ·have:=heap_lt k1;omega
 have hapa:∀j blk' q b,look (cMem es A 1) j=some blk'->RtF p pl j q->q.a=some b->p.a=some b->blk'.cells.list=[]:=fun j blk' q b hj hq hqa hpa=>args_apart hm hsub hp hpa hbf rfl hfun A vs args1' 1 hA hl.2 hargs1 hap j blk' q hj hq hqa
 have hmC:=take_rel hm.below.gok h2 h3 (by omega) hcont hapa hgl
 obtain ⟨C,hC,hn,hev⟩:=hev0 es
 unfold fnT at hev
 rw[evK_eq,oK_some] at hev
 obtain ⟨⟨ex,s'⟩,he1,he2⟩:=hev
 obtain ⟨vC,he3,he4⟩:∃vC,endK C.T fn ex s' some none=some vC∧takK (look s'.mem) e vC=some (m,blk):=by
  have key:endK C.T fn ex s' (fun v=>takK (look s'.mem) e v) none=oK (endK C.T fn ex s' some none) (fun v=>takK (look s'.mem) e v) none:=by
   unfold endK
   have key:∀lr:List ResultVar,resK C.T s' lr (fun vs=>oneK vs fun v=>takK (look s'.mem) e v) none=oK (resK C.T s' lr (fun vs=>oneK vs some) none) (fun v=>takK (look s'.mem) e v) none:=by
    intro lr
    rw[resK_nat (fun o:Option Value=>oK o (fun v=>takK (look s'.mem) e v) none)]
    congr 1;funext vs
    exact(oneK_nat (fun o:Option Value=>oK o (fun v=>takK (look s'.mem) e v) none) vs some).symm
   cases ex<;>first | exact key _ | rfl
  simp only at he2
  rw[key] at he2
  exact oK_some.1 he2
 have hv0:V2 (RtF p pl) (.slice (some ⟨999999,0,none⟩) n n) v0':=by
  refine slice_V2 (q:=p) rfl (.inl ⟨rfl,rfl⟩) (by omega) ?_
  rcases hcase with⟨b',hpa,hv⟩ | ⟨hpa,hn0,hc0,hv⟩
  ·rw[hpa];exact hv
  ·rw[hpa];exact⟨hn0,hc0,hv⟩
 refine Calls.mono (fn_mem hC hf hb hn hmC (args:=.slice (some ⟨999999,0,none⟩) n n::cArgs A 1) (args':=v0'::args1') (And.intro hv0 hargs1) (by rw[List.length_cons,cArgs_len];exact hlen) he1 he3) ?_
 rintro ex2 w' ⟨R',v',rfl,hvv,hvt,hm'⟩
 show ∃R2:Nat->Pl->Prop,_∧_∧_
 obtain ⟨j,c0,ks2,g2,e2,rfl,hj,rfl,hloj,hjm,hmc,o,hanc⟩:=takK_some he4
 have hvv:=hvv nofun
  -- the caller's memory, without the row
 have hm2:MRel w0 R (upd fm i ⟨.lst [],e,false⟩) w':=by
  have hmf:=hm.forget hbf nofun nofun
  cases hpa:p.a with
  | none =>
   refine hmf.world ?_
   have:=hm'.below.below (fun k hk=>by rw[hpa] at hk;simp at hk)
   exact this
  | some b =>
   rw[hpa] at hcont
   obtain ⟨cs,fz0,g1,_⟩:=hcont
   have hb2:=hm'.below
   simp only[hpa] at hb2
   refine hmf.swap (forget_free hm hbf rfl hp hpa e) (fun hfz=>?_) (hown b hpa) ⟨cs,fz0,g1⟩ hb2 ?_
   ·have:=hm.frz_own hfz hp hpa hbf;simp at this
   ·obtain ⟨p',hp',hc⟩:=memOk_lst hm' hanc
    have hanc2:=hm'.anc _ _ hp' (by omega) (by omega)
    have epp:p'=p:=by
     rcases hanc2 with⟨h,_⟩ | ⟨_,h⟩ | ⟨j,h,_⟩
     ·omega
     ·exact h
     ·unfold argId at h;omega
    subst epp
    rw[hpa] at hc
    obtain ⟨cs2,fz2,k1,_⟩:=hc
    exact⟨cs2,fz2,k1⟩
 have hin:i≠nid id 0:=by rintro rfl;rw[hnew] at hbf;simp at hbf
 have hnone:upd fm i ⟨.lst [],e,false⟩ (nid id 0)=none:=by rw[upd_ne _ _ hin];exact hnew
 obtain ⟨q,hq,hslq⟩:=V2_slice hvv
 obtain ⟨q',hq',hcq⟩:=memOk_row hm' hj
 have:=hm'.func _ _ _ hq hq';subst this
 obtain ⟨_,hcc2,hcaseq⟩:=SlOk_loose hloj hslq
 refine⟨fun i2 q2=>R i2 q2∨(i2=nid id 0∧q2=q),fun _ _ h=>.inl h,slice_V2 (nid_loose hlt (by omega)) (.inr ⟨rfl,rfl⟩) (show m<=q.c by omega) ?_,?_⟩
 ·rcases hcaseq with⟨b,hqa,hv'⟩ | ⟨hqa,hm0,hc0,hv'⟩
  ·rw[hqa];exact hv'
  ·rw[hqa];exact⟨hm0,hc0,hv'⟩
 show MRel w0 _ (upd (upd fm i ⟨.lst [],e,false⟩) (nid id 0) _) w'
 cases hqa:q.a with
 | none =>
  rw[hqa] at hcq
  have hcq:rowL ks2 g2 0 m=[]:=hcq
  refine hm2.view (q:=q) hnone (nid_lt hlt (by omega)) (.inr (.inl hqa)) (fun b hb=>by rw[hqa] at hb;simp at hb) ?_
  intro R3 _ hR
  refine⟨q,hR,?_⟩
  rw[hqa];exact hcq
 | some b =>
  rw[hqa] at hcq
  obtain ⟨cs,fz,k1,k2,k3⟩:=hcq
  obtain ⟨hfz9,hX,hroom⟩:=k3 rfl
  have hfree:∀j q blk',R j q->q.a=some b->upd fm i ⟨.lst [],e,false⟩ j=some blk'->weak blk':=by
   rcases hX with hX | hX
   ·exact forget_free hm hbf rfl hp hX e
   ·intro j q blk' h5 h6
    have:=hm.lt h5 h6
    have hX:w.heap.size<=b:=hX
    omega
  have hnf:¬Frz R b:=by
   intro hfz
   rcases hX with hX | hX
   ·have:=hm.frz_own hfz hp hX hbf;simp at this
   ·have:=hm.frz_lt hfz
    have hX:w.heap.size<=b:=hX
    omega
  have hge:w0.X b∨w0.w.heap.size<=b:=by
   rcases hX with hX | hX
   ·exact hown b hX
   ·exact .inr (Nat.le_trans hm.below.size hX)
  refine hm2.rename hnone (nid_lt hlt (by omega)) hfree hnf hqa k1 hfz9 hge nofun nofun nofun ?_ ?_
  ·have k2:LP R' (rowL ks2 g2 0 m) (cs.toList.drop q.d):=k2
   have:=(LR_plain (r:=V0 R') (pl:=pl0) (fun _ _ hv=>V0_plain hv) (rowL_pl ks2 g2 m 0)).1 k2
   exact LP_plain (rowL_pl _ _ _ _) this
  ·exact fun _ hc=>hroom hloj hc
end
end Go.W

namespace Go.W
section
variable {P:Program} [Laid P]
theorem sum_per {g:FuncId} {fn:Func} {c:Code} (hf:P.funcs[g]?=some fn) (hname:(fn.name=="runtime.NumGoroutine")=false) (hb:fn.body=some c) {fuel:Nat} {F:List Value->Option (Bool×Value)}
  (h:∀args v,F args=some (true,v)->args.all pl2=true->∃C,CfgOk P C c∧C.n=fn.ntmps∧args.length<=fn.ntmps∧fnS C fuel fn c args=some v∧pl2 v=true):Sum P g F:=by
 intro args v hF hpl w hg
 obtain ⟨C,hC,hn,hl,hev,hv⟩:=h args v hF hpl
 exact sum_at hC hf hname hb hn hl hev hv hpl w hg
end
end Go.W

namespace Go.W
open Go.RowKit (Below)
def memNat:Nat->List Nat->Bool
 | _,[]=>false
 | x,y::l=>Nat.beq x y||memNat x l
theorem memNat_no {x:Nat}:∀{l:List Nat},memNat x l=false->x ∉ l
 | [],_=>nofun
 | y::l,h=>by
  simp only[memNat,Bool.or_eq_false_iff] at h
  intro hx
  rcases List.mem_cons.1 hx with rfl | hx
  ·rw[Nat.beq_refl] at h;simp at h
  ·exact memNat_no h.2 hx
section
variable {R:Type}
def expC (mem:Nat->Option Blk) (id q:Nat) (used:List Nat) (l:List (Nat×Blk)) (v:Value) (k:Value->Nat->List Nat->List (Nat×Blk)->R) (f:R):R :=
 match v with
 | .slice (some ⟨j,off,none⟩) m c=>bif memNat j used||!(Nat.blt q 8) then f else oK (mem j) (fun blk=>bif blk.own&&Nat.blt j 1000000&&loose j then (match blk.cells with
   | .row ks n g=>bif Nat.beq off 0&&Nat.ble m c then k (.slice (some ⟨nid id q,0,none⟩) m c) (q+1) (j::used) ((nid id q,⟨.row ks n g,blk.elem,true⟩)::l) else f
   | _=>f) else f) f
 | v=>bif pl0 v then k v q used l else f
def expA (mem:Nat->Option Blk) (id:Nat):List Value->Nat->List Nat->List (Nat×Blk)->(List Value->Nat->List Nat->List (Nat×Blk)->R)->R->R
 | [],q,used,l,k,_=>k [] q used l
 | v::r,q,used,l,k,f=>expC mem id q used l v (fun u q used l=>expA mem id r q used l (fun us q used l=>k (u::us) q used l) f) f
def expI (mem:Nat->Option Blk) (id q:Nat) (used:List Nat) (l:List (Nat×Blk)) (v:Value) (k:Value->Nat->List Nat->List (Nat×Blk)->R) (f:R):R :=
 match v with
 | .agg cs=>expA mem id cs.toList q used l (fun us q used l=>bif us.all noIf then k (.agg us.toArray) q used l else f) f
 | v=>expC mem id q used l v (fun u q used l=>bif noIf u then k u q used l else f) f
def exp1 (mem:Nat->Option Blk) (id q:Nat) (used:List Nat) (l:List (Nat×Blk)) (v:Value) (k:Value->Nat->List Nat->List (Nat×Blk)->R) (f:R):R :=
 match v with
 | .agg cs=>expA mem id cs.toList q used l (fun us q used l=>k (.agg us.toArray) q used l) f
 | .iface t x=>expI mem id q used l x (fun u q used l=>k (.iface t u) q used l) f
 | v=>expC mem id q used l v k f
def expB (mem:Nat->Option Blk) (id:Nat):List Value->Nat->List Nat->List (Nat×Blk)->(List Value->Nat->List Nat->List (Nat×Blk)->R)->R->R
 | [],q,used,l,k,_=>k [] q used l
 | v::r,q,used,l,k,f=>exp1 mem id q used l v (fun u q used l=>expB mem id r q used l (fun us q used l=>k (u::us) q used l) f) f
def expX (mem:Nat->Option Blk) (id:Nat) (v:Value) (k:Value->List (Nat×Blk)->R) (f:R):R :=
 match v with
 | .tuple vs=>expB mem id vs.toList 0 [] [] (fun us _ _ l=>k (.tuple us.toArray) l) f
 | v=>exp1 mem id 0 [] [] v (fun u _ _ l=>k u l) f
variable {R':Type} (h:R->R')
theorem expC_nat (mem:Nat->Option Blk) (id q:Nat) (used:List Nat) (l:List (Nat×Blk)) (v:Value) (k:Value->Nat->List Nat->List (Nat×Blk)->R) (f:R) :
  h (expC mem id q used l v k f)=expC mem id q used l v (fun a b c d=>h (k a b c d)) (h f):=by
 unfold expC
 split
 ·rw[cond_nat h]
  congr 1
  rw[oK_nat h]
  congr 1;funext blk
  rw[cond_nat h]
  congr 1
  split
  ·rw[cond_nat h]
  ·rfl
 ·rw[cond_nat h]
theorem expA_nat (mem:Nat->Option Blk) (id:Nat):∀(vs:List Value) (q:Nat) (used:List Nat) (l:List (Nat×Blk)) (k:List Value->Nat->List Nat->List (Nat×Blk)->R) (f:R),
  h (expA mem id vs q used l k f)=expA mem id vs q used l (fun a b c d=>h (k a b c d)) (h f)
 | [],_,_,_,_,_=>rfl
 | v::r,q,used,l,k,f=>by simp only[expA,expC_nat h,expA_nat mem id r]
theorem expI_nat (mem:Nat->Option Blk) (id q:Nat) (used:List Nat) (l:List (Nat×Blk)) (v:Value) (k:Value->Nat->List Nat->List (Nat×Blk)->R) (f:R) :
  h (expI mem id q used l v k f)=expI mem id q used l v (fun a b c d=>h (k a b c d)) (h f):=by
 unfold expI
 split
 ·rw[expA_nat h];simp only[cond_nat h]
 ·rw[expC_nat h];simp only[cond_nat h]
theorem exp1_nat (mem:Nat->Option Blk) (id q:Nat) (used:List Nat) (l:List (Nat×Blk)) (v:Value) (k:Value->Nat->List Nat->List (Nat×Blk)->R) (f:R) :
  h (exp1 mem id q used l v k f)=exp1 mem id q used l v (fun a b c d=>h (k a b c d)) (h f):=by
 unfold exp1
 split
 ·rw[expA_nat h]
 ·rw[expI_nat h]
 ·rw[expC_nat h]
theorem expB_nat (mem:Nat->Option Blk) (id:Nat):∀(vs:List Value) (q:Nat) (used:List Nat) (l:List (Nat×Blk)) (k:List Value->Nat->List Nat->List (Nat×Blk)->R) (f:R),
  h (expB mem id vs q used l k f)=expB mem id vs q used l (fun a b c d=>h (k a b c d)) (h f)
 | [],_,_,_,_,_=>rfl
 | v::r,q,used,l,k,f=>by simp only[expB,exp1_nat h,expB_nat mem id r]
theorem expX_nat (mem:Nat->Option Blk) (id:Nat) (v:Value) (k:Value->List (Nat×Blk)->R) (f:R):h (expX mem id v k f)=expX mem id v (fun a b=>h (k a b)) (h f):=by
 unfold expX
 split
 ·rw[expB_nat h]
 ·rw[exp1_nat h]
end
abbrev XS (α:Type):=α×Nat×List Nat×List (Nat×Blk)
def xsC (mem:Nat->Option Blk) (id q:Nat) (used:List Nat) (l:List (Nat×Blk)) (v:Value):Option (XS Value):=expC mem id q used l v (fun a b c d=>some (a,b,c,d)) none
def xsA (mem:Nat->Option Blk) (id:Nat) (vs:List Value) (q:Nat) (used:List Nat) (l:List (Nat×Blk)):Option (XS (List Value)):=expA mem id vs q used l (fun a b c d=>some (a,b,c,d)) none
def xsI (mem:Nat->Option Blk) (id q:Nat) (used:List Nat) (l:List (Nat×Blk)) (v:Value):Option (XS Value):=expI mem id q used l v (fun a b c d=>some (a,b,c,d)) none
def xs1 (mem:Nat->Option Blk) (id q:Nat) (used:List Nat) (l:List (Nat×Blk)) (v:Value):Option (XS Value):=exp1 mem id q used l v (fun a b c d=>some (a,b,c,d)) none
def xsB (mem:Nat->Option Blk) (id:Nat) (vs:List Value) (q:Nat) (used:List Nat) (l:List (Nat×Blk)):Option (XS (List Value)):=expB mem id vs q used l (fun a b c d=>some (a,b,c,d)) none
theorem expC_some {β:Type} {mem:Nat->Option Blk} {id q:Nat} {used:List Nat} {l:List (Nat×Blk)} {v:Value} {k:Value->Nat->List Nat->List (Nat×Blk)->Option β} {r:β} (he:expC mem id q used l v k none=some r) :
  ∃u q2 s2 l2,xsC mem id q used l v=some (u,q2,s2,l2)∧k u q2 s2 l2=some r:=by
 have:expC mem id q used l v k none=oK (xsC mem id q used l v) (fun x=>k x.1 x.2.1 x.2.2.1 x.2.2.2) none:=(expC_nat (fun o:Option (XS Value)=>oK o (fun x=>k x.1 x.2.1 x.2.2.1 x.2.2.2) none) mem id q used l v (fun a b c d=>some (a,b,c,d)) none).symm
 rw[this] at he
 obtain ⟨x,h1,h2⟩:=oK_some.1 he
 exact⟨x.1,x.2.1,x.2.2.1,x.2.2.2,h1,h2⟩
theorem expA_some {β:Type} {mem:Nat->Option Blk} {id q:Nat} {used:List Nat} {l:List (Nat×Blk)} {v:List Value} {k:List Value->Nat->List Nat->List (Nat×Blk)->Option β} {r:β} (he:expA mem id v q used l k none=some r) :
  ∃u q2 s2 l2,xsA mem id v q used l=some (u,q2,s2,l2)∧k u q2 s2 l2=some r:=by
 have:expA mem id v q used l k none=oK (xsA mem id v q used l) (fun x=>k x.1 x.2.1 x.2.2.1 x.2.2.2) none:=(expA_nat (fun o:Option (XS (List Value))=>oK o (fun x=>k x.1 x.2.1 x.2.2.1 x.2.2.2) none) mem id v q used l (fun a b c d=>some (a,b,c,d)) none).symm
 rw[this] at he
 obtain ⟨x,h1,h2⟩:=oK_some.1 he
 exact⟨x.1,x.2.1,x.2.2.1,x.2.2.2,h1,h2⟩
theorem expI_some {β:Type} {mem:Nat->Option Blk} {id q:Nat} {used:List Nat} {l:List (Nat×Blk)} {v:Value} {k:Value->Nat->List Nat->List (Nat×Blk)->Option β} {r:β} (he:expI mem id q used l v k none=some r) :
  ∃u q2 s2 l2,xsI mem id q used l v=some (u,q2,s2,l2)∧k u q2 s2 l2=some r:=by
 have:expI mem id q used l v k none=oK (xsI mem id q used l v) (fun x=>k x.1 x.2.1 x.2.2.1 x.2.2.2) none:=(expI_nat (fun o:Option (XS Value)=>oK o (fun x=>k x.1 x.2.1 x.2.2.1 x.2.2.2) none) mem id q used l v (fun a b c d=>some (a,b,c,d)) none).symm
 rw[this] at he
 obtain ⟨x,h1,h2⟩:=oK_some.1 he
 exact⟨x.1,x.2.1,x.2.2.1,x.2.2.2,h1,h2⟩
theorem exp1_some {β:Type} {mem:Nat->Option Blk} {id q:Nat} {used:List Nat} {l:List (Nat×Blk)} {v:Value} {k:Value->Nat->List Nat->List (Nat×Blk)->Option β} {r:β} (he:exp1 mem id q used l v k none=some r) :
  ∃u q2 s2 l2,xs1 mem id q used l v=some (u,q2,s2,l2)∧k u q2 s2 l2=some r:=by
 have:exp1 mem id q used l v k none=oK (xs1 mem id q used l v) (fun x=>k x.1 x.2.1 x.2.2.1 x.2.2.2) none:=(exp1_nat (fun o:Option (XS Value)=>oK o (fun x=>k x.1 x.2.1 x.2.2.1 x.2.2.2) none) mem id q used l v (fun a b c d=>some (a,b,c,d)) none).symm
 rw[this] at he
 obtain ⟨x,h1,h2⟩:=oK_some.1 he
 exact⟨x.1,x.2.1,x.2.2.1,x.2.2.2,h1,h2⟩
theorem expB_some {β:Type} {mem:Nat->Option Blk} {id q:Nat} {used:List Nat} {l:List (Nat×Blk)} {v:List Value} {k:List Value->Nat->List Nat->List (Nat×Blk)->Option β} {r:β} (he:expB mem id v q used l k none=some r) :
  ∃u q2 s2 l2,xsB mem id v q used l=some (u,q2,s2,l2)∧k u q2 s2 l2=some r:=by
 have:expB mem id v q used l k none=oK (xsB mem id v q used l) (fun x=>k x.1 x.2.1 x.2.2.1 x.2.2.2) none:=(expB_nat (fun o:Option (XS (List Value))=>oK o (fun x=>k x.1 x.2.1 x.2.2.1 x.2.2.2) none) mem id v q used l (fun a b c d=>some (a,b,c,d)) none).symm
 rw[this] at he
 obtain ⟨x,h1,h2⟩:=oK_some.1 he
 exact⟨x.1,x.2.1,x.2.2.1,x.2.2.2,h1,h2⟩
theorem xsA_cons {mem:Nat->Option Blk} {id:Nat} {v:Value} {r:List Value} {q:Nat} {used:List Nat} {l:List (Nat×Blk)}:xsA mem id (v::r) q used l=expC mem id q used l v (fun u q used l=>expA mem id r q used l (fun us q used l=>some (u::us,q,used,l)) none) none:=rfl
theorem xsB_cons {mem:Nat->Option Blk} {id:Nat} {v:Value} {r:List Value} {q:Nat} {used:List Nat} {l:List (Nat×Blk)}:xsB mem id (v::r) q used l=exp1 mem id q used l v (fun u q used l=>expB mem id r q used l (fun us q used l=>some (u::us,q,used,l)) none) none:=rfl
structure XInv {GL:Glob} (w0:Wb GL) (R R':Nat->Pl->Prop) (mC fm:Nat->Option Blk) (w w':World) (id q:Nat) (used:List Nat) (l:List (Nat×Blk)) (R1:Nat->Pl->Prop):Prop where
 m:MRel w0 R1 (memF fm l) w'
 sub:∀i p,R i p->R1 i p
 new:∀i p b,R1 i p->p.a=some b->w.heap.size<=b->∃j pj,j∈used∧R' j pj∧pj.a=some b
 own:∀j,j∈used->∃blk,mC j=some blk∧blk.own=true
 num:∀p∈l,∃x,x<q∧p.1=nid id x
theorem memF_no {fm:Nat->Option Blk} {i:Nat}:∀{l:List (Nat×Blk)},(∀p∈l,p.1≠i)->memF fm l i=fm i
 | [],_=>rfl
 | p::l,h=>by
  show upd (memF fm l) p.1 p.2 i=_
  rw[upd_ne _ _ (h p (List.mem_cons_self ..)),memF_no fun p hp=>h p (List.mem_cons_of_mem _ hp)]
section
variable {GL:Glob} {w0 wc:Wb GL} {R R' R1:Nat->Pl->Prop} {fm mC:Nat->Option Blk} {w w':World}
theorem xsC_sub {mem:Nat->Option Blk} {id q:Nat} {used:List Nat} {l:List (Nat×Blk)} {v u:Value} {q2:Nat} {s2:List Nat} {l2:List (Nat×Blk)} (he:xsC mem id q used l v=some (u,q2,s2,l2)):∀p∈l,p∈l2:=by
 unfold xsC expC at he
 split at he
 ·obtain ⟨_,he⟩:=cond_none.1 he
  obtain ⟨blk,_,he⟩:=oK_some.1 he
  obtain ⟨_,he⟩:=cond_some.1 he
  split at he
  ·obtain ⟨_,he⟩:=cond_some.1 he
   cases he
   exact fun p hp=>List.mem_cons_of_mem _ hp
  ·simp at he
 ·obtain ⟨_,he⟩:=cond_some.1 he
  cases he;exact fun p hp=>hp
theorem xsA_sub {mem:Nat->Option Blk} {id:Nat}:∀{v:List Value} {q:Nat} {used:List Nat} {l:List (Nat×Blk)} {u:List Value} {q2:Nat} {s2:List Nat} {l2:List (Nat×Blk)},xsA mem id v q used l=some (u,q2,s2,l2)->∀p∈l,p∈l2
 | [],_,_,_,_,_,_,_,he=>by cases he;exact fun p hp=>hp
 | v::r,q,used,l,u,q2,s2,l2,he=>by
  rw[xsA_cons] at he
  obtain ⟨u1,q3,s3,l3,h1,he⟩:=expC_some he
  obtain ⟨u2,q4,s4,l4,h2,he⟩:=expA_some he
  cases he
  exact fun p hp=>xsA_sub h2 p (xsC_sub h1 p hp)
theorem xsI_sub {mem:Nat->Option Blk} {id q:Nat} {used:List Nat} {l:List (Nat×Blk)} {v u:Value} {q2:Nat} {s2:List Nat} {l2:List (Nat×Blk)} (he:xsI mem id q used l v=some (u,q2,s2,l2)):∀p∈l,p∈l2:=by
 unfold xsI expI at he
 split at he
 ·obtain ⟨u1,q3,s3,l3,h1,he⟩:=expA_some he
  obtain ⟨_,he⟩:=cond_some.1 he
  cases he;exact xsA_sub h1
 ·obtain ⟨u1,q3,s3,l3,h1,he⟩:=expC_some he
  obtain ⟨_,he⟩:=cond_some.1 he
  cases he;exact xsC_sub h1
theorem xs1_sub {mem:Nat->Option Blk} {id q:Nat} {used:List Nat} {l:List (Nat×Blk)} {v u:Value} {q2:Nat} {s2:List Nat} {l2:List (Nat×Blk)} (he:xs1 mem id q used l v=some (u,q2,s2,l2)):∀p∈l,p∈l2:=by
 unfold xs1 exp1 at he
 split at he
 ·obtain ⟨u1,q3,s3,l3,h1,he⟩:=expA_some he
  cases he;exact xsA_sub h1
 ·obtain ⟨u1,q3,s3,l3,h1,he⟩:=expI_some he
  cases he;exact xsI_sub h1
 ·exact xsC_sub he
theorem xsB_sub {mem:Nat->Option Blk} {id:Nat}:∀{v:List Value} {q:Nat} {used:List Nat} {l:List (Nat×Blk)} {u:List Value} {q2:Nat} {s2:List Nat} {l2:List (Nat×Blk)},xsB mem id v q used l=some (u,q2,s2,l2)->∀p∈l,p∈l2
 | [],_,_,_,_,_,_,_,he=>by cases he;exact fun p hp=>hp
 | v::r,q,used,l,u,q2,s2,l2,he=>by
  rw[xsB_cons] at he
  obtain ⟨u1,q3,s3,l3,h1,he⟩:=exp1_some he
  obtain ⟨u2,q4,s4,l4,h2,he⟩:=expB_some he
  cases he
  exact fun p hp=>xsB_sub h2 p (xs1_sub h1 p hp)
theorem xsC_ok (hc:MRel wc R' mC w') (hwc:wc.w=w) (hX:∀j p b blk,R' j p->p.a=some b->mC j=some blk->blk.own=true->j<1000000->¬wc.X b) (hsz:w0.w.heap.size<=w.heap.size) {id:Nat} (hlt:id<60000) {q:Nat} {used:List Nat} {l:List (Nat×Blk)} (h:XInv w0 R R' mC fm w w' id q used l R1)
  {v v' u:Value} {q2:Nat} {s2:List Nat} {l2:List (Nat×Blk)} (hv:V0 R' v v') (he:xsC mC id q used l v=some (u,q2,s2,l2)) (hfree:∀p∈l2,fm p.1=none) :
  ∃R2,XInv w0 R R' mC fm w w' id q2 s2 l2 R2∧(∀i p,R1 i p->R2 i p)∧V0 R2 u v':=by
 unfold xsC expC at he
 split at he
 ·rename_i j off m cc
  have he1:=cond_none.1 he
  clear he
  obtain ⟨hc1,he⟩:=he1
  simp only[Bool.or_eq_false_iff,Bool.not_eq_false',Nat.blt_eq] at hc1
  obtain ⟨hmn,hq8⟩:=hc1
  have hjn:=memNat_no hmn
  have he1:=oK_some.1 he
  clear he
  obtain ⟨blk,hb,he⟩:=he1
  obtain ⟨cells,e,own⟩:=blk
  dsimp only at he
  have he1:=cond_some.1 he
  clear he
  obtain ⟨hc2,he⟩:=he1
  simp only[Bool.and_eq_true,Nat.blt_eq] at hc2
  obtain ⟨⟨hown,hjm⟩,hlo⟩:=hc2
  subst hown
  split at he
  ·rename_i ks n g
   have he1:=cond_some.1 he
   clear he
   obtain ⟨hc3,he⟩:=he1
   simp only[Bool.and_eq_true] at hc3
   obtain ⟨hoff,hmc⟩:=hc3
   have hoff:=nbeq.1 hoff
   subst hoff
   simp only[Option.some.injEq,Prod.mk.injEq] at he
   obtain ⟨rfl,rfl,rfl,rfl⟩:=he
   have hid:fm (nid id q)=none:=hfree _ (List.mem_cons_self ..)
   have hnone:memF fm l (nid id q)=none:=by
    rw[memF_no];exact hid
    intro p hp e1
    obtain ⟨x,hx,e2⟩:=h.num p hp
    rw[e2] at e1;unfold nid at e1;omega
   obtain ⟨p,hp,hsl⟩:∃p,R' j p∧SlOk ⟨j,0,none⟩ m cc p v':=hv
   obtain ⟨p',hp',hcont⟩:=memOk_row hc hb
   have:=hc.func _ _ _ hp hp';subst this
   obtain ⟨_,hcc,hcase⟩:=SlOk_loose hlo hsl
   have hnl:=nid_loose (k:=q) hlt (by omega)
   have hnt:=nid_lt (k:=q) hlt (by omega)
   refine⟨fun i2 q2=>R1 i2 q2∨(i2=nid id q∧q2=p),⟨?_,fun i p hp=>.inl (h.sub i p hp),?_,?_,?_⟩,fun _ _=>.inl,?_⟩
   ·show MRel w0 _ (upd (memF fm l) (nid id q) _) w'
    cases hpa:p.a with
    | none =>
     rw[hpa] at hcont
     have hcont:rowL ks g 0 n=[]:=hcont
     refine h.m.view (q:=p) hnone hnt (.inr (.inl hpa)) (fun b hb=>by rw[hpa] at hb;simp at hb) ?_
     intro R3 _ hR
     refine⟨p,hR,?_⟩
     rw[hpa];exact hcont
    | some b =>
     rw[hpa] at hcont
     obtain ⟨cs,fz,k1,k2,k3⟩:=hcont
     obtain ⟨hfz,hge,hroom⟩:=k3 rfl
     have hge:w.heap.size<=b:=by
      rcases hge with hx | hx
      ·exact absurd hx (hX _ _ _ _ hp hpa hb rfl hjm)
      ·rw[hwc] at hx;exact hx
     have hno:∀i q,R1 i q->q.a=some b->False:=by
      intro i q h5 h6
      obtain ⟨j2,pj,m1,m2,m3⟩:=h.new i q b h5 h6 hge
      obtain ⟨blk2,m4,m5⟩:=h.own j2 m1
      have hne:j≠j2:=fun e1=>hjn (e1 ▸ m1)
      have:=(hc.inj _ _ _ _ _ hp m2 hpa m3 hne _ hb rfl blk2 m4).1
      rw[m5] at this;simp at this
     refine h.m.rename hnone hnt (fun j q blk' h5 h6 _=>(hno j q h5 h6).elim) (fun hf=>hno _ _ hf rfl) hpa k1 hfz (.inr (Nat.le_trans hsz hge)) nofun nofun nofun ?_ fun _ hc0=>hroom hlo hc0
     have k2:LP R' (rowL ks g 0 n) (cs.toList.drop p.d):=k2
     have:=(LR_plain (r:=V0 R') (pl:=pl0) (fun _ _ hv=>V0_plain hv) (rowL_pl ks g n 0)).1 k2
     exact LP_plain (rowL_pl _ _ _ _) this
   ·rintro i p2 b (h5 | ⟨rfl,rfl⟩) h6 h7
    ·obtain ⟨j2,pj,m1,m2⟩:=h.new i p2 b h5 h6 h7
     exact⟨j2,pj,List.mem_cons_of_mem _ m1,m2⟩
    ·exact⟨j,p2,List.mem_cons_self ..,hp,h6⟩
   ·intro j2 hj2
    rcases List.mem_cons.1 hj2 with rfl | hj2
    ·exact⟨_,hb,rfl⟩
    ·exact h.own j2 hj2
   ·intro p2 hp2
    rcases List.mem_cons.1 hp2 with rfl | hp2
    ·exact⟨q,by omega,rfl⟩
    ·obtain ⟨x,h5,h6⟩:=h.num p2 hp2
     exact⟨x,by omega,h6⟩
   ·refine⟨p,.inr ⟨rfl,rfl⟩,?_⟩
    unfold SlOk
    rw[if_pos hnl]
    refine⟨rfl,rfl,hcc,?_⟩
    rcases hcase with⟨b,hpa,hv'⟩ | ⟨hpa,hm0,hc0,hv'⟩
    ·rw[hpa];exact hv'
    ·rw[hpa];exact⟨hm0,hc0,hv'⟩
  ·simp at he
 ·obtain ⟨hpl,he⟩:=cond_some.1 he
  cases he
  have:=(V0_plain hpl).1 hv
  subst this
  exact⟨R1,h,fun _ _ h=>h,(V0_plain hpl).2 rfl⟩
theorem xsA_ok (hc:MRel wc R' mC w') (hwc:wc.w=w) (hX:∀j p b blk,R' j p->p.a=some b->mC j=some blk->blk.own=true->j<1000000->¬wc.X b) (hsz:w0.w.heap.size<=w.heap.size) {id:Nat} (hlt:id<60000):∀{vs vs' us:List Value} {q:Nat} {used:List Nat} {l:List (Nat×Blk)} {R1:Nat->Pl->Prop} (_:XInv w0 R R' mC fm w w' id q used l R1)
  {q2:Nat} {s2:List Nat} {l2:List (Nat×Blk)} (_:LR (V0 R') vs vs') (_:xsA mC id vs q used l=some (us,q2,s2,l2)) (_:∀p∈l2,fm p.1=none),
  ∃R2,XInv w0 R R' mC fm w w' id q2 s2 l2 R2∧(∀i p,R1 i p->R2 i p)∧LR (V0 R2) us vs'
 | [],[],_,_,_,_,R1,h,_,_,_,_,he,_=>by cases he;exact⟨R1,h,fun _ _ h=>h,trivial⟩
 | v::vs,v'::vs',us,q,used,l,R1,h,q2,s2,l2,hl,he,hf=>by
  rw[xsA_cons] at he
  obtain ⟨u1,q3,s3,l3,h1,he⟩:=expC_some he
  obtain ⟨u2,q4,s4,l4,h2,he⟩:=expA_some he
  cases he
  obtain ⟨R2,k1,k2,k3⟩:=xsC_ok hc hwc hX hsz hlt h hl.1 h1 fun p hp=>hf p (xsA_sub h2 p hp)
  obtain ⟨R3,k4,k5,k6⟩:=xsA_ok hc hwc hX hsz hlt k1 hl.2 h2 hf
  exact⟨R3,k4,fun i p hp=>k5 i p (k2 i p hp),V0_mono k5 k3,k6⟩
 | [],_::_,_,_,_,_,_,_,_,_,_,hl,_,_=>hl.elim
 | _::_,[],_,_,_,_,_,_,_,_,_,hl,_,_=>hl.elim
theorem xsI_ok (hc:MRel wc R' mC w') (hwc:wc.w=w) (hX:∀j p b blk,R' j p->p.a=some b->mC j=some blk->blk.own=true->j<1000000->¬wc.X b) (hsz:w0.w.heap.size<=w.heap.size) {id:Nat} (hlt:id<60000) {q:Nat} {used:List Nat} {l:List (Nat×Blk)} (h:XInv w0 R R' mC fm w w' id q used l R1)
  {v v' u:Value} {q2:Nat} {s2:List Nat} {l2:List (Nat×Blk)} (hv:VI R' v v') (he:xsI mC id q used l v=some (u,q2,s2,l2)) (hfree:∀p∈l2,fm p.1=none) :
  ∃R2,XInv w0 R R' mC fm w w' id q2 s2 l2 R2∧(∀i p,R1 i p->R2 i p)∧VI R2 u v':=by
 unfold xsI expI at he
 split at he
 ·rename_i cs
  obtain ⟨u1,q3,s3,l3,h1,he⟩:=expA_some he
  obtain ⟨hni,he⟩:=cond_some.1 he
  cases he
  obtain ⟨cs',rfl,hl⟩:∃cs',v'=.agg cs'∧LR (V00 R') cs.toList cs'.toList:=hv
  obtain ⟨R2,k1,k2,k3⟩:=xsA_ok hc hwc hX hsz hlt h (LR_mono (fun _ _=>V00_V0) hl) h1 hfree
  exact⟨R2,k1,k2,cs',rfl,by rw[List.toList_toArray];exact LR_V00 k3 hni⟩
 ·rename_i hna
  obtain ⟨u1,q3,s3,l3,h1,he⟩:=expC_some he
  obtain ⟨hni,he⟩:=cond_some.1 he
  cases he
  have hv0:V0 R' v v':=by
   unfold VI at hv
   split at hv
   ·exact absurd rfl (hna _)
   ·exact V00_V0 hv
  obtain ⟨R2,k1,k2,k3⟩:=xsC_ok hc hwc hX hsz hlt h hv0 h1 hfree
  refine⟨R2,k1,k2,?_⟩
  unfold VI;split
  ·exact k3.elim
  ·exact V00_of_V0 k3 hni
theorem xs1_ok (hc:MRel wc R' mC w') (hwc:wc.w=w) (hX:∀j p b blk,R' j p->p.a=some b->mC j=some blk->blk.own=true->j<1000000->¬wc.X b) (hsz:w0.w.heap.size<=w.heap.size) {id:Nat} (hlt:id<60000) {q:Nat} {used:List Nat} {l:List (Nat×Blk)} (h:XInv w0 R R' mC fm w w' id q used l R1)
  {v v' u:Value} {q2:Nat} {s2:List Nat} {l2:List (Nat×Blk)} (hv:V1 R' v v') (he:xs1 mC id q used l v=some (u,q2,s2,l2)) (hfree:∀p∈l2,fm p.1=none) :
  ∃R2,XInv w0 R R' mC fm w w' id q2 s2 l2 R2∧(∀i p,R1 i p->R2 i p)∧V1 R2 u v':=by
 unfold xs1 exp1 at he
 split at he
 ·rename_i cs
  obtain ⟨u1,q3,s3,l3,h1,he⟩:=expA_some he
  cases he
  obtain ⟨cs',rfl,hl⟩:∃cs',v'=.agg cs'∧LR (V0 R') cs.toList cs'.toList:=hv
  obtain ⟨R2,k1,k2,k3⟩:=xsA_ok hc hwc hX hsz hlt h hl h1 hfree
  exact⟨R2,k1,k2,cs',rfl,by rw[List.toList_toArray];exact k3⟩
 ·rename_i t x
  obtain ⟨u1,q3,s3,l3,h1,he⟩:=expI_some he
  cases he
  obtain ⟨x',rfl,hx⟩:∃x',v'=.iface t x'∧VI R' x x':=hv
  obtain ⟨R2,k1,k2,k3⟩:=xsI_ok hc hwc hX hsz hlt h hx h1 hfree
  exact⟨R2,k1,k2,x',rfl,k3⟩
 ·rename_i hna _
  have hv0:V0 R' v v':=by
   unfold V1 at hv
   split at hv
   ·exact absurd rfl (hna _)
   ·exact hv
  obtain ⟨R2,k1,k2,k3⟩:=xsC_ok hc hwc hX hsz hlt h hv0 he hfree
  refine⟨R2,k1,k2,?_⟩
  unfold V1;split
  ·exact k3.elim
  ·exact k3
theorem xsB_ok (hc:MRel wc R' mC w') (hwc:wc.w=w) (hX:∀j p b blk,R' j p->p.a=some b->mC j=some blk->blk.own=true->j<1000000->¬wc.X b) (hsz:w0.w.heap.size<=w.heap.size) {id:Nat} (hlt:id<60000):∀{vs vs' us:List Value} {q:Nat} {used:List Nat} {l:List (Nat×Blk)} {R1:Nat->Pl->Prop} (_:XInv w0 R R' mC fm w w' id q used l R1)
  {q2:Nat} {s2:List Nat} {l2:List (Nat×Blk)} (_:LR (V1 R') vs vs') (_:xsB mC id vs q used l=some (us,q2,s2,l2)) (_:∀p∈l2,fm p.1=none),
  ∃R2,XInv w0 R R' mC fm w w' id q2 s2 l2 R2∧(∀i p,R1 i p->R2 i p)∧LR (V1 R2) us vs'
 | [],[],_,_,_,_,R1,h,_,_,_,_,he,_=>by cases he;exact⟨R1,h,fun _ _ h=>h,trivial⟩
 | v::vs,v'::vs',us,q,used,l,R1,h,q2,s2,l2,hl,he,hf=>by
  rw[xsB_cons] at he
  obtain ⟨u1,q3,s3,l3,h1,he⟩:=exp1_some he
  obtain ⟨u2,q4,s4,l4,h2,he⟩:=expB_some he
  cases he
  obtain ⟨R2,k1,k2,k3⟩:=xs1_ok hc hwc hX hsz hlt h hl.1 h1 fun p hp=>hf p (xsB_sub h2 p hp)
  obtain ⟨R3,k4,k5,k6⟩:=xsB_ok hc hwc hX hsz hlt k1 hl.2 h2 hf
  exact⟨R3,k4,fun i p hp=>k5 i p (k2 i p hp),V1_mono k5 k3,k6⟩
 | [],_::_,_,_,_,_,_,_,_,_,_,hl,_,_=>hl.elim
 | _::_,[],_,_,_,_,_,_,_,_,_,hl,_,_=>hl.elim
theorem expX_ok2 (h:MRel w0 R fm w') (hlt0:∀i p b,R i p->p.a=some b->b<w.heap.size) (hsz:w0.w.heap.size<=w.heap.size) (hc:MRel wc R' mC w') (hwc:wc.w=w) (hX:∀j p b blk,R' j p->p.a=some b->mC j=some blk->blk.own=true->j<1000000->¬wc.X b) {id:Nat} (hlt:id<60000) {v v':Value} (hv1:(∀vs,v≠.tuple vs)->V2 R' v v') (hv2:∀vs,v=.tuple vs->∃vs',v'=.tuple vs'∧LR (V2 R') vs.toList vs'.toList) (hnt:∀vs,v=.tuple vs->vs.toList.all notTup=true)
  {u:Value} {l:List (Nat×Blk)} (he:expX mC id v (fun a b=>some (a,b)) none=some (u,l)) (hfree:∀p∈l,fm p.1=none) :
  ∃R2:Nat->Pl->Prop,(∀i p,R i p->R2 i p)∧V2 R2 u v'∧MRel w0 R2 (memF fm l) w':=by
 have h0:XInv w0 R R' mC fm w w' id 0 [] [] R:=⟨h,fun _ _ h=>h,fun i p b h1 h2 h3=>by have:=hlt0 i p b h1 h2;omega,nofun,nofun⟩
 unfold expX at he
 split at he
 ·rename_i vs
  obtain ⟨u1,q3,s3,l3,h1,he⟩:=expB_some he
  cases he
  obtain ⟨vs',rfl,hl⟩:=hv2 vs rfl
  have hl1:LR (V1 R') vs.toList vs'.toList:=by
   have:=hnt vs rfl
   revert hl this
   generalize vs.toList=a
   generalize vs'.toList=b
   intro hl hn
   induction a generalizing b with
   | nil=>cases b with
    | nil=>trivial
    | cons _ _=>exact hl.elim
   | cons x a ih=>cases b with
    | nil=>exact hl.elim
    | cons y b =>
     simp only[List.all_cons,Bool.and_eq_true] at hn
     exact⟨V1_of_V2 hl.1 hn.1,ih b hl.2 hn.2⟩
  obtain ⟨R2,k1,k2,k3⟩:=xsB_ok hc hwc hX hsz hlt h0 hl1 h1 hfree
  exact⟨R2,k2,⟨vs',rfl,by rw[List.toList_toArray];exact k3⟩,k1.m⟩
 ·rename_i hna
  obtain ⟨u1,q3,s3,l3,h1,he⟩:=exp1_some he
  cases he
  have hv:=hv1 hna
  have hv:V1 R' v v':=by
   unfold V2 at hv
   split at hv
   ·exact absurd rfl (hna _)
   ·exact hv
  obtain ⟨R2,k1,k2,k3⟩:=xs1_ok hc hwc hX hsz hlt h0 hv h1 hfree
  exact⟨R2,k2,V2_of_V1 k3,k1.m⟩
theorem expX_ok (h:MRel w0 R fm w) (hc:MRel wc R' mC w') (hwc:wc.w=w) (hX:∀k,¬wc.X k) {id:Nat} (hlt:id<60000) {v v':Value} (hv1:(∀vs,v≠.tuple vs)->V2 R' v v') (hv2:∀vs,v=.tuple vs->∃vs',v'=.tuple vs'∧LR (V2 R') vs.toList vs'.toList) (hnt:∀vs,v=.tuple vs->vs.toList.all notTup=true)
  {u:Value} {l:List (Nat×Blk)} (he:expX mC id v (fun a b=>some (a,b)) none=some (u,l)) (hfree:∀p∈l,fm p.1=none) :
  ∃R2:Nat->Pl->Prop,(∀i p,R i p->R2 i p)∧V2 R2 u v'∧MRel w0 R2 (memF fm l) w':=by
 have hbel:Below w.heap.size w w':=by have:=hc.below.below hX;rw[hwc] at this;exact this
 exact expX_ok2 (h.world hbel) (fun i p b h1 h2=>h.lt h1 h2) h.below.size hc hwc (fun _ _ b _ _ _ _ _ _=>hX b) hlt hv1 hv2 hnt he hfree
end
end Go.W

namespace Go.W
open Go.RowKit (Below)
inductive AC where
 | pl (v:Value)
 | sl (ks:List CK) (n:Nat) (g:Nat->List Value)
 | fm (ks:List CK) (n:Nat) (g:Nat->Nat×(Nat->List Value))
inductive AV where
 | c (a:AC)
 | ag (l:List AC)
 | ig (t:TypeId) (l:List AC)
def agId (k q:Nat):Nat:=1500000+(1000*(k+1)+q)
def acVal (i:Nat):AC->Value
 | .pl v=>v
 | .sl _ n _=>.slice (some ⟨i,0,none⟩) n n
 | .fm _ n _=>.slice (some ⟨i,0,none⟩) n n
def agVals (k:Nat):Nat->List AC->List Value
 | _,[]=>[]
 | q,a::l=>acVal (agId k q) a::agVals k (q+1) l
def cArgsX:List AV->Nat->List Value
 | [],_=>[]
 | .c a::r,k=>acVal (argId k) a::cArgsX r (k+1)
 | .ag l::r,k=>.agg (agVals k 0 l).toArray::cArgsX r (k+1)
 | .ig t l::r,k=>.iface t (.agg (agVals k 0 l).toArray)::cArgsX r (k+1)
def agFlat (k:Nat):Nat->List AC->List (Nat×AC)
 | _,[]=>[]
 | q,a::l=>(agId k q,a)::agFlat k (q+1) l
def flatX:List AV->Nat->List (Nat×AC)
 | [],_=>[]
 | .c a::r,k=>(argId k,a)::flatX r (k+1)
 | .ag l::r,k=>agFlat k 0 l++flatX r (k+1)
 | .ig _ l::r,k=>agFlat k 0 l++flatX r (k+1)
def memL (es:Nat->TypeId) (er:Nat->Nat->TypeId):List (Nat×AC)->List (Nat×Blk)
 | []=>[]
 | (_,.pl _)::L=>memL es er L
 | (i,.sl ks n g)::L=>(i,⟨.row ks n g,es i,false⟩)::memL es er L
 | (i,.fm ks n g)::L=>(i,⟨.fam ks n (er i) g,es i,false⟩)::memL es er L
def cMemX (es:Nat->TypeId) (er:Nat->Nat->TypeId) (A:List AV):List (Nat×Blk):=memL es er (flatX A 0)
def isPl:AC->Bool
 | .pl _=>true
 | _=>false
def numOk:List Nat->Bool
 | []=>true
 | i::l=>Nat.ble 1500000 i&&Nat.blt i 1000000000&&!(memNat i l)&&numOk l
def CellW (w:World) (e:TypeId) (er:Nat->TypeId) (p:Pl):AC->Value->Prop
 | .pl v,v'=>v'=v
 | .sl ks n g,v'=>n<=p.c∧(match p.a with
   | some b=>v'=.slice (some ⟨b,p.d,none⟩) n p.c∧∃cs fz,w.heap[b]?=some (.cells cs e fz)∧(cs.toList.drop p.d).take (n*ks.length)=rowL ks g 0 n
   | none=>n=0∧p.c=0∧p.d=0∧Emp v')
 | .fm ks n g,v'=>FamW w e ks n er g p v'
def LW (w:World) (es:Nat->TypeId) (er:Nat->Nat->TypeId) (pl:Nat->Pl):List (Nat×AC)->List Value->Prop
 | [],[]=>True
 | x::L,v'::vs=>CellW w (es x.1) (er x.1) (pl x.1) x.2 v'∧LW w es er pl L vs
 | _,_=>False
def LX (w:World):List AC->List Value->Prop
 | [],[]=>True
 | a::L,v'::vs=>(∃e er p,CellW w e er p a v')∧LX w L vs
 | _,_=>False
def blkOf (es:Nat->TypeId) (er:Nat->Nat->TypeId) (i:Nat):AC->Blk
 | .pl _=>⟨.lst [],0,false⟩
 | .sl ks n g=>⟨.row ks n g,es i,false⟩
 | .fm ks n g=>⟨.fam ks n (er i) g,es i,false⟩
def RcL (w:World) (pl:Nat->Pl) (L:List (Nat×AC)) (i:Nat) (p:Pl):Prop :=
 (∃a,(i,a)∈L∧isPl a=false∧p=pl i)∨(∃b,(∃cs e fz,w.heap[b]?=some (.cells cs e fz))∧i=1000000000+b∧p=⟨some b,0,0⟩)
theorem LW_congr {w:World} {es es':Nat->TypeId} {er er':Nat->Nat->TypeId} {pl pl':Nat->Pl}:∀{L:List (Nat×AC)} {vs:List Value},(∀x∈L,es x.1=es' x.1∧er x.1=er' x.1∧pl x.1=pl' x.1)->LW w es er pl L vs->LW w es' er' pl' L vs
 | [],[],_,_=>trivial
 | x::L,v'::vs,hc,h=>by
  obtain ⟨h1,h2,h3⟩:=hc x (List.mem_cons_self ..)
  exact⟨by rw[<-h1,<-h2,<-h3];exact h.1,LW_congr (fun y hy=>hc y (List.mem_cons_of_mem _ hy)) h.2⟩
 | [],_::_,_,h=>h.elim
 | _::_,[],_,h=>h.elim
theorem numOk_not {i:Nat} {L:List (Nat×AC)} (h:memNat i (L.map (·.1))=false):∀x∈L,x.1≠i:=by
 intro x hx e
 exact memNat_no h (e ▸ List.mem_map_of_mem hx)
theorem LW_of {w:World}:∀{L:List (Nat×AC)} {vs:List Value},numOk (L.map (·.1))=true->LX w (L.map (·.2)) vs->∃es er pl,LW w es er pl L vs
 | [],[],_,_=>⟨fun _=>0,fun _ _=>0,fun _=>⟨none,0,0⟩,trivial⟩
 | x::L,v'::vs,hn,h=>by
  simp only[List.map_cons,numOk,Bool.and_eq_true,Bool.not_eq_true'] at hn
  obtain ⟨⟨e,er1,p,h1⟩,h2⟩:=h
  obtain ⟨es,er,pl,h3⟩:=LW_of hn.2 h2
  refine⟨setAt x.1 e es,setAt x.1 er1 er,setAt x.1 p pl,?_,LW_congr (fun y hy=>?_) h3⟩
  ·simp only[setAt,if_pos];exact h1
  ·have:=numOk_not hn.1.2 y hy
   simp only[setAt,if_neg this];exact⟨trivial,trivial,trivial⟩
 | [],_::_,_,h=>h.elim
 | _::_,[],_,h=>h.elim
theorem LW_at {w:World} {es:Nat->TypeId} {er:Nat->Nat->TypeId} {pl:Nat->Pl}:∀{L:List (Nat×AC)} {vs:List Value},LW w es er pl L vs->∀x∈L,∃v',CellW w (es x.1) (er x.1) (pl x.1) x.2 v'
 | [],_,_,_,hx=>by simp at hx
 | y::L,v'::vs,h,x,hx=>by
  rcases List.mem_cons.1 hx with rfl | hx
  ·exact⟨v',h.1⟩
  ·exact LW_at h.2 x hx
 | _::_,[],h,_,_=>h.elim
theorem memL_at {es:Nat->TypeId} {er:Nat->Nat->TypeId}:∀{L:List (Nat×AC)} {i:Nat} {blk:Blk},look (memL es er L) i=some blk->∃a,(i,a)∈L∧isPl a=false∧blk=blkOf es er i a
 | [],i,blk,h=>by simp[memL,look] at h
 | (j,.pl v)::L,i,blk,h=>by
  obtain ⟨a,h1,h2⟩:=memL_at (L:=L) h
  exact⟨a,List.mem_cons_of_mem _ h1,h2⟩
 | (j,.sl ks n g)::L,i,blk,h=>by
  rw[memL,look_cons] at h
  by_cases e1:j=i
  ·subst e1
   rw[upd_same] at h;cases h
   exact⟨_,List.mem_cons_self ..,rfl,rfl⟩
  ·rw[upd_ne _ _ e1] at h
   obtain ⟨a,h1,h2⟩:=memL_at (L:=L) h
   exact⟨a,List.mem_cons_of_mem _ h1,h2⟩
 | (j,.fm ks n g)::L,i,blk,h=>by
  rw[memL,look_cons] at h
  by_cases e1:j=i
  ·subst e1
   rw[upd_same] at h;cases h
   exact⟨_,List.mem_cons_self ..,rfl,rfl⟩
  ·rw[upd_ne _ _ e1] at h
   obtain ⟨a,h1,h2⟩:=memL_at (L:=L) h
   exact⟨a,List.mem_cons_of_mem _ h1,h2⟩
theorem memL_some {es:Nat->TypeId} {er:Nat->Nat->TypeId}:∀{L:List (Nat×AC)} {i:Nat} {a:AC},(i,a)∈L->isPl a=false->(look (memL es er L) i).isSome=true
 | [],_,_,h,_=>by simp at h
 | (j,.pl v)::L,i,a,h,hp=>by
  rcases List.mem_cons.1 h with e | h
  ·cases e;simp[isPl] at hp
  ·exact memL_some (L:=L) h hp
 | (j,.sl ks n g)::L,i,a,h,hp=>by
  rw[memL,look_cons]
  by_cases e1:j=i
  ·subst e1;rw[upd_same];rfl
  ·rw[upd_ne _ _ e1]
   rcases List.mem_cons.1 h with e | h
   ·cases e;exact absurd rfl e1
   ·exact memL_some (L:=L) h hp
 | (j,.fm ks n g)::L,i,a,h,hp=>by
  rw[memL,look_cons]
  by_cases e1:j=i
  ·subst e1;rw[upd_same];rfl
  ·rw[upd_ne _ _ e1]
   rcases List.mem_cons.1 h with e | h
   ·cases e;exact absurd rfl e1
   ·exact memL_some (L:=L) h hp
theorem numOk_range:∀{l:List Nat},numOk l=true->∀i∈l,1500000<=i∧i<1000000000
 | [],_,_,h=>by simp at h
 | j::l,hn,i,h=>by
  simp only[numOk,Bool.and_eq_true,Nat.blt_eq] at hn
  obtain ⟨⟨⟨h1,h2⟩,_⟩,h3⟩:=hn
  rcases List.mem_cons.1 h with rfl | h
  ·exact⟨Nat.le_of_ble_eq_true h1,h2⟩
  ·exact numOk_range h3 i h
section
variable {GL:Glob} {w:World}
theorem callee_relX (hg:GOk GL w) {es:Nat->TypeId} {er:Nat->Nat->TypeId} {pl:Nat->Pl} {L:List (Nat×AC)} {vs:List Value} (h:LW w es er pl L vs) (hn:numOk (L.map (·.1))=true) :
  MRel (⟨w,fun _=>False,RcL w pl L⟩:Wb GL) (RcL w pl L) (look (memL es er L)) w:=by
 have frz:∀b cs e fz,w.heap[b]?=some (.cells cs e fz)->Frz (RcL w pl L) b:=fun b cs e fz hb=>.inr ⟨b,⟨cs,e,fz,hb⟩,rfl,rfl⟩
 have hrange:∀i a,(i,a)∈L->1500000<=i∧i<1000000000:=fun i a hi=>numOk_range hn i (List.mem_map_of_mem (f:=fun x:Nat×AC=>x.1) hi)
 have hrow:∀{e:TypeId} {er1:Nat->TypeId} {p:Pl} {a:AC} {v':Value},isPl a=false->CellW w e er1 p a v'->∀b,p.a=some b->∃cs fz,w.heap[b]?=some (.cells cs e fz):=by
  intro e er1 p a v' hp hc b hb
  cases a with
  | pl v=>simp[isPl] at hp
  | sl ks n g =>
   have hc:=hc.2
   rw[hb] at hc
   obtain ⟨_,cs,fz,m1,_⟩:=hc
   exact⟨cs,fz,m1⟩
  | fm ks n g =>
   have hc:=hc.2
   rw[hb] at hc
   obtain ⟨_,cs,fz,m1,_⟩:=hc
   exact⟨cs,fz,m1⟩
 refine⟨BelowX.refl _ _ _ hg (fun _ _ h=>h),?_,?_,?_,?_,fun _ _ h _ _=>h,?_,?_⟩
 ·rintro i p p' (⟨a,hj,_,rfl⟩ | ⟨b,hb,rfl,rfl⟩) (⟨a',hj',_,rfl⟩ | ⟨b',hb',e,rfl⟩)
  ·rfl
  ·have:=hrange _ _ hj;omega
  ·have:=hrange _ _ hj';omega
  ·have:b=b':=by omega
   rw[this]
 ·rintro i j p q b _ _ _ _ _ blk hblk hown _ _
  obtain ⟨a,_,h2,rfl⟩:=memL_at hblk
  cases a<;>simp[blkOf] at hown
 ·intro i blk hi
  obtain ⟨a,h1,h2,rfl⟩:=memL_at hi
  obtain ⟨v',h3⟩:=LW_at h _ h1
  have hR:RcL w pl L i (pl i):=.inl ⟨a,h1,h2,rfl⟩
  cases a with
  | pl v=>simp[isPl] at h2
  | sl ks n g =>
   refine⟨pl i,hR,?_⟩
   have h3:=h3.2
   cases hpa:(pl i).a with
   | none=>simp only[hpa] at h3;show rowL ks g 0 n=[];rw[h3.1];rfl
   | some b =>
    simp only[hpa] at h3
    obtain ⟨_,cs,fz,m1,m2⟩:=h3
    exact⟨cs,fz,m1,LP_plain (rowL_pl _ _ _ _) (by rw[show(blkOf es er i (.sl ks n g)).cells.list=rowL ks g 0 n from rfl,rowL_len];exact m2),fun ho=>by simp[blkOf] at ho⟩
  | fm ks n g =>
   refine⟨pl i,hR,?_⟩
   have h3:=h3.2
   cases hpa:(pl i).a with
   | none=>simp only[hpa] at h3;exact h3.1
   | some b =>
    simp only[hpa] at h3
    obtain ⟨_,cs,fz,m1,m2⟩:=h3
    refine⟨cs,fz,m1,fun j hj=>?_,fun _=>frz b cs _ fz m1,fun ho=>by simp[blkOf] at ho⟩
    obtain ⟨u,m3,m4⟩:=m2 j hj
    refine⟨u,m3,?_⟩
    rcases m4 with m4 | ⟨b2,d,c,cs2,fz2,q1,q2,q3,q4⟩
    ·exact .inl m4
    ·exact .inr ⟨b2,d,c,cs2,fz2,q1,q2,frz b2 cs2 _ fz2 q3,q3,q4⟩
 ·rintro i p (⟨a,hj,hp,rfl⟩ | ⟨b,hb,rfl,rfl⟩) hvb
  ·exact memL_some hj hp
  ·omega
 ·rintro i p b (⟨a,hj,hp,rfl⟩ | ⟨b',hb,rfl,rfl⟩) hpa
  ·obtain ⟨v',h3⟩:=LW_at h _ hj
   obtain ⟨cs,fz,m1⟩:=hrow hp h3 b hpa
   exact .inl ⟨cs,_,fz,m1⟩
  ·cases hpa;exact .inl hb
 ·rintro i p (⟨a,hj,hp,rfl⟩ | ⟨b',hb,rfl,rfl⟩) hge
  ·have:=hrange _ _ hj;omega
  ·refine⟨by rw[Nat.add_sub_cancel_left],fun j q _ _ blk hblk=>?_⟩
   obtain ⟨a,_,h2,rfl⟩:=memL_at hblk
   cases a<;>rfl
end
def flatV:List AV->List Value->List Value
 | .c _::r,v::vs=>v::flatV r vs
 | .ag _::r,v::vs=>(match v with
  | .agg cs=>cs.toList
  | _=>[])++flatV r vs
 | .ig _ _::r,v::vs=>(match v with
  | .iface _ (.agg cs)=>cs.toList
  | _=>[])++flatV r vs
 | _,_=>[]
def shX:List AV->List Value->Prop
 | [],[]=>True
 | .c a::r,_::vs=>(∀v,a=.pl v->pl2 v=true)∧shX r vs
 | .ag l::r,v::vs=>(∃cs,v=.agg cs∧cs.toList.length=l.length)∧(∀x,.pl x∈l->pl0 x=true)∧shX r vs
 | .ig t l::r,v::vs=>(∃cs,v=.iface t (.agg cs)∧cs.toList.length=l.length)∧(∀x,.pl x∈l->pl0 x=true)∧shX r vs
 | _,_=>False
def cells1:AV->List AC
 | .c a=>[a]
 | .ag l=>l
 | .ig _ l=>l
def cellsX (A:List AV):List AC:=A.flatMap cells1
theorem agFlat_snd (k:Nat):∀(l:List AC) (q:Nat),(agFlat k q l).map (·.2)=l
 | [],_=>rfl
 | a::l,q=>by simp only[agFlat,List.map_cons,agFlat_snd k l (q+1)]
theorem flatX_snd:∀(A:List AV) (k:Nat),(flatX A k).map (·.2)=cellsX A
 | [],_=>rfl
 | .c a::r,k=>by simp only[flatX,List.map_cons,flatX_snd r (k+1)];rfl
 | .ag l::r,k=>by simp only[flatX,List.map_append,agFlat_snd,flatX_snd r (k+1)];rfl
 | .ig _ l::r,k=>by simp only[flatX,List.map_append,agFlat_snd,flatX_snd r (k+1)];rfl
theorem LW_app {w:World} {es:Nat->TypeId} {er:Nat->Nat->TypeId} {pl:Nat->Pl}:∀{L1 L2:List (Nat×AC)} {v1 v2:List Value},v1.length=L1.length->LW w es er pl (L1++L2) (v1++v2)->LW w es er pl L1 v1∧LW w es er pl L2 v2
 | [],_,[],_,_,h=>⟨trivial,h⟩
 | x::L1,L2,v::v1,v2,hl,h=>by
  obtain ⟨h1,h2⟩:=LW_app (L1:=L1) (v1:=v1) (by simpa using hl) h.2
  exact⟨⟨h.1,h1⟩,h2⟩
 | [],_,_::_,_,hl,_=>by simp at hl
 | _::_,_,[],_,hl,_=>by simp at hl
theorem agFlat_len (k:Nat):∀(l:List AC) (q:Nat),(agFlat k q l).length=l.length
 | [],_=>rfl
 | a::l,q=>by simp only[agFlat,List.length_cons,agFlat_len k l (q+1)]
section
variable {w:World} {es:Nat->TypeId} {er:Nat->Nat->TypeId} {pl:Nat->Pl} {Rc:Nat->Pl->Prop}
theorem cell_val {i:Nat} {a:AC} {v':Value} (hi:loose i=true) (hR:isPl a=false->Rc i (pl i)) (h:CellW w (es i) (er i) (pl i) a v') (hp:∀v,a=.pl v->pl0 v=true):V0 Rc (acVal i a) v':=by
 have sl:∀(n:Nat),isPl a=false->n<=(pl i).c->(match (pl i).a with
   | some b=>v'=.slice (some ⟨b,(pl i).d,none⟩) n (pl i).c
   | none=>n=0∧(pl i).c=0∧Emp v')->V0 Rc (.slice (some ⟨i,0,none⟩) n n) v':=by
  intro n hpl hc hm
  refine⟨pl i,hR hpl,?_⟩
  unfold SlOk
  rw[if_pos hi]
  exact⟨rfl,rfl,hc,hm⟩
 cases a with
 | pl v=>have h:v'=v:=h;subst h;exact(V0_plain (hp _ rfl)).2 rfl
 | sl ks n g =>
  refine sl n rfl h.1 ?_
  have h2:=h.2
  cases hpa:(pl i).a with
  | none=>simp only[hpa] at h2;exact⟨h2.1,h2.2.1,h2.2.2.2⟩
  | some b=>simp only[hpa] at h2;exact h2.1
 | fm ks n g =>
  refine sl n rfl h.1 ?_
  have h2:=h.2
  cases hpa:(pl i).a with
  | none=>simp only[hpa] at h2;exact⟨h2.1,h2.2.1,h2.2.2.2⟩
  | some b=>simp only[hpa] at h2;exact h2.1
theorem agId_loose (k q:Nat):loose (agId k q)=true:=by
 unfold loose agId
 rw[show Nat.ble 1500000 (1500000+(1000*(k+1)+q))=true from by rw[Nat.ble_eq];omega,Bool.or_true]
theorem ag_vals {k:Nat}:∀{l:List AC} {q:Nat} {us:List Value},LW w es er pl (agFlat k q l) us->(∀x∈agFlat k q l,isPl x.2=false->Rc x.1 (pl x.1))->(∀x,.pl x∈l->pl0 x=true)->LR (V0 Rc) (agVals k q l) us
 | [],_,[],_,_,_=>trivial
 | _::_,_,_::_,h,hR,hp=>⟨cell_val (agId_loose k _) (fun hpl=>hR _ (List.mem_cons_self ..) hpl) h.1 (fun v e=>hp v (e ▸ List.mem_cons_self ..)),ag_vals h.2 (fun x hx=>hR x (List.mem_cons_of_mem _ hx)) (fun x hx=>hp x (List.mem_cons_of_mem _ hx))⟩
 | [],_,_::_,h,_,_=>h.elim
 | _::_,_,[],h,_,_=>h.elim
theorem agVals_noIf (k:Nat):∀{l:List AC} (q:Nat),(∀x,.pl x∈l->pl0 x=true)->(agVals k q l).all noIf=true
 | [],_,_=>rfl
 | a::l,q,hp=>by
  simp only[agVals,List.all_cons,Bool.and_eq_true]
  refine⟨?_,agVals_noIf k (q+1) fun x hx=>hp x (List.mem_cons_of_mem _ hx)⟩
  cases a with
  | pl v =>
   have:=hp v (List.mem_cons_self ..)
   cases v<;>first | rfl | (simp[pl0] at this;done)
  | sl ks n g=>rfl
  | fm ks n g=>rfl
theorem args_vals:∀{A:List AV} {k:Nat} {args':List Value},LW w es er pl (flatX A k) (flatV A args')->shX A args'->(∀x∈flatX A k,isPl x.2=false->Rc x.1 (pl x.1))->LR (V2 Rc) (cArgsX A k) args'
 | [],_,[],_,_,_=>trivial
 | .c a::r,k,v'::args',h,hs,hR=>by
  refine⟨?_,args_vals h.2 hs.2 fun x hx=>hR x (List.mem_cons_of_mem _ hx)⟩
  cases a with
  | pl v =>
   have h1:v'=v:=h.1
   subst h1;exact(V2_plain (hs.1 _ rfl)).2 rfl
  | sl ks n g =>
   have:=cell_val (Rc:=Rc) (argId_loose k) (fun hpl=>hR _ (List.mem_cons_self ..) hpl) h.1 nofun
   exact V2_of_V1 (show V1 Rc _ _ from this)
  | fm ks n g =>
   have:=cell_val (Rc:=Rc) (argId_loose k) (fun hpl=>hR _ (List.mem_cons_self ..) hpl) h.1 nofun
   exact V2_of_V1 (show V1 Rc _ _ from this)
 | .ag l::r,k,v'::args',h,hs,hR=>by
  obtain ⟨⟨cs,rfl,hl⟩,hp,hs2⟩:=hs
  obtain ⟨h1,h2⟩:=LW_app (L1:=agFlat k 0 l) (v1:=cs.toList) (by rw[agFlat_len];exact hl) h
  refine⟨?_,args_vals h2 hs2 fun x hx=>hR x (List.mem_append_right _ hx)⟩
  refine V2_of_V1 ⟨cs,rfl,?_⟩
  rw[List.toList_toArray]
  exact ag_vals h1 (fun x hx=>hR x (List.mem_append_left _ hx)) hp
 | .ig t l::r,k,v'::args',h,hs,hR=>by
  obtain ⟨⟨cs,rfl,hl⟩,hp,hs2⟩:=hs
  obtain ⟨h1,h2⟩:=LW_app (L1:=agFlat k 0 l) (v1:=cs.toList) (by rw[agFlat_len];exact hl) h
  refine⟨?_,args_vals h2 hs2 fun x hx=>hR x (List.mem_append_right _ hx)⟩
  refine(⟨_,rfl,cs,rfl,?_⟩:V0 Rc (.iface t (.agg (agVals k 0 l).toArray)) (.iface t (.agg cs)))
  rw[List.toList_toArray]
  exact LR_V00 (ag_vals h1 (fun x hx=>hR x (List.mem_append_left _ hx)) hp) (agVals_noIf k 0 hp)
 | .ig _ _::_,_,[],_,h,_=>h.elim
 | [],_,_::_,_,h,_=>h.elim
 | .c _::_,_,[],_,h,_=>h.elim
 | .ag _::_,_,[],_,h,_=>h.elim
end
def acOk (mm:Nat->Option Blk) (v:Value):AC->Prop
 | .pl u=>v=u
 | .sl ks n g=>srcB mm ks v=(true,n,g)
 | .fm ks n g=>srcF mm ks v=(true,n,g)
def agOk (mm:Nat->Option Blk):List Value->List AC->Prop
 | [],[]=>True
 | v::vs,a::l=>(acOk mm v a∧∀u,a=.pl u->pl0 u=true)∧agOk mm vs l
 | _,_=>False
def AOkX (mm:Nat->Option Blk):List Value->List AV->Prop
 | [],[]=>True
 | v::vs,.c a::A=>(acOk mm v a∧∀u,a=.pl u->pl2 u=true)∧AOkX mm vs A
 | v::vs,.ag l::A=>(∃cs,v=.agg cs∧agOk mm cs.toList l)∧AOkX mm vs A
 | v::vs,.ig t l::A=>(∃cs,v=.iface t (.agg cs)∧agOk mm cs.toList l)∧AOkX mm vs A
 | _,_=>False
section
variable {GL:Glob} {w0:Wb GL} {R:Nat->Pl->Prop} {fm mm:Nat->Option Blk} {w:World}
theorem ac_cell (h:MRel w0 R fm w) (hsub:∀b blk,mm b=some blk->fm b=some blk) {a:AC} {v v':Value} (ha:acOk mm v a) (hp:∀u,a=.pl u->pl2 u=true) (hv:V2 R v v'):∃e er p,CellW w e er p a v':=by
 cases a with
 | pl u=>have ha:v=u:=ha;subst ha;exact⟨0,fun _=>0,⟨none,0,0⟩,(V2_plain (hp _ rfl)).1 hv⟩
 | sl ks n g =>
  obtain ⟨p,e,hc,hm⟩:=src_heap h (srcB_mono hsub ha) hv
  refine⟨e,fun _=>0,p,hc,?_⟩
  cases hpa:p.a with
  | none=>rw[hpa] at hm;exact hm
  | some b =>
   rw[hpa] at hm
   obtain ⟨h2,cs,fz,h3,h4⟩:=hm
   refine⟨h2,cs,fz,h3,?_⟩
   have:=(LR_plain (r:=V0 R) (pl:=pl0) (fun _ _ hv=>V0_plain hv) (rowL_pl ks g n 0)).1 h4
   rw[rowL_len] at this;exact this
 | fm ks n g =>
  obtain ⟨p,e,es1,hm⟩:=fam_heap h (srcF_mono hsub ha) hv
  exact⟨e,es1,p,hm⟩
theorem ag_cells (h:MRel w0 R fm w) (hsub:∀b blk,mm b=some blk->fm b=some blk):∀{l:List AC} {us us':List Value},agOk mm us l->LR (V0 R) us us'->LX w l us'∧us'.length=l.length∧∀x,.pl x∈l->pl0 x=true
 | [],[],[],_,_=>⟨trivial,rfl,nofun⟩
 | a::l,u::us,u'::us',ha,hl=>by
  obtain ⟨h1,h2,h3⟩:=ag_cells h hsub ha.2 hl.2
  refine⟨⟨ac_cell h hsub ha.1.1 (fun x e=>?_) (V2_of_V0 hl.1),h1⟩,by simp only[List.length_cons,h2],fun x hx=>?_⟩
  ·have:=ha.1.2 x e
   cases x<;>first | rfl | (simp[pl0] at this;done) | exact this
  ·rcases List.mem_cons.1 hx with e | hx
   ·exact ha.1.2 x e.symm
   ·exact h3 x hx
 | [],_::_,_,ha,_=>ha.elim
 | _::_,[],_,ha,_=>ha.elim
 | [],[],_::_,_,hl=>hl.elim
 | _::_,_::_,[],_,hl=>hl.elim
theorem LX_app {w:World}:∀{l1 l2:List AC} {v1 v2:List Value},LX w l1 v1->LX w l2 v2->LX w (l1++l2) (v1++v2)
 | [],_,[],_,_,h=>h
 | _::_,_,_::_,_,h,h2=>⟨h.1,LX_app h.2 h2⟩
 | [],_,_::_,_,h,_=>h.elim
 | _::_,_,[],_,h,_=>h.elim
theorem args_cells (h:MRel w0 R fm w) (hsub:∀b blk,mm b=some blk->fm b=some blk):∀{A:List AV} {vs args':List Value},AOkX mm vs A->LR (V2 R) vs args'->LX w (cellsX A) (flatV A args')∧shX A args'
 | [],[],[],_,_=>⟨trivial,trivial⟩
 | .c a::A,v::vs,v'::args',hA,hl=>by
  obtain ⟨h1,h2⟩:=args_cells h hsub hA.2 hl.2
  exact⟨⟨ac_cell h hsub hA.1.1 hA.1.2 hl.1,h1⟩,hA.1.2,h2⟩
 | .ag l::A,v::vs,v'::args',hA,hl=>by
  obtain ⟨h1,h2⟩:=args_cells h hsub hA.2 hl.2
  obtain ⟨cs,rfl,ha⟩:=hA.1
  obtain ⟨cs',rfl,hc⟩:=V2_agg hl.1
  obtain ⟨h3,h4,h5⟩:=ag_cells h hsub ha hc
  exact⟨LX_app h3 h1,⟨cs',rfl,h4⟩,h5,h2⟩
 | .ig t l::A,v::vs,v'::args',hA,hl=>by
  obtain ⟨h1,h2⟩:=args_cells h hsub hA.2 hl.2
  obtain ⟨cs,rfl,ha⟩:=hA.1
  obtain ⟨x',hx',cs',e2,hc⟩:∃x',v'=.iface t x'∧∃cs',x'=.agg cs'∧LR (V00 R) cs.toList cs'.toList:=hl.1
  subst e2 hx'
  obtain ⟨h3,h4,h5⟩:=ag_cells h hsub ha (LR_mono (fun _ _=>V00_V0) hc)
  exact⟨LX_app h3 h1,⟨cs',rfl,h4⟩,h5,h2⟩
 | .ig _ _::_,[],_,hA,_=>hA.elim
 | .ig _ _::_,_::_,[],_,hl=>hl.elim
 | [],_::_,_,hA,_=>hA.elim
 | .c _::_,[],_,hA,_=>hA.elim
 | .ag _::_,[],_,hA,_=>hA.elim
 | [],[],_::_,_,hl=>hl.elim
 | .c _::_,_::_,[],_,hl=>hl.elim
 | .ag _::_,_::_,[],_,hl=>hl.elim
end
def fnX (C:Cfg) (fuel:Nat) (fn:Func) (c:Code) (args:List Value) (mem:List (Nat×Blk)) (next id:Nat):Option (Value×List (Nat×Blk)) :=
 evK C fuel [] c ⟨argSlots 0 args,mem,next⟩ (fun e s=>endK C.T fn e s (fun v=>bif noTT v then expX (look s.mem) id v (fun v l=>some (v,l)) none else none) none) none
section
variable {P:Program} [Laid P]
theorem cArgsX_len:∀(A:List AV) (k:Nat),(cArgsX A k).length=A.length
 | [],_=>rfl
 | .c _::r,k=>by simp[cArgsX,cArgsX_len r]
 | .ag _::r,k=>by simp[cArgsX,cArgsX_len r]
 | .ig _ _::r,k=>by simp[cArgsX,cArgsX_len r]
theorem msum_atX {g:FuncId} {fn:Func} {c:Code} (hf:P.funcs[g]?=some fn) (hname:(fn.name=="runtime.NumGoroutine")=false) (hb:fn.body=some c) {fuel next:Nat}
  {w0:Wb (lay P)} {R:Nat->Pl->Prop} {fm:Nat->Option Blk} {w:World} (hm:MRel w0 R fm w) {vs args':List Value} (hl:LR (V2 R) vs args') {mm:Nat->Option Blk} (hsub:∀b blk,mm b=some blk->fm b=some blk) {id:Nat} (hlt:id<60000)
  {A:List AV} (hA:AOkX mm vs A) (hnum:numOk ((flatX A 0).map (·.1))=true) (hlen:A.length<=fn.ntmps) {v:Value} {l:List (Nat×Blk)} (hnew:∀p∈l,fm p.1=none)
  (hev0:∀es er,∃C,CfgOk P C c∧C.n=fn.ntmps∧fnX C fuel fn c (cArgsX A 0) (cMemX es er A) next id=some (v,l)) :
  Invokes P g args'.toArray w fun v' w'=>∃R':Nat->Pl->Prop,(∀i p,R i p->R' i p)∧V2 R' v v'∧MRel w0 R' (memF fm l) w':=by
 have hne:fn.name≠"runtime.NumGoroutine":=by simpa using hname
 have hrun:(callFunc g args'.toArray).run P w=.ok (.enter g args'.toArray) w:=by simp[callFunc,hf,hne,hb]
 unfold Invokes
 rw[hrun]
 obtain ⟨hx,hsh⟩:=args_cells hm hsub hA hl
 rw[<-flatX_snd A 0] at hx
 obtain ⟨es,er,pl,hW⟩:=LW_of hnum hx
 have hmC:=callee_relX hm.below.gok hW hnum
 have hargs:LR (V2 (RcL w pl (flatX A 0))) (cArgsX A 0) args':=args_vals hW hsh fun x hx hp=>.inl ⟨x.2,hx,hp,rfl⟩
 obtain ⟨C,hC,hn,hev⟩:=hev0 es er
 unfold fnX at hev
 rw[evK_eq,oK_some] at hev
 obtain ⟨⟨e,s'⟩,he1,he2⟩:=hev
 obtain ⟨vC,he3,he4⟩:∃vC,endK C.T fn e s' some none=some vC∧(bif noTT vC then expX (look s'.mem) id vC (fun v l=>some (v,l)) none else none)=some (v,l):=by
  have key:endK C.T fn e s' (fun v=>bif noTT v then expX (look s'.mem) id v (fun v l=>some (v,l)) none else none) none=oK (endK C.T fn e s' some none) (fun v=>bif noTT v then expX (look s'.mem) id v (fun v l=>some (v,l)) none else none) none:=by
   unfold endK
   have key:∀lr:List ResultVar,resK C.T s' lr (fun vs=>oneK vs fun v=>bif noTT v then expX (look s'.mem) id v (fun v l=>some (v,l)) none else none) none=oK (resK C.T s' lr (fun vs=>oneK vs some) none) (fun v=>bif noTT v then expX (look s'.mem) id v (fun v l=>some (v,l)) none else none) none:=by
    intro lr
    rw[resK_nat (fun o:Option Value=>oK o (fun v=>bif noTT v then expX (look s'.mem) id v (fun v l=>some (v,l)) none else none) none)]
    congr 1;funext vs
    exact(oneK_nat (fun o:Option Value=>oK o (fun v=>bif noTT v then expX (look s'.mem) id v (fun v l=>some (v,l)) none else none) none) vs some).symm
   cases e<;>first | exact key _ | rfl
  simp only at he2
  rw[key] at he2
  exact oK_some.1 he2
 obtain ⟨htt,he4⟩:=cond_some.1 he4
 refine Calls.mono (fn_mem hC hf hb hn hmC hargs (by rw[cArgsX_len];exact hlen) he1 he3) ?_
 rintro ex w' ⟨R',v',rfl,hvv,hvt,hm'⟩
 refine expX_ok hm hm' rfl (fun _ h=>h) hlt hvv hvt ?_ he4 hnew
 rintro vs rfl
 exact htt
theorem lawX_sound {c:Code} {g:FuncId} {fn:Func} (hf:P.funcs[g]?=some fn) (hb:fn.body=some c) {A:List AV} {args':List Value} {w:World} (hx:LX w (cellsX A) (flatV A args')) (hsh:shX A args') (hnum:numOk ((flatX A 0).map (·.1))=true) (hg:GOk (lay P) w) (hlen:A.length<=fn.ntmps) {v:Value} (hv:pl2 v=true) (hnt:∀vs,v≠.tuple vs) {fuel next:Nat}
  (hev0:∀es er,∃C,CfgOk P C c∧C.n=fn.ntmps∧fnA C fuel fn c (cArgsX A 0) (cMemX es er A) next=some v):Calls P g args'.toArray w fun e w'=>e=.returned v∧Below w.heap.size w w':=by
 rw[<-flatX_snd A 0] at hx
 obtain ⟨es,er,pl,hW⟩:=LW_of hnum hx
 have hmC:=callee_relX hg hW hnum
 have hargs:LR (V2 (RcL w pl (flatX A 0))) (cArgsX A 0) args':=args_vals hW hsh fun x hx hp=>.inl ⟨x.2,hx,hp,rfl⟩
 obtain ⟨C,hC,hn,hev⟩:=hev0 es er
 unfold fnA at hev
 rw[evK_eq,oK_some] at hev
 obtain ⟨⟨e,s'⟩,he1,he2⟩:=hev
 refine Calls.mono (fn_mem hC hf hb hn hmC hargs (by rw[cArgsX_len];exact hlen) he1 he2) ?_
 rintro ex w' ⟨R',v',rfl,hvv,hvt,hm'⟩
 have:=(V2_plain hv).1 (hvv hnt)
 subst this
 exact⟨rfl,hm'.below.below fun _ h=>h⟩
end
end Go.W

namespace Go.W
def prL (X:Nat×Nat):List Value:=[u64 (dig X.1 0),u64 (dig X.1 1),u64 (dig X.1 2),u64 (dig X.1 3),u64 (dig X.2 0),u64 (dig X.2 1),u64 (dig X.2 2),u64 (dig X.2 3)]
def prV (c r:Nat):Value:=.agg (prL (c,r)).toArray
section
variable {P:Program} {H:Type} {enc:TypeId×Value->H} {W:World} {base b0:Nat} {sp:Nat->Bool} {held:Bool} {r:Reach} {t tn e:TypeId} {v:Value} {d:DataW H} {p:List MemPlace}
end
end Go.W

namespace Go.W
open Go.RowKit (Below)
def k32:List CK:=List.replicate 32 (.i .u8)
def slC (X:Nat):List Value:=bytesL 32 X
section
variable {P:Program} {H:Type} {enc:TypeId×Value->H} {W:World} {base b0:Nat} {held:Bool} {r:Reach} {t e:TypeId} {v:Value} {d:DataW H} {p:List MemPlace}
open Go.ChangeShapes Go.WideShapes
theorem open_elsC {k:Nat} (hk:0<k) {ks:List CK} (hks:ks.length=k) {α:Type} (z0:α) (F:α->List Value) (B:α->Prop) (hz0:B z0) (hF:∀z,B z->nrmK ks (F z)=F z)
  (ht:P.underlying t=some (.slice e)) (hce:P.cellsOf e=k) (hel:∀fuel cs x,DataW.trod enc P W b0 (fun _=>true) held fuel e cs=some x->∃z,B z∧cs=F z)
  {fuel:Nat} {x:DataW H×List MemPlace} (hf:DataW.trod enc P W b0 (fun _=>true) held fuel t [v]=some x) :
  ∃(n:Nat) (Z:Nat->α),SrcW W ks n (fun i=>F (Z i)) v∧∀i,B (Z i):=by
 rcases Go.Deep.open_slice ht hf with⟨h1,_⟩ | ⟨a,len,cap,m,nf,D,Pl',h1,_,hl,_,hm,_,hx⟩
 ·obtain rfl:v=.slice none 0 0:=by simpa using h1
  exact⟨0,fun _=>z0,⟨⟨none,0,0⟩,0,Nat.le_refl _,rfl,rfl,rfl,none,rfl⟩,fun _=>hz0⟩
 ·obtain rfl:v=.slice (some a) len cap:=by simpa using h1
  simp only[if_true] at hm
  subst hm
  by_cases h0:m=0
  ·have hl0:len=0:=by omega
   subst h0 hl0
   exact⟨0,fun _=>z0,⟨⟨none,0,0⟩,0,Nat.le_refl _,rfl,rfl,rfl,some a,rfl⟩,fun _=>hz0⟩
  ·rw[hce] at hx
   have cell:∀i,i<m->∃cs',cs'.length=k∧(∀j,j<k->W.cell? (a.add (i*k+j))=cs'[j]?)∧∃z,B z∧cs'=F z:=by
    intro i hi
    obtain ⟨cs',h2,h3⟩:=hx i hi
    obtain ⟨_,h4,h5⟩:=World.cells?_some h2
    refine⟨cs',h4,fun j hj=>?_,hel _ _ _ h3⟩
    have:=h5 j hj
    rw[Go.Deep.add_add] at this
    exact this
   obtain ⟨c0,hc0,hc1,_⟩:=cell 0 (by omega)
   have hcell0:W.cell? (a.add 0)=some (c0[0]'(by omega)):=by
    have:=hc1 0 hk
    rw[Nat.zero_mul,Nat.add_zero,List.getElem?_eq_getElem (by omega)] at this
    exact this
   have hs:=cell_spot hcell0
   obtain ⟨cs,et,fz,hb,_⟩:=cell_place hcell0
   have el:∀i,∃z,B z∧(i<len->((cs.toList.drop a.off).drop (i*k)).take k=F z):=by
    intro i
    by_cases hi:i<len
    ·obtain ⟨cs',g1,g2,z,g3,g4⟩:=cell i (by omega)
     refine⟨z,g3,fun _=>?_⟩
     rw[<-g4]
     apply List.ext_getElem?
     intro j
     by_cases hj:j<k
     ·have g5:=g2 j hj
      rw[List.getElem?_eq_getElem (show j<cs'.length by omega)] at g5
      obtain ⟨cs2,e2,fz2,k1,k2⟩:=cell_place g5
      rw[hb] at k1
      cases k1
      rw[List.getElem?_take_of_lt hj,List.getElem?_drop,List.getElem?_drop,List.getElem?_eq_getElem (show j<cs'.length by omega),<-k2]
     ·rw[List.getElem?_eq_none (show cs'.length<=j by omega),List.getElem?_eq_none (by simp only[List.length_take];omega)]
    ·exact⟨z0,hz0,fun h=>absurd h hi⟩
   refine⟨len,fun i=>Classical.choose (el i),⟨⟨some a.block,a.off,m⟩,et,hl,?_,cs,fz,hb,?_⟩,fun i=>(Classical.choose_spec (el i)).1⟩
   ·obtain ⟨bl,off,spot⟩:=a
    simp only at hs;subst hs;rfl
   ·refine LP_plain (rowL_pl _ _ _ _) ?_
    rw[rowL_len,hks]
    refine take_rowK len 0 _ fun i hi=>?_
    rw[(Classical.choose_spec (el i)).2 hi,Nat.zero_add,hF _ (Classical.choose_spec (el i)).1]
theorem slC_nrm (X:Nat):nrmK k32 (slC X)=slC X:=by kernel_rfl
theorem cells_pt {u tn tb:TypeId} {fs:Array Field} (he:P.underlying e=some (.struct fs)) (hfs:fs.toList.map (fun f=>(f.offset,f.type))=[(0,tb),(1,tn),(5,tn)]) (hb:P.underlying tb=some .bool) (hn:P.underlying tn=some (.array 4 u)) (hu:P.underlying u=some (.int .u64))
  (hcu:P.cellsOf u=1) (hcn:P.cellsOf tn=4) (hcb:P.cellsOf tb=1) (hce:P.cellsOf e=9) {fuel:Nat} {cs:List Value} {x:DataW H×List MemPlace} (hf:DataW.trod enc P W b0 (fun _=>true) held fuel e cs=some x):∃z:RP,okR z∧cs=ptC z:=by
 obtain ⟨xs,m,rfl,_,hl,hxl,hget⟩:=DataW.trod_struct he hf
 obtain ⟨f0,f1,f2,rfl,o0,t0,o1,t1,o2,t2⟩:∃f0 f1 f2,fs=#[f0,f1,f2]∧f0.offset=0∧f0.type=tb∧f1.offset=1∧f1.type=tn∧f2.offset=5∧f2.type=tn:=by
  obtain ⟨l,rfl⟩:∃l,fs=List.toArray l:=⟨fs.toList,by simp⟩
  rw[List.toList_toArray] at hfs
  have hl3:l.length=3:=by simpa using congrArg List.length hfs
  match l,hl3,hfs with
  | [f0,f1,f2],_,hfs =>
   simp only[List.map_cons,List.map_nil,List.cons.injEq,Prod.mk.injEq,and_true] at hfs
   exact⟨f0,f1,f2,rfl,hfs.1.1,hfs.1.2,hfs.2.1.1,hfs.2.1.2,hfs.2.2.1,hfs.2.2.2⟩
 have hxl:xs.length=3:=by rw[hxl];rfl
 have g0:=hget 0 f0 rfl
 have g1:=hget 1 f1 rfl
 have g2:=hget 2 f2 rfl
 rw[o0,t0,hcb,List.drop_zero,List.getElem?_eq_getElem (by omega)] at g0
 rw[o1,t1,hcn,List.getElem?_eq_getElem (by omega)] at g1
 rw[o2,t2,hcn,List.getElem?_eq_getElem (by omega)] at g2
 obtain ⟨b,hb0,_⟩:=DataW.trod_bool hb g0
 obtain ⟨a1,a2⟩:=trod_row hn hu hcu hcn g1
 obtain ⟨b1,b2⟩:=trod_row hn hu hcu hcn g2
 obtain ⟨X,hX,eX⟩:=row_num a1 a2
 obtain ⟨Y,hY,eY⟩:=row_num b1 b2
 refine⟨(b,X,Y),⟨hX,hY⟩,?_⟩
 have hlen:cs.length=9:=by rw[hl,hce]
 match cs,hlen with
 | [c0,c1,c2,c3,c4,c5,c6,c7,c8],_ =>
  simp only[List.drop_succ_cons,List.drop_zero,List.take_succ_cons,List.take_zero,List.cons.injEq,and_true] at hb0 eX eY
  obtain ⟨h1,h2,h3,h4⟩:=eX
  obtain ⟨h5,h6,h7,h8⟩:=eY
  subst hb0 h1 h2 h3 h4 h5 h6 h7 h8
  rfl
theorem cells_b32 {u:TypeId} (he:P.underlying e=some (.array 32 u)) (hu:P.underlying u=some (.int .u8)) (hcu:P.cellsOf u=1) (hce:P.cellsOf e=32) {fuel:Nat} {cs:List Value} {x:DataW H×List MemPlace}
  (hf:DataW.trod enc P W b0 (fun _=>true) held fuel e cs=some x):∃X,X<2^256∧cs=slC X:=by
 obtain ⟨hl,hw⟩:=trod_row he hu hcu hce hf
 have hb:isB32 (.agg cs.toArray)=true:=by
  refine isB32_of hl ?_
  rw[List.all_eq_true]
  intro v hv
  obtain ⟨i,hi,rfl⟩:=List.getElem_of_mem hv
  obtain ⟨z,h1,h2⟩:=hw i (by omega)
  rw[List.getElem?_eq_getElem hi] at h1
  rw[Option.some.inj h1]
  have:0<=z∧z<=255:=by simpa [Lit.wf,IntKind.has,IntKind.min,IntKind.max,IntKind.signed,IntKind.bits] using h2
  show(decide (0<=z)&&Nat.ble z.toNat 255)=true
  rw[Bool.and_eq_true,Nat.ble_eq]
  exact⟨decide_eq_true this.1,by omega⟩
 obtain ⟨X,hX,h1,_⟩:=isB32_some hb
 refine⟨X,hX,?_⟩
 have:=congrArg (fun v:Value=>v.cells.toList) h1
 exact this
theorem cells_prf {tn u:TypeId} {fs:Array Field} (ht:P.underlying e=some (.struct fs)) (hfs:fs.toList.map (fun f=>(f.offset,f.type))=[(0,tn),(4,tn)]) (hn:P.underlying tn=some (.array 4 u))
  (he:P.underlying u=some (.int .u64)) (hcu:P.cellsOf u=1) (hcn:P.cellsOf tn=4) (hct:P.cellsOf e=8) {fuel:Nat} {cs:List Value} {x:DataW H×List MemPlace} (hf:DataW.trod enc P W b0 (fun _=>true) held fuel e cs=some x) :
  ∃X:Nat×Nat,(X.1<2^256∧X.2<2^256)∧cs=prL X:=by
 obtain ⟨xs,m,rfl,_,hl,hxl,hget⟩:=DataW.trod_struct ht hf
 obtain ⟨f0,f1,rfl,o0,t0,o1,t1⟩:∃f0 f1,fs=#[f0,f1]∧f0.offset=0∧f0.type=tn∧f1.offset=4∧f1.type=tn:=by
  obtain ⟨l,rfl⟩:∃l,fs=List.toArray l:=⟨fs.toList,by simp⟩
  rw[List.toList_toArray] at hfs
  have hl2:l.length=2:=by simpa using congrArg List.length hfs
  match l,hl2,hfs with
  | [f0,f1],_,hfs =>
   simp only[List.map_cons,List.map_nil,List.cons.injEq,Prod.mk.injEq,and_true] at hfs
   exact⟨f0,f1,rfl,hfs.1.1,hfs.1.2,hfs.2.1,hfs.2.2⟩
 have hxl:xs.length=2:=by rw[hxl];rfl
 have g0:=hget 0 f0 rfl
 have g1:=hget 1 f1 rfl
 rw[o0,t0,hcn,List.drop_zero,List.getElem?_eq_getElem (by omega)] at g0
 rw[o1,t1,hcn,List.getElem?_eq_getElem (by omega)] at g1
 obtain ⟨a1,a2⟩:=trod_row hn he hcu hcn g0
 obtain ⟨b1,b2⟩:=trod_row hn he hcu hcn g1
 obtain ⟨X,hX,eX⟩:=row_num a1 a2
 obtain ⟨Y,hY,eY⟩:=row_num b1 b2
 refine⟨(X,Y),⟨hX,hY⟩,?_⟩
 have hlen:cs.length=8:=by rw[hl,hct]
 match cs,hlen with
 | [c0,c1,c2,c3,c4,c5,c6,c7],_ =>
  simp only[List.drop_succ_cons,List.drop_zero,List.take_succ_cons,List.take_zero,List.cons.injEq,and_true] at eX eY
  obtain ⟨h1,h2,h3,h4⟩:=eX
  obtain ⟨h5,h6,h7,h8⟩:=eY
  subst h1 h2 h3 h4 h5 h6 h7 h8
  rfl
def acC (k:Int) (K:RP) (lab:ByteArray) (s c:Value) (g:Int) (X:Nat×Nat):List Value :=
 i64 k::(ptC K++(.string lab::s::c::i64 g::prL X))
theorem open_act {ti tb tn tu tp t8 t32 ts tg tl tr:TypeId} {fs fp fr:Array Field}
  (ht:P.underlying t=some (.struct fs)) (hfs:fs.toList.map (fun f=>(f.offset,f.type))=[(0,ti),(1,tp),(10,tg),(11,ts),(12,tl),(13,ti),(14,tr)])
  (hti:P.underlying ti=some (.int .i64)) (htp:P.underlying tp=some (.struct fp)) (hfp:fp.toList.map (fun f=>(f.offset,f.type))=[(0,tb),(1,tn),(5,tn)])
  (htb:P.underlying tb=some .bool) (htn:P.underlying tn=some (.array 4 tu)) (htu:P.underlying tu=some (.int .u64)) (htg:P.underlying tg=some .string)
  (hts:P.underlying ts=some (.slice t32)) (ht32:P.underlying t32=some (.array 32 t8)) (ht8:P.underlying t8=some (.int .u8)) (htl:P.underlying tl=some (.slice tp))
  (htr:P.underlying tr=some (.struct fr)) (hfr:fr.toList.map (fun f=>(f.offset,f.type))=[(0,tn),(4,tn)])
  (ci:P.cellsOf ti=1) (cp:P.cellsOf tp=9) (cb:P.cellsOf tb=1) (cn:P.cellsOf tn=4) (cu:P.cellsOf tu=1) (cg:P.cellsOf tg=1) (csl:P.cellsOf ts=1) (c32:P.cellsOf t32=32) (cb8:P.cellsOf t8=1) (cl:P.cellsOf tl=1) (cr:P.cellsOf tr=8) (ct:P.cellsOf t=22)
  (hv:Value.okWide P W r base t v) (h:DataW.Trod enc P W b0 (fun _=>true) held t v d p) :
  ∃(k:Int) (K:RP) (lab:ByteArray) (s c:Value) (g:Int) (X:Nat×Nat) (n m:Nat) (S:Nat->Nat) (V:Nat->RP),
   v=.agg (acC k K lab s c g X).toArray∧(Lit.int .i64 k).wf=true∧okR K∧lab.size<=maxLen∧SrcW W k32 n (fun i=>slC (S i)) s∧(∀i,S i<2^256)∧SrcW W kP9 m (fun i=>ptC (V i)) c∧(∀i,okR (V i))∧(Lit.int .i64 g).wf=true∧X.1<2^256∧X.2<2^256:=by
 have hv':∃cs,v=.agg cs∧cs.size=P.cellsOf t∧Row.okWide P W r base t cs:=by
  unfold Value.okWide at hv;rw[ht] at hv;exact hv
 obtain ⟨cs,rfl,hsz,_⟩:=hv'
 obtain ⟨fuel,hf⟩:=h
 obtain ⟨xs,m,rfl,_,hl,hxl,hget⟩:=DataW.trod_struct ht hf
 obtain ⟨f0,f1,f2,f3,f4,f5,f6,rfl,o0,t0,o1,t1,o2,t2,o3,t3,o4,t4,o5,t5,o6,t6⟩:∃f0 f1 f2 f3 f4 f5 f6,fs=#[f0,f1,f2,f3,f4,f5,f6]∧f0.offset=0∧f0.type=ti∧f1.offset=1∧f1.type=tp∧f2.offset=10∧f2.type=tg∧f3.offset=11∧f3.type=ts∧f4.offset=12∧f4.type=tl∧f5.offset=13∧f5.type=ti∧f6.offset=14∧f6.type=tr:=by
  obtain ⟨l,rfl⟩:∃l,fs=List.toArray l:=⟨fs.toList,by simp⟩
  rw[List.toList_toArray] at hfs
  have hl2:l.length=7:=by simpa using congrArg List.length hfs
  match l,hl2,hfs with
  | [f0,f1,f2,f3,f4,f5,f6],_,hfs =>
   simp only[List.map_cons,List.map_nil,List.cons.injEq,Prod.mk.injEq,and_true] at hfs
   obtain ⟨⟨a0,b0⟩,⟨a1,b1⟩,⟨a2,b2⟩,⟨a3,b3⟩,⟨a4,b4⟩,⟨a5,b5⟩,⟨a6,b6⟩⟩:=hfs
   exact⟨f0,f1,f2,f3,f4,f5,f6,rfl,a0,b0,a1,b1,a2,b2,a3,b3,a4,b4,a5,b5,a6,b6⟩
 have hxl:xs.length=7:=by rw[hxl];rfl
 have g0:=hget 0 f0 rfl
 have g1:=hget 1 f1 rfl
 have g2:=hget 2 f2 rfl
 have g3:=hget 3 f3 rfl
 have g4:=hget 4 f4 rfl
 have g5:=hget 5 f5 rfl
 have g6:=hget 6 f6 rfl
 have hlen:cs.toList.length=22:=by
  have:(Value.agg cs).cells.toList.length=22:=by rw[hl,ct]
  exact this
 rw[o0,t0,ci,List.getElem?_eq_getElem (by omega)] at g0
 rw[o1,t1,cp,List.getElem?_eq_getElem (by omega)] at g1
 rw[o2,t2,cg,List.getElem?_eq_getElem (by omega)] at g2
 rw[o3,t3,csl,List.getElem?_eq_getElem (by omega)] at g3
 rw[o4,t4,cl,List.getElem?_eq_getElem (by omega)] at g4
 rw[o5,t5,ci,List.getElem?_eq_getElem (by omega)] at g5
 rw[o6,t6,cr,List.getElem?_eq_getElem (by omega)] at g6
 change DataW.trod _ _ _ _ _ _ _ _ (List.take 1 (List.drop 0 cs.toList))=_ at g0
 change DataW.trod _ _ _ _ _ _ _ _ (List.take 9 (List.drop 1 cs.toList))=_ at g1
 change DataW.trod _ _ _ _ _ _ _ _ (List.take 1 (List.drop 10 cs.toList))=_ at g2
 change DataW.trod _ _ _ _ _ _ _ _ (List.take 1 (List.drop 11 cs.toList))=_ at g3
 change DataW.trod _ _ _ _ _ _ _ _ (List.take 1 (List.drop 12 cs.toList))=_ at g4
 change DataW.trod _ _ _ _ _ _ _ _ (List.take 1 (List.drop 13 cs.toList))=_ at g5
 change DataW.trod _ _ _ _ _ _ _ _ (List.take 8 (List.drop 14 cs.toList))=_ at g6
 obtain ⟨L,hL⟩:∃L,cs.toList=L:=⟨_,rfl⟩
 have hcs:cs=L.toArray:=by rw[<-hL]
 rw[hL] at g0 g1 g2 g3 g4 g5 g6 hlen
 subst hcs
 clear hf hget hl hv hsz hL
 match L,hlen with
 | [c0,c1,c2,c3,c4,c5,c6,c7,c8,c9,c10,c11,c12,c13,c14,c15,c16,c17,c18,c19,c20,c21],_ =>
  simp only[List.drop_succ_cons,List.drop_zero,List.take_succ_cons,List.take_zero] at g0 g1 g2 g3 g4 g5 g6
  obtain ⟨k,e0,_,wk⟩:=DataW.trod_int hti g0
  obtain ⟨K,hK,e1⟩:=cells_pt htp hfp htb htn htu cu cn cb cp g1
  obtain ⟨lab,e2,_,wl⟩:=DataW.trod_string htg g2
  obtain ⟨n,S,hs,hS⟩:=open_elsC (k:=32) (by omega) (ks:=k32) rfl 0 slC (fun X=>X<2^256) (by decide) (fun X _=>slC_nrm X) hts c32 (fun fuel cs x hf=>cells_b32 ht32 ht8 cb8 c32 hf) g3
  obtain ⟨q,V,hc,hV⟩:=open_elsC (k:=9) (by omega) (ks:=kP9) rfl zR ptC okR okR_z (fun _ _=>rfl) htl cp (fun fuel cs x hf=>cells_pt htp hfp htb htn htu cu cn cb cp hf) g4
  obtain ⟨g,e5,_,wg⟩:=DataW.trod_int hti g5
  obtain ⟨X,hX,e6⟩:=cells_prf htr hfr htn htu cu cn cr g6
  refine⟨k,K,lab,c11,c12,g,X,n,q,S,V,?_,wk,hK,wl,hs,hS,hc,hV,wg,hX.1,hX.2⟩
  congr 2
  show[c0]++([c1,c2,c3,c4,c5,c6,c7,c8,c9]++([c10]++(c11::c12::([c13]++[c14,c15,c16,c17,c18,c19,c20,c21]))))=_
  rw[e0,e1,e2,e5,e6];rfl
end
end Go.W

namespace Go.W
theorem root_pt {X:Nat} (h:X<pP) (hr:rootIs (sqN X)=true):ckR (false,X,rootNum (sqN X))=true∧rootNum (sqN X) % 2=0∧sp 0 (rootNum (sqN X)) % 2=1:=by
 obtain ⟨h1,h2,h3⟩:=root_sq hr
 have hodd:=pP_facts.2.2.2
 refine⟨?_,h2,?_⟩
 ·unfold ckR
  rw[if_neg Bool.false_ne_true]
  refine decide_eq_true ⟨h,h3,?_⟩
  show mp _ _=sqN X
  rw[mp_eq,h1]
  exact Nat.mod_eq_of_lt (ap_lt _ _)
 ·have h0:rootNum (sqN X)≠0:=by
   intro e
   rw[e,Nat.zero_mul,Nat.zero_mod] at h1
   apply no_cube X
   have e2:sqN X=(X*X*X+7) % pP:=by
    unfold sqN
    rw[ap_eq,mp_eq,mp_eq,Nat.add_mod,Nat.mod_mod,Nat.mul_mod (X*X % pP) X,Nat.mod_mod,<-Nat.mul_mod,<-Nat.add_mod]
   rw[<-e2,<-Nat.mod_eq_of_lt (show sqN X<pP from ap_lt _ _)];exact h1.symm
  rw[sp_eq,Nat.mod_eq_of_lt h3,Nat.zero_add,Nat.mod_eq_of_lt (show pP - rootNum (sqN X)<pP from Nat.sub_lt prime_pos.1 (Nat.pos_of_ne_zero h0))]
  clear h1
  generalize rootNum (sqN X)=Y at *
  generalize pP=p at *
  omega
end Go.W

namespace Go.W
def fz {α:Type} (n:Nat) (k:Nat->α):α:=Nat.rec (motive:=fun _=>α) (k 0) (fun m _=>k (Nat.succ m)) n
structure W16 where
 w0:Nat
 w1:Nat
 w2:Nat
 w3:Nat
 w4:Nat
 w5:Nat
 w6:Nat
 w7:Nat
 w8:Nat
 w9:Nat
 w10:Nat
 w11:Nat
 w12:Nat
 w13:Nat
 w14:Nat
 w15:Nat
end Go.W

namespace Go.W
def pbL (p:RP):Nat:=if p.1=true then 1 else 33
def pbR (p:RP):Nat->List Value:=if p.1=true then lstF [.int .u8 0] 0 1 else pbF (hdY p.2.2) (bytesL 32 p.2.1)
theorem pbL_le (p:RP):pbL p<=33:=by unfold pbL;split<;>omega
def RPbF (e:Nat):List Value->(Nat->Option Blk)->Nat->List (Bool×Value×List (Nat×Blk))
 | [p],_,id=>[(isPt p,nSl id (pbL (unPt p)),rw1 e id (pbL (unPt p)) (pbR (unPt p)))]
 | _,_,_=>[]
def CPbF (e:Nat):List Value->(Nat->Option Blk)->Nat->List (Bool×Value×List (Nat×Blk))
 | [p],_,id=>[(isPt p&&ckR (unPt p),.tuple #[nSl id (pbL (unPt p)),i64 0],rw1 e id (pbL (unPt p)) (pbR (unPt p)))]
 | _,_,_=>[]
theorem RPbF_sub (e:Nat):∀vs mm id v l,pickM (RPbF e vs mm id)=some (v,l)->pickM (RBytF e vs mm id)=some (v,l):=by
 intro vs mm id v l h
 match vs,h with
 | [p],h =>
  obtain ⟨hc,rfl,rfl⟩:=pick_one h
  rw[RBytF_eq]
  simp only[pickM]
  unfold pbL pbR
  rw[hc]
  cases (unPt p).1<;>rfl
 | [],h=>simp[RPbF,pickM] at h
 | _::_::_,h=>simp[RPbF,pickM] at h
theorem CPbF_sub (e:Nat):∀vs mm id v l,pickM (CPbF e vs mm id)=some (v,l)->pickM (CBytF e vs mm id)=some (v,l):=by
 intro vs mm id v l h
 match vs,h with
 | [p],h =>
  obtain ⟨hc,rfl,rfl⟩:=pick_one h
  rw[Bool.and_eq_true] at hc
  rw[CBytF_eq]
  simp only[pickM]
  unfold pbL pbR
  rw[hc.1,hc.2]
  cases (unPt p).1<;>rfl
 | [],h=>simp[CPbF,pickM] at h
 | _::_::_,h=>simp[CPbF,pickM] at h
end Go.W

namespace Go.W
def isPrf (v:Value):Bool:=aggK v (fun l=>Nat.beq l.length 8&&(isNum (.agg (l.take 4).toArray)&&isNum (.agg (l.drop 4).toArray))) false
def unPrf (v:Value):Nat×Nat:=(unnum (.agg (v.cells.toList.take 4).toArray),unnum (.agg (v.cells.toList.drop 4).toArray))
theorem isPrf_prV (c r:Nat):isPrf (prV c r)=true:=by
 show(true&&(isNum (num c)&&isNum (num r)))=true
 rw[isNum_num,isNum_num];rfl
theorem unPrf_prV {c r:Nat} (hc:c<2^256) (hr:r<2^256):unPrf (prV c r)=(c,r):=by
 show(unnum (num c),unnum (num r))=(c,r)
 rw[unnum_lt hc,unnum_lt hr]
theorem isPrf_some {v:Value} (h:isPrf v=true):∃X:Nat×Nat,(X.1<2^256∧X.2<2^256)∧v=prV X.1 X.2:=by
 unfold isPrf aggK at h
 split at h
 ·rename_i cs
  simp only[Bool.and_eq_true] at h
  obtain ⟨_,h1,h2⟩:=h
  obtain ⟨X,hX,e1⟩:=isNum_some h1
  obtain ⟨Y,hY,e2⟩:=isNum_some h2
  refine⟨(X,Y),⟨hX,hY⟩,?_⟩
  have a1:=congrArg (fun v:Value=>v.cells.toList) e1
  have a2:=congrArg (fun v:Value=>v.cells.toList) e2
  have b1:cs.toList.take 4=(num X).cells.toList:=a1
  have b2:cs.toList.drop 4=(num Y).cells.toList:=a2
  show Value.agg cs=Value.agg _
  congr 1
  refine Array.toList_inj.1 ?_
  rw[<-List.take_append_drop 4 cs.toList,b1,b2];rfl
 ·simp at h
def KprF:List Value->Option (Bool×Value)
 | [p,q]=>some (isPrf p&&isPrf q,.bool (decide (unPrf p=unPrf q)))
 | _=>none
noncomputable def RblF:List Value->Option (Bool×Value)
 | [p]=>some (isPrf p,.bool (decide ((unPrf p).1<pN)&&decide ((unPrf p).2<pN)))
 | _=>none
theorem below_cmp (a:Nat):decide (cmpI a (primeN 1)<0)=decide (a<pN):=by
 have hp:primeN 1=pN:=rfl
 rw[hp]
 unfold cmpI
 by_cases h:a<pN
 ·rw[if_pos h,decide_eq_true h];rfl
 ·rw[if_neg h,decide_eq_false h]
  split<;>rfl
end Go.W

namespace Go.W
open Go
def byt (s:ByteArray) (j:Nat):Nat:=(s.data.toList.getD j 0).toNat
theorem byt_lt (s:ByteArray) (j:Nat):byt s j<256:=(s.data.toList.getD j 0).toNat_lt
theorem get_byt (s:ByteArray) (j:Nat):(s.get! j).toNat=byt s j:=by
 cases s with | mk d =>
 show(d[j]!).toNat=(d.toList.getD j 0).toNat
 congr 1
 rw[List.getD_eq_getElem?_getD,Array.getElem?_toList]
 simp[getElem!_def]
 cases d[j]?<;>rfl
theorem byt_app (a b:ByteArray) (j:Nat):byt (a++b) j=if j<a.size then byt a j else byt b (j - a.size):=by
 unfold byt
 rw[ByteArray.data_append,Array.toList_append,List.getD_eq_getElem?_getD,List.getD_eq_getElem?_getD,List.getD_eq_getElem?_getD]
 have e:a.data.toList.length=a.size:=Array.length_toList
 by_cases h:j<a.size
 ·rw[if_pos h,List.getElem?_append_left (by omega)]
 ·rw[if_neg h,List.getElem?_append_right (by omega),e]
theorem byt_cut (s:ByteArray) (a b j:Nat) (h:j<b - a):byt (s.extract a b) j=byt s (a+j):=by
 unfold byt
 rw[ByteArray.data_extract,Array.toList_extract,List.extract_eq_take_drop,List.getD_eq_getElem?_getD,List.getD_eq_getElem?_getD,List.getElem?_take,if_pos h,List.getElem?_drop]
theorem txt_ext {a b:ByteArray} (h:a.size=b.size) (h2:∀j,j<a.size->byt a j=byt b j):a=b:=by
 apply ByteArray.ext
 apply Array.toList_inj.1
 have e1:a.data.toList.length=a.size:=Array.length_toList
 have e2:b.data.toList.length=b.size:=Array.length_toList
 apply List.ext_getElem (by omega)
 intro j h3 h4
 have:=h2 j (by omega)
 unfold byt at this
 rw[List.getD_eq_getElem?_getD,List.getD_eq_getElem?_getD,List.getElem?_eq_getElem h3,List.getElem?_eq_getElem h4] at this
 exact UInt8.toNat_inj.1 this
theorem txt_eq (a b:ByteArray):(a==b)=decide (a=b):=by
 rw[Bool.eq_iff_iff,decide_eq_true_eq]
 cases a with | mk x=>cases b with | mk y =>
 show(x==y)=true↔_
 simp
theorem size_cut {s:ByteArray} {a b:Nat} (h:b<=s.size):(s.extract a b).size=b - a:=by rw[ByteArray.size_extract,Nat.min_eq_left h]
theorem cut_all (s:ByteArray):s.extract 0 s.size=s:=by
 apply txt_ext (by rw[size_cut (Nat.le_refl _),Nat.sub_zero])
 intro j hj
 rw[size_cut (Nat.le_refl _)] at hj
 rw[byt_cut _ _ _ _ (by omega),Nat.zero_add]
def decB (b:Nat->Nat) (n i:Nat):Nat×Nat :=
 let cont (k:Nat):Bool:=decide (i+k<n)&&b (i+k) / 64==2
 if b i<128 then (b i,1)
 else if b i / 32==6&&cont 1 then
  if (b i % 32)*64+b (i+1) % 64>=128 then ((b i % 32)*64+b (i+1) % 64,2) else (65533,1)
 else if b i / 16==14&&cont 1&&cont 2 then
  if (b i % 16)*4096+(b (i+1) % 64)*64+b (i+2) % 64>=2048&&Utf8.valid (((b i % 16)*4096+(b (i+1) % 64)*64+b (i+2) % 64:Nat):Int) then ((b i % 16)*4096+(b (i+1) % 64)*64+b (i+2) % 64,3) else (65533,1)
 else if b i / 8==30&&cont 1&&cont 2&&cont 3 then
  if (b i % 8)*262144+(b (i+1) % 64)*4096+(b (i+2) % 64)*64+b (i+3) % 64>=65536&&Utf8.valid (((b i % 8)*262144+(b (i+1) % 64)*4096+(b (i+2) % 64)*64+b (i+3) % 64:Nat):Int) then ((b i % 8)*262144+(b (i+1) % 64)*4096+(b (i+2) % 64)*64+b (i+3) % 64,4) else (65533,1)
 else (65533,1)
theorem dec_decB (s:ByteArray) (i:Nat):Utf8.decode s i=decB (byt s) s.size i:=by
 unfold Utf8.decode decB
 simp only[get_byt,Nat.add_zero]
 rfl
def runeAt (b:Nat->Nat) (i r w:Nat):Prop :=
 (w=1∧b i<128∧r=b i) ∨
 (w=2∧b i / 32=6∧b (i+1) / 64=2∧r=(b i % 32)*64+b (i+1) % 64∧128<=r) ∨
 (w=3∧b i / 16=14∧b (i+1) / 64=2∧b (i+2) / 64=2∧r=(b i % 16)*4096+(b (i+1) % 64)*64+b (i+2) % 64∧2048<=r∧Utf8.valid (r:Int)=true) ∨
 (w=4∧b i / 8=30∧b (i+1) / 64=2∧b (i+2) / 64=2∧b (i+3) / 64=2∧r=(b i % 8)*262144+(b (i+1) % 64)*4096+(b (i+2) % 64)*64+b (i+3) % 64∧65536<=r∧Utf8.valid (r:Int)=true)
theorem cont_iff {b:Nat->Nat} {n j:Nat}:(decide (j<n)&&b j / 64==2)=true↔j<n∧b j / 64=2:=by
 rw[Bool.and_eq_true,decide_eq_true_eq,beq_iff_eq]
theorem decB_rune {b:Nat->Nat} {n i r w:Nat} (h:runeAt b i r w) (hn:i+w<=n):decB b n i=(r,w):=by
 unfold decB
 rcases h with⟨rfl,h1,rfl⟩ | ⟨rfl,h1,h2,rfl,h3⟩ | ⟨rfl,h1,h2,h3,rfl,h4,h5⟩ | ⟨rfl,h1,h2,h3,h4,rfl,h5,h6⟩
 ·rw[if_pos h1]
 ·rw[if_neg (by omega),if_pos (by rw[Bool.and_eq_true,cont_iff,beq_iff_eq];omega),if_pos h3]
 ·rw[if_neg (by omega),if_neg (by rw[Bool.and_eq_true,beq_iff_eq];omega),if_pos (by rw[Bool.and_eq_true,Bool.and_eq_true,cont_iff,cont_iff,beq_iff_eq];omega),if_pos (by rw[Bool.and_eq_true,decide_eq_true_eq];exact⟨h4,h5⟩)]
 ·rw[if_neg (by omega),if_neg (by rw[Bool.and_eq_true,beq_iff_eq];omega),if_neg (by rw[Bool.and_eq_true,Bool.and_eq_true,beq_iff_eq];omega),if_pos (by rw[Bool.and_eq_true,Bool.and_eq_true,Bool.and_eq_true,cont_iff,cont_iff,cont_iff,beq_iff_eq];omega),if_pos (by rw[Bool.and_eq_true,decide_eq_true_eq];exact⟨h5,h6⟩)]
theorem decB_cases {b:Nat->Nat} {n i:Nat} (hi:i<n):(decB b n i=(65533,1)∧∀r w,i+w<=n->¬runeAt b i r w)∨∃r w,decB b n i=(r,w)∧runeAt b i r w∧i+w<=n:=by
 by_cases h:∃r w,runeAt b i r w∧i+w<=n
 ·obtain ⟨r,w,h1,h2⟩:=h
  exact .inr ⟨r,w,decB_rune h1 h2,h1,h2⟩
 ·refine .inl ⟨?_,fun r w h1 h2=>h ⟨r,w,h2,h1⟩⟩
  unfold decB
  by_cases h0:b i<128
  ·exact absurd ⟨b i,1,.inl ⟨rfl,h0,rfl⟩,by omega⟩ h
  rw[if_neg h0]
  by_cases h1:b i / 32=6∧i+1<n∧b (i+1) / 64=2
  ·rw[if_pos (by rw[Bool.and_eq_true,cont_iff,beq_iff_eq];exact h1)]
   by_cases h2:(b i % 32)*64+b (i+1) % 64>=128
   ·exact absurd ⟨_,2,.inr (.inl ⟨rfl,h1.1,h1.2.2,rfl,h2⟩),by omega⟩ h
   ·rw[if_neg h2]
  rw[if_neg (by rw[Bool.and_eq_true,cont_iff,beq_iff_eq];exact h1)]
  by_cases h2:(b i / 16=14∧i+1<n∧b (i+1) / 64=2)∧i+2<n∧b (i+2) / 64=2
  ·rw[if_pos (by rw[Bool.and_eq_true,Bool.and_eq_true,cont_iff,cont_iff,beq_iff_eq];exact h2)]
   by_cases h3:(b i % 16)*4096+(b (i+1) % 64)*64+b (i+2) % 64>=2048∧Utf8.valid (((b i % 16)*4096+(b (i+1) % 64)*64+b (i+2) % 64:Nat):Int)=true
   ·exact absurd ⟨_,3,.inr (.inr (.inl ⟨rfl,h2.1.1,h2.1.2.2,h2.2.2,rfl,h3.1,h3.2⟩)),by omega⟩ h
   ·rw[if_neg (by rw[Bool.and_eq_true,decide_eq_true_eq];exact h3)]
  rw[if_neg (by rw[Bool.and_eq_true,Bool.and_eq_true,cont_iff,cont_iff,beq_iff_eq];exact h2)]
  by_cases h3:((b i / 8=30∧i+1<n∧b (i+1) / 64=2)∧i+2<n∧b (i+2) / 64=2)∧i+3<n∧b (i+3) / 64=2
  ·rw[if_pos (by rw[Bool.and_eq_true,Bool.and_eq_true,Bool.and_eq_true,cont_iff,cont_iff,cont_iff,beq_iff_eq];exact h3)]
   by_cases h4:(b i % 8)*262144+(b (i+1) % 64)*4096+(b (i+2) % 64)*64+b (i+3) % 64>=65536∧Utf8.valid (((b i % 8)*262144+(b (i+1) % 64)*4096+(b (i+2) % 64)*64+b (i+3) % 64:Nat):Int)=true
   ·exact absurd ⟨_,4,.inr (.inr (.inr ⟨rfl,h3.1.1.1,h3.1.1.2.2,h3.1.2.2,h3.2.2,rfl,h4.1,h4.2⟩)),by omega⟩ h
   ·rw[if_neg (by rw[Bool.and_eq_true,decide_eq_true_eq];exact h4)]
  rw[if_neg (by rw[Bool.and_eq_true,Bool.and_eq_true,Bool.and_eq_true,cont_iff,cont_iff,cont_iff,beq_iff_eq];exact h3)]
theorem runeAt_congr {b b':Nat->Nat} {i i' r w:Nat} (h:runeAt b i r w) (hb:∀k,k<w->b' (i'+k)=b (i+k)):runeAt b' i' r w:=by
 rcases h with⟨rfl,h1,rfl⟩ | ⟨rfl,h1,h2,rfl,h3⟩ | ⟨rfl,h1,h2,h3,rfl,h4,h5⟩ | ⟨rfl,h1,h2,h3,h4,rfl,h5,h6⟩
 ·have e0:b' i'=b i:=hb 0 (by omega)
  exact .inl ⟨rfl,by rw[e0];exact h1,e0.symm⟩
 ·have e0:b' i'=b i:=hb 0 (by omega)
  have e1:=hb 1 (by omega)
  exact .inr (.inl ⟨rfl,by rw[e0];exact h1,by rw[e1];exact h2,by rw[e0,e1],h3⟩)
 ·have e0:b' i'=b i:=hb 0 (by omega)
  have e1:=hb 1 (by omega)
  have e2:=hb 2 (by omega)
  exact .inr (.inr (.inl ⟨rfl,by rw[e0];exact h1,by rw[e1];exact h2,by rw[e2];exact h3,by rw[e0,e1,e2],h4,h5⟩))
 ·have e0:b' i'=b i:=hb 0 (by omega)
  have e1:=hb 1 (by omega)
  have e2:=hb 2 (by omega)
  have e3:=hb 3 (by omega)
  exact .inr (.inr (.inr ⟨rfl,by rw[e0];exact h1,by rw[e1];exact h2,by rw[e2];exact h3,by rw[e3];exact h4,by rw[e0,e1,e2,e3],h5,h6⟩))
theorem runeAt_w {b:Nat->Nat} {i r w:Nat} (h:runeAt b i r w):1<=w∧w<=4:=by
 rcases h with⟨rfl,_⟩ | ⟨rfl,_⟩ | ⟨rfl,_⟩ | ⟨rfl,_⟩<;>omega
theorem decB_w {b:Nat->Nat} {n i:Nat} (hi:i<n):1<=(decB b n i).2∧i+(decB b n i).2<=n:=by
 rcases decB_cases (b:=b) hi with⟨h,_⟩ | ⟨r,w,h,h1,h2⟩
 ·rw[h];exact⟨Nat.le_refl _,hi⟩
 ·rw[h];exact⟨(runeAt_w h1).1,h2⟩
theorem decB_shift {b b':Nat->Nat} {n n' i i':Nat} (hi:i<n) (hn:n' - i'=n - i) (hi':i'<n') (hb:∀k,i+k<n->b' (i'+k)=b (i+k)):decB b' n' i'=decB b n i:=by
 rcases decB_cases (b:=b) hi with⟨h,hno⟩ | ⟨r,w,h,h1,h2⟩
 ·rcases decB_cases (b:=b') hi' with⟨h',_⟩ | ⟨r,w,h',h1,h2⟩
  ·rw[h,h']
  ·exact absurd (runeAt_congr h1 fun k hk=>(hb k (by omega)).symm) (hno r w (by omega))
 ·rw[h];exact decB_rune (runeAt_congr h1 fun k hk=>hb k (by omega)) (by omega)
theorem decB_ext {b b':Nat->Nat} {n n' i:Nat} (hn:n<=n') (hi:i<n) (hv:decB b n i≠(65533,1)) (hb:∀k,k<n->b' k=b k):decB b' n' i=decB b n i:=by
 rcases decB_cases (b:=b) hi with⟨h,_⟩ | ⟨r,w,h,h1,h2⟩
 ·exact absurd h hv
 ·rw[h];exact decB_rune (runeAt_congr h1 fun k hk=>hb _ (by omega)) (by omega)
def dC (s:ByteArray) (p:Nat):Nat:=(decB (byt s) s.size p).1
def dW (s:ByteArray) (p:Nat):Nat:=(decB (byt s) s.size p).2
theorem dcC_dC (s:ByteArray) (p:Nat):dcC s p=(dC s p:Int):=by unfold dcC dC;rw[dec_decB]
theorem dcW_dW (s:ByteArray) (p:Nat):dcW s p=dW s p:=by unfold dcW dW;rw[dec_decB]
theorem dW_le {s:ByteArray} {p:Nat} (h:p<s.size):1<=dW s p∧p+dW s p<=s.size:=decB_w h
def stp (s:ByteArray) (p:Nat):Nat:=if p<s.size then p+dW s p else p
def psF (s:ByteArray) (p:Nat):Nat->Nat
 | 0=>p
 | k+1=>stp s (psF s p k)
def ps (s:ByteArray) (k:Nat):Nat:=psF s 0 k
def rc (s:ByteArray) (k:Nat):Nat:=dC s (ps s k)
theorem psF_add (s:ByteArray) (p j:Nat):∀k,psF s p (j+k)=psF s (psF s p j) k
 | 0=>rfl
 | k+1=>by show stp s (psF s p (j+k))=stp s _;rw[psF_add s p j k]
theorem ps_zero (s:ByteArray):ps s 0=0:=rfl
theorem ps_succ (s:ByteArray) (k:Nat):ps s (k+1)=stp s (ps s k):=rfl
theorem stp_le {s:ByteArray} {p:Nat} (h:p<=s.size):stp s p<=s.size∧p<=stp s p:=by
 unfold stp
 split
 ·rename_i h1;have:=dW_le h1;omega
 ·omega
theorem ps_le (s:ByteArray):∀k,ps s k<=s.size
 | 0=>Nat.zero_le _
 | k+1=>(stp_le (ps_le s k)).1
theorem ps_mono1 (s:ByteArray) (k:Nat):ps s k<=ps s (k+1):=(stp_le (ps_le s k)).2
theorem ps_mono (s:ByteArray) {j k:Nat} (h:j<=k):ps s j<=ps s k:=by
 induction k with
 | zero=>rw[Nat.le_zero.1 h];exact Nat.le_refl _
 | succ k ih =>
  by_cases e:j=k+1
  ·rw[e];exact Nat.le_refl _
  ·exact Nat.le_trans (ih (by omega)) (ps_mono1 s k)
theorem ps_lt {s:ByteArray} {k:Nat} (h:ps s k<s.size):ps s k<ps s (k+1)∧ps s (k+1)=ps s k+dW s (ps s k):=by
 have e:ps s (k+1)=ps s k+dW s (ps s k):=by rw[ps_succ];unfold stp;rw[if_pos h]
 have:=dW_le h
 omega
def isK (s:ByteArray) (n:Nat):Prop:=(∀k,k<n->ps s k<s.size)∧ps s n=s.size
theorem isK_fun {s:ByteArray} {n m:Nat} (h:isK s n) (h2:isK s m):n=m:=by
 rcases Nat.lt_trichotomy n m with h3 | h3 | h3
 ·have:=h2.1 n h3;have:=h.2;omega
 ·exact h3
 ·have:=h.1 m h3;have:=h2.2;omega
theorem ps_grow (s:ByteArray):∀k,k<=ps s k∨ps s k=s.size
 | 0=>.inl (Nat.le_refl _)
 | k+1=>by
  by_cases h:ps s k<s.size
  ·have:=ps_lt h
   rcases ps_grow s k with h1 | h1<;>omega
  ·right
   rw[ps_succ];unfold stp;rw[if_neg h]
   have:=ps_le s k;omega
theorem isK_ex (s:ByteArray):∃n,isK s n∧n<=s.size:=by
 have key:∀n,(∀k,k<n->ps s k<s.size)∨∃m,m<n∧isK s m:=by
  intro n
  induction n with
  | zero=>exact .inl fun k h=>absurd h (Nat.not_lt_zero _)
  | succ n ih =>
   rcases ih with h | ⟨m,h1,h2⟩
   ·by_cases e:ps s n<s.size
    ·left
     intro k hk
     by_cases e2:k=n
     ·rw[e2];exact e
     ·exact h k (by omega)
    ·right
     exact⟨n,by omega,h,by have:=ps_le s n;omega⟩
   ·exact .inr ⟨m,by omega,h2⟩
 rcases key (s.size+1) with h | ⟨m,h1,h2⟩
 ·exfalso
  have h1:=h s.size (by omega)
  rcases ps_grow s s.size with h2 | h2<;>omega
 ·exact⟨m,h2,by omega⟩
noncomputable def rN (s:ByteArray):Nat:=hide (Classical.choose (isK_ex s))
theorem rN_is (s:ByteArray):isK s (rN s):=by unfold rN;rw[hide_eq];exact(Classical.choose_spec (isK_ex s)).1
theorem rN_le (s:ByteArray):rN s<=s.size:=by unfold rN;rw[hide_eq];exact(Classical.choose_spec (isK_ex s)).2
theorem rN_of {s:ByteArray} {n:Nat} (h:isK s n):rN s=n:=isK_fun (rN_is s) h
theorem ps_rN {s:ByteArray} {k:Nat} (h:rN s<=k):ps s k=s.size:=by
 have h1:=ps_mono s h
 have:=(rN_is s).2
 have:=ps_le s k
 omega
theorem lt_rN {s:ByteArray} {k:Nat}:ps s k<s.size↔k<rN s:=by
 constructor
 ·intro h
  rcases Nat.lt_or_ge k (rN s) with h1 | h1
  ·exact h1
  ·rw[ps_rN h1] at h;omega
 ·exact(rN_is s).1 k
end Go.W

namespace Go.W
def slF (Z:Nat->Nat):Nat->List Value:=fun j=>slC (Z j)
def el32 (f:Nat->List Value) (j:Nat):Value:=.agg (nrmK k32 (f j)).toArray
def slA (f:Nat->List Value) (j:Nat):Nat:=unbytes (el32 f j)
noncomputable def okSl (n:Nat) (f:Nat->List Value):Bool:=@decide (n<=1000∧∀j,j<n->isB32 (el32 f j)=true) (Classical.propDecidable _)
theorem okSl_iff {n:Nat} {f:Nat->List Value}:okSl n f=true↔n<=1000∧∀j,j<n->isB32 (el32 f j)=true:=by
 unfold okSl
 exact⟨fun h=>@of_decide_eq_true _ (Classical.propDecidable _) h,fun h=>@decide_eq_true _ (Classical.propDecidable _) h⟩
theorem el_sl {n:Nat} {f:Nat->List Value} (h:okSl n f=true) {j:Nat} (hj:j<n):el32 f j=bytesV (slA f j)∧slA f j<2^256:=by
 obtain ⟨X,hX,e,e2⟩:=isB32_some ((okSl_iff.1 h).2 j hj)
 have:slA f j=X:=e2
 rw[this];exact⟨e,hX⟩
theorem row_sl {n:Nat} {f:Nat->List Value} (h:okSl n f=true):∀j,j<n->nrmK k32 (f j)=nrmK k32 (slF (slA f) j):=by
 intro j hj
 have e:=(el_sl h hj).1
 have:=congrArg (fun v:Value=>v.cells.toList) e
 exact Eq.trans this (slC_nrm _).symm
theorem el32_slF (Z:Nat->Nat) (j:Nat):el32 (slF Z) j=bytesV (Z j):=by
 show Value.agg (nrmK k32 (slC (Z j))).toArray=_
 rw[slC_nrm];rfl
theorem slA_slF {Z:Nat->Nat} {j:Nat} (h:Z j<2^256):slA (slF Z) j=Z j:=by unfold slA;rw[el32_slF,unbytes_bytesV,Nat.mod_eq_of_lt h]
theorem okSl_slF {n:Nat} {Z:Nat->Nat} (hn:n<=1000):okSl n (slF Z)=true:=okSl_iff.2 ⟨hn,fun j _=>by rw[el32_slF];exact isB32_bytesV _⟩
def sg32 (n:Nat) (f:Nat->List Value):Nat->List Value:=segF ⟨0,0,n,k32,n,f,0,false,[]⟩
theorem el32_sg (n:Nat) (f:Nat->List Value) (j:Nat):el32 (sg32 n f) j=el32 f j:=by show el32 f (0+j)=el32 f j;rw[Nat.zero_add]
theorem slA_sg (n:Nat) (f:Nat->List Value):slA (sg32 n f)=slA f:=by funext j;unfold slA;rw[el32_sg]
theorem okSl_sg (m n:Nat) (f:Nat->List Value):okSl m (sg32 n f)=okSl m f:=by
 rw[Bool.eq_iff_iff,okSl_iff,okSl_iff];simp only[el32_sg]
theorem eqL_iff:∀{ks:List CK} {xs ys:List Value},fitsK ks xs=true->fitsK ks ys=true->(eqL xs ys=true↔xs=ys)
 | [],[],[],_,_=>by simp[eqL]
 | k::ks,x::xs,y::ys,h1,h2=>by
  simp only[fitsK,Bool.and_eq_true] at h1 h2
  have ih:=eqL_iff h1.2 h2.2
  obtain ⟨h1,-⟩:=h1
  obtain ⟨h2,-⟩:=h2
  cases k<;>cases x<;>simp[isCK] at h1<;>cases y<;>simp[isCK] at h2
  ·subst h1 h2;simp[eqL,ih]
  ·simp[eqL,ih]
  ·rw[eqL,txt_eq,Bool.and_eq_true,decide_eq_true_eq,ih,List.cons.injEq,Value.string.injEq]
theorem slC_fits (X:Nat):fitsK k32 (slC X)=true:=by kernel_rfl
theorem slC_inj {X Y:Nat} (hX:X<2^256) (hY:Y<2^256) (h:slC X=slC Y):X=Y:=by
 have h1:unbytes (bytesV X)=unbytes (bytesV Y):=congrArg (fun l:List Value=>unbytes (.agg l.toArray)) h
 rw[unbytes_bytesV,unbytes_bytesV,Nat.mod_eq_of_lt hX,Nat.mod_eq_of_lt hY] at h1;exact h1
theorem eqL_sl {X Y:Nat} (hX:X<2^256) (hY:Y<2^256):eqL (slC X) (slC Y)=decide (X=Y):=by
 rw[Bool.eq_iff_iff,eqL_iff (slC_fits X) (slC_fits Y),decide_eq_true_eq]
 exact⟨slC_inj hX hY,fun h=>by rw[h]⟩
noncomputable def eqN {α:Type} (n:Nat) (Z:Nat->α) (m:Nat) (W:Nat->α):Bool:=@decide (n=m∧∀j,j<n->Z j=W j) (Classical.propDecidable _)
theorem eqN_iff {α:Type} {n m:Nat} {Z W:Nat->α}:eqN n Z m W=true↔n=m∧∀j,j<n->Z j=W j:=by
 unfold eqN
 exact⟨fun h=>@of_decide_eq_true _ (Classical.propDecidable _) h,fun h=>@decide_eq_true _ (Classical.propDecidable _) h⟩
theorem first_ne {α:Type} {n:Nat} {Z W:Nat->α} (h:¬∀j,j<n->Z j=W j):∃k,k<n∧Z k≠W k∧∀j,j<k->Z j=W j:=by
 induction n with
 | zero=>exact absurd (fun j hj=>by omega) h
 | succ n ih =>
  by_cases h1:∀j,j<n->Z j=W j
  ·refine⟨n,by omega,fun e=>h fun j hj=>?_,h1⟩
   by_cases hj2:j<n
   ·exact h1 j hj2
   ·have:j=n:=by omega
    subst this;exact e
  ·obtain ⟨k,a,b,c⟩:=ih h1
   exact⟨k,by omega,b,c⟩
noncomputable def SlsF:List Value->(Nat->Option Blk)->Nat->List (Bool×Value×List (Nat×Blk))
 | [a,b],mm,_=>[((srcB mm k32 a).1&&(srcB mm k32 b).1&&okSl (srcB mm k32 a).2.1 (srcB mm k32 a).2.2&&okSl (srcB mm k32 b).2.1 (srcB mm k32 b).2.2,.bool (eqN (srcB mm k32 a).2.1 (slA (srcB mm k32 a).2.2) (srcB mm k32 b).2.1 (slA (srcB mm k32 b).2.2)),[])]
 | _,_,_=>[]
noncomputable def PteF:List Value->(Nat->Option Blk)->Nat->List (Bool×Value×List (Nat×Blk))
 | [a,b],mm,_=>[((srcB mm kP9 a).1&&(srcB mm kP9 b).1&&okP (srcB mm kP9 a).2.1 (srcB mm kP9 a).2.2&&okP (srcB mm kP9 b).2.1 (srcB mm kP9 b).2.2,.bool (eqN (srcB mm kP9 a).2.1 (pA (srcB mm kP9 a).2.2) (srcB mm kP9 b).2.1 (pA (srcB mm kP9 b).2.2)),[])]
 | _,_,_=>[]
structure AR where
 k:Int
 K:RP
 l:ByteArray
 n:Nat
 S:Nat->Nat
 m:Nat
 V:Nat->RP
 g:Int
 X:Nat×Nat
def nV (i:Nat) (l:List Value):Value:=(l.drop i).headD (.bool false)
def isI:Value->Bool
 | .int .i64 _=>true
 | _=>false
def isT:Value->Bool
 | .string _=>true
 | _=>false
def inV:Value->Int
 | .int _ z=>z
 | _=>0
def teV:Value->ByteArray
 | .string b=>b
 | _=>⟨#[]⟩
def cKey (l:List Value):Value:=.agg ((l.drop 1).take 9).toArray
def cPrf (l:List Value):Value:=.agg (l.drop 14).toArray
noncomputable def isA (mm:Nat->Option Blk) (v:Value):Bool :=
 aggK v (fun l=>Nat.beq l.length 22&&(isI (nV 0 l)&&(isPt (cKey l)&&(isT (nV 10 l)&&(isI (nV 13 l)&&(isPrf (cPrf l) &&
  ((srcB mm k32 (nV 11 l)).1&&(okSl (srcB mm k32 (nV 11 l)).2.1 (srcB mm k32 (nV 11 l)).2.2&&((srcB mm kP9 (nV 12 l)).1&&okP (srcB mm kP9 (nV 12 l)).2.1 (srcB mm kP9 (nV 12 l)).2.2))))))))) false
def unA (mm:Nat->Option Blk) (v:Value):AR :=
 ⟨inV (nV 0 v.cells.toList),unPt (cKey v.cells.toList),teV (nV 10 v.cells.toList),(srcB mm k32 (nV 11 v.cells.toList)).2.1,slA (srcB mm k32 (nV 11 v.cells.toList)).2.2,
  (srcB mm kP9 (nV 12 v.cells.toList)).2.1,pA (srcB mm kP9 (nV 12 v.cells.toList)).2.2,inV (nV 13 v.cells.toList),unPrf (cPrf v.cells.toList)⟩
def acV (k:Int) (K:RP) (lab:ByteArray) (s c:Value) (g:Int) (X:Nat×Nat):Value:=.agg (acC k K lab s c g X).toArray
def acA (k:Int) (K:RP) (lab:ByteArray) (n:Nat) (f:Nat->List Value) (m:Nat) (h:Nat->List Value) (g:Int) (X:Nat×Nat):List AC :=
 .pl (i64 k)::((ptC K).map .pl++(.pl (.string lab)::.sl k32 n f::.sl kP9 m h::.pl (i64 g)::(prL X).map .pl))
theorem isA_some {mm:Nat->Option Blk} {v:Value} (h:isA mm v=true):∃k K lab s c g X n f m q,v=acV k K lab s c g X∧okR K∧X.1<2^256∧X.2<2^256 ∧
  srcB mm k32 s=(true,n,f)∧okSl n f=true∧srcB mm kP9 c=(true,m,q)∧okP m q=true∧unA mm v=⟨k,K,lab,n,slA f,m,pA q,g,X⟩:=by
 unfold isA aggK at h
 split at h
 ·rename_i cs
  obtain ⟨l,hc⟩:∃l,cs=List.toArray l:=⟨cs.toList,by simp⟩
  subst hc
  rw[List.toList_toArray] at h
  simp only[Bool.and_eq_true] at h
  obtain ⟨hl,h0,hK,hT,hg,hX,h1,h2,h3,h4⟩:=h
  have hl:l.length=22:=nbeq.1 hl
  match l,hl with
  | [c0,c1,c2,c3,c4,c5,c6,c7,c8,c9,c10,c11,c12,c13,c14,c15,c16,c17,c18,c19,c20,c21],_ =>
   obtain ⟨k,e0⟩:∃k,c0=i64 k:=by
    have h0:isI c0=true:=h0
    unfold isI at h0
    split at h0
    ·exact⟨_,rfl⟩
    ·cases h0
   obtain ⟨lab,e1⟩:∃lab,c10=.string lab:=by
    have h0:isT c10=true:=hT
    unfold isT at h0
    split at h0
    ·exact⟨_,rfl⟩
    ·cases h0
   obtain ⟨g,e2⟩:∃k,c13=i64 k:=by
    have h0:isI c13=true:=hg
    unfold isI at h0
    split at h0
    ·exact⟨_,rfl⟩
    ·cases h0
   obtain ⟨K,oK,eK⟩:=isPt_some hK
   obtain ⟨X,oX,eX⟩:=isPrf_some hX
   have eK1:[c1,c2,c3,c4,c5,c6,c7,c8,c9]=ptC K:=congrArg (fun v:Value=>v.cells.toList) eK
   have eX1:[c14,c15,c16,c17,c18,c19,c20,c21]=prL X:=congrArg (fun v:Value=>v.cells.toList) eX
   have hv:Value.agg [c0,c1,c2,c3,c4,c5,c6,c7,c8,c9,c10,c11,c12,c13,c14,c15,c16,c17,c18,c19,c20,c21].toArray=acV k K lab c11 c12 g X:=by
    unfold acV
    congr 2
    show[c0]++([c1,c2,c3,c4,c5,c6,c7,c8,c9]++([c10]++(c11::c12::([c13]++[c14,c15,c16,c17,c18,c19,c20,c21]))))=_
    rw[e0,e1,e2,eK1,eX1];rfl
   refine⟨k,K,lab,c11,c12,g,X,(srcB mm k32 c11).2.1,(srcB mm k32 c11).2.2,(srcB mm kP9 c12).2.1,(srcB mm kP9 c12).2.2,hv,oK,oX.1,oX.2,?_,h2,?_,h4,?_⟩
   ·rw[<-show(srcB mm k32 c11).1=true from h1]
   ·rw[<-show(srcB mm kP9 c12).1=true from h3]
   ·show(⟨inV c0,unPt (cKey [c0,c1,c2,c3,c4,c5,c6,c7,c8,c9,c10,c11,c12,c13,c14,c15,c16,c17,c18,c19,c20,c21]),teV c10,_,_,_,_,inV c13,unPrf (cPrf [c0,c1,c2,c3,c4,c5,c6,c7,c8,c9,c10,c11,c12,c13,c14,c15,c16,c17,c18,c19,c20,c21])⟩:AR)=_
    rw[eK,eX,unPt_ptV oK,unPrf_prV oX.1 oX.2,e0,e1,e2];rfl
 ·cases h
theorem acA_ok {mm:Nat->Option Blk} {k:Int} {K:RP} {lab:ByteArray} {s c:Value} {g:Int} {X:Nat×Nat} {n m:Nat} {f q:Nat->List Value} (hs:srcB mm k32 s=(true,n,f)) (hc:srcB mm kP9 c=(true,m,q)) :
  agOk mm (acC k K lab s c g X) (acA k K lab n f m q g X):=by
 have p:∀{u:Value} {l:List Value} {L:List AC},pl0 u=true->agOk mm l L->agOk mm (u::l) (.pl u::L):=fun hu h=>⟨⟨rfl,fun _ e=>by cases e;exact hu⟩,h⟩
 refine p rfl (p rfl (p rfl (p rfl (p rfl (p rfl (p rfl (p rfl (p rfl (p rfl (p rfl ⟨⟨hs,fun _ e=>by cases e⟩,⟨hc,fun _ e=>by cases e⟩,p rfl (p rfl (p rfl (p rfl (p rfl (p rfl (p rfl (p rfl (p rfl trivial))))))))⟩))))))))))
theorem int_beq (a b:Int):(a==b)=decide (a=b):=by rw[Bool.eq_iff_iff,beq_iff_eq,decide_eq_true_eq]
noncomputable def smA (x y:AR):Bool:=decide (x.k=y.k)&&decide (x.K=y.K)&&decide (x.l=y.l)&&eqN x.n x.S y.n y.S&&eqN x.m x.V y.m y.V&&decide (x.g=y.g)&&decide (x.X=y.X)
noncomputable def ActF:List Value->(Nat->Option Blk)->Nat->List (Bool×Value×List (Nat×Blk))
 | [a,b],mm,_=>[(isA mm a&&isA mm b,.bool (smA (unA mm a) (unA mm b)),[])]
 | _,_,_=>[]
def whN (n:Nat):Bool:=(Nat.ble n n&&true)&&Nat.ble n n
theorem whN_true (n:Nat):whN n=true:=by unfold whN;rw[Nat.ble_eq_true_of_le (Nat.le_refl n)];rfl
def flsM:Option (Value×List (Nat×Blk)):=some (.bool false,[])
noncomputable def kacT (k:Int) (i:Bool) (x y:Nat) (lab:ByteArray) (n:Nat) (f:Nat->List Value) (m:Nat) (h:Nat->List Value) (g:Int) (c r:Nat)
  (k2:Int) (i2:Bool) (x2 y2:Nat) (lab2:ByteArray) (n2:Nat) (f2:Nat->List Value) (m2:Nat) (h2:Nat->List Value) (g2:Int) (c2 r2:Nat):Option (Value×List (Nat×Blk)) :=
 bif k==k2 then req (isPt (ptV (i,x,y))&&isPt (ptV (i2,x2,y2))) (bif decide (unPt (ptV (i,x,y))=unPt (ptV (i2,x2,y2))) then (bif lab==lab2 then
  req (whN n&&whN n2&&okSl n (sg32 n f)&&okSl n2 (sg32 n2 f2)) (bif eqN n (slA (sg32 n f)) n2 (slA (sg32 n2 f2)) then
  req (whN m&&whN m2&&okP m (sg9 m h)&&okP m2 (sg9 m2 h2)) (bif eqN m (pA (sg9 m h)) m2 (pA (sg9 m2 h2)) then (bif g==g2 then
  req (isPrf (prV c r)&&isPrf (prV c2 r2)) (some (.bool (decide (unPrf (prV c r)=unPrf (prV c2 r2))),[])) else flsM) else flsM) else flsM) else flsM) else flsM) else flsM
theorem kacT_eq {k:Int} {K:RP} {lab:ByteArray} {n:Nat} {f:Nat->List Value} {m:Nat} {h:Nat->List Value} {g:Int} {X:Nat×Nat} {k2:Int} {K2:RP} {lab2:ByteArray} {n2:Nat} {f2:Nat->List Value} {m2:Nat} {h2:Nat->List Value} {g2:Int} {X2:Nat×Nat}
  (oK:okR K) (oX:X.1<2^256) (oX':X.2<2^256) (o1:okSl n f=true) (o2:okP m h=true) (pK:okR K2) (pX:X2.1<2^256) (pX':X2.2<2^256) (p1:okSl n2 f2=true) (p2:okP m2 h2=true) :
  kacT k K.1 K.2.1 K.2.2 lab n f m h g X.1 X.2 k2 K2.1 K2.2.1 K2.2.2 lab2 n2 f2 m2 h2 g2 X2.1 X2.2=some (.bool (smA ⟨k,K,lab,n,slA f,m,pA h,g,X⟩ ⟨k2,K2,lab2,n2,slA f2,m2,pA h2,g2,X2⟩),[]):=by
 unfold kacT smA flsM
 rw[isPt_ptV,isPt_ptV,isPrf_prV,isPrf_prV,okSl_sg,okSl_sg,okP_sg,okP_sg,slA_sg,slA_sg,pA_sg,pA_sg,whN_true,whN_true,whN_true,whN_true,o1,o2,p1,p2,req_true (b:=true&&true) rfl,req_true (b:=true&&true&&true&&true) rfl,req_true (b:=true&&true&&true&&true) rfl,req_true (b:=true&&true) rfl]
 rw[unPt_ptV (show okR (K.1,K.2.1,K.2.2) from oK),unPt_ptV (show okR (K2.1,K2.2.1,K2.2.2) from pK),unPrf_prV oX oX',unPrf_prV pX pX',txt_eq,int_beq,int_beq]
 cases decide (k=k2)<;>cases decide ((K.1,K.2.1,K.2.2)=(K2.1,K2.2.1,K2.2.2))<;>cases decide (lab=lab2)<;>cases eqN n (slA f) n2 (slA f2)<;>cases eqN m (pA h) m2 (pA h2)<;>cases decide (g=g2)<;>cases decide ((X.1,X.2)=(X2.1,X2.2))<;>rfl
end Go.W

namespace Go.W
def TpF (e:Nat):List Value->(Nat->Option Blk)->Nat->List (Bool×Value×List (Nat×Blk))
 | [a],mm,id=>[((srcB mm kP9 a).1&&szOk (srcB mm kP9 a).2.1 72,nSl id (srcB mm kP9 a).2.1,rw9 e id (srcB mm kP9 a).2.1 (sg9 (srcB mm kP9 a).2.1 (srcB mm kP9 a).2.2))]
 | _,_,_=>[]
noncomputable def RpsF:List Value->(Nat->Option Blk)->Nat->List (Bool×Value×List (Nat×Blk))
 | [l],mm,_=>[((srcB mm kP9 l).1&&okP (srcB mm kP9 l).2.1 (srcB mm kP9 l).2.2,.bool (alP (pA (srcB mm kP9 l).2.2) (srcB mm kP9 l).2.1),[])]
 | _,_,_=>[]
end Go.W

namespace Go.W
open Go.RowKit (Below)
section
variable {R:Type}
def expR (mem:Nat->Option Blk) (id j:Nat) (v:Value) (k:Value->List (Nat×Blk)->R) (f:R):R :=
 match v with
 | .slice (some ⟨x,off,none⟩) n c=>oK (mem x) (fun blk=>match blk.cells with
  | .tail b l cnt sz=>bif Nat.beq b 1500000&&Nat.beq off 0&&loose x then k (.slice (some ⟨nid id 0,0,none⟩) n c) [(nid id 0,⟨.tail j l cnt sz,blk.elem,false⟩)] else f
  | _=>expX mem id v k f) f
 | v=>bif noTT v then expX mem id v k f else f
def objK (mem:Nat->Option Blk) (m:Nat) (e:TypeId) (k:List Value->R) (f:R):R :=
 oK (mem 1000000) (fun blk=>match blk.cells with
  | .lst (.slice (some ⟨a,o,none⟩) n' c'::z)=>bif blk.own&&Nat.beq blk.elem e&&Nat.beq a 1500000&&Nat.beq o 0&&Nat.beq n' m&&Nat.beq c' m&&z.all pl0 then k z else f
  | _=>f) f
end
def fnR (C:Cfg) (fuel:Nat) (fn:Func) (c:Code) (args:List Value) (mem:List (Nat×Blk)) (next id j m:Nat) (e:TypeId):Option (Value×List (Nat×Blk)×List Value) :=
 evK C fuel [] c ⟨argSlots 0 args,mem,next⟩ (fun ex s=>endK C.T fn ex s (fun v=>objK (look s.mem) m e (fun z=>expR (look s.mem) id j v (fun u l=>some (u,l,z)) none) none) none) none
theorem objK_some {β:Type} {mem:Nat->Option Blk} {m:Nat} {e:TypeId} {k:List Value->Option β} {r:β} (h:objK mem m e k none=some r) :
  ∃z,mem 1000000=some ⟨.lst (.slice (some ⟨1500000,0,none⟩) m m::z),e,true⟩∧z.all pl0=true∧k z=some r:=by
 unfold objK at h
 have h0:=oK_some.1 h
 clear h
 obtain ⟨blk,hb,h⟩:=h0
 obtain ⟨cells,e1,own⟩:=blk
 dsimp only at h
 split at h
 ·rename_i a o n' c' z
  have h1:=cond_some.1 h
  clear h
  obtain ⟨hc,h⟩:=h1
  simp only[Bool.and_eq_true] at hc
  obtain ⟨⟨⟨⟨⟨⟨h1,h2⟩,h3⟩,h4⟩,h5⟩,h6⟩,h7⟩:=hc
  have h2:=nbeq.1 h2
  have h3:=nbeq.1 h3
  have h4:=nbeq.1 h4
  have h5:=nbeq.1 h5
  have h6:=nbeq.1 h6
  subst h1 h2 h3 h4 h5
  rw[h6] at hb
  exact⟨z,hb,h7,h⟩
 ·simp at h
def RobF (pi pj:Pl) (i:Nat) (q:Pl):Prop:=(i=1000000∧q=pi)∨(i=1500000∧q=pj)
section
variable {GL:Glob} {w0:Wb GL} {R:Nat->Pl->Prop} {fm:Nat->Option Blk} {w:World}
theorem rd_rel (h:MRel w0 R fm w) {i j:Nat} {pi pj:Pl} {b':Nat} (hpi:R i pi) (hpj:R j pj) (hij:i≠j) (hpa:pi.a=some b') (hlj:loose j=true) {e ej:TypeId} {ks:List CK} {m c:Nat} {g:Nat->List Value} {rest:List Value} (hr:rest.all pl0=true) (hmc:m<=c)
  (hi:fm i=some ⟨.lst (.slice (some ⟨j,0,none⟩) m c::rest),e,true⟩) (hj:fm j=some ⟨.row ks m g,ej,false⟩) (hgl:∀x∈GL,pi.a≠some x.1) :
  MRel (⟨w,fun k=>pi.a=some k,RobF pi pj⟩:Wb GL) (RobF pi pj) (look [(1000000,⟨.lst (.slice (some ⟨1500000,0,none⟩) m m::rest),e,true⟩),(1500000,⟨.row ks m g,ej,false⟩)]) w:=by
 have hmem:∀x blk,look [(1000000,(⟨.lst (.slice (some ⟨1500000,0,none⟩) m m::rest),e,true⟩:Blk)),(1500000,⟨.row ks m g,ej,false⟩)] x=some blk->(x=1000000∧blk=⟨.lst (.slice (some ⟨1500000,0,none⟩) m m::rest),e,true⟩)∨(x=1500000∧blk=⟨.row ks m g,ej,false⟩):=by
  intro x blk hx
  rw[look_cons] at hx
  by_cases e1:1000000=x
  ·subst e1;rw[upd_same] at hx;cases hx;exact .inl ⟨rfl,rfl⟩
  rw[upd_ne _ _ e1,look_cons] at hx
  by_cases e2:1500000=x
  ·subst e2;rw[upd_same] at hx;cases hx;exact .inr ⟨rfl,rfl⟩
  rw[upd_ne _ _ e2] at hx;simp[look] at hx
 have hfun:∀x q q',RobF pi pj x q->RobF pi pj x q'->q=q':=by
  rintro x q q' (⟨rfl,rfl⟩ | ⟨rfl,rfl⟩) (⟨h5,rfl⟩ | ⟨h5,rfl⟩)<;>first | rfl | omega
 obtain ⟨p',hp',hci⟩:=memOk_lst h hi
 have:=h.func _ _ _ hpi hp';subst this
 rw[hpa] at hci
 obtain ⟨cs,fz,k1,k2,k3⟩:=hci
 obtain ⟨hfz,_,_⟩:=k3 rfl
 refine⟨BelowX.refl _ _ _ h.below.gok (fun x hx h=>hgl x hx h),hfun,?_,?_,?_,fun _ _ h _ _=>h,?_,?_⟩
 ·intro x y q q' b hq hq' ha hb hne blk hblk hown blk' hblk'
  rcases hmem x blk hblk with⟨rfl,rfl⟩ | ⟨rfl,rfl⟩
  ·rcases hmem y blk' hblk' with⟨rfl,rfl⟩ | ⟨rfl,rfl⟩
   ·exact absurd rfl hne
   ·have e1:=hfun _ _ _ hq (.inl ⟨rfl,rfl⟩)
    have e2:=hfun _ _ _ hq' (.inr ⟨rfl,rfl⟩)
    subst e1 e2
    exact⟨rfl,(h.inj _ _ _ _ _ hpi hpj ha hb hij _ hi rfl _ hj).2⟩
  ·simp at hown
 ·intro x blk hx
  rcases hmem x blk hx with⟨rfl,rfl⟩ | ⟨rfl,rfl⟩
  ·refine⟨pi,.inl ⟨rfl,rfl⟩,?_⟩
   rw[hpa]
   refine⟨cs,fz,k1,?_,fun _=>⟨hfz,.inl rfl,fun h=>by simp[loose] at h⟩⟩
      -- its cells
   have k2:LR (V0 R) (.slice (some ⟨j,0,none⟩) m c::rest) ((cs.toList.drop pi.d).take (rest.length+1)):=k2
   show LR (V0 (RobF pi pj)) (.slice (some ⟨1500000,0,none⟩) m m::rest) ((cs.toList.drop pi.d).take (rest.length+1))
   revert k2
   generalize (cs.toList.drop pi.d).take (rest.length+1)=us
   intro k2
   match us,k2 with
   | u::us,k2 =>
    obtain ⟨q,hq,hsl⟩:∃q,R j q∧SlOk ⟨j,0,none⟩ m c q u:=k2.1
    have:=h.func _ _ _ hpj hq;subst this
    obtain ⟨_,hcc,hcase⟩:=SlOk_loose hlj hsl
    refine⟨⟨pj,.inr ⟨rfl,rfl⟩,?_⟩,(LR_plain (r:=V0 (RobF pi pj)) (pl:=pl0) (fun _ _ hv=>V0_plain hv) hr).2 ((LR_plain (r:=V0 R) (pl:=pl0) (fun _ _ hv=>V0_plain hv) hr).1 k2.2)⟩
    unfold SlOk
    rw[if_pos (show loose 1500000=true by decide)]
    refine⟨rfl,rfl,by omega,?_⟩
    rcases hcase with⟨b,hqa,hv'⟩ | ⟨hqa,hm0,hc0,hv'⟩
    ·rw[hqa];exact hv'
    ·rw[hqa];exact⟨hm0,hc0,hv'⟩
   | [],k2=>exact k2.elim
  ·obtain ⟨p',hp',hcj⟩:ContOk w0 R w j ⟨.row ks m g,ej,false⟩:=h.mem j _ hj
   have:=h.func _ _ _ hpj hp';subst this
   refine⟨pj,.inr ⟨rfl,rfl⟩,?_⟩
   cases hqa:pj.a with
   | none=>rw[hqa] at hcj;exact hcj
   | some b =>
    rw[hqa] at hcj
    obtain ⟨cs2,fz2,q1,q2,_⟩:=hcj
    have q2:LP R (rowL ks g 0 m) (cs2.toList.drop pj.d):=q2
    have:=(LR_plain (r:=V0 R) (pl:=pl0) (fun _ _ hv=>V0_plain hv) (rowL_pl ks g m 0)).1 q2
    exact⟨cs2,fz2,q1,LP_plain (rowL_pl _ _ _ _) this,fun ho=>by simp at ho⟩
 ·rintro x q (⟨rfl,rfl⟩ | ⟨rfl,rfl⟩) _
  ·rw[look_cons,upd_same];rfl
  ·rw[look_cons,upd_ne _ _ (by omega),look_cons,upd_same];rfl
 ·rintro x q b (⟨rfl,rfl⟩ | ⟨rfl,rfl⟩) hb
  ·rw[hpa] at hb;cases hb;exact .inl ⟨cs,e,_,k1⟩
  ·exact .inl ((h.there _ _ _ hpj hb).loose hlj)
 ·rintro x q (⟨rfl,rfl⟩ | ⟨rfl,rfl⟩) hge<;>omega
end
section
variable {P:Program} [Laid P]
theorem msum_rd {g:FuncId} {fn:Func} {c:Code} (hf:P.funcs[g]?=some fn) (hname:(fn.name=="runtime.NumGoroutine")=false) (hb:fn.body=some c) {fuel next:Nat}
  {w0:Wb (lay P)} {R:Nat->Pl->Prop} {fm:Nat->Option Blk} {w:World} (hm:MRel w0 R fm w) {i j:Nat} {vs args':List Value} (hl:LR (V2 R) (.pointer (some ⟨i,0,none⟩)::vs) args') (hvs:vs.all pl2=true) {mm:Nat->Option Blk} (hsub:∀b blk,mm b=some blk->fm b=some blk) {id:Nat} (hlt:id<60000)
  {e ej:TypeId} {ks:List CK} {m cc:Nat} {gj:Nat->List Value} {rest:List Value} (hr:rest.all pl0=true) (hmc:m<=cc) (hij:i≠j) (hli:loose i=false) (hlj:loose j=true)
  (hi0:mm i=some ⟨.lst (.slice (some ⟨j,0,none⟩) m cc::rest),e,true⟩) (hj0:mm j=some ⟨.row ks m gj,ej,false⟩) (hlen:vs.length+1<=fn.ntmps) {v:Value} {l:List (Nat×Blk)} {z:List Value} (hnew:∀p∈l,fm p.1=none)
  (hev:∃C,CfgOk P C c∧C.n=fn.ntmps∧fnR C fuel fn c (.pointer (some ⟨1000000,0,none⟩)::vs) [(1000000,⟨.lst (.slice (some ⟨1500000,0,none⟩) m m::rest),e,true⟩),(1500000,⟨.row ks m gj,ej,false⟩)] next id j m e=some (v,l,z)) :
  Invokes P g args'.toArray w fun v' w'=>∃R':Nat->Pl->Prop,(∀i p,R i p->R' i p)∧V2 R' v v'∧MRel w0 R' (memF (upd fm i ⟨.lst (.slice (some ⟨j,0,none⟩) m cc::z),e,true⟩) l) w':=by
 have hne:fn.name≠"runtime.NumGoroutine":=by simpa using hname
 have hrun:(callFunc g args'.toArray).run P w=.ok (.enter g args'.toArray) w:=by simp[callFunc,hf,hne,hb]
 unfold Invokes
 rw[hrun]
 have hi:=hsub _ _ hi0
 have hj:=hsub _ _ hj0
 match args',hl with
 | [],hl=>exact hl.elim
 | v0'::args1',hl =>
 have hvs':args1'=vs:=(LR_plain (r:=V2 R) (pl:=pl2) (fun _ _ hv=>V2_plain hv) hvs).1 hl.2
 subst hvs'
 obtain ⟨pi,b',hpi,hpa,rfl⟩:=V2_ptr hl.1
 obtain ⟨pj,hpj⟩:∃pj,R j pj:=by
  obtain ⟨pj,hpj,_⟩:ContOk w0 R w j ⟨.row ks m gj,ej,false⟩:=hm.mem j _ hj
  exact⟨pj,hpj⟩
 have hown:w0.X b'∨w0.w.heap.size<=b':=hm.ownX hpi hpa hi rfl
 have hgl:∀x∈lay P,pi.a≠some x.1:=by
  intro x hx e1
  obtain ⟨fz1,k1⟩:=hm.below.glob.1 x hx
  have k2:=hm.below.glob.2 x hx
  rw[hpa] at e1
  cases e1
  rcases hown with h5 | h5
  ·exact k2 h5
  ·have:=heap_lt k1;omega
 have hmC:=rd_rel hm hpi hpj hij hpa hlj hr hmc hi hj hgl
 obtain ⟨C,hC,hn,hev⟩:=hev
 unfold fnR at hev
 rw[evK_eq,oK_some] at hev
 obtain ⟨⟨ex,s'⟩,he1,he2⟩:=hev
 obtain ⟨vC,he3,he4⟩:∃vC,endK C.T fn ex s' some none=some vC∧objK (look s'.mem) m e (fun z=>expR (look s'.mem) id j vC (fun u l=>some (u,l,z)) none) none=some (v,l,z):=by
  have key:endK C.T fn ex s' (fun v=>objK (look s'.mem) m e (fun z=>expR (look s'.mem) id j v (fun u l=>some (u,l,z)) none) none) none=oK (endK C.T fn ex s' some none) (fun v=>objK (look s'.mem) m e (fun z=>expR (look s'.mem) id j v (fun u l=>some (u,l,z)) none) none) none:=by
   unfold endK
   have key:∀lr:List ResultVar,resK C.T s' lr (fun vs=>oneK vs fun v=>objK (look s'.mem) m e (fun z=>expR (look s'.mem) id j v (fun u l=>some (u,l,z)) none) none) none=oK (resK C.T s' lr (fun vs=>oneK vs some) none) (fun v=>objK (look s'.mem) m e (fun z=>expR (look s'.mem) id j v (fun u l=>some (u,l,z)) none) none) none:=by
    intro lr
    rw[resK_nat (fun o:Option Value=>oK o (fun v=>objK (look s'.mem) m e (fun z=>expR (look s'.mem) id j v (fun u l=>some (u,l,z)) none) none) none)]
    congr 1;funext vs
    exact(oneK_nat (fun o:Option Value=>oK o (fun v=>objK (look s'.mem) m e (fun z=>expR (look s'.mem) id j v (fun u l=>some (u,l,z)) none) none) none) vs some).symm
   cases ex<;>first | exact key _ | rfl
  simp only at he2
  rw[key] at he2
  exact oK_some.1 he2
 have hv0:V2 (RobF pi pj) (.pointer (some ⟨1000000,0,none⟩)) (.pointer (some ⟨b',pi.d+0,none⟩)):=⟨pi,b',.inl ⟨rfl,rfl⟩,hpa,rfl⟩
 refine Calls.mono (fn_mem hC hf hb hn hmC (args:=.pointer (some ⟨1000000,0,none⟩)::args1') (args':=.pointer (some ⟨b',pi.d+0,none⟩)::args1') (And.intro hv0 ((LR_plain (r:=V2 (RobF pi pj)) (pl:=pl2) (fun _ _ hv=>V2_plain hv) hvs).2 rfl)) (by rw[List.length_cons];exact hlen) he1 he3) ?_
 rintro ex2 w' ⟨R',v',rfl,hvv,hvt,hm'⟩
 show ∃R2:Nat->Pl->Prop,_∧_∧_
 obtain ⟨z0,hob,hz,he5⟩:=objK_some he4
 have anc:∀x q,R' x q->1000000<=x->x<1000000000->RobF pi pj x q:=fun x q h1 h2 h3=>hm'.anc x q h1 h2 h3
 obtain ⟨p1,hp1,hc1⟩:=memOk_lst hm' hob
 have e1:p1=pi:=by rcases anc _ _ hp1 (by omega) (by omega) with⟨_,h⟩ | ⟨h,_⟩;exact h;omega
 subst e1
 rw[hpa] at hc1
 obtain ⟨cs',fz',k1,k2,k3⟩:=hc1
 obtain ⟨hfz',_,_⟩:=k3 rfl
  -- the caller's struct
 obtain ⟨p2,hp2,hci⟩:=memOk_lst hm hi
 have:=hm.func _ _ _ hpi hp2;subst this
 rw[hpa] at hci
 obtain ⟨cs,fz,g1,g2,g3⟩:=hci
 have hcells:LP R (.slice (some ⟨j,0,none⟩) m cc::z0) (cs'.toList.drop p1.d):=by
  have k2:LR (V0 R') (.slice (some ⟨1500000,0,none⟩) m m::z0) ((cs'.toList.drop p1.d).take (z0.length+1)):=k2
  have g2:LR (V0 R) (.slice (some ⟨j,0,none⟩) m cc::rest) ((cs.toList.drop p1.d).take (rest.length+1)):=g2
  show LR (V0 R) (.slice (some ⟨j,0,none⟩) m cc::z0) ((cs'.toList.drop p1.d).take (z0.length+1))
  revert k2 g2
  generalize (cs'.toList.drop p1.d).take (z0.length+1)=us
  generalize (cs.toList.drop p1.d).take (rest.length+1)=us0
  intro k2 g2
  match us,us0,k2,g2 with
  | u::us,u0::us0,k2,g2 =>
   obtain ⟨q0,hq0,hsl0⟩:∃q,R j q∧SlOk ⟨j,0,none⟩ m cc q u0:=g2.1
   have:=hm.func _ _ _ hpj hq0;subst this
   obtain ⟨_,hcc0,_⟩:=SlOk_loose hlj hsl0
   obtain ⟨q,hq,hsl⟩:∃q,R' 1500000 q∧SlOk ⟨1500000,0,none⟩ m m q u:=k2.1
   have e2:q=pj:=by rcases anc _ _ hq (by omega) (by omega) with⟨h,_⟩ | ⟨_,h⟩;omega;exact h
   subst e2
   obtain ⟨_,_,hcase⟩:=SlOk_loose (by decide) hsl
   refine⟨⟨q,hpj,?_⟩,(LR_plain (r:=V0 R) (pl:=pl0) (fun _ _ hv=>V0_plain hv) hz).2 ((LR_plain (r:=V0 R') (pl:=pl0) (fun _ _ hv=>V0_plain hv) hz).1 k2.2)⟩
   unfold SlOk
   rw[if_pos hlj]
   refine⟨rfl,rfl,hcc0,?_⟩
   rcases hcase with⟨b,hqa,hv'⟩ | ⟨hqa,hm0,hc0,hv'⟩
   ·rw[hqa];exact hv'
   ·rw[hqa];exact⟨hm0,hc0,hv'⟩
  | [],_,k2,_=>exact k2.elim
  | _::_,[],_,g2=>exact g2.elim
 have hw:=hm.write hi hpi hpa rfl g1 hown (c:=.lst (.slice (some ⟨j,0,none⟩) m cc::z0)) (cs:=cs') nofun nofun nofun hcells (fun h=>by rw[hli] at h;simp at h) hfz'
 have hbl:=hm'.below
 have hm2:MRel w0 R (upd fm i ⟨.lst (.slice (some ⟨j,0,none⟩) m cc::z0),e,true⟩) w':=by
  refine hw.world ⟨hbl.os,hbl.tape,hbl.output,by simpa [setBlk] using hbl.size,fun k hk=>?_⟩
  have hk2:k<w.heap.size:=by simpa [setBlk] using hk
  by_cases hkb:k=b'
  ·subst hkb
   rw[k1]
   exact(setBlk_same (w:=w) (o:=.cells cs' e fz') hk2).symm
  ·rw[hbl.block k hk2 (fun h=>by rw[hpa] at h;exact hkb (Option.some.inj h).symm)]
   simp only[setBlk];rw[Array.getElem?_setIfInBounds_ne (fun h=>hkb h.symm)]
 have hlt0:∀x p b,R x p->p.a=some b->b<w.heap.size:=fun x p b h1 h2=>hm.lt h1 h2
 have hX:∀x p b blk,R' x p->p.a=some b->look s'.mem x=some blk->blk.own=true->x<1000000->¬(⟨w,fun k=>p1.a=some k,RobF p1 pj⟩:Wb (lay P)).X b:=by
  intro x p b blk h1 h2 h3 h4 h5 h6
  have h6:p1.a=some b:=h6
  have:=(hm'.inj _ _ _ _ _ hp1 h1 h6 h2 (by omega) _ hob rfl blk h3).1
  rw[h4] at this;simp at this
 have hfree2:∀p∈l,upd fm i ⟨.lst (.slice (some ⟨j,0,none⟩) m cc::z0),e,true⟩ p.1=none:=by
  intro p hp
  have h1:=hnew p hp
  have:i≠p.1:=fun e=>by rw[<-e,hi] at h1;simp at h1
  rw[upd_ne _ _ this];exact h1
  -- the answer
 have std:∀u l2,l2=l->(∀vs,vC=.tuple vs->vs.toList.all notTup=true)->expX (look s'.mem) id vC (fun a b=>some (a,b)) none=some (u,l2)->∃R2:Nat->Pl->Prop,(∀i p,R i p->R2 i p)∧V2 R2 u v'∧MRel w0 R2 (memF (upd fm i ⟨.lst (.slice (some ⟨j,0,none⟩) m cc::z0),e,true⟩) l2) w':=by
  intro u l2 hl2 hnt hx
  subst hl2
  exact expX_ok2 hm2 hlt0 hm.below.size hm' rfl hX hlt hvv hvt hnt hx hfree2
 have expX3:∀{vC:Value},expX (look s'.mem) id vC (fun u l=>some (u,l,z0)) none=some (v,l,z)->z0=z∧expX (look s'.mem) id vC (fun a b=>some (a,b)) none=some (v,l):=by
  intro vC hx
  have:expX (look s'.mem) id vC (fun u l=>some (u,l,z0)) none=oK (expX (look s'.mem) id vC (fun a b=>some (a,b)) none) (fun q=>some (q.1,q.2,z0)) none:=(expX_nat (fun o:Option (Value×List (Nat×Blk))=>oK o (fun q=>some (q.1,q.2,z0)) none) (look s'.mem) id vC (fun a b=>some (a,b)) none).symm
  rw[this] at hx
  obtain ⟨q,h1,h2⟩:=oK_some.1 hx
  simp only[Option.some.injEq,Prod.mk.injEq] at h2
  obtain ⟨rfl,rfl,rfl⟩:=h2
  exact⟨rfl,h1⟩
 unfold expR at he5
 split at he5
 ·rename_i x off n c1
  have h1:=oK_some.1 he5
  clear he5
  obtain ⟨blk,hbx,he5⟩:=h1
  obtain ⟨cells,ex1,ownx⟩:=blk
  dsimp only at he5
  split at he5
  ·rename_i b l0 cnt sz
   have h1:=cond_some.1 he5
   clear he5
   obtain ⟨hc,he5⟩:=h1
   simp only[Bool.and_eq_true] at hc
   obtain ⟨⟨h1,h2⟩,h3⟩:=hc
   have h1:=nbeq.1 h1
   have h2:=nbeq.1 h2
   simp only[Option.some.injEq,Prod.mk.injEq] at he5
   obtain ⟨rfl,rfl,rfl⟩:=he5
   rw[h1] at hbx
   rw[h2] at hvv
   have hnid:=hfree2 _ (List.mem_singleton.2 rfl)
   obtain ⟨q,hq,hsl⟩:=V2_slice (hvv nofun)
   obtain ⟨pb,q',hpb,hq',hcase,_⟩:∃p q,R' 1500000 p∧R' x q∧(cnt=0∨(q.a=p.a∧q.d=p.d+l0*sz∧q.c+l0<=p.c))∧ownx=false:=hm'.mem x _ hbx
   have:=hm'.func _ _ _ hq hq';subst this
   have e2:pb=pj:=by rcases anc _ _ hpb (by omega) (by omega) with⟨h,_⟩ | ⟨_,h⟩;omega;exact h
   subst e2
   obtain ⟨_,hcc2,hcaseq⟩:=SlOk_loose h3 hsl
   refine⟨fun i2 q2=>R i2 q2∨(i2=nid id 0∧q2=q),fun _ _=>.inl,?_,?_⟩
   ·refine⟨q,.inr ⟨rfl,rfl⟩,?_⟩
    unfold SlOk
    rw[if_pos (nid_loose hlt (by omega))]
    refine⟨rfl,rfl,hcc2,?_⟩
    rcases hcaseq with⟨b,hqa,hv'⟩ | ⟨hqa,hm0,hc0,hv'⟩
    ·rw[hqa];exact hv'
    ·rw[hqa];exact⟨hm0,hc0,hv'⟩
   ·refine hm2.view (q:=q) hnid (nid_lt hlt (by omega)) (.inl ⟨rfl,rfl⟩) (fun b hb=>(hm'.there _ _ _ hq hb).loose h3) ?_
    intro R3 hR3 hR
    exact⟨pb,q,hR3 _ _ hpj,hR,hcase,rfl⟩
  ·obtain ⟨rfl,he6⟩:=expX3 he5
   exact std v l rfl nofun he6
 ·have h1:=cond_some.1 he5
  obtain ⟨h2,h3⟩:=h1
  obtain ⟨rfl,he6⟩:=expX3 h3
  refine std v l rfl ?_ he6
  rintro vs rfl
  exact h2
end
end Go.W

namespace Go.Proofs.YtckbmhegopjnmaaGreat
set_option maxRecDepth 100000
open Go.W
def kseNt:List Nat:=[0,1,4,5]
def kseNi:List Nat:=[1500000,1500001]
def kseSt (n:Nat) (f:Nat->List Value) (m:Nat) (g:Nat->List Value) (e0 e1:Nat) (i:Int):St :=
 ⟨[(0,aSl 0 n),(1,aSl 1 m),(4,.bool false),(5,i64 i)],[(1500000,⟨.row k32 n f,e0,false⟩),(1500001,⟨.row k32 m g,e1,false⟩)],20⟩
def kseS:Sums:=[]
theorem kseS_ok:SumsOk Tryz.prog kseS:=sums_nil
def kseC0:Cfg:=⟨tab,kseS,26,[]⟩
theorem kse_at:codeAt [1,1,0,1,0] (bodyOf Tryz.f30)=some (.loop (loopAt [1,1,0,1,0] (bodyOf Tryz.f30))):=by kernel_rfl
theorem kse_r (n:Nat) (V:Nat->Nat) (m:Nat) (U:Nat->Nat) (e0 e1:Nat) (i:Nat):roundS kseC0 60 [1,1,0,1,0,0] (loopAt [1,1,0,1,0] (bodyOf Tryz.f30)) kseNt kseNi 20 kseNt kseNi 20 (kseSt n (slF V) m (slF U) e0 e1 (i:Int)) =
  bif decide ((i:Int)<(n:Int)) then rdR i n (rdR i m (bif !(eqL (slC (V (0+i))) (slC (U (0+i)))) then some (.ret,kseSt n (slF V) m (slF U) e0 e1 (i:Int)) else some (.normal,kseSt n (slF V) m (slF U) e0 e1 (IntKind.i64.wrap ((i:Int)+1)))))
  else some (.exit 0,kseSt n (slF V) m (slF U) e0 e1 (i:Int)):=by kernel_rfl
noncomputable def kseC (n:Nat) (V U:Nat->Nat) (e0 e1:Nat) (e:Exit) (i:Int):Cfg:=⟨tab,kseS,26,[([1,1,0,1,0],atSt kseNt kseNi 20 (kseSt n (slF V) n (slF U) e0 e1 0) e (kseSt n (slF V) n (slF U) e0 e1 i))]⟩
theorem kse_ev0 (n:Nat) (f g:Nat->List Value) (V U:Nat->Nat) (es:Nat->Nat) (i:Int) (id:Nat):fnMS (kseC n V U (es 0) (es 1) (.exit 0) i) 60 Tryz.f30 (bodyOf Tryz.f30) (cArgs [.sl k32 n f,.sl k32 n g] 0) (cMem es [.sl k32 n f,.sl k32 n g] 0) 0 id =
  bif ((n:Nat):Int) != ((n:Nat):Int) then some (.bool false,[]) else req (stEq (kseSt n f n g (es 0) (es 1) 0) (kseSt n (slF V) n (slF U) (es 0) (es 1) 0)) (some (.bool true,[])):=by kernel_rfl
theorem kse_ev1 (n:Nat) (f g:Nat->List Value) (V U:Nat->Nat) (es:Nat->Nat) (i:Int) (id:Nat):fnMS (kseC n V U (es 0) (es 1) .ret i) 60 Tryz.f30 (bodyOf Tryz.f30) (cArgs [.sl k32 n f,.sl k32 n g] 0) (cMem es [.sl k32 n f,.sl k32 n g] 0) 0 id =
  bif ((n:Nat):Int) != ((n:Nat):Int) then some (.bool false,[]) else req (stEq (kseSt n f n g (es 0) (es 1) 0) (kseSt n (slF V) n (slF U) (es 0) (es 1) 0)) (some (.bool false,[])):=by kernel_rfl
theorem kse_ev2 (n:Nat) (f:Nat->List Value) (m:Nat) (g:Nat->List Value) (es:Nat->Nat) (id:Nat):fnMS ⟨tab,kseS,26,[([1,1,0,1,0],fun _=>[])]⟩ 60 Tryz.f30 (bodyOf Tryz.f30) (cArgs [.sl k32 n f,.sl k32 m g] 0) (cMem es [.sl k32 n f,.sl k32 m g] 0) 0 id =
  bif ((n:Nat):Int) != ((m:Nat):Int) then some (.bool false,[]) else none:=by kernel_rfl
theorem kse_msum:MSum Tryz.prog 30 SlsF:=by
 intro w0 R fm w hm vs args' hl mm hsub id hlt v l hpick hnew
 match vs,hl,hpick with
 | [a,b],hl,hpick =>
  obtain ⟨hc,rfl,rfl⟩:=pick_one hpick
  simp only[Bool.and_eq_true] at hc
  obtain ⟨⟨⟨ha,hb⟩,ho1⟩,ho2⟩:=hc
  generalize hqa:srcB mm k32 a=qa at ha ho1 ⊢
  generalize hqb:srcB mm k32 b=qb at hb ho2 ⊢
  obtain ⟨ok1,n,f⟩:=qa
  obtain ⟨ok2,m,g⟩:=qb
  simp only at ha hb ho1 ho2 ⊢
  subst ha hb
  have hn:=(okSl_iff.1 ho1).1
  refine msum_at (c:=bodyOf Tryz.f30) (fuel:=60) (next:=0) Tryz.func30 (by kernel_rfl) (by kernel_rfl) hm hl hsub hlt (A:=[.sl k32 n f,.sl k32 m g]) ⟨hqa,hqb,trivial⟩ (by show 2<=Tryz.f30.ntmps;decide +kernel) (.inl rfl) hnew (fun es=>?_)
  by_cases hnm:n=m
  ·subst hnm
   have rounds:∀(k:Nat) (e:Exit) (i:Int),k<=n->(∀j,j<k->slA f j=slA g j)->e≠.normal->roundS kseC0 60 [1,1,0,1,0,0] (loopAt [1,1,0,1,0] (bodyOf Tryz.f30)) kseNt kseNi 20 kseNt kseNi 20 (kseSt n (slF (slA f)) n (slF (slA g)) (es 0) (es 1) (k:Int))=some (e,kseSt n (slF (slA f)) n (slF (slA g)) (es 0) (es 1) i) ->
     LoopOk Tryz.prog 26 (loopAt [1,1,0,1,0] (bodyOf Tryz.f30)) (atSt kseNt kseNi 20 (kseSt n (slF (slA f)) n (slF (slA g)) (es 0) (es 1) 0) e (kseSt n (slF (slA f)) n (slF (slA g)) (es 0) (es 1) i)):=by
    intro k e i hk hj he hlast
    refine loopE (fun _=>kseC0) k (fun _ _=>⟨mixed,tabOk,kseS_ok,noL⟩) (fun _=>rfl) kse_at (m:=60) (nt:=kseNt) (ni:=kseNi) (et:=kseNt) (ei:=kseNi) (nx:=20) (ex:=20) (fun i=>kseSt n (slF (slA f)) n (slF (slA g)) (es 0) (es 1) (i:Int)) rfl he ?_ ⟨_,hlast,stEq_refl rfl⟩
    intro i hi
    refine⟨_,?_,stEq_refl rfl⟩
    refine(kse_r n (slA f) n (slA g) (es 0) (es 1) i).trans ?_
    rw[decide_eq_true (by omega),cond_true,rdR_eq (by omega),rdR_eq (by omega),Nat.zero_add,eqL_sl (el_sl ho1 (by omega)).2 (el_sl ho2 (by omega)).2,hj i hi,decide_eq_true rfl,wrap_i64 (by omega)];rfl
   have hne:((((n:Nat):Int) != ((n:Nat):Int)):Bool)=false:=bne_self_eq_false _
   have hS:stEq (kseSt n f n g (es 0) (es 1) 0) (kseSt n (slF (slA f)) n (slF (slA g)) (es 0) (es 1) 0)=true:=stEq_mk rfl (mRow (row_sl ho1) (mRow (row_sl ho2) mNil))
   by_cases hall:∀j,j<n->slA f j=slA g j
   ·refine⟨kseC n (slA f) (slA g) (es 0) (es 1) (.exit 0) (n:Int),⟨mixed,tabOk,kseS_ok,oneL (rounds n (.exit 0) (n:Int) (Nat.le_refl _) hall (by intro h;cases h) ?_)⟩,rfl,?_⟩
    ·refine(kse_r n (slA f) n (slA g) _ _ n).trans ?_
     rw[decide_eq_false (by omega),cond_false]
    ·refine(kse_ev0 n f g _ _ es _ id).trans ?_
     rw[hne,cond_false,req_true hS,eqN_iff.2 ⟨rfl,hall⟩]
   ·obtain ⟨k,h1,h2,h3⟩:=first_ne hall
    refine⟨kseC n (slA f) (slA g) (es 0) (es 1) .ret (k:Int),⟨mixed,tabOk,kseS_ok,oneL (rounds k .ret (k:Int) (by omega) h3 (by intro h;cases h) ?_)⟩,rfl,?_⟩
    ·refine(kse_r n (slA f) n (slA g) _ _ k).trans ?_
     rw[decide_eq_true (by omega),cond_true,rdR_eq h1,rdR_eq h1,Nat.zero_add,eqL_sl (el_sl ho1 h1).2 (el_sl ho2 h1).2,decide_eq_false h2];rfl
    ·refine(kse_ev1 n f g _ _ es _ id).trans ?_
     have:eqN n (slA f) n (slA g)=false:=by rw[Bool.eq_false_iff,ne_eq,eqN_iff];exact fun h=>hall h.2
     rw[hne,cond_false,req_true hS,this]
  ·refine⟨⟨tab,kseS,26,[([1,1,0,1,0],fun _=>[])]⟩,⟨mixed,tabOk,kseS_ok,noneL2⟩,rfl,?_⟩
   refine(kse_ev2 n f m g es id).trans ?_
   have:eqN n (slA f) m (slA g)=false:=by rw[Bool.eq_false_iff,ne_eq,eqN_iff];exact fun h=>hnm h.1
   rw[show((((n:Nat):Int) != ((m:Nat):Int)):Bool)=true from by rw[bne_iff_ne];omega,cond_true,this]
 | [],_,h=>simp[SlsF,pickM] at h
 | [_],_,h=>simp[SlsF,pickM] at h
 | _::_::_::_,_,h=>simp[SlsF,pickM] at h
def kpeNt:List Nat:=[0,1,4,5]
def kpeNi:List Nat:=[1500000,1500001]
def kpeSt (n:Nat) (f:Nat->List Value) (m:Nat) (g:Nat->List Value) (e0 e1:Nat) (i:Int):St :=
 ⟨[(0,aSl 0 n),(1,aSl 1 m),(4,.bool false),(5,i64 i)],[(1500000,⟨.row kP9 n f,e0,false⟩),(1500001,⟨.row kP9 m g,e1,false⟩)],20⟩
def kpeS:Sums:=[(29,KpF)]
theorem kpeS_ok:SumsOk Tryz.prog kpeS:=sums_cons kp_sum sums_nil
def kpeC0:Cfg:=⟨tab,kpeS,27,[]⟩
theorem kpe_at:codeAt [1,1,0,1,0] (bodyOf Tryz.f31)=some (.loop (loopAt [1,1,0,1,0] (bodyOf Tryz.f31))):=by kernel_rfl
theorem kpe_r (n:Nat) (V:Nat->RP) (m:Nat) (U:Nat->RP) (e0 e1:Nat) (i:Nat):roundS kpeC0 60 [1,1,0,1,0,0] (loopAt [1,1,0,1,0] (bodyOf Tryz.f31)) kpeNt kpeNi 20 kpeNt kpeNi 20 (kpeSt n (ptF V) m (ptF U) e0 e1 (i:Int)) =
  bif decide ((i:Int)<(n:Int)) then rdR i n (rdR i m (req (isPt (ptV (V (0+i)))&&isPt (ptV (U (0+i)))) (bif !(decide (unPt (ptV (V (0+i)))=unPt (ptV (U (0+i))))) then some (.ret,kpeSt n (ptF V) m (ptF U) e0 e1 (i:Int)) else some (.normal,kpeSt n (ptF V) m (ptF U) e0 e1 (IntKind.i64.wrap ((i:Int)+1))))))
  else some (.exit 0,kpeSt n (ptF V) m (ptF U) e0 e1 (i:Int)):=by kernel_rfl
noncomputable def kpeC (n:Nat) (V U:Nat->RP) (e0 e1:Nat) (e:Exit) (i:Int):Cfg:=⟨tab,kpeS,27,[([1,1,0,1,0],atSt kpeNt kpeNi 20 (kpeSt n (ptF V) n (ptF U) e0 e1 0) e (kpeSt n (ptF V) n (ptF U) e0 e1 i))]⟩
theorem kpe_ev0 (n:Nat) (f g:Nat->List Value) (V U:Nat->RP) (es:Nat->Nat) (i:Int) (id:Nat):fnMS (kpeC n V U (es 0) (es 1) (.exit 0) i) 60 Tryz.f31 (bodyOf Tryz.f31) (cArgs [.sl kP9 n f,.sl kP9 n g] 0) (cMem es [.sl kP9 n f,.sl kP9 n g] 0) 0 id =
  bif ((n:Nat):Int) != ((n:Nat):Int) then some (.bool false,[]) else req (stEq (kpeSt n f n g (es 0) (es 1) 0) (kpeSt n (ptF V) n (ptF U) (es 0) (es 1) 0)) (some (.bool true,[])):=by kernel_rfl
theorem kpe_ev1 (n:Nat) (f g:Nat->List Value) (V U:Nat->RP) (es:Nat->Nat) (i:Int) (id:Nat):fnMS (kpeC n V U (es 0) (es 1) .ret i) 60 Tryz.f31 (bodyOf Tryz.f31) (cArgs [.sl kP9 n f,.sl kP9 n g] 0) (cMem es [.sl kP9 n f,.sl kP9 n g] 0) 0 id =
  bif ((n:Nat):Int) != ((n:Nat):Int) then some (.bool false,[]) else req (stEq (kpeSt n f n g (es 0) (es 1) 0) (kpeSt n (ptF V) n (ptF U) (es 0) (es 1) 0)) (some (.bool false,[])):=by kernel_rfl
theorem kpe_ev2 (n:Nat) (f:Nat->List Value) (m:Nat) (g:Nat->List Value) (es:Nat->Nat) (id:Nat):fnMS ⟨tab,kpeS,27,[([1,1,0,1,0],fun _=>[])]⟩ 60 Tryz.f31 (bodyOf Tryz.f31) (cArgs [.sl kP9 n f,.sl kP9 m g] 0) (cMem es [.sl kP9 n f,.sl kP9 m g] 0) 0 id =
  bif ((n:Nat):Int) != ((m:Nat):Int) then some (.bool false,[]) else none:=by kernel_rfl
theorem kpe_msum:MSum Tryz.prog 31 PteF:=by
 intro w0 R fm w hm vs args' hl mm hsub id hlt v l hpick hnew
 match vs,hl,hpick with
 | [a,b],hl,hpick =>
  obtain ⟨hc,rfl,rfl⟩:=pick_one hpick
  simp only[Bool.and_eq_true] at hc
  obtain ⟨⟨⟨ha,hb⟩,ho1⟩,ho2⟩:=hc
  generalize hqa:srcB mm kP9 a=qa at ha ho1 ⊢
  generalize hqb:srcB mm kP9 b=qb at hb ho2 ⊢
  obtain ⟨ok1,n,f⟩:=qa
  obtain ⟨ok2,m,g⟩:=qb
  simp only at ha hb ho1 ho2 ⊢
  subst ha hb
  have hn:=(okP_iff.1 ho1).1
  refine msum_at (c:=bodyOf Tryz.f31) (fuel:=60) (next:=0) Tryz.func31 (by kernel_rfl) (by kernel_rfl) hm hl hsub hlt (A:=[.sl kP9 n f,.sl kP9 m g]) ⟨hqa,hqb,trivial⟩ (by show 2<=Tryz.f31.ntmps;decide +kernel) (.inl rfl) hnew (fun es=>?_)
  by_cases hnm:n=m
  ·subst hnm
   have rounds:∀(k:Nat) (e:Exit) (i:Int),k<=n->(∀j,j<k->pA f j=pA g j)->e≠.normal->roundS kpeC0 60 [1,1,0,1,0,0] (loopAt [1,1,0,1,0] (bodyOf Tryz.f31)) kpeNt kpeNi 20 kpeNt kpeNi 20 (kpeSt n (ptF (pA f)) n (ptF (pA g)) (es 0) (es 1) (k:Int))=some (e,kpeSt n (ptF (pA f)) n (ptF (pA g)) (es 0) (es 1) i) ->
     LoopOk Tryz.prog 27 (loopAt [1,1,0,1,0] (bodyOf Tryz.f31)) (atSt kpeNt kpeNi 20 (kpeSt n (ptF (pA f)) n (ptF (pA g)) (es 0) (es 1) 0) e (kpeSt n (ptF (pA f)) n (ptF (pA g)) (es 0) (es 1) i)):=by
    intro k e i hk hj he hlast
    refine loopE (fun _=>kpeC0) k (fun _ _=>⟨mixed,tabOk,kpeS_ok,noL⟩) (fun _=>rfl) kpe_at (m:=60) (nt:=kpeNt) (ni:=kpeNi) (et:=kpeNt) (ei:=kpeNi) (nx:=20) (ex:=20) (fun i=>kpeSt n (ptF (pA f)) n (ptF (pA g)) (es 0) (es 1) (i:Int)) rfl he ?_ ⟨_,hlast,stEq_refl rfl⟩
    intro i hi
    refine⟨_,?_,stEq_refl rfl⟩
    refine(kpe_r n (pA f) n (pA g) (es 0) (es 1) i).trans ?_
    rw[decide_eq_true (by omega),cond_true,rdR_eq (by omega),rdR_eq (by omega),isPt_ptV,isPt_ptV,req_true (b:=true&&true) rfl,Nat.zero_add,hj i hi,decide_eq_true rfl,wrap_i64 (by omega)];rfl
   have hne:((((n:Nat):Int) != ((n:Nat):Int)):Bool)=false:=bne_self_eq_false _
   have hS:stEq (kpeSt n f n g (es 0) (es 1) 0) (kpeSt n (ptF (pA f)) n (ptF (pA g)) (es 0) (es 1) 0)=true:=stEq_mk rfl (mRow (row_pt ho1) (mRow (row_pt ho2) mNil))
   by_cases hall:∀j,j<n->pA f j=pA g j
   ·refine⟨kpeC n (pA f) (pA g) (es 0) (es 1) (.exit 0) (n:Int),⟨mixed,tabOk,kpeS_ok,oneL (rounds n (.exit 0) (n:Int) (Nat.le_refl _) hall (by intro h;cases h) ?_)⟩,rfl,?_⟩
    ·refine(kpe_r n (pA f) n (pA g) _ _ n).trans ?_
     rw[decide_eq_false (by omega),cond_false]
    ·refine(kpe_ev0 n f g _ _ es _ id).trans ?_
     rw[hne,cond_false,req_true hS,eqN_iff.2 ⟨rfl,hall⟩]
   ·obtain ⟨k,h1,h2,h3⟩:=first_ne hall
    refine⟨kpeC n (pA f) (pA g) (es 0) (es 1) .ret (k:Int),⟨mixed,tabOk,kpeS_ok,oneL (rounds k .ret (k:Int) (by omega) h3 (by intro h;cases h) ?_)⟩,rfl,?_⟩
    ·refine(kpe_r n (pA f) n (pA g) _ _ k).trans ?_
     rw[decide_eq_true (by omega),cond_true,rdR_eq h1,rdR_eq h1,isPt_ptV,isPt_ptV,req_true (b:=true&&true) rfl,Nat.zero_add,unPt_ptV (el_pt ho1 h1).2,unPt_ptV (el_pt ho2 h1).2,decide_eq_false h2];rfl
    ·refine(kpe_ev1 n f g _ _ es _ id).trans ?_
     have:eqN n (pA f) n (pA g)=false:=by rw[Bool.eq_false_iff,ne_eq,eqN_iff];exact fun h=>hall h.2
     rw[hne,cond_false,req_true hS,this]
  ·refine⟨⟨tab,kpeS,27,[([1,1,0,1,0],fun _=>[])]⟩,⟨mixed,tabOk,kpeS_ok,noneL2⟩,rfl,?_⟩
   refine(kpe_ev2 n f m g es id).trans ?_
   have:eqN n (pA f) m (pA g)=false:=by rw[Bool.eq_false_iff,ne_eq,eqN_iff];exact fun h=>hnm h.1
   rw[show((((n:Nat):Int) != ((m:Nat):Int)):Bool)=true from by rw[bne_iff_ne];omega,cond_true,this]
 | [],_,h=>simp[PteF,pickM] at h
 | [_],_,h=>simp[PteF,pickM] at h
 | _::_::_::_,_,h=>simp[PteF,pickM] at h
def kprK:Cfg:=⟨tab,[],17,[]⟩
theorem kprOk:CfgOk Tryz.prog kprK (bodyOf Tryz.f32):=⟨mixed,tabOk,sums_nil,noL⟩
theorem kpr_ev (a b c d:Nat):fnS kprK 60 Tryz.f32 (bodyOf Tryz.f32) [prV a b,prV c d]=bif eqV (num a) (num c) then some (.bool (eqV (num b) (num d))) else some (.bool false):=by kernel_rfl
theorem kpr_sum:Sum Tryz.prog 32 KprF:=by
 refine sum_of kprOk Tryz.func32 (by kernel_rfl) (by kernel_rfl) rfl (fuel:=60) fun args v h hpl=>?_
 unfold KprF at h
 split at h
 ·simp only[Option.some.injEq,Prod.mk.injEq,Bool.and_eq_true] at h
  obtain ⟨⟨h0,h1⟩,rfl⟩:=h
  obtain ⟨X,⟨hc,hr⟩,rfl⟩:=isPrf_some h0
  obtain ⟨Y,⟨hc2,hr2⟩,rfl⟩:=isPrf_some h1
  refine⟨by show 2<=Tryz.f32.ntmps;decide +kernel,(kpr_ev _ _ _ _).trans ?_,rfl⟩
  rw[unPrf_prV hc hr,unPrf_prV hc2 hr2,eqV_num,eqV_num,Nat.mod_eq_of_lt hc,Nat.mod_eq_of_lt hr,Nat.mod_eq_of_lt hc2,Nat.mod_eq_of_lt hr2]
  by_cases h1:X.1=Y.1
  ·rw[decide_eq_true h1,cond_true]
   congr 2
   rw[Bool.eq_iff_iff,decide_eq_true_eq,decide_eq_true_eq,Prod.mk.injEq]
   exact⟨fun h=>⟨h1,h⟩,fun h=>h.2⟩
  ·rw[decide_eq_false h1,decide_eq_false (fun h=>h1 (Prod.mk.inj h).1)];rfl
 ·simp at h
def rblK:Cfg:=⟨tab,[(44,PrimeF),(45,CmpF)],17,[]⟩
theorem rblOk:CfgOk Tryz.prog rblK (bodyOf Tryz.f24):=⟨mixed,tabOk,sums_cons PrimeR_sum (sums_cons CmpR_sum sums_nil),noL⟩
theorem rbl_ev (c r:Nat):fnS rblK 60 Tryz.f24 (bodyOf Tryz.f24) [prV c r] =
  req (isNum (num c)&&isNum (num (primeN 1))) (bif decide (cmpI (unnum (num c)) (unnum (num (primeN 1)))<0) then req (isNum (num r)&&isNum (num (primeN 1))) (some (.bool (decide (cmpI (unnum (num r)) (unnum (num (primeN 1)))<0)))) else some (.bool false)):=by kernel_rfl
theorem rbl_sum:Sum Tryz.prog 24 RblF:=by
 refine sum_of rblOk Tryz.func24 (by kernel_rfl) (by kernel_rfl) rfl (fuel:=60) fun args v h hpl=>?_
 unfold RblF at h
 split at h
 ·simp only[Option.some.injEq,Prod.mk.injEq] at h
  obtain ⟨h0,rfl⟩:=h
  obtain ⟨X,⟨hc,hr⟩,rfl⟩:=isPrf_some h0
  refine⟨by show 1<=Tryz.f24.ntmps;decide +kernel,(rbl_ev X.1 X.2).trans ?_,rfl⟩
  rw[isNum_num,isNum_num,isNum_num,req_true (b:=true&&true) rfl,req_true (b:=true&&true) rfl,unnum_lt hc,unnum_lt hr,unnum_lt (show primeN 1<2^256 from n1_lt),unPrf_prV hc hr,below_cmp,below_cmp]
  cases decide (X.1<pN)<;>rfl
 ·simp at h
noncomputable def kacS:Sums:=[(29,KpF),(30,SlsF),(31,PteF),(32,KprF)]
theorem kacS_ok:SumsOk Tryz.prog kacS:=sums_cons kp_sum (sums_consM kse_msum (sums_consM kpe_msum (sums_cons kpr_sum sums_nil)))
noncomputable def kacC:Cfg:=⟨tab,kacS,52,[]⟩
theorem kac_ev (k:Int) (i:Bool) (x y:Nat) (lab:ByteArray) (n:Nat) (f:Nat->List Value) (m:Nat) (h:Nat->List Value) (g:Int) (c r:Nat)
  (k2:Int) (i2:Bool) (x2 y2:Nat) (lab2:ByteArray) (n2:Nat) (f2:Nat->List Value) (m2:Nat) (h2:Nat->List Value) (g2:Int) (c2 r2:Nat) (es:Nat->TypeId) (er:Nat->Nat->TypeId) (id:Nat) :
  fnX kacC 60 Tryz.f10 (bodyOf Tryz.f10) (cArgsX [.ag (acA k (i,x,y) lab n f m h g (c,r)),.ag (acA k2 (i2,x2,y2) lab2 n2 f2 m2 h2 g2 (c2,r2))] 0) (cMemX es er [.ag (acA k (i,x,y) lab n f m h g (c,r)),.ag (acA k2 (i2,x2,y2) lab2 n2 f2 m2 h2 g2 (c2,r2))]) 0 id =
  kacT k i x y lab n f m h g c r k2 i2 x2 y2 lab2 n2 f2 m2 h2 g2 c2 r2:=by kernel_rfl
theorem kac_msum:MSum Tryz.prog 10 ActF:=by
 intro w0 R fm w hm vs args' hl mm hsub id hlt v l hpick hnew
 match vs,hl,hpick with
 | [a,b],hl,hpick =>
  obtain ⟨hc,rfl,rfl⟩:=pick_one hpick
  simp only[Bool.and_eq_true] at hc
  obtain ⟨k,K,lab,s,c,g,X,n,f,m,q,ea,oK,oX,oX',hs,o1,hq,o2,eA⟩:=isA_some hc.1
  obtain ⟨k2,K2,lab2,s2,c2,g2,X2,n2,f2,m2,q2,eb,pK,pX,pX',hs2,p1,hq2,p2,eB⟩:=isA_some hc.2
  rw[eA,eB]
  clear eA eB hc
  subst ea eb
  refine msum_atX (c:=bodyOf Tryz.f10) (fuel:=60) (next:=0) Tryz.func10 (by kernel_rfl) (by kernel_rfl) hm hl hsub hlt
   (A:=[.ag (acA k K lab n f m q g X),.ag (acA k2 K2 lab2 n2 f2 m2 q2 g2 X2)]) ⟨⟨_,rfl,acA_ok hs hq⟩,⟨_,rfl,acA_ok hs2 hq2⟩,trivial⟩ (by kernel_rfl) (by show 2<=Tryz.f10.ntmps;decide +kernel) (by intro p hp;cases hp) (fun es er=>?_)
  refine⟨kacC,⟨mixed,tabOk,kacS_ok,noL⟩,rfl,?_⟩
  exact(kac_ev k K.1 K.2.1 K.2.2 lab n f m q g X.1 X.2 k2 K2.1 K2.2.1 K2.2.2 lab2 n2 f2 m2 q2 g2 X2.1 X2.2 es er id).trans (kacT_eq oK oX oX' o1 o2 pK pX pX' p1 p2)
 | [],_,h=>simp[ActF,pickM] at h
 | [_],_,h=>simp[ActF,pickM] at h
 | _::_::_::_,_,h=>simp[ActF,pickM] at h
end Go.Proofs.YtckbmhegopjnmaaGreat

namespace Go.W
open Go
theorem size_app (a b:ByteArray):(a++b).size=a.size+b.size:=ByteArray.size_append
theorem dec_behind (c r:ByteArray) {p:Nat} (hp:p<r.size):decB (byt (c++r)) (c++r).size (c.size+p)=decB (byt r) r.size p:=by
 rw[size_app]
 exact decB_shift hp (by omega) (by omega) fun k hk=>by rw[byt_app,if_neg (by omega),show c.size+p+k - c.size=p+k from by omega]
theorem stp_behind (c r:ByteArray) (p:Nat):stp (c++r) (c.size+p)=c.size+stp r p:=by
 unfold stp
 rw[size_app]
 by_cases h:p<r.size
 ·rw[if_pos (by omega),if_pos h]
  show c.size+p+(decB _ _ _).2=_
  rw[dec_behind c r h]
  show _=c.size+(p+(decB _ _ _).2)
  omega
 ·rw[if_neg (by omega),if_neg h]
theorem psF_behind (c r:ByteArray) (p:Nat):∀j,psF (c++r) (c.size+p) j=c.size+psF r p j
 | 0=>rfl
 | j+1=>by
  show stp _ (psF _ _ j)=c.size+stp r (psF r p j)
  rw[psF_behind c r p j,stp_behind]
theorem ps_behind {c r:ByteArray} {m:Nat} (h:ps (c++r) m=c.size) (j:Nat):ps (c++r) (m+j)=c.size+ps r j:=by
 show psF _ 0 (m+j)=_
 rw[psF_add,show psF (c++r) 0 m=c.size+0 from h,psF_behind];rfl
theorem rc_behind {c r:ByteArray} {m:Nat} (h:ps (c++r) m=c.size) {j:Nat} (hj:j<rN r):rc (c++r) (m+j)=rc r j:=by
 unfold rc
 rw[ps_behind h]
 show(decB _ _ _).1=(decB _ _ _).1
 rw[dec_behind c r ((rN_is r).1 j hj)]
theorem rN_behind {c r:ByteArray} {m:Nat} (h:ps (c++r) m=c.size) (h2:∀k,k<m->ps (c++r) k<c.size):rN (c++r)=m+rN r:=by
 apply rN_of
 refine⟨fun k hk=>?_,?_⟩
 ·rw[size_app]
  by_cases e:k<m
  ·have:=h2 k e;omega
  ·obtain ⟨j,rfl⟩:∃j,k=m+j:=⟨k - m,by omega⟩
   rw[ps_behind h]
   have:=(rN_is r).1 j (by omega)
   omega
 ·rw[ps_behind h,size_app,(rN_is r).2]
def right (s:ByteArray):Prop:=∀k,k<rN s->decB (byt s) s.size (ps s k)≠(65533,1)
theorem dec_ahead {a b:ByteArray} {p:Nat} (hp:p<a.size) (hv:decB (byt a) a.size p≠(65533,1)):decB (byt (a++b)) (a++b).size p=decB (byt a) a.size p :=
 decB_ext (by rw[size_app];omega) hp hv fun k hk=>by rw[byt_app,if_pos hk]
theorem ps_ahead {a b:ByteArray} (h:right a):∀k,k<=rN a->ps (a++b) k=ps a k
 | 0,_=>rfl
 | k+1,hk=>by
  have h1:=(rN_is a).1 k (by omega)
  rw[ps_succ,ps_succ,ps_ahead h k (by omega)]
  unfold stp
  rw[if_pos (by rw[size_app];omega),if_pos h1]
  show _+(decB _ _ _).2=_+(decB _ _ _).2
  rw[dec_ahead h1 (h k (by omega))]
theorem rc_ahead {a b:ByteArray} (h:right a) {k:Nat} (hk:k<rN a):rc (a++b) k=rc a k:=by
 unfold rc
 rw[ps_ahead h k (by omega)]
 show(decB _ _ _).1=(decB _ _ _).1
 rw[dec_ahead ((rN_is a).1 k hk) (h k hk)]
theorem ps_join {a b:ByteArray} (h:right a):ps (a++b) (rN a)=a.size:=by rw[ps_ahead h _ (Nat.le_refl _),(rN_is a).2]
theorem rN_join {a b:ByteArray} (h:right a):rN (a++b)=rN a+rN b :=
 rN_behind (ps_join h) fun k hk=>by rw[ps_ahead h k (by omega)];exact(rN_is a).1 k hk
theorem rc_join {a b:ByteArray} (h:right a) {j:Nat} (hj:j<rN b):rc (a++b) (rN a+j)=rc b j:=rc_behind (ps_join h) hj
theorem right_join {a b:ByteArray} (h:right a) (h2:right b):right (a++b):=by
 intro k hk
 rw[rN_join h] at hk
 by_cases e:k<rN a
 ·rw[ps_ahead h k (by omega),dec_ahead ((rN_is a).1 k e) (h k e)];exact h k e
 ·obtain ⟨j,rfl⟩:∃j,k=rN a+j:=⟨k - rN a,by omega⟩
  rw[ps_behind (ps_join h),dec_behind a b ((rN_is b).1 j (by omega))]
  exact h2 j (by omega)
def okC (r:Nat):Prop:=32<=r∧(r<127∨160<=r)∧r≠65533
def lbl (s:ByteArray):Prop:=1<=rN s∧rN s<=24∧(∀k,k<rN s->okC (rc s k))∧rc s 0≠32∧rc s (rN s - 1)≠32
theorem lbl_right {s:ByteArray} (h:∀k,k<rN s->okC (rc s k)):right s:=by
 intro k hk e
 have h1:=(h k hk).2.2
 unfold rc dC at h1
 rw[e] at h1
 exact h1 rfl
noncomputable def lblB (s:ByteArray):Bool:=hide (@decide (lbl s) (Classical.propDecidable _))
theorem lblB_iff {s:ByteArray}:lblB s=true↔lbl s:=by
 unfold lblB;rw[hide_eq]
 exact⟨fun h=>@of_decide_eq_true _ (Classical.propDecidable _) h,fun h=>@decide_eq_true _ (Classical.propDecidable _) h⟩
end Go.W

namespace Go.W
open Go
theorem one_rune {s:ByteArray} {r:Nat} (h:runeAt (byt s) 0 r s.size):rN s=1∧right s∧rc s 0=r∧1<=s.size:=by
 have hw:=runeAt_w h
 have hd:decB (byt s) s.size 0=(r,s.size):=decB_rune h (by omega)
 have hp:ps s 1=s.size:=by
  rw[ps_succ,ps_zero]
  unfold stp
  rw[if_pos (by omega)]
  show 0+(decB _ _ _).2=_
  rw[hd,Nat.zero_add]
 have hN:rN s=1:=rN_of ⟨fun k hk=>by rw[show k=0 from by omega,ps_zero];omega,hp⟩
 refine⟨hN,fun k hk=>?_,?_,hw.1⟩
 ·rw[hN] at hk
  rw[show k=0 from by omega,ps_zero,hd]
  rintro e
  simp only[Prod.mk.injEq] at e
  obtain ⟨rfl,e⟩:=e
  rw[e] at h
  rcases h with⟨_,h1,h2⟩ | ⟨h1,_⟩ | ⟨h1,_⟩ | ⟨h1,_⟩<;>omega
 ·unfold rc
  rw[ps_zero]
  show(decB _ _ _).1=r
  rw[hd]
theorem u8n (n:Nat):(UInt8.ofNat n).toNat=n % 256:=UInt8.toNat_ofNat'
def vld (r:Int):Prop:=0<=r∧r<=1114111∧¬(55296<=r∧r<57344)
theorem valid_vld {r:Int}:Utf8.valid r=true↔vld r:=by
 unfold Utf8.valid vld
 rw[Bool.or_eq_true,Bool.and_eq_true,Bool.and_eq_true,decide_eq_true_eq,decide_eq_true_eq,decide_eq_true_eq,decide_eq_true_eq]
 omega
theorem enc_rune {r:Int} (h:vld r):runeAt (byt (Utf8.encode r)) 0 r.toNat (Utf8.encode r).size:=by
 have hv:=valid_vld.2 h
 obtain ⟨h1,h2,h3⟩:=h
 obtain ⟨c,rfl⟩:=Int.eq_ofNat_of_zero_le h1
 unfold Utf8.encode
 simp only[hv,if_true,Int.toNat_natCast]
 by_cases c1:c<128
 ·rw[if_pos c1]
  refine .inl ⟨rfl,?_,?_⟩
  ·show(UInt8.ofNat c).toNat<128;rw[u8n];omega
  ·show c=(UInt8.ofNat c).toNat;rw[u8n];omega
 rw[if_neg c1]
 by_cases c2:c<2048
 ·rw[if_pos c2]
  have e0:byt ⟨#[UInt8.ofNat (192+c / 64),UInt8.ofNat (128+c % 64)]⟩ 0=192+c / 64:=by show(UInt8.ofNat _).toNat=_;rw[u8n];omega
  have e1:byt ⟨#[UInt8.ofNat (192+c / 64),UInt8.ofNat (128+c % 64)]⟩ (0+1)=128+c % 64:=by show(UInt8.ofNat _).toNat=_;rw[u8n];omega
  exact .inr (.inl ⟨rfl,by rw[e0];omega,by rw[e1];omega,by rw[e0,e1];omega,by omega⟩)
 rw[if_neg c2]
 by_cases c3:c<65536
 ·rw[if_pos c3]
  have e0:byt ⟨#[UInt8.ofNat (224+c / 4096),UInt8.ofNat (128+c / 64 % 64),UInt8.ofNat (128+c % 64)]⟩ 0=224+c / 4096:=by show(UInt8.ofNat _).toNat=_;rw[u8n];omega
  have e1:byt ⟨#[UInt8.ofNat (224+c / 4096),UInt8.ofNat (128+c / 64 % 64),UInt8.ofNat (128+c % 64)]⟩ (0+1)=128+c / 64 % 64:=by show(UInt8.ofNat _).toNat=_;rw[u8n];omega
  have e2:byt ⟨#[UInt8.ofNat (224+c / 4096),UInt8.ofNat (128+c / 64 % 64),UInt8.ofNat (128+c % 64)]⟩ (0+2)=128+c % 64:=by show(UInt8.ofNat _).toNat=_;rw[u8n];omega
  exact .inr (.inr (.inl ⟨rfl,by rw[e0];omega,by rw[e1];omega,by rw[e2];omega,by rw[e0,e1,e2];omega,by omega,hv⟩))
 rw[if_neg c3]
 have e0:byt ⟨#[UInt8.ofNat (240+c / 262144),UInt8.ofNat (128+c / 4096 % 64),UInt8.ofNat (128+c / 64 % 64),UInt8.ofNat (128+c % 64)]⟩ 0=240+c / 262144:=by show(UInt8.ofNat _).toNat=_;rw[u8n];omega
 have e1:byt ⟨#[UInt8.ofNat (240+c / 262144),UInt8.ofNat (128+c / 4096 % 64),UInt8.ofNat (128+c / 64 % 64),UInt8.ofNat (128+c % 64)]⟩ (0+1)=128+c / 4096 % 64:=by show(UInt8.ofNat _).toNat=_;rw[u8n];omega
 have e2:byt ⟨#[UInt8.ofNat (240+c / 262144),UInt8.ofNat (128+c / 4096 % 64),UInt8.ofNat (128+c / 64 % 64),UInt8.ofNat (128+c % 64)]⟩ (0+2)=128+c / 64 % 64:=by show(UInt8.ofNat _).toNat=_;rw[u8n];omega
 have e3:byt ⟨#[UInt8.ofNat (240+c / 262144),UInt8.ofNat (128+c / 4096 % 64),UInt8.ofNat (128+c / 64 % 64),UInt8.ofNat (128+c % 64)]⟩ (0+3)=128+c % 64:=by show(UInt8.ofNat _).toNat=_;rw[u8n];omega
 exact .inr (.inr (.inr ⟨rfl,by rw[e0];omega,by rw[e1];omega,by rw[e2];omega,by rw[e3];omega,by rw[e0,e1,e2,e3];omega,by omega,hv⟩))
def encs (l:Nat->Int):Nat->ByteArray
 | 0=>⟨#[]⟩
 | k+1=>encs l k++Utf8.encode (l k)
theorem rN_nil:rN ⟨#[]⟩=0:=rN_of ⟨fun _ h=>absurd h (Nat.not_lt_zero _),rfl⟩
theorem encs_all {l:Nat->Int}:∀{n:Nat},(∀k,k<n->vld (l k))->rN (encs l n)=n∧right (encs l n)∧(∀k,k<n->rc (encs l n) k=(l k).toNat)∧(encs l n).size<=4*n
 | 0,_=>⟨rN_nil,fun k hk=>by rw[show rN (encs l 0)=0 from rN_nil] at hk;exact absurd hk (Nat.not_lt_zero _),fun _ h=>absurd h (Nat.not_lt_zero _),Nat.zero_le _⟩
 | n+1,h=>by
  obtain ⟨h1,h2,h3,h4⟩:=encs_all (n:=n) fun k hk=>h k (by omega)
  have he:=enc_rune (h n (by omega))
  obtain ⟨k1,k2,k3,_⟩:=one_rune he
  have hw:=runeAt_w he
  refine⟨?_,right_join h2 k2,fun k hk=>?_,?_⟩
  ·show rN (encs l n++_)=_;rw[rN_join h2,h1,k1]
  ·show rc (encs l n++_) k=_
   by_cases e:k<n
   ·rw[rc_ahead h2 (by omega)];exact h3 k e
   ·rw[show k=rN (encs l n)+0 from by omega,rc_join h2 (by omega),k3,h1,Nat.add_zero]
  ·show(encs l n++_).size<=_;rw[size_app];omega
theorem lbl_encs {l:Nat->Int} {n:Nat} (h:∀k,k<n->vld (l k)):lbl (encs l n)↔1<=n∧n<=24∧(∀k,k<n->okC (l k).toNat)∧(l 0).toNat≠32∧(l (n - 1)).toNat≠32:=by
 obtain ⟨h1,h2,h3,_⟩:=encs_all h
 unfold lbl
 rw[h1]
 constructor
 ·rintro ⟨k1,k2,k3,k4,k5⟩
  rw[h3 _ (by omega)] at k4 k5
  exact⟨k1,k2,fun k hk=>by rw[<-h3 k hk];exact k3 k hk,k4,k5⟩
 ·rintro ⟨k1,k2,k3,k4,k5⟩
  rw[h3 _ (by omega),h3 _ (by omega)]
  exact⟨k1,k2,fun k hk=>by rw[h3 k hk];exact k3 k hk,k4,k5⟩
end Go.W
