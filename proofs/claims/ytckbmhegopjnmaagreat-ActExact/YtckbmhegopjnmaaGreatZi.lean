/-
  Several texts in one: M126 M128 M129 M130 Yp M131 M132 Yr W41 M110 Yg M111 Yi Qd Yc Yb Yd M112 M113 Yj W42.
-/
import Derived.Test.YtckbmhegopjnmaaGreatZh
namespace Go.W
open Go
theorem hd_at {m:Nat} {g:Nat->List Value} (hg:okY m g=true) {q:Int×Bool} (h:inQ m q) {b:Nat} {r:List Nat} (hs:stO (lsB m g) q=some (b::r)):q.1<m∧bI g q.1.toNat=((b:Nat):Int):=by
 obtain ⟨h0,h1⟩:=h
 have hz:=stO_ok hs
 unfold stO at hs
 rw[hz,if_neg (by decide)] at hs
 have hs:=Option.some.inj hs
 have hl:=congrArg List.length hs
 rw[List.length_drop,lsB_len,List.length_cons] at hl
 have ha:q.1<m:=by omega
 refine⟨ha,?_⟩
 rw[lsB_get hg (by omega)]
 have e:=congrArg (fun l:List Nat=>l.getD 0 0) hs
 simp only[List.getD_eq_getElem?_getD,List.getElem?_drop,Nat.add_zero] at e
 rw[List.getD_eq_getElem?_getD,e];rfl
noncomputable def nuV (m:Nat) (g:Nat->List Value) (a:Int):Int:=hide (if a<m then bI g a.toNat else 0)
noncomputable def nuA (m:Nat) (a:Int):Int:=hide (if a<m then a+1 else a)
noncomputable def nuZ (m:Nat) (a:Int) (z:Bool):Bool:=hide (z||!decide (a<m))
noncomputable def nuS (m:Nat) (q:Int×Bool):Int×Bool:=(nuA m q.1,nuZ m q.1 q.2)
theorem inQ_nu {m:Nat} {q:Int×Bool} (h:inQ m q):inQ m (nuS m q):=by
 obtain ⟨h0,h1⟩:=h
 unfold inQ nuS nuA
 simp only[hide_eq]
 by_cases e:q.1<m
 ·rw[if_pos e];omega
 ·rw[if_neg e];omega
theorem gtE0_1 {m:Nat} {a:Int} {z:Bool} (h:inQ m (a,z)):gtE0 m a 1=if a<m then 0 else 7:=by
 obtain ⟨h0,h1⟩:=h
 have h0:0<=a:=h0
 have h1:a<=m:=h1
 unfold gtE0
 rw[if_neg (not_not_intro ⟨by omega,by omega,h0,h1⟩)]
 by_cases e:a<m
 ·rw[if_pos e,if_neg (by omega)]
 ·rw[if_neg e,if_pos (by omega)]
theorem gtV_1 {m:Nat} {g:Nat->List Value} (hg:okY m g=true) {a:Nat} (h:a<m):((gtV g a 1:Nat):Int)=bI g a:=by
 have h1:=okY_iff.1 hg a h
 show((0*256+(bI g (a+0)).toNat:Nat):Int)=_
 rw[Nat.add_zero];omega
theorem nu_get {m:Nat} {g:Nat->List Value} (hg:okY m g=true) {a:Int} {z:Bool} (h:inQ m (a,z)) (f:Nat->List Value) (hf:∀j,bI f j=bI g j):gtN m f a 1=nuV m g a∧gtE m a 1=(if a<m then 0 else 7)∧gtX m a 1=(if a<m then a+1 else 0):=by
 have e:=gtE0_1 h
 obtain ⟨h0,h1⟩:=h
 have h0:0<=a:=h0
 unfold gtN gtE gtX nuV
 rw[hide_eq,hide_eq,hide_eq,hide_eq,e]
 by_cases c:a<m
 ·rw[if_pos c,if_pos c,if_pos rfl,if_pos rfl,if_pos c]
  refine⟨?_,rfl,rfl⟩
  rw[show(1:Int).toNat=1 from rfl,gtV_congr (f:=f) (g:=g) 1 fun j _ _=>hf j,gtV_1 hg (by omega)]
 ·rw[if_neg c,if_neg c,if_neg (by decide),if_neg (by decide),if_neg c]
  exact⟨rfl,rfl,rfl⟩
theorem st_nu {m:Nat} {g:Nat->List Value} {q:Int×Bool} (h:inQ m q):stO (lsB m g) (nuS m q)=aftO 1 (stO (lsB m g) q):=by
 obtain ⟨a,bad⟩:=q
 obtain ⟨h0,h1⟩:=h
 have h0:0<=a:=h0
 have h1:a<=m:=h1
 unfold stO nuS nuA nuZ
 simp only[hide_eq]
 cases bad with
 | true=>rw[Bool.true_or,if_pos rfl,if_pos rfl];rfl
 | false =>
  rw[Bool.false_or,if_neg (show ¬false=true by decide)]
  unfold aftO
  by_cases c:a<m
  ·simp only
   rw[decide_eq_true c,if_neg (by decide),if_pos c,if_pos (by rw[List.length_drop,lsB_len];omega),List.drop_drop,show(a+1).toNat=a.toNat+1 by omega]
  ·simp only
   rw[decide_eq_false c,if_pos (by decide),if_neg (by rw[List.length_drop,lsB_len];omega)]
theorem nu_some {m:Nat} {g:Nat->List Value} (hg:okY m g=true) {q:Int×Bool} (h:inQ m q) {r:List Nat} (hs:stO (lsB m g) (nuS m q)=some r):∃b,stO (lsB m g) q=some (b::r)∧nuV m g q.1=((b:Nat):Int):=by
 obtain ⟨p1,hp1,o2⟩:=aft_some ((st_nu h).symm.trans hs)
 match p1,hp1 with
 | [b],_ =>
  have o2:stO (lsB m g) q=some (b::r):=o2
  obtain ⟨k1,k2⟩:=hd_at hg h o2
  exact⟨b,o2,by unfold nuV;rw[hide_eq,if_pos k1,k2]⟩
theorem nu_back {m:Nat} {g:Nat->List Value} (hg:okY m g=true) {q:Int×Bool} (h:inQ m q) {b:Nat} {r:List Nat} (hs:stO (lsB m g) q=some (b::r)):stO (lsB m g) (nuS m q)=some r∧nuV m g q.1=((b:Nat):Int):=by
 obtain ⟨k1,k2⟩:=hd_at hg h hs
 refine⟨(st_nu h).trans (by rw[hs];exact aft_app (p:=[b]) rfl),by unfold nuV;rw[hide_eq,if_pos k1,k2]⟩
theorem nuV_lt {m:Nat} {g:Nat->List Value} (hg:okY m g=true) {a:Int} (h0:0<=a):0<=nuV m g a∧nuV m g a<256:=by
 unfold nuV;rw[hide_eq]
 by_cases c:a<m
 ·rw[if_pos c];exact okY_iff.1 hg _ (by omega)
 ·rw[if_neg c];omega
noncomputable def cnZ (m:Nat) (g:Nat->List Value) (mx:Int) (a:Int) (z:Bool):Bool:=hide (nuZ m a z||decide (nuV m g a > mx))
noncomputable def cnS (m:Nat) (g:Nat->List Value) (mx:Int) (q:Int×Bool):Int×Bool:=(nuA m q.1,cnZ m g mx q.1 q.2)
noncomputable def cnN (m:Nat) (g:Nat->List Value) (mx:Int) (a:Int) (z:Bool):Nat:=hide (if cnZ m g mx a z=true then 0 else (nuV m g a).toNat)
theorem inQ_cn {m:Nat} {g:Nat->List Value} {mx:Int} {q:Int×Bool} (h:inQ m q):inQ m (cnS m g mx q):=inQ_nu h
theorem cnN_le {m:Nat} {g:Nat->List Value} (mx:Nat) (a:Int) (z:Bool):cnN m g mx a z<=mx:=by
 unfold cnN;rw[hide_eq]
 cases hz:cnZ m g mx a z with
 | true=>rw[if_pos rfl];omega
 | false =>
  rw[if_neg (by decide)]
  unfold cnZ at hz
  rw[hide_eq,Bool.or_eq_false_iff,decide_eq_false_iff_not] at hz
  omega
theorem cn_some {m:Nat} {g:Nat->List Value} (hg:okY m g=true) {mx:Nat} {q:Int×Bool} (h:inQ m q) {r:List Nat} (hs:stO (lsB m g) (cnS m g mx q)=some r):stO (lsB m g) q=some (cnN m g mx q.1 q.2::r):=by
 have hz:cnZ m g mx q.1 q.2=false:=stO_ok hs
 have hz2:=hz
 unfold cnZ at hz2
 rw[hide_eq,Bool.or_eq_false_iff,decide_eq_false_iff_not] at hz2
 have e:stO (lsB m g) (nuS m q)=some r:=by
  unfold cnS at hs;rw[hz] at hs
  unfold nuS;rw[hz2.1];exact hs
 obtain ⟨b,k1,k2⟩:=nu_some hg h e
 have:cnN m g mx q.1 q.2=b:=by
  unfold cnN;rw[hide_eq,hz,if_neg (by decide),k2];rfl
 rw[this];exact k1
theorem cn_back {m:Nat} {g:Nat->List Value} (hg:okY m g=true) {mx:Nat} {q:Int×Bool} (h:inQ m q) {b:Nat} (hb:b<=mx) {r:List Nat} (hs:stO (lsB m g) q=some (b::r)):stO (lsB m g) (cnS m g mx q)=some r∧cnN m g mx q.1 q.2=b:=by
 obtain ⟨k1,k2⟩:=nu_back hg h hs
 have h2:nuZ m q.1 q.2=false:=stO_ok k1
 have hz:cnZ m g mx q.1 q.2=false:=by
  unfold cnZ;rw[hide_eq,h2,k2,Bool.false_or,decide_eq_false (by omega)]
 constructor
 ·unfold cnS;rw[hz]
  unfold nuS at k1;rw[h2] at k1;exact k1
 ·unfold cnN;rw[hide_eq,hz,if_neg (by decide),k2];rfl
noncomputable def poN (m:Nat) (g:Nat->List Value) (a:Int):Nat:=hide (if a<m∧bI g a.toNat=0 then 1 else 33)
theorem poN_or (m:Nat) (g:Nat->List Value) (a:Int):poN m g a=1∨poN m g a=33:=by
 unfold poN;rw[hide_eq];split
 ·exact .inl rfl
 ·exact .inr rfl
noncomputable def poR (m:Nat) (g:Nat->List Value) (a:Int) (z:Bool):RP×Int:=hide (if tkB m a z (poN m g a)=true then rdS (poN m g a) (tkF m g a z (poN m g a)) else (zR,7))
noncomputable def poA (m:Nat) (g:Nat->List Value) (a:Int) (z:Bool):Int:=hide (tkA m a z (poN m g a))
noncomputable def poZ (m:Nat) (g:Nat->List Value) (a:Int) (z:Bool):Bool:=hide (tkZ m a z (poN m g a)||(poR m g a z).2 != 0)
noncomputable def poS (m:Nat) (g:Nat->List Value) (q:Int×Bool):Int×Bool:=(poA m g q.1 q.2,poZ m g q.1 q.2)
theorem inQ_po {m:Nat} {g:Nat->List Value} {q:Int×Bool} (h:inQ m q):inQ m (poS m g q):=by
 have:=inQ_tk h (n:=((poN m g q.1:Nat):Int)) (by omega)
 unfold inQ poS poA
 simp only[hide_eq];exact this
theorem okR_po (m:Nat) (g:Nat->List Value) (a:Int) (z:Bool):okR (poR m g a z).1:=by
 unfold poR;rw[hide_eq];split
 ·exact okR_rd _ _
 ·exact okR_z
theorem rdS_c {n:Nat} {f f':Nat->List Value} (hn:n=1∨n=33) (h:∀j,j<n->bI f j=bI f' j):rdS n f=rdS n f':=by
 rcases hn with rfl | rfl
 ·unfold rdS
  rw[hide_eq,hide_eq,h 0 (by decide),if_neg (c:=(1:Nat)=33∧_) (fun e=>absurd e.1 (by decide)),if_neg (c:=(1:Nat)=33∧_) (fun e=>absurd e.1 (by decide))]
 ·exact rdS_33 h
theorem tk_taken {m:Nat} {g:Nat->List Value} {q:Int×Bool} {n:Int} {r:List Nat} (h:stO (lsB m g) (tkS m q n)=some r):tkB m q.1 q.2 n=true:=by
 have hz:tkZ m q.1 q.2 n=false:=stO_ok h
 unfold tkZ at hz;rw[hide_eq] at hz
 cases hb:tkB m q.1 q.2 n with
 | true=>rfl
 | false=>rw[hb] at hz;cases hz
theorem po_some {m:Nat} {g:Nat->List Value} (hg:okY m g=true) {q:Int×Bool} (h:inQ m q) {r:List Nat} (hs:stO (lsB m g) (poS m g q)=some r):stO (lsB m g) q=some (pyB (poR m g q.1 q.2).1++r)∧ckR (poR m g q.1 q.2).1=true:=by
 have hz:poZ m g q.1 q.2=false:=stO_ok hs
 have hz2:=hz
 unfold poZ at hz2
 rw[hide_eq,Bool.or_eq_false_iff] at hz2
 have e:stO (lsB m g) (tkS m q ((poN m g q.1:Nat):Int))=some r:=by
  unfold poS poA at hs;rw[hz,hide_eq] at hs
  unfold tkS;rw[hz2.1];exact hs
 have ht:=tk_taken e
 obtain ⟨p,hp,o⟩:=aft_some ((st_tk h (poN m g q.1)).symm.trans e)
 have hH:=holds_tk hg h (n:=poN m g q.1) o (by rw[List.length_append];omega)
 rw[List.take_left' hp] at hH
 have hor:=poN_or m g q.1
 have eR:poR m g q.1 q.2=rdS (poN m g q.1) (liF p):=by
  unfold poR
  rw[hide_eq,if_pos ht]
  exact rdS_c hor fun j hj=>by rw[hH.2 j hj,bI_li]
 have h2:(rdS (poN m g q.1) (liF p)).2=0:=by
  have:=hz2.2
  rw[eR] at this
  exact Classical.byContradiction fun hn=>by rw[bne_iff_ne.2 hn] at this;cases this
 have hu:∀j,0<=bI (liF p) j∧bI (liF p) j<256:=by
  intro j
  rw[bI_li]
  have hb:=lt_of_mem hg o
  by_cases hj:j<p.length
  ·have:=hb _ (List.mem_append_left r (List.getElem_mem hj))
   rw[List.getD_eq_getElem?_getD,List.getElem?_eq_getElem hj,Option.getD_some]
   omega
  ·rw[List.getD_eq_getElem?_getD,List.getElem?_eq_none (by omega)]
   exact⟨by decide,by decide⟩
 obtain ⟨hck,hcase⟩:=rd_back hu h2
 rw[eR]
 refine⟨?_,hck⟩
 rw[o]
 congr 2
 rcases hcase with⟨hi,hn1,hb0⟩ | ⟨hi,hn33,heq⟩
 ·rw[hn1] at hp
  match p,hp with
  | [b],_ =>
   rw[bI_li] at hb0
   have hb0:((b:Nat):Int)=0:=hb0
   have:b=0:=by omega
   subst this
   unfold pyB;rw[if_pos hi]
 ·rw[hn33] at hp hi heq ⊢
  rw[pty_pb (okR_rd _ _) hi] at heq
  have hpb:=rep_pb (rdS 33 (liF p)).1
  have hpl:pbL (rdS 33 (liF p)).1=33:=by unfold pbL;rw[hi];rfl
  rw[hpl] at hpb
  exact rep_uniq (rep_congr (n:=33) (f:=liF p) ⟨hp.symm,fun j hj=>bI_li _ j⟩ fun j hj=>heq j hj) hpb rfl
theorem po_back {m:Nat} {g:Nat->List Value} (hg:okY m g=true) {q:Int×Bool} (h:inQ m q) {K:RP} (hK:ckR K=true) {r:List Nat} (hs:stO (lsB m g) q=some (pyB K++r)):stO (lsB m g) (poS m g q)=some r∧(poR m g q.1 q.2).1=K:=by
 have fin:∀n,poN m g q.1=n->(pyB K).length=n->rdS n (tkF m g q.1 q.2 (n:Int))=(K,0)->stO (lsB m g) (poS m g q)=some r∧(poR m g q.1 q.2).1=K:=by
  intro n hn hl he
  have h1:stO (lsB m g) (tkS m q (n:Int))=some r:=(st_tk h n).trans (by rw[hs];exact aft_app hl)
  have ht:=tk_taken h1
  have hz:tkZ m q.1 q.2 (n:Int)=false:=stO_ok h1
  have eR:poR m g q.1 q.2=(K,0):=by unfold poR;rw[hide_eq,hn,if_pos ht,he]
  refine⟨?_,by rw[eR]⟩
  unfold poS poA poZ
  rw[hide_eq,hide_eq,hn,eR,hz]
  unfold tkS at h1;rw[hz] at h1;exact h1
 by_cases hi:K.1=true
 ·have hp:pyB K=[0]:=by unfold pyB;rw[if_pos hi]
  have hs':stO (lsB m g) q=some (0::r):=by rw[hs,hp];rfl
  obtain ⟨k1,k2⟩:=hd_at hg h hs'
  refine fin 1 (by unfold poN;rw[hide_eq,if_pos ⟨k1,k2⟩]) (by rw[hp];rfl) ?_
  have hH:=holds_tk hg h (n:=1) hs' (by rw[List.length_cons];omega)
  have hb:bI (tkF m g q.1 q.2 ((1:Nat):Int)) 0=0:=hH.2 0 (by decide)
  unfold rdS;rw[hide_eq,if_pos ⟨rfl,hb⟩]
  rw[ck_infR hK hi]
 ·have hi2:K.1=false:=by simpa using hi
  have hp:pyB K=(2+K.2.2 % 2)::beL 32 K.2.1:=by unfold pyB;rw[if_neg hi]
  have hl:(pyB K).length=33:=by rw[hp,List.length_cons,beL_len]
  have hs':stO (lsB m g) q=some ((2+K.2.2 % 2)::(beL 32 K.2.1++r)):=by rw[hs,hp];rfl
  obtain ⟨k1,k2⟩:=hd_at hg h hs'
  refine fin 33 (by unfold poN;rw[hide_eq,if_neg (by rintro ⟨_,e⟩;rw[k2] at e;omega)]) hl ?_
  have hH:=holds_tk hg h (n:=33) hs (by rw[List.length_append];omega)
  rw[List.take_left' hl] at hH
  have hpb:=rep_pb K
  rw[show pbL K=33 from by unfold pbL;rw[hi2];rfl] at hpb
  exact(rdS_33 fun j hj=>by rw[hH.2 j hj,hpb.2 j hj]).trans (rd_pb hK hi2)
theorem gtV_deL {g:Nat->List Value} {a:Nat}:∀(k:Nat) (p:List Nat),p.length=k->(∀j,j<k->bI g (a+j)=((p.getD j 0:Nat):Int))->gtV g a k=deL p
 | 0,p,hp,_=>by
  have:p=[]:=List.length_eq_zero_iff.1 hp
  subst this;rfl
 | k+1,p,hp,h=>by
  obtain ⟨l,b,rfl⟩:∃l b,p=l++[b]:=⟨p.dropLast,p.getLast (by intro e;subst e;simp at hp),(List.dropLast_concat_getLast _).symm⟩
  have hl:l.length=k:=by simpa using hp
  rw[gtV,deL_snoc,gtV_deL k l hl fun j hj=>by
   rw[h j (by omega),List.getD_eq_getElem?_getD,List.getD_eq_getElem?_getD,List.getElem?_append_left (by omega)],h k (by omega)]
  rw[List.getD_eq_getElem?_getD,List.getElem?_append_right (by omega),hl,Nat.sub_self];rfl
noncomputable def gxA (m:Nat) (g:Nat->List Value) (a:Int):Int:=hide (if gpE0 m g a=0 then a+4+((gtV g a.toNat 4:Nat):Int) else a)
noncomputable def gxZ (m:Nat) (g:Nat->List Value) (a:Int) (z:Bool):Bool:=hide (z||!decide (gpE0 m g a=0))
noncomputable def gxV (m:Nat) (g:Nat->List Value) (a:Int):ByteArray:=hide (tx25 (rowS (gpL m g a) (gpR g a)))
noncomputable def gxS (m:Nat) (g:Nat->List Value) (q:Int×Bool):Int×Bool:=(gxA m g q.1,gxZ m g q.1 q.2)
theorem inQ_tx {m:Nat} {g:Nat->List Value} {q:Int×Bool} (h:inQ m q):inQ m (gxS m g q):=by
 unfold inQ gxS gxA
 simp only[hide_eq]
 by_cases e:gpE0 m g q.1=0
 ·rw[if_pos e]
  obtain ⟨_,k1,k2,k3⟩:=gpE0_ok e
  omega
 ·rw[if_neg e];exact h
theorem tx_some {m:Nat} {g:Nat->List Value} (hg:okY m g=true) {q:Int×Bool} {r:List Nat} (hs:stO (lsB m g) (gxS m g q)=some r):∃l:ByteArray,stO (lsB m g) q=some (beL 4 l.size++(txB l++r))∧gxV m g q.1=tx25 l:=by
 have hz:gxZ m g q.1 q.2=false:=stO_ok hs
 have hz2:=hz
 unfold gxZ at hz2
 rw[hide_eq,Bool.or_eq_false_iff] at hz2
 have h0:gpE0 m g q.1=0:=by
  have:=hz2.2
  exact Classical.byContradiction fun hn=>by rw[decide_eq_false hn] at this;cases this
 obtain ⟨_,k1,k2,k3⟩:=gpE0_ok h0
 unfold stO gxS gxA at hs
 simp only[hz,hide_eq] at hs
 rw[if_neg (by decide),if_pos h0] at hs
 have hs:=Option.some.inj hs
 obtain ⟨a,ha⟩:=Int.eq_ofNat_of_zero_le k1.1
 rw[ha,Int.toNat_natCast] at k2 k3
 rw[ha] at k1
 obtain ⟨N,hN⟩:∃N,N=gtV g a 4:=⟨_,rfl⟩
 rw[<-hN] at k2 k3
 have eL:gpL m g q.1=N:=by unfold gpL;rw[hide_eq,if_pos h0,ha,Int.toNat_natCast,hN]
 have hget:∀x j,x+j<m->bI g (x+j)=((((lsB m g).drop x).getD j 0:Nat):Int):=fun x j hj=>by
  rw[lsB_get hg hj,List.getD_eq_getElem?_getD,List.getD_eq_getElem?_getD,List.getElem?_drop]
 have hlen:(lsB m g).length=m:=lsB_len m g
 have hp:(((lsB m g).drop a).take 4).length=4:=by rw[List.length_take,List.length_drop,hlen];omega
 have h4:gtV g a 4=deL (((lsB m g).drop a).take 4):=gtV_deL 4 _ hp fun j hj=>by
  rw[hget a j (by omega),List.getD_eq_getElem?_getD,List.getD_eq_getElem?_getD,List.getElem?_take_of_lt hj]
 have hby:∀b∈(lsB m g),b<256:=lsB_byte hg
 have hb4:=(be_deL (((lsB m g).drop a).take 4) 4 hp fun b hb=>hby b (List.mem_of_mem_drop (List.mem_of_mem_take hb))).1
 have hR:Holds N (gpR g (a:Int)) (((lsB m g).drop (a+4)).take N):=by
  refine⟨by rw[List.length_take,List.length_drop,hlen];omega,fun j hj=>?_⟩
  rw[bI_gp,Int.toNat_natCast,hget (a+4) j (by omega),List.getD_eq_getElem?_getD,List.getD_eq_getElem?_getD,List.getElem?_take_of_lt hj]
 obtain ⟨t1,t2⟩:=txB_row hR fun b hb=>hby b (List.mem_of_mem_drop (List.mem_of_mem_take hb))
 refine⟨rowS N (gpR g (a:Int)),?_,by unfold gxV;rw[hide_eq,eL,ha]⟩
 unfold stO
 rw[hz2.1,if_neg (by decide),ha,Int.toNat_natCast,t1,t2,hN,h4,hb4,<-hs,ha,Int.toNat_natCast,<-h4,<-hN]
 congr 1
 rw[show((a:Int)+4+((N:Nat):Int)).toNat=a+4+N by omega]
 have e1:(lsB m g).drop a=((lsB m g).drop a).take 4++((lsB m g).drop a).drop 4:=(List.take_append_drop 4 _).symm
 have e2:(lsB m g).drop (a+4)=((lsB m g).drop (a+4)).take N++((lsB m g).drop (a+4)).drop N:=(List.take_append_drop N _).symm
 rw[List.drop_drop] at e1 e2
 rw[<-e2]
 exact e1
theorem tx_back {m:Nat} {g:Nat->List Value} (hg:okY m g=true) {q:Int×Bool} (h:inQ m q) {l:ByteArray} (hl:l.size<=16384) {r:List Nat} (hs:stO (lsB m g) q=some (beL 4 l.size++(txB l++r))):stO (lsB m g) (gxS m g q)=some r∧gxV m g q.1=tx25 l:=by
 have hz:=stO_ok hs
 obtain ⟨h0,h1⟩:=h
 obtain ⟨a,ha⟩:=Int.eq_ofNat_of_zero_le h0
 have hs0:=hs
 unfold stO at hs
 rw[hz,if_neg (by decide),ha,Int.toNat_natCast] at hs
 have hs:=Option.some.inj hs
 have hlen:=congrArg List.length hs
 rw[List.length_drop,lsB_len,List.length_append,List.length_append,beL_len,txB_len] at hlen
 have hget:∀x j,x+j<m->bI g (x+j)=((((lsB m g).drop x).getD j 0:Nat):Int):=fun x j hj=>by
  rw[lsB_get hg hj,List.getD_eq_getElem?_getD,List.getD_eq_getElem?_getD,List.getElem?_drop]
 have h4:gtV g a 4=l.size:=by
  rw[gtV_deL 4 (beL 4 l.size) (beL_len 4 _) fun j hj=>by
   rw[hget a j (by omega),hs,List.getD_eq_getElem?_getD,List.getD_eq_getElem?_getD,List.getElem?_append_left (by rw[beL_len];exact hj)]]
  exact deL_be 4 _ (by rw[show(256:Nat)^4=4294967296 from by decide];omega)
 have hE:gpE0 m g q.1=0:=by
  have e4:gtE0 m q.1 4=0:=by
   unfold gtE0
   rw[if_neg (not_not_intro ⟨by omega,by omega,h0,h1⟩),if_neg (by omega)]
  unfold gpE0
  rw[e4,if_neg (by simp),ha,Int.toNat_natCast,h4,if_neg (by omega)]
 have hd4:(lsB m g).drop (a+4)=txB l++r:=by
  have:=congrArg (List.drop 4) hs
  rw[List.drop_drop,List.drop_left' (beL_len 4 _)] at this
  exact this
 have hR:Holds l.size (gpR g (a:Int)) (txB l):=by
  refine⟨(txB_len l).symm,fun j hj=>?_⟩
  rw[bI_gp,Int.toNat_natCast,hget (a+4) j (by omega),hd4,List.getD_eq_getElem?_getD,List.getD_eq_getElem?_getD,List.getElem?_append_left (by rw[txB_len];exact hj)]
 have eL:gpL m g q.1=l.size:=by unfold gpL;rw[hide_eq,if_pos hE,ha,Int.toNat_natCast,h4]
 have hb:∀b∈txB l,b<256:=by
  intro b hb
  unfold txB at hb
  obtain ⟨x,_,rfl⟩:=List.mem_map.1 hb
  exact x.toNat_lt
 refine⟨?_,?_⟩
 ·unfold stO gxS gxA gxZ
  simp only[hide_eq]
  rw[hz,decide_eq_true hE,if_neg (by decide),if_pos hE,ha,Int.toNat_natCast,h4,show((a:Int)+4+((l.size:Nat):Int)).toNat=a+4+l.size by omega]
  congr 1
  rw[<-List.drop_drop,hd4,List.drop_left' (txB_len l)]
 ·unfold gxV;rw[hide_eq,eL,ha,txB_inj (txB_row hR hb).1]
end Go.W

namespace Go.W
open Go
def rqB (tR e i j m m' c:Nat) (ks:List CK) (a:Int):Bool:=Nat.beq e tR&&!(Nat.beq i j)&&!(loose i)&&loose j&&Nat.beq m m'&&Nat.beq m c&&ksEq ks kB&&decide (0<=a)&&decide (a<=(m:Int))&&Nat.ble m 1000000
abbrev RdA:=Nat->Nat->(Nat->List Value)->Int->Bool->Value×List (Nat×Blk)×Int×Bool
noncomputable def RdrF (tR:Nat) (A:RdA):List Value->(Nat->Option Blk)->Nat->List (Bool×Value×List (Nat×Blk))
 | [.pointer (some ⟨i,0,none⟩)],mm,id=>(match mm i with
  | some ⟨.lst [.slice (some ⟨j,0,none⟩) m c,.int .i64 a,.bool bad],e,true⟩=>(match mm j with
   | some ⟨.row ks m' g,_,false⟩=>[(rqB tR e i j m m' c ks a&&okY m g,(A id m g a bad).1,(A id m g a bad).2.1++[(i,⟨.lst (rdL j m (A id m g a bad).2.2.1 (A id m g a bad).2.2.2),tR,true⟩)])]
   | _=>[])
  | _=>[])
 | _,_,_=>[]
theorem memF_snoc (fm:Nat->Option Blk) (i:Nat) (b:Blk):∀l:List (Nat×Blk),memF fm (l++[(i,b)])=memF (upd fm i b) l
 | []=>rfl
 | (x,y)::l=>by
  show upd (memF fm (l++[(i,b)])) x y=upd (memF (upd fm i b) l) x y
  rw[memF_snoc fm i b l]
def rdM (tR ej m:Nat) (g:Nat->List Value) (a:Int) (bad:Bool):List (Nat×Blk):=[(1000000,⟨.lst (.slice (some ⟨1500000,0,none⟩) m m::[i64 a,.bool bad]),tR,true⟩),(1500000,⟨.row kB m g,ej,false⟩)]
section
open Go.RowKit (Below)
variable {P:Program} [Laid P]
theorem rdr_msum {tR:Nat} {A:RdA} {g:FuncId} {fn:Func} {c:Code} (hf:P.funcs[g]?=some fn) (hname:(fn.name=="runtime.NumGoroutine")=false) (hb:fn.body=some c) (hlen:1<=fn.ntmps) {fuel:Nat}
  (hA:∀id m f a z,∀p∈(A id m f a z).2.1,nid id 0<=p.1∧p.1<nid id 8)
  (hev:∀(id j ej m:Nat) (f:Nat->List Value) (q:Int×Bool),inQ m q->m<=1000000->okY m f=true->∃C,CfgOk P C c∧C.n=fn.ntmps∧fnR C fuel fn c (.pointer (some ⟨1000000,0,none⟩)::[]) (rdM tR ej m f q.1 q.2) 0 id j m tR=some ((A id m f q.1 q.2).1,(A id m f q.1 q.2).2.1,[i64 (A id m f q.1 q.2).2.2.1,.bool (A id m f q.1 q.2).2.2.2])) :
  MSum P g (RdrF tR A):=by
 intro w0 R fm w hm vs args' hl mm hsub id hlt v l hpick hnew
 unfold RdrF at hpick
 split at hpick
 ·rename_i i
  split at hpick
  ·rename_i j m c a bad e hi0
   split at hpick
   ·rename_i ks m' f ej hj0
    obtain ⟨hc,rfl,rfl⟩:=pick_one hpick
    unfold rqB at hc
    simp only[Bool.and_eq_true,Bool.not_eq_true',decide_eq_true_eq] at hc
    obtain ⟨⟨⟨⟨⟨⟨⟨⟨⟨⟨c1,c2⟩,c3⟩,c4⟩,c5⟩,c6⟩,c7⟩,c8⟩,c9⟩,c10⟩,c11⟩:=hc
    have c1:=nbeq.1 c1
    have c2:i≠j:=fun h=>by rw[h,Nat.beq_refl] at c2;cases c2
    have c5:=nbeq.1 c5
    have c6:=nbeq.1 c6
    have c7:=ksEq_eq c7
    have c10:=Nat.le_of_ble_eq_true c10
    subst c1 c5 c6 c7
    rw[memF_snoc]
    exact msum_rd hf hname hb hm hl (by rfl) hsub hlt (rest:=[i64 a,.bool bad]) rfl (Nat.le_refl m) c2 c3 c4 hi0 hj0 hlen (fun p hp=>(hnew p (List.mem_append_left _ hp)).1 (hA id m f a bad p hp)) (hev id j ej m f (a,bad) ⟨c8,c9⟩ c10 c11)
   ·simp[pickM] at hpick
  ·simp[pickM] at hpick
 ·simp[pickM] at hpick
end
noncomputable def nuR:RdA:=fun _ m g a z=>(i64 (nuV m g a),[],nuA m a,nuZ m a z)
noncomputable def nuT (m:Nat) (g:Nat->List Value) (a:Int) (z:Bool):RR :=
 req (gtk m g) (bif gtE m a 1 != 0 then req (ob3 m) (some (i64 (gtN m (sgF m g) a 1),[],[i64 a,.bool true])) else req (ob3 m) (some (i64 (gtN m (sgF m g) a 1),[],[i64 (gtX m a 1),.bool z])))
theorem gtk_ok {m:Nat} {g:Nat->List Value} (hm:m<=1000000) (hg:okY m g=true):gtk m g=true:=gtk_true hm (okY_iff.1 hg)
theorem nuT_eq {m:Nat} {g:Nat->List Value} {q:Int×Bool} (h:inQ m q) (hm:m<=1000000) (hg:okY m g=true):nuT m g q.1 q.2=some (i64 (nuV m g q.1),[],[i64 (nuA m q.1),.bool (nuZ m q.1 q.2)]):=by
 obtain ⟨e1,e2,e3⟩:=nu_get hg (z:=q.2) (a:=q.1) h (sgF m g) (fun j=>bI_sg m g j)
 unfold nuT
 rw[gtk_ok hm hg,req_true rfl,e1,e2,e3,ob3_true,req_true rfl,req_true rfl]
 unfold nuA nuZ
 rw[hide_eq,hide_eq]
 by_cases c:q.1<m
 ·rw[if_pos c,if_pos c,if_pos c,decide_eq_true c,Bool.not_true,Bool.or_false];rfl
 ·rw[if_neg c,if_neg c,if_neg c,decide_eq_false c,Bool.not_false,Bool.or_true];rfl
noncomputable def AtkF (tR:Nat):List Value->(Nat->Option Blk)->Nat->List (Bool×Value×List (Nat×Blk))
 | [.pointer (some ⟨i,0,none⟩),.int .i64 n],mm,id=>(match mm i with
  | some ⟨.lst [.slice (some ⟨j,0,none⟩) m c,.int .i64 a,.bool bad],e,true⟩=>(match mm j with
   | some ⟨.row ks m' g,ej,false⟩ =>
    [(rqB tR e i j m m' c ks a&&decide (1<=n)&&decide (n<=100000)&&tkB m a bad n,.slice (some ⟨nid id 0,0,none⟩) n.toNat n.toNat,[(nid id 0,⟨.row kB n.toNat (tkF m g a bad n),ej,false⟩),(i,⟨.lst (rdL j m (tkA m a bad n) (tkZ m a bad n)),tR,true⟩)]),
     (rqB tR e i j m m' c ks a&&decide (1<=n)&&decide (n<=100000)&&!tkB m a bad n,.slice none 0 0,[(i,⟨.lst (rdL j m a true),tR,true⟩)])]
   | _=>[])
  | _=>[])
 | _,_,_=>[]
def atNo (m:Nat) (a:Int):RR:=req (ob3 m) (some (.slice none 0 0,[],[i64 a,.bool true]))
theorem pick_two {b1 b2:Bool} {v1 v2 u:Value} {l1 l2 m:List (Nat×Blk)} (h:pickM [(b1,v1,l1),(b2,v2,l2)]=some (u,m)):(b1=true∧u=v1∧m=l1)∨(b2=true∧u=v2∧m=l2):=by
 simp only[pickM] at h
 cases b1 with
 | true=>rw[cond_true] at h;cases h;exact .inl ⟨rfl,rfl,rfl⟩
 | false =>
  rw[cond_false] at h
  obtain ⟨h1,h2⟩:=cond_some.1 h
  cases h2;exact .inr ⟨h1,rfl,rfl⟩
theorem rqB_some {tR e i j m m' c:Nat} {ks:List CK} {a:Int} (h:rqB tR e i j m m' c ks a=true):e=tR∧i≠j∧loose i=false∧loose j=true∧m=m'∧m=c∧ks=kB∧inQ m (a,false)∧m<=1000000:=by
 unfold rqB at h
 simp only[Bool.and_eq_true,Bool.not_eq_true',decide_eq_true_eq] at h
 obtain ⟨⟨⟨⟨⟨⟨⟨⟨⟨c1,c2⟩,c3⟩,c4⟩,c5⟩,c6⟩,c7⟩,c8⟩,c9⟩,c10⟩:=h
 have c2':i≠j:=by
  intro h;rw[h,Nat.beq_refl] at c2;cases c2
 exact⟨nbeq.1 c1,c2',c3,c4,nbeq.1 c5,nbeq.1 c6,ksEq_eq c7,⟨c8,c9⟩,Nat.le_of_ble_eq_true c10⟩
noncomputable def bkR:RdA:=fun _ m g a z=>(bytesV (rnN m g a z),[],tkA m a z 32,tkZ m a z 32)
def zr32:Value:=bytesV 0
noncomputable def bkT (m:Nat) (g:Nat->List Value) (a:Int) (z:Bool):RR :=
 bif tkC m a 32&&tkB m a z 32 then req (ob3 m) (some (v32 (sgF 32 (tkF m g a z 32)),[],[i64 (tkA m a z 32),.bool (tkZ m a z 32)])) else req (tkC m a 32&&!tkB m a z 32) (req (ob3 m) (some (zr32,[],[i64 a,.bool true])))
theorem tk_no {m:Nat} {a:Int} {z:Bool} {n:Int} (h:tkB m a z n=false):tkA m a z n=a∧tkZ m a z n=true:=by
 unfold tkA tkZ;rw[hide_eq,hide_eq,h];exact⟨rfl,rfl⟩
theorem rn_no {m:Nat} {g:Nat->List Value} {a:Int} {z:Bool} (h:tkB m a z 32=false):rnN m g a z=0:=by
 unfold rnN tkL;rw[hide_eq]
 have e:lsB (32:Int).toNat (tkF m g a z 32)=List.replicate 32 0:=by
  have e0:∀l:List Nat,(l.map fun j=>(bI (tkF m g a z 32) j).toNat)=List.replicate l.length 0:=by
   intro l
   induction l with
   | nil=>rfl
   | cons x l ih=>rw[List.map_cons,ih,bI_tk,h];rfl
  unfold lsB
  rw[e0,List.length_range];rfl
 rw[e];decide +kernel
theorem v32_sg {f:Nat->List Value}:v32 (sgF 32 f)=v32 f:=by
 unfold v32
 rw[rowL_congr (f:=sgF 32 f) (g:=f) kB 32 0 fun j _ _=>by rw[nrm_kB (sgF 32 f) j,nrm_kB f j,bI_sg]]
theorem bkT_eq {m:Nat} {g:Nat->List Value} {q:Int×Bool} (h:inQ m q) (hm:m<=1000000) (hg:okY m g=true):bkT m g q.1 q.2=some (bytesV (rnN m g q.1 q.2),[],[i64 (tkA m q.1 q.2 32),.bool (tkZ m q.1 q.2 32)]):=by
 unfold bkT
 rw[tkC_in h hm (by decide) (by decide),ob3_true,req_true rfl,req_true rfl,Bool.true_and,Bool.true_and]
 cases hb:tkB m q.1 q.2 32 with
 | true =>
  have e:=(v32_eq (okY_tk hg h.1 (bad:=q.2) (n:=32))).1
  rw[cond_true,v32_sg,e]
  unfold rnN;rw[hide_eq];rfl
 | false =>
  obtain ⟨e1,e2⟩:=tk_no hb
  rw[cond_false,Bool.not_false,req_true rfl,rn_no hb,e1,e2];rfl
noncomputable def pntR:RdA:=fun _ m g a z=>(ptV (poR m g a z).1,[],poA m g a z,poZ m g a z)
noncomputable def pnE (m:Nat) (g:Nat->List Value) (a:Int) (z:Bool) (n:Nat):RR :=
 bif tkC m a (n:Int)&&tkB m a z (n:Int) then req (rdOk n (sgF n (tkF m g a z (n:Int)))) (porE m (tkZ m a z (n:Int)) (tkA m a z (n:Int)) (rdS n (sgF n (tkF m g a z (n:Int)))))
  else req (tkC m a (n:Int)&&!tkB m a z (n:Int)) (req (ob3 m) (some (ptV (rdS 0 (fun _=>[])).1,[],[i64 a,.bool true])))
noncomputable def pnT (m:Nat) (g:Nat->List Value) (a:Int) (z:Bool):RR :=
 bif decide (a<(m:Int)) then req (inR a m) (req (Nat.blt a.toNat m&&true) (bif bI g (0+a.toNat)==0 then pnE m g a z 1 else pnE m g a z 33)) else pnE m g a z 33
theorem rdS_0 (f:Nat->List Value):rdS 0 f=(zR,7):=by
 unfold rdS;rw[hide_eq,if_neg (fun e=>absurd e.1 (by decide)),if_neg (fun e=>absurd e.1 (by decide))]
theorem pnE_eq {m:Nat} {g:Nat->List Value} {q:Int×Bool} (h:inQ m q) (hm:m<=1000000) (hg:okY m g=true) {n:Nat} (hn:n=1∨n=33) (e:poN m g q.1=n) :
  pnE m g q.1 q.2 n=some (ptV (poR m g q.1 q.2).1,[],[i64 (poA m g q.1 q.2),.bool (poZ m g q.1 q.2)]):=by
 have hY:=okY_tk hg h.1 (bad:=q.2) (n:=((n:Nat):Int))
 rw[Int.toNat_natCast] at hY
 have eS:rdS n (sgF n (tkF m g q.1 q.2 (n:Int)))=rdS n (tkF m g q.1 q.2 (n:Int)):=rdS_c hn fun j _=>bI_sg n _ j
 have hR:rdOk n (sgF n (tkF m g q.1 q.2 (n:Int)))=true:=by
  rcases hn with rfl | rfl
  ·rfl
  ·have:=(b32_okA (f:=sgF 33 (tkF m g q.1 q.2 ((33:Nat):Int))) (okY_iff.2 fun j hj=>by rw[bI_sg];exact okY_iff.1 hY j hj)).1
   unfold rdOk;rw[this];rfl
 unfold pnE poA poZ
 rw[hide_eq,hide_eq,e,tkC_in h hm (by omega) (by omega),Bool.true_and,Bool.true_and,hR,req_true rfl,porE_eq,ob3_true,req_true rfl,eS]
 unfold poR
 rw[hide_eq,e]
 cases hb:tkB m q.1 q.2 (n:Int) with
 | true=>rw[cond_true,if_pos rfl]
 | false =>
  obtain ⟨e1,e2⟩:=tk_no hb
  rw[cond_false,Bool.not_false,req_true rfl,if_neg (by decide),e1,e2,rdS_0];rfl
theorem pnT_eq {m:Nat} {g:Nat->List Value} {q:Int×Bool} (h:inQ m q) (hm:m<=1000000) (hg:okY m g=true):pnT m g q.1 q.2=some (ptV (poR m g q.1 q.2).1,[],[i64 (poA m g q.1 q.2),.bool (poZ m g q.1 q.2)]):=by
 unfold pnT
 have h0:=h.1
 by_cases c:q.1<m
 ·have hr:inR q.1 m=true:=by unfold inR;rw[decide_eq_true h0,decide_eq_true c];rfl
  have hb:(Nat.blt q.1.toNat m&&true)=true:=by rw[bL (show q.1.toNat<m by omega)];rfl
  rw[decide_eq_true c,cond_true,hr,req_true rfl,hb,req_true rfl,Nat.zero_add]
  by_cases c2:bI g q.1.toNat=0
  ·rw[beq_iff_eq.2 c2,cond_true]
   exact pnE_eq h hm hg (.inl rfl) (by unfold poN;rw[hide_eq,if_pos ⟨c,c2⟩])
  ·rw[beq_eq_false_iff_ne.2 c2,cond_false]
   exact pnE_eq h hm hg (.inr rfl) (by unfold poN;rw[hide_eq,if_neg (fun e=>c2 e.2)])
 ·rw[decide_eq_false c,cond_false]
  exact pnE_eq h hm hg (.inr rfl) (by unfold poN;rw[hide_eq,if_neg (fun e=>c e.1)])
end Go.W

namespace Go.W
open Go
def kRn:List CK:=[.i .i32]
def rnB:Nat:=nid 0 0
noncomputable def rcF (s:ByteArray):Nat->List Value:=fun j=>[.int .i32 (hide (rcI s j))]
def sgR (n:Nat) (f:Nat->List Value):Nat->List Value:=segF ⟨0,0,n,kRn,n,f,0,false,[]⟩
theorem rowRn_rc (s:ByteArray) (n:Nat):rowRn n (sgR n (rcF s))=encs (rcI s) n:=by
 rw[rowRn_encs]
 refine encs_congr fun j _=>?_
 show hide (rcI s (0+j))=rcI s j
 rw[hide_eq,Nat.zero_add]
def txI (tR ej m:Nat) (g:Nat->List Value) (s:ByteArray) (A:Int) (Z:Bool):St :=
 ⟨[(6,.slice none 0 0),(28,.pointer (some ⟨24,0,none⟩))],[(24,⟨.itr s 0,0,true⟩),(1000000,⟨.lst (rdL 1500000 m A Z),tR,true⟩),(1500000,⟨.row kB m g,ej,false⟩)],25⟩
def txQ (tR t32 ej m:Nat) (g:Nat->List Value) (s:ByteArray) (A:Int) (Z:Bool) (k p:Nat) (F:Nat->List Value):St :=
 ⟨[(6,.slice (some ⟨rnB,0,none⟩) k k),(28,.pointer (some ⟨24,0,none⟩))],[(rnB,⟨.row kRn k F,t32,true⟩),(24,⟨.itr s p,0,true⟩),(1000000,⟨.lst (rdL 1500000 m A Z),tR,true⟩),(1500000,⟨.row kB m g,ej,false⟩)],25⟩
def txE (tR t32 ej m:Nat) (g:Nat->List Value) (A:Int) (Z:Bool) (k:Nat) (F:Nat->List Value):St :=
 ⟨[(6,.slice (some ⟨rnB,0,none⟩) k k)],[(rnB,⟨.row kRn k F,t32,true⟩),(1000000,⟨.lst (rdL 1500000 m A Z),tR,true⟩),(1500000,⟨.row kB m g,ej,false⟩)],25⟩
def txNt:List Nat:=[6,28]
def txNi:Ren:=[(24,24),(1000000,1000000),(1500000,1500000)]
def txNr:Ren:=[(rnB,nid 35 0),(24,24),(1000000,1000000),(1500000,1500000)]
def txXi:Ren:=[(rnB,rnB),(1000000,1000000),(1500000,1500000)]
theorem row_rn (s:ByteArray) (k:Nat):∀x,x<k+1->nrmK kRn (appF k (rcF s) (lstF [.int .i32 (dcC s (ps s k))] 0 1) x)=nrmK kRn (rcF s x) :=
 app_row (ks:=kRn) (fun _ _=>rfl) (by
  show nrmK kRn [.int .i32 (dcC s (ps s k))]=nrmK kRn (rcF s k)
  unfold rcF;rw[hide_eq,dcC_dC];rfl)
noncomputable def tsS (m:Nat) (g:Nat->List Value) (a:Int):ByteArray:=rowS (gpL m (sgF m g) a) (sgF (gpL m (sgF m g) a) (gpR (sgF m g) a))
def wh1 (n:Nat):Bool:=Nat.ble n n&&true
theorem wh1_true (n:Nat):wh1 n=true:=by unfold wh1;rw[Nat.ble_eq_true_of_le (Nat.le_refl n)];rfl
noncomputable def txTl (tR ej m:Nat) (g:Nat->List Value) (a A:Int) (Z:Bool) (A':Int) (Z':Bool) (s:ByteArray) (N:Nat) (F:Nat->List Value):RR :=
 req (wh1 (gpL m (sgF m g) a)) (req (stEq (txI tR ej m g (tsS m g a) A Z) (txI tR ej m g s A' Z')) (req (wh1 N) (req (ob3 m) (some (.string (rowRn N (sgR N F)),[],[i64 A',.bool Z'])))))
noncomputable def txT (tR ej m:Nat) (g:Nat->List Value) (a:Int) (z:Bool) (A':Int) (Z':Bool) (s:ByteArray) (N:Nat) (F:Nat->List Value):RR :=
 req (gtk m g) (bif gpE m (sgF m g) a != 0 then txTl tR ej m g a a true A' Z' s N F else txTl tR ej m g a (gpX m (sgF m g) a) z A' Z' s N F)
theorem gpE0_sg (m:Nat) (g:Nat->List Value) (a:Int):gpE0 m (sgF m g) a=gpE0 m g a:=by unfold gpE0;rw[gtV_sg]
theorem tsS_eq (m:Nat) (g:Nat->List Value) (a:Int):tsS m g a=rowS (gpL m g a) (gpR g a):=by
 have e1:gpL m (sgF m g) a=gpL m g a:=by unfold gpL;rw[hide_eq,hide_eq,gpE0_sg,gtV_sg]
 have e2:∀(n:Nat) (f h:Nat->List Value),(∀j,bI f j=bI h j)->rowS n f=rowS n h:=by
  intro n f h e
  refine txt_ext (by rw[rwS_size,rwS_size]) fun j hj=>?_
  rw[rwS_size] at hj
  rw[rwS_byt hj,rwS_byt hj,e]
 unfold tsS
 rw[e1]
 refine e2 _ _ _ fun j=>?_
 rw[bI_sg,bI_gp,bI_gp,bI_sg]
theorem tsS_le (m:Nat) (g:Nat->List Value) (a:Int):(tsS m g a).size<=1000000:=by
 rw[tsS_eq,rwS_size]
 unfold gpL;rw[hide_eq]
 by_cases c:gpE0 m g a=0
 ·rw[if_pos c];have:=(gpE0_ok c).2.2.1;omega
 ·rw[if_neg c];omega
noncomputable def txR:RdA:=fun _ m g a z=>(.string (gxV m g a),[],gxA m g a,gxZ m g a z)
noncomputable def txN (m:Nat) (g:Nat->List Value) (a:Int):Nat:=min 25 (rN (tsS m g a))
theorem txT_eq {tR ej m:Nat} {g:Nat->List Value} {q:Int×Bool} (hm:m<=1000000) (hg:okY m g=true) :
  txT tR ej m g q.1 q.2 (gxA m g q.1) (gxZ m g q.1 q.2) (tsS m g q.1) (txN m g q.1) (rcF (tsS m g q.1))=some (.string (gxV m g q.1),[],[i64 (gxA m g q.1),.bool (gxZ m g q.1 q.2)]):=by
 have hv:rowRn (txN m g q.1) (sgR (txN m g q.1) (rcF (tsS m g q.1)))=gxV m g q.1:=by
  rw[rowRn_rc]
  unfold gxV;rw[hide_eq,<-tsS_eq,tx25_eq];rfl
 have tl:∀A Z,A=gxA m g q.1->Z=gxZ m g q.1 q.2->txTl tR ej m g q.1 A Z (gxA m g q.1) (gxZ m g q.1 q.2) (tsS m g q.1) (txN m g q.1) (rcF (tsS m g q.1))=some (.string (gxV m g q.1),[],[i64 (gxA m g q.1),.bool (gxZ m g q.1 q.2)]):=by
  intro A Z e1 e2
  unfold txTl
  rw[wh1_true,req_true rfl,e1,e2,req_true (stEq_refl rfl),wh1_true,req_true rfl,ob3_true,req_true rfl,hv]
 unfold txT
 rw[gtk_ok hm hg,req_true rfl]
 have hE:gpE m (sgF m g) q.1=gpE0 m g q.1:=by unfold gpE;rw[hide_eq,gpE0_sg]
 rw[hE]
 by_cases c:gpE0 m g q.1=0
 ·rw[c]
  exact tl _ _ (by unfold gpX gxA;rw[hide_eq,hide_eq,gpE0_sg,if_pos c,if_pos c,gtV_sg]) (by unfold gxZ;rw[hide_eq,decide_eq_true c,Bool.not_true,Bool.or_false])
 ·rw[bne_iff_ne.2 c,cond_true]
  exact tl _ _ (by unfold gxA;rw[hide_eq,if_neg c]) (by unfold gxZ;rw[hide_eq,decide_eq_false c,Bool.not_false,Bool.or_true])
end Go.W

namespace Go.W
open Go
def lB:Nat:=nid 0 0
def lsI (tR ej m:Nat) (g:Nat->List Value) (n A:Int) (Z:Bool):St :=
 ⟨[(0,.pointer (some ⟨1000000,0,none⟩)),(3,.slice none 0 0),(5,i64 n),(6,i64 0)],[(1000000,⟨.lst (rdL 1500000 m A Z),tR,true⟩),(1500000,⟨.row kB m g,ej,false⟩)],5⟩
def lsQ (tR tE ej m:Nat) (g:Nat->List Value) (ks:List CK) (n A:Int) (Z:Bool) (k:Nat) (F:Nat->List Value) (i:Int):St :=
 ⟨[(0,.pointer (some ⟨1000000,0,none⟩)),(3,.slice (some ⟨lB,0,none⟩) k k),(5,i64 n),(6,i64 i)],[(lB,⟨.row ks k F,tE,true⟩),(1000000,⟨.lst (rdL 1500000 m A Z),tR,true⟩),(1500000,⟨.row kB m g,ej,false⟩)],5⟩
def lsE (tR tE ej m:Nat) (g:Nat->List Value) (ks:List CK) (A:Int) (Z:Bool) (k:Nat) (F:Nat->List Value):St :=
 ⟨[(3,.slice (some ⟨lB,0,none⟩) k k)],[(lB,⟨.row ks k F,tE,true⟩),(1000000,⟨.lst (rdL 1500000 m A Z),tR,true⟩),(1500000,⟨.row kB m g,ej,false⟩)],5⟩
def lsNt:List Nat:=[0,3,5,6]
def lsNi:Ren:=[(1000000,1000000),(1500000,1500000)]
def lsNr:Ren:=[(lB,nid 10 0),(1000000,1000000),(1500000,1500000)]
def lsXi:Ren:=[(lB,lB),(1000000,1000000),(1500000,1500000)]
noncomputable def lsTl (tR tE ej id m:Nat) (g:Nat->List Value) (ks:List CK) (n A:Int) (Z:Bool) (n' A':Int) (Z':Bool) (N:Nat) (F:Nat->List Value) (A2:Int) (Z2:Bool):RR :=
 req (stEq (lsI tR ej m g n A Z) (lsI tR ej m g n' A' Z')) (req (ob3 m) (req (Nat.ble N N) (some (.slice (some ⟨nid id 0,0,none⟩) N N,[(nid id 0,⟨.row ks N F,tE,true⟩)],[i64 A2,.bool Z2]))))
noncomputable def lsT (tR tE ej id m:Nat) (g:Nat->List Value) (ks:List CK) (mx a:Int) (z:Bool) (n' A':Int) (Z':Bool) (N:Nat) (F:Nat->List Value) (A2:Int) (Z2:Bool):RR :=
 req (qoC m g a) (bif nuZ m a z then lsTl tR tE ej id m g ks 0 (nuA m a) true n' A' Z' N F A2 Z2 else
  bif decide (nuV m g a > mx) then lsTl tR tE ej id m g ks 0 (nuA m a) (decide (nuV m g a > mx)) n' A' Z' N F A2 Z2 else lsTl tR tE ej id m g ks (nuV m g a) (nuA m a) (decide (nuV m g a > mx)) n' A' Z' N F A2 Z2)
theorem lsT_eq {tR tE ej id m:Nat} {g:Nat->List Value} {ks:List CK} {mx:Int} {q:Int×Bool} (h:inQ m q) (hm:m<=1000000) (hg:okY m g=true) (N:Nat) (F:Nat->List Value) (A2:Int) (Z2:Bool) :
  lsT tR tE ej id m g ks mx q.1 q.2 ((cnN m g mx q.1 q.2:Nat):Int) (nuA m q.1) (cnZ m g mx q.1 q.2) N F A2 Z2=some (.slice (some ⟨nid id 0,0,none⟩) N N,[(nid id 0,⟨.row ks N F,tE,true⟩)],[i64 A2,.bool Z2]):=by
 have tl:∀n Z,n=((cnN m g mx q.1 q.2:Nat):Int)->Z=cnZ m g mx q.1 q.2->lsTl tR tE ej id m g ks n (nuA m q.1) Z ((cnN m g mx q.1 q.2:Nat):Int) (nuA m q.1) (cnZ m g mx q.1 q.2) N F A2 Z2=some (.slice (some ⟨nid id 0,0,none⟩) N N,[(nid id 0,⟨.row ks N F,tE,true⟩)],[i64 A2,.bool Z2]):=by
  intro n Z e1 e2
  unfold lsTl
  rw[e1,e2,req_true (stEq_refl rfl),ob3_true,req_true rfl,Nat.ble_eq_true_of_le (Nat.le_refl N),req_true rfl]
 unfold lsT
 rw[qoC_in hg h hm,req_true rfl]
 have hv:=nuV_lt hg (m:=m) (a:=q.1) h.1
 cases c1:nuZ m q.1 q.2 with
 | true =>
  have e:cnZ m g mx q.1 q.2=true:=by unfold cnZ;rw[hide_eq,c1];rfl
  rw[cond_true]
  exact tl _ _ (by unfold cnN;rw[hide_eq,e,if_pos rfl];rfl) e.symm
 | false =>
  have e:cnZ m g mx q.1 q.2=decide (nuV m g q.1 > mx):=by unfold cnZ;rw[hide_eq,c1,Bool.false_or]
  rw[cond_false]
  by_cases c2:nuV m g q.1 > mx
  ·rw[decide_eq_true c2] at e ⊢
   rw[cond_true]
   exact tl _ _ (by unfold cnN;rw[hide_eq,e,if_pos rfl];rfl) e.symm
  ·rw[decide_eq_false c2] at e ⊢
   rw[cond_false]
   exact tl _ _ (by unfold cnN;rw[hide_eq,e,if_neg (by decide)];omega) e.symm
noncomputable def slR (t32:Nat):RdA:=fun id m g a z=>(.slice (some ⟨nid id 0,0,none⟩) (cnN m g 8 a z) (cnN m g 8 a z),[(nid id 0,⟨.row k32 (cnN m g 8 a z) (slF (sVl m g (cnS m g 8 (a,z)))),t32,true⟩)],(q1I m (cnS m g 8 (a,z)) (cnN m g 8 a z)).1,(q1I m (cnS m g 8 (a,z)) (cnN m g 8 a z)).2)
noncomputable def q3I (m:Nat) (g:Nat->List Value) (q0:Int×Bool):Nat->Int×Bool
 | 0=>q0
 | j+1=>poS m g (q3I m g q0 j)
noncomputable def pVn (m:Nat) (g:Nat->List Value) (q0:Int×Bool) (j:Nat):RP:=(poR m g (q3I m g q0 j).1 (q3I m g q0 j).2).1
noncomputable def cmR (tP:Nat):RdA:=fun id m g a z=>(.slice (some ⟨nid id 0,0,none⟩) (cnN m g 64 a z) (cnN m g 64 a z),[(nid id 0,⟨.row kP9 (cnN m g 64 a z) (ptF (pVn m g (cnS m g 64 (a,z)))),tP,true⟩)],(q3I m g (cnS m g 64 (a,z)) (cnN m g 64 a z)).1,(q3I m g (cnS m g 64 (a,z)) (cnN m g 64 a z)).2)
theorem inQ_3I {m:Nat} {g:Nat->List Value} {q0:Int×Bool} (h:inQ m q0):∀j,inQ m (q3I m g q0 j)
 | 0=>h
 | j+1=>inQ_po (inQ_3I h j)
theorem row_l1 {m:Nat} {g:Nat->List Value} (q0:Int×Bool) (j:Nat):∀x,x<j+1->nrmK k32 (appF j (slF (sVl m g q0)) (lstF (slC (rnN m g (q1I m q0 j).1 (q1I m q0 j).2)) 0 32) x)=nrmK k32 (slF (sVl m g q0) x) :=
 app_row (ks:=k32) (fun _ _=>rfl) rfl
theorem row_l2 {m:Nat} {g:Nat->List Value} (q0:Int×Bool) (j:Nat):∀x,x<j+1->nrmK kP9 (appF j (ptF (pVn m g q0)) (lstF (ptC (poR m g (q3I m g q0 j).1 (q3I m g q0 j).2).1) 0 9) x)=nrmK kP9 (ptF (pVn m g q0) x) :=
 app_row (ks:=kP9) (fun _ _=>rfl) rfl
end Go.W

namespace Go.Proofs.YtckbmhegopjnmaaGreat
set_option maxRecDepth 100000
open Go.W
noncomputable def aweE:Ent:=inl tab [] 15 Tryz.f74 (bodyOf Tryz.f74)
theorem aweE_ok:EntOk Tryz.prog 74 aweE:=inl_sum tabOk sums_nil mixed Tryz.func74 (by kernel_rfl) (by kernel_rfl) rfl
def atkC:Cfg:=⟨tab,[],49,[]⟩
theorem atk_evT (n a:Int) (m ej id j:Nat) (g:Nat->List Value):fnR atkC 60 Tryz.f76 (bodyOf Tryz.f76) (.pointer (some ⟨1000000,0,none⟩)::[i64 n]) (rdM 69 ej m g a true) 0 id j m 69=atNo m a:=by kernel_rfl
theorem atk_evF (n a:Int) (m ej id j:Nat) (g:Nat->List Value):fnR atkC 60 Tryz.f76 (bodyOf Tryz.f76) (.pointer (some ⟨1000000,0,none⟩)::[i64 n]) (rdM 69 ej m g a false) 0 id j m 69 =
  bif decide (n > IntKind.i64.wrap ((m:Int) - a)) then atNo m a else tkYes 5 id j m a n:=by kernel_rfl
theorem atk_msum:MSum Tryz.prog 76 (AtkF 69):=by
 intro w0 R fm w hm vs args' hl mm hsub id hlt v l hpick hnew
 unfold AtkF at hpick
 split at hpick
 ·rename_i i n
  split at hpick
  ·rename_i j m c a bad e hi0
   split at hpick
   ·rename_i ks m' g ej hj0
    rcases pick_two hpick with⟨hc,rfl,rfl⟩ | ⟨hc,rfl,rfl⟩
    ·simp only[Bool.and_eq_true,decide_eq_true_eq] at hc
     obtain ⟨⟨⟨hc,c11⟩,c12⟩,hb⟩:=hc
     obtain ⟨c1,c2,c3,c4,c5,c6,c7,⟨c8,c9⟩,c10⟩:=rqB_some hc
     subst c1 c5 c6 c7
     have c8:0<=a:=c8
     have c9:a<=m:=c9
     have hfree:fm (nid id 0)=none:=(hnew _ (List.mem_cons_self ..)).1 ⟨Nat.le_refl _,by show nid id 0<nid id 8;unfold nid;omega⟩
     have hjf:=hsub _ _ hj0
     have hif:=hsub _ _ hi0
     have nj:nid id 0≠j:=fun h=>by rw[h,hjf] at hfree;cases hfree
     have hb2:bad=false∧n<=(m:Int) - a:=by
      unfold tkB at hb;rw[Bool.and_eq_true,Bool.not_eq_true',decide_eq_true_eq] at hb;exact hb
     obtain ⟨rfl,hn⟩:=hb2
     have hev:fnR atkC 60 Tryz.f76 (bodyOf Tryz.f76) (.pointer (some ⟨1000000,0,none⟩)::[i64 n]) (rdM 69 ej m g a false) 0 id j m 69=some (.slice (some ⟨nid id 0,0,none⟩) n.toNat (m - a.toNat),[(nid id 0,⟨.tail j a.toNat n.toNat 1,5,false⟩)],[i64 (a+n),.bool false]):=by
      refine(atk_evF n a m ej id j g).trans ?_
      rw[wrap_i64 (by omega),decide_eq_false (by omega),cond_false];exact tkYes_eq (by omega) (by omega) c10 (by omega)
     refine invokes_mono ?_ (msum_rd Tryz.func76 (by kernel_rfl) (by kernel_rfl) hm hl (by rfl) hsub hlt (rest:=[i64 a,.bool false]) rfl (Nat.le_refl m) c2 c3 c4 hi0 hj0 (by show 2<=Tryz.f76.ntmps;decide +kernel) (fun p hp=>by
      rcases List.mem_cons.1 hp with rfl | hp
      ·exact hfree
      ·cases hp) ⟨atkC,⟨mixed,tabOk,sums_nil,noL⟩,rfl,hev⟩)
     rintro v' w' ⟨R',h1,h2,h3⟩
     refine⟨R',h1,V2_cap (nid_loose hlt (by omega)) h2 (by omega),?_⟩
     have h4:=h3.asRow (i:=nid id 0) (j:=j) (f':=tkF m g a false n) (upd_same _ _ _) (by
      show upd (upd fm i _) (nid id 0) _ j=_
      rw[upd_ne _ _ nj,upd_ne _ _ c2];exact hjf) (ks:=kB) rfl (by omega) nj (by omega) (fun x hx=>by
       rw[nrm_kB,nrm_kB,bI_tk,if_pos hb])
     have h4:MRel w0 R' (upd (upd (upd fm i ⟨.lst (.slice (some ⟨j,0,none⟩) m m::[i64 (a+n),.bool false]),69,true⟩) (nid id 0) _) (nid id 0) ⟨.row kB n.toNat (tkF m g a false n),ej,false⟩) w':=h4
     rw[upd_two] at h4
     have e2:tkA m a false n=a+n:=by unfold tkA;rw[hide_eq,if_pos hb]
     have e3:tkZ m a false n=false:=by unfold tkZ;rw[hide_eq,hb];rfl
     show MRel w0 R' (upd (upd fm i ⟨.lst (rdL j m (tkA m a false n) (tkZ m a false n)),69,true⟩) (nid id 0) ⟨.row kB n.toNat (tkF m g a false n),ej,false⟩) w'
     rw[e2,e3];exact h4
    ·simp only[Bool.and_eq_true,decide_eq_true_eq,Bool.not_eq_true'] at hc
     obtain ⟨⟨⟨hc,c11⟩,c12⟩,hb⟩:=hc
     obtain ⟨c1,c2,c3,c4,c5,c6,c7,⟨c8,c9⟩,c10⟩:=rqB_some hc
     subst c1 c5 c6 c7
     have c8:0<=a:=c8
     have c9:a<=m:=c9
     have hev:fnR atkC 60 Tryz.f76 (bodyOf Tryz.f76) (.pointer (some ⟨1000000,0,none⟩)::[i64 n]) (rdM 69 ej m g a bad) 0 id j m 69=some (.slice none 0 0,[],[i64 a,.bool true]):=by
      have fin:atNo m a=some (.slice none 0 0,[],[i64 a,.bool true]):=by unfold atNo;rw[ob3_true,req_true rfl]
      cases bad with
      | true=>exact(atk_evT n a m ej id j g).trans fin
      | false =>
       have hn:¬n<=(m:Int) - a:=by
        intro h;unfold tkB at hb;rw[decide_eq_true h] at hb;cases hb
       refine(atk_evF n a m ej id j g).trans ?_
       rw[wrap_i64 (by omega),decide_eq_true (by omega),cond_true];exact fin
     exact msum_rd Tryz.func76 (by kernel_rfl) (by kernel_rfl) hm hl (by rfl) hsub hlt (rest:=[i64 a,.bool bad]) rfl (Nat.le_refl m) c2 c3 c4 hi0 hj0 (by show 2<=Tryz.f76.ntmps;decide +kernel) (fun p hp=>by cases hp) ⟨atkC,⟨mixed,tabOk,sums_nil,noL⟩,rfl,hev⟩
   ·simp[pickM] at hpick
  ·simp[pickM] at hpick
 ·simp[pickM] at hpick
noncomputable def anuS:Sums:=[(73,.me GetF),(74,aweE)]
theorem anuS_ok:SumsOk Tryz.prog anuS:=sums_consM get_msum (sums_consI aweE_ok sums_nil)
noncomputable def anuC:Cfg:=⟨tab,anuS,24,[]⟩
theorem anu_ev (a:Int) (z:Bool) (m ej id j:Nat) (g:Nat->List Value):fnR anuC 60 Tryz.f54 (bodyOf Tryz.f54) (.pointer (some ⟨1000000,0,none⟩)::[]) (rdM 69 ej m g a z) 0 id j m 69=nuT m g a z:=by kernel_rfl
theorem anu_msum:MSum Tryz.prog 54 (RdrF 69 nuR) :=
 rdr_msum Tryz.func54 (by kernel_rfl) (by kernel_rfl) (by show 1<=Tryz.f54.ntmps;decide +kernel) (fun _ _ _ _ _ _ hp=>by cases hp)
  fun id j ej m g q hq hm hg=>⟨anuC,⟨mixed,tabOk,anuS_ok,noL⟩,rfl,(anu_ev q.1 q.2 m ej id j g).trans (nuT_eq hq hm hg)⟩
noncomputable def abkS:Sums:=[(76,.me (AtkF 69))]
theorem abkS_ok:SumsOk Tryz.prog abkS:=sums_consM atk_msum sums_nil
noncomputable def abkC:Cfg:=⟨tab,abkS,9,[]⟩
theorem abk_ev (a:Int) (z:Bool) (m ej id j:Nat) (g:Nat->List Value):fnR abkC 60 Tryz.f79 (bodyOf Tryz.f79) (.pointer (some ⟨1000000,0,none⟩)::[]) (rdM 69 ej m g a z) 0 id j m 69=bkT m g a z:=by kernel_rfl
theorem abk_msum:MSum Tryz.prog 79 (RdrF 69 bkR) :=
 rdr_msum Tryz.func79 (by kernel_rfl) (by kernel_rfl) (by show 1<=Tryz.f79.ntmps;decide +kernel) (fun _ _ _ _ _ _ hp=>by cases hp)
  fun id j ej m g q hq hm hg=>⟨abkC,⟨mixed,tabOk,abkS_ok,noL⟩,rfl,(abk_ev q.1 q.2 m ej id j g).trans (bkT_eq hq hm hg)⟩
noncomputable def apnS:Sums:=[(76,.me (AtkF 69)),(75,.me RdF)]
theorem apnS_ok:SumsOk Tryz.prog apnS:=sums_consM atk_msum (sums_consM crd_msum sums_nil)
noncomputable def apnC:Cfg:=⟨tab,apnS,48,[]⟩
theorem apn_ev (a:Int) (z:Bool) (m ej id j:Nat) (g:Nat->List Value):fnR apnC 60 Tryz.f55 (bodyOf Tryz.f55) (.pointer (some ⟨1000000,0,none⟩)::[]) (rdM 69 ej m g a z) 0 id j m 69=pnT m g a z:=by kernel_rfl
theorem apn_msum:MSum Tryz.prog 55 (RdrF 69 pntR) :=
 rdr_msum Tryz.func55 (by kernel_rfl) (by kernel_rfl) (by show 1<=Tryz.f55.ntmps;decide +kernel) (fun _ _ _ _ _ _ hp=>by cases hp)
  fun id j ej m g q hq hm hg=>⟨apnC,⟨mixed,tabOk,apnS_ok,noL⟩,rfl,(apn_ev q.1 q.2 m ej id j g).trans (pnT_eq hq hm hg)⟩
noncomputable def atxS:Sums:=[(77,.me (GtpF 5)),(74,aweE)]
theorem atxS_ok:SumsOk Tryz.prog atxS:=sums_consM gtp_msum (sums_consI aweE_ok sums_nil)
noncomputable def atxC0:Cfg:=⟨tab,atxS,41,[]⟩
theorem atxC0_ok:CfgOk Tryz.prog atxC0 (bodyOf Tryz.f56):=⟨mixed,tabOk,atxS_ok,noL⟩
def atxP:List Nat:=[1,1,1,1,0,1,0]
theorem atx_at:codeAt atxP (bodyOf Tryz.f56)=some (.loop (loopAt atxP (bodyOf Tryz.f56))):=by kernel_rfl
theorem atx_r (ej m:Nat) (g:Nat->List Value) (s:ByteArray) (A:Int) (Z:Bool) (k p:Nat) (F:Nat->List Value) :
  roundS atxC0 60 (atxP++[0]) (loopAt atxP (bodyOf Tryz.f56)) txNt txNr 25 [6] txXi 25 (txQ 69 21 ej m g s A Z k p F) =
  bif Nat.blt p s.size then (bif decide ((k:Int) > 24) then some (.exit 0,txE 69 21 ej m g A Z k F) else req (szOk (k+1) 4) (req (Nat.beq k k&&true&&true) (some (.normal,txQ 69 21 ej m g s A Z (k+1) (p+dcW s p) (appF k F (lstF [.int .i32 (dcC s p)] 0 1))))))
   else some (.exit 0,txE 69 21 ej m g A Z k F):=by kernel_rfl
theorem atx_loop (ej m:Nat) (g:Nat->List Value) {s:ByteArray} (hs:s.size<=1000000) (A:Int) (Z:Bool):LoopOk Tryz.prog 41 (loopAt atxP (bodyOf Tryz.f56))
  (atSt txNt txNi 25 (txI 69 ej m g s A Z) (.exit 0) (txE 69 21 ej m g A Z (min 25 (rN s)) (rcF s))):=by
 have hN:=rN_le s
 refine loopW (fun _=>atxC0) (min 25 (rN s)) (fun _ _=>atxC0_ok) (fun _=>rfl) atx_at (m:=60) (nt:=fun _=>txNt) (ni:=fun _=>txNr) (et:=fun _=>[6]) (ei:=fun _=>txXi) (nx:=25) (ex:=25) (fun k=>txQ 69 21 ej m g s A Z k (ps s k) (rcF s))
  (fun w0 R a w h=>Rel.nilSlot h (t:=6) (B:=rnB) rfl rfl (by decide) (by decide) kRn (rcF s) 21 25) (by intro h;cases h) ?_ ?_
 ·intro k hk
  have h1:=lt_rN.2 (show k<rN s by omega)
  have h2:=ps_lt h1
  refine⟨txQ 69 21 ej m g s A Z (k+1) (ps s (k+1)) (appF k (rcF s) (lstF [.int .i32 (dcC s (ps s k))] 0 1)),?_,stEq_mk rfl (mRow (row_rn s k) (mSame rfl (mSame rfl (mSame rfl mNil))))⟩
  refine(atx_r ej m g s A Z k (ps s k) _).trans ?_
  rw[show Nat.blt (ps s k) s.size=true from bL h1,cond_true,decide_eq_false (by omega),cond_false,szOk_mul (by omega),req_true rfl,Nat.beq_refl,req_true (b:=true&&true&&true) rfl,dcW_dW,<-h2.2]
 ·refine⟨txE 69 21 ej m g A Z (min 25 (rN s)) (rcF s),?_,stEq_refl rfl⟩
  refine(atx_r ej m g s A Z _ _ _).trans ?_
  by_cases c:Nat.blt (ps s (min 25 (rN s))) s.size=true
  ·have h1:min 25 (rN s)<rN s:=lt_rN.1 (by rw[Nat.blt_eq] at c;exact c)
   rw[c,cond_true,decide_eq_true (by omega),cond_true]
  ·rw[Bool.not_eq_true] at c
   rw[c,cond_false]
noncomputable def atxC (ej m:Nat) (g:Nat->List Value) (s:ByteArray) (A:Int) (Z:Bool) (N:Nat) (F:Nat->List Value):Cfg:=⟨tab,atxS,41,[(atxP,atSt txNt txNi 25 (txI 69 ej m g s A Z) (.exit 0) (txE 69 21 ej m g A Z N F))]⟩
theorem atx_ev (a:Int) (z:Bool) (m ej id j:Nat) (g:Nat->List Value) (s:ByteArray) (A:Int) (Z:Bool) (N:Nat) (F:Nat->List Value):fnR (atxC ej m g s A Z N F) 60 Tryz.f56 (bodyOf Tryz.f56) (.pointer (some ⟨1000000,0,none⟩)::[]) (rdM 69 ej m g a z) 0 id j m 69=txT 69 ej m g a z A Z s N F:=by kernel_rfl
theorem atx_msum:MSum Tryz.prog 56 (RdrF 69 txR) :=
 rdr_msum Tryz.func56 (by kernel_rfl) (by kernel_rfl) (by show 1<=Tryz.f56.ntmps;decide +kernel) (fun _ _ _ _ _ _ hp=>by cases hp)
  fun id j ej m g q hq hm hg=>⟨atxC ej m g (tsS m g q.1) (gxA m g q.1) (gxZ m g q.1 q.2) (txN m g q.1) (rcF (tsS m g q.1)),⟨mixed,tabOk,atxS_ok,oneL (atx_loop ej m g (tsS_le m g q.1) _ _)⟩,rfl,(atx_ev q.1 q.2 m ej id j g _ _ _ _ _).trans (txT_eq hm hg)⟩
noncomputable def acoS:Sums:=[(54,.me (RdrF 69 nuR))]
theorem acoS_ok:SumsOk Tryz.prog acoS:=sums_consM anu_msum sums_nil
noncomputable def acoE:Ent:=inl tab acoS 25 Tryz.f78 (bodyOf Tryz.f78)
theorem acoE_ok:EntOk Tryz.prog 78 acoE:=inl_sum tabOk acoS_ok mixed Tryz.func78 (by kernel_rfl) (by kernel_rfl) rfl
noncomputable def aslS:Sums:=[(78,acoE),(79,.me (RdrF 69 bkR))]
theorem aslS_ok:SumsOk Tryz.prog aslS:=sums_consI acoE_ok (sums_consM abk_msum sums_nil)
noncomputable def aslC0:Cfg:=⟨tab,aslS,15,[]⟩
theorem aslC0_ok:CfgOk Tryz.prog aslC0 (bodyOf Tryz.f57):=⟨mixed,tabOk,aslS_ok,noL⟩
theorem asl_at:codeAt [1,1,0,1,0] (bodyOf Tryz.f57)=some (.loop (loopAt [1,1,0,1,0] (bodyOf Tryz.f57))):=by kernel_rfl
theorem asl_r (ej m:Nat) (g:Nat->List Value) (n A:Int) (Z:Bool) (k:Nat) (F:Nat->List Value) (i:Int) :
  roundS aslC0 60 [1,1,0,1,0,0] (loopAt [1,1,0,1,0] (bodyOf Tryz.f57)) lsNt lsNr 5 [3] lsXi 5 (lsQ 69 64 ej m g k32 n A Z k F i) =
  bif decide (i<n) then req (qoC m g A) (req (szOk (k+1) 32) (req (Nat.beq k k&&true&&true) (some (.normal,lsQ 69 64 ej m g k32 n (tkA m A Z 32) (tkZ m A Z 32) (k+1) (appF k F (lstF (slC (rnN m g A Z)) 0 32)) (IntKind.i64.wrap (i+1))))))
   else some (.exit 0,lsE 69 64 ej m g k32 A Z k F):=by kernel_rfl
theorem asl_loop (ej:Nat) {m:Nat} {g:Nat->List Value} (hm:m<=1000000) (hg:okY m g=true) {n:Nat} (hn:n<=64) {q0:Int×Bool} (hq:inQ m q0):LoopOk Tryz.prog 15 (loopAt [1,1,0,1,0] (bodyOf Tryz.f57))
  (atSt lsNt lsNi 5 (lsI 69 ej m g (n:Int) q0.1 q0.2) (.exit 0) (lsE 69 64 ej m g k32 (q1I m q0 n).1 (q1I m q0 n).2 n (slF (sVl m g q0)))):=by
 refine loopW (fun _=>aslC0) n (fun _ _=>aslC0_ok) (fun _=>rfl) asl_at (m:=60) (nt:=fun _=>lsNt) (ni:=fun _=>lsNr) (et:=fun _=>[3]) (ei:=fun _=>lsXi) (nx:=5) (ex:=5) (fun k=>lsQ 69 64 ej m g k32 (n:Int) (q1I m q0 k).1 (q1I m q0 k).2 k (slF (sVl m g q0)) ((k:Nat):Int))
  (fun w0 R a w h=>Rel.nilSlot h (t:=3) (B:=lB) rfl rfl (by decide) (by decide) k32 (slF (sVl m g q0)) 64 5) (by intro h;cases h) ?_ ?_
 ·intro k hk
  refine⟨_,(asl_r ej m g (n:Int) _ _ k _ _).trans ?_,stEq_mk rfl (mRow (row_l1 q0 k) (mSame rfl (mSame rfl mNil)))⟩
  rw[decide_eq_true (by omega),cond_true,qoC_in hg (inQ_1I hq k) hm,req_true rfl,szOk_mul (by omega),req_true rfl,Nat.beq_refl,req_true (b:=true&&true&&true) rfl,wrap_i64 (by omega)];rfl
 ·refine⟨_,(asl_r ej m g (n:Int) _ _ n _ _).trans ?_,stEq_refl rfl⟩
  rw[decide_eq_false (by omega),cond_false]
noncomputable def aslC (ej m:Nat) (g:Nat->List Value) (n A:Int) (Z:Bool) (N:Nat) (F:Nat->List Value) (A2:Int) (Z2:Bool):Cfg:=⟨tab,aslS,15,[([1,1,0,1,0],atSt lsNt lsNi 5 (lsI 69 ej m g n A Z) (.exit 0) (lsE 69 64 ej m g k32 A2 Z2 N F))]⟩
theorem asl_ev (a:Int) (z:Bool) (m ej id j:Nat) (g:Nat->List Value) (n A:Int) (Z:Bool) (N:Nat) (F:Nat->List Value) (A2:Int) (Z2:Bool):fnR (aslC ej m g n A Z N F A2 Z2) 60 Tryz.f57 (bodyOf Tryz.f57) (.pointer (some ⟨1000000,0,none⟩)::[]) (rdM 69 ej m g a z) 0 id j m 69=lsT 69 64 ej id m g k32 8 a z n A Z N F A2 Z2:=by kernel_rfl
theorem asl_msum:MSum Tryz.prog 57 (RdrF 69 (slR 64)) :=
 rdr_msum Tryz.func57 (by kernel_rfl) (by kernel_rfl) (by show 1<=Tryz.f57.ntmps;decide +kernel) (fun id _ _ _ _ p hp=>by rw[List.mem_singleton.1 hp];exact⟨Nat.le_refl _,by show nid id 0<nid id 8;unfold nid;omega⟩)
  fun id j ej m g q hq hm hg=>⟨aslC ej m g ((cnN m g 8 q.1 q.2:Nat):Int) (nuA m q.1) (cnZ m g 8 q.1 q.2) _ _ _ _,⟨mixed,tabOk,aslS_ok,oneL (asl_loop ej hm hg (n:=cnN m g 8 q.1 q.2) (by have:=cnN_le (m:=m) (g:=g) 8 q.1 q.2;exact Nat.le_trans this (by decide)) (q0:=cnS m g 8 q) (inQ_cn hq))⟩,rfl,(asl_ev q.1 q.2 m ej id j g _ _ _ _ _ _ _).trans (lsT_eq hq hm hg _ _ _ _)⟩
noncomputable def acmS:Sums:=[(78,acoE),(55,.me (RdrF 69 pntR))]
theorem acmS_ok:SumsOk Tryz.prog acmS:=sums_consI acoE_ok (sums_consM apn_msum sums_nil)
noncomputable def acmC0:Cfg:=⟨tab,acmS,15,[]⟩
theorem acmC0_ok:CfgOk Tryz.prog acmC0 (bodyOf Tryz.f58):=⟨mixed,tabOk,acmS_ok,noL⟩
theorem acm_at:codeAt [1,1,0,1,0] (bodyOf Tryz.f58)=some (.loop (loopAt [1,1,0,1,0] (bodyOf Tryz.f58))):=by kernel_rfl
theorem acm_r (ej m:Nat) (g:Nat->List Value) (n A:Int) (Z:Bool) (k:Nat) (F:Nat->List Value) (i:Int) :
  roundS acmC0 60 [1,1,0,1,0,0] (loopAt [1,1,0,1,0] (bodyOf Tryz.f58)) lsNt lsNr 5 [3] lsXi 5 (lsQ 69 26 ej m g kP9 n A Z k F i) =
  bif decide (i<n) then req (qoC m g A) (req (szOk (k+1) 72) (req (Nat.beq k k&&true&&true) (some (.normal,lsQ 69 26 ej m g kP9 n (poA m g A Z) (poZ m g A Z) (k+1) (appF k F (lstF (ptC (poR m g A Z).1) 0 9)) (IntKind.i64.wrap (i+1))))))
   else some (.exit 0,lsE 69 26 ej m g kP9 A Z k F):=by kernel_rfl
theorem acm_loop (ej:Nat) {m:Nat} {g:Nat->List Value} (hm:m<=1000000) (hg:okY m g=true) {n:Nat} (hn:n<=64) {q0:Int×Bool} (hq:inQ m q0):LoopOk Tryz.prog 15 (loopAt [1,1,0,1,0] (bodyOf Tryz.f58))
  (atSt lsNt lsNi 5 (lsI 69 ej m g (n:Int) q0.1 q0.2) (.exit 0) (lsE 69 26 ej m g kP9 (q3I m g q0 n).1 (q3I m g q0 n).2 n (ptF (pVn m g q0)))):=by
 refine loopW (fun _=>acmC0) n (fun _ _=>acmC0_ok) (fun _=>rfl) acm_at (m:=60) (nt:=fun _=>lsNt) (ni:=fun _=>lsNr) (et:=fun _=>[3]) (ei:=fun _=>lsXi) (nx:=5) (ex:=5) (fun k=>lsQ 69 26 ej m g kP9 (n:Int) (q3I m g q0 k).1 (q3I m g q0 k).2 k (ptF (pVn m g q0)) ((k:Nat):Int))
  (fun w0 R a w h=>Rel.nilSlot h (t:=3) (B:=lB) rfl rfl (by decide) (by decide) kP9 (ptF (pVn m g q0)) 26 5) (by intro h;cases h) ?_ ?_
 ·intro k hk
  refine⟨_,(acm_r ej m g (n:Int) _ _ k _ _).trans ?_,stEq_mk rfl (mRow (row_l2 q0 k) (mSame rfl (mSame rfl mNil)))⟩
  rw[decide_eq_true (by omega),cond_true,qoC_in hg (inQ_3I (g:=g) hq k) hm,req_true rfl,szOk_mul (by omega),req_true rfl,Nat.beq_refl,req_true (b:=true&&true&&true) rfl,wrap_i64 (by omega)];rfl
 ·refine⟨_,(acm_r ej m g (n:Int) _ _ n _ _).trans ?_,stEq_refl rfl⟩
  rw[decide_eq_false (by omega),cond_false]
noncomputable def acmC (ej m:Nat) (g:Nat->List Value) (n A:Int) (Z:Bool) (N:Nat) (F:Nat->List Value) (A2:Int) (Z2:Bool):Cfg:=⟨tab,acmS,15,[([1,1,0,1,0],atSt lsNt lsNi 5 (lsI 69 ej m g n A Z) (.exit 0) (lsE 69 26 ej m g kP9 A2 Z2 N F))]⟩
theorem acm_ev (a:Int) (z:Bool) (m ej id j:Nat) (g:Nat->List Value) (n A:Int) (Z:Bool) (N:Nat) (F:Nat->List Value) (A2:Int) (Z2:Bool):fnR (acmC ej m g n A Z N F A2 Z2) 60 Tryz.f58 (bodyOf Tryz.f58) (.pointer (some ⟨1000000,0,none⟩)::[]) (rdM 69 ej m g a z) 0 id j m 69=lsT 69 26 ej id m g kP9 64 a z n A Z N F A2 Z2:=by kernel_rfl
theorem acm_msum:MSum Tryz.prog 58 (RdrF 69 (cmR 26)) :=
 rdr_msum Tryz.func58 (by kernel_rfl) (by kernel_rfl) (by show 1<=Tryz.f58.ntmps;decide +kernel) (fun id _ _ _ _ p hp=>by rw[List.mem_singleton.1 hp];exact⟨Nat.le_refl _,by show nid id 0<nid id 8;unfold nid;omega⟩)
  fun id j ej m g q hq hm hg=>⟨acmC ej m g ((cnN m g 64 q.1 q.2:Nat):Int) (nuA m q.1) (cnZ m g 64 q.1 q.2) _ _ _ _,⟨mixed,tabOk,acmS_ok,oneL (acm_loop ej hm hg (n:=cnN m g 64 q.1 q.2) (by have:=cnN_le (m:=m) (g:=g) 64 q.1 q.2;exact Nat.le_trans this (by decide)) (q0:=cnS m g 64 q) (inQ_cn hq))⟩,rfl,(acm_ev q.1 q.2 m ej id j g _ _ _ _ _ _ _).trans (lsT_eq hq hm hg _ _ _ _)⟩
end Go.Proofs.YtckbmhegopjnmaaGreat

namespace Go.W
open Go
def ze7:OR:=some (.tuple #[acV 0 zR ⟨#[]⟩ nilS nilS 0 (0,0),i64 7],[])
def ouA (k:Int) (K:RP) (lab:ByteArray) (g:Int) (X:Nat×Nat):OR:=some (.tuple #[acV k K lab nilS nilS g X,i64 0],[])
def donT (m:Nat) (A:Int) (Z:Bool) (O:OR):OR:=bif !Z then (bif !(A==(m:Int)) then ze7 else O) else ze7
def fkT (K:RP) (O:OR):OR:=bif !K.1 then req (isPt (ptV K)) (bif !(errP (ckR (unPt (ptV K)))==0) then ze7 else O) else ze7
def loT (a:Nat) (O:OR):OR:=req (isNum (num a)&&isNum (num (primeN 1))) (bif !decide (cmpI (unnum (num a)) (unnum (num (primeN 1)))<0) then ze7 else O)
noncomputable def ldT1 (m:Nat) (g:Nat->List Value) (A:Int) (Z:Bool):OR :=
 req (qoC m g A) (req (qoC m g (poA m g A Z)) (donT m (gxA m g (poA m g A Z)) (gxZ m g (poA m g A Z) (poZ m g A Z))
  (fkT (poR m g A Z).1 (req (Nat.ble (gxV m g (poA m g A Z)).size 1000000) (bif lbE (gxV m g (poA m g A Z)) != 0 then ze7 else ouA 1 (poR m g A Z).1 (gxV m g (poA m g A Z)) 0 (0,0))))))
noncomputable def ldTp (m:Nat) (g:Nat->List Value) (A:Int) (Z:Bool) (k ag:Int) (T:OR->OR):OR :=
 req (qoC m g A) (req (qoC m g (poA m g A Z)) (req (isB32 (bytesV (rnN m g (poA m g A Z) (poZ m g A Z)))) (req (qoC m g (tkA m (poA m g A Z) (poZ m g A Z) 32)) (req (isB32 (bytesV (rnN m g (tkA m (poA m g A Z) (poZ m g A Z) 32) (tkZ m (poA m g A Z) (poZ m g A Z) 32))))
  (donT m (tkA m (tkA m (poA m g A Z) (poZ m g A Z) 32) (tkZ m (poA m g A Z) (poZ m g A Z) 32) 32) (tkZ m (tkA m (poA m g A Z) (poZ m g A Z) 32) (tkZ m (poA m g A Z) (poZ m g A Z) 32) 32)
   (T (fkT (poR m g A Z).1 (loT (unbytes (bytesV (rnN m g (poA m g A Z) (poZ m g A Z)))) (loT (unbytes (bytesV (rnN m g (tkA m (poA m g A Z) (poZ m g A Z) 32) (tkZ m (poA m g A Z) (poZ m g A Z) 32))))
    (ouA k (poR m g A Z).1 ⟨#[]⟩ ag (unbytes (bytesV (rnN m g (poA m g A Z) (poZ m g A Z))),unbytes (bytesV (rnN m g (tkA m (poA m g A Z) (poZ m g A Z) 32) (tkZ m (poA m g A Z) (poZ m g A Z) 32))))))))))))))
noncomputable def ldT4 (m:Nat) (g:Nat->List Value) (A:Int) (Z:Bool):OR:=ldTp m g A Z 4 0 fun O=>O
noncomputable def ldT3 (m:Nat) (g:Nat->List Value) (A:Int) (Z:Bool):OR:=req (qoC m g A) (ldTp m g (nuA m A) (nuZ m A Z) 3 (nuV m g A) fun O=>bif decide (nuV m g A<1) then ze7 else bif decide (nuV m g A > 8) then ze7 else O)
noncomputable def ldT5 (m:Nat) (A:Int) (Z:Bool):OR:=donT m A Z (ouA 5 zR ⟨#[]⟩ 0 (0,0))
noncomputable def ldT2 (t32 tP id m:Nat) (g:Nat->List Value) (N:Nat) (S:Nat->Nat) (A2:Int) (M:Nat) (V:Nat->RP) (A3:Int) (Z3:Bool):OR :=
 req (qoC m g A2) (donT m A3 Z3 (req (whN N&&(whN M&&okP M (sg9 M (ptF V)))) (bif poE N M (pA (sg9 M (ptF V))) != 0 then ze7 else
  req (Nat.ble N N) (req (Nat.ble M M) (some (.tuple #[acV 2 zR ⟨#[]⟩ (nSk id 0 N) (nSk id 1 M) 0 (0,0),i64 0],rwA t32 tP id N (slF S) M (ptF V)))))))
noncomputable def ldT (m:Nat) (g:Nat->List Value) (T2:OR):OR :=
 req (qoC m g 0) (bif nuV m g 0==1 then ldT1 m g (nuA m 0) (nuZ m 0 false) else bif nuV m g 0==2 then req (qoC m g (nuA m 0)) T2 else
  bif nuV m g 0==3 then ldT3 m g (nuA m 0) (nuZ m 0 false) else bif nuV m g 0==4 then ldT4 m g (nuA m 0) (nuZ m 0 false) else bif nuV m g 0==5 then ldT5 m (nuA m 0) (nuZ m 0 false) else ze7)
noncomputable def ldT2a (t32 tP id m:Nat) (g:Nat->List Value) (A:Int) (Z:Bool):OR :=
 ldT2 t32 tP id m g (cnN m g 8 A Z) (sVl m g (cnS m g 8 (A,Z))) (q1I m (cnS m g 8 (A,Z)) (cnN m g 8 A Z)).1
  (cnN m g 64 (q1I m (cnS m g 8 (A,Z)) (cnN m g 8 A Z)).1 (q1I m (cnS m g 8 (A,Z)) (cnN m g 8 A Z)).2) (pVn m g (cnS m g 64 ((q1I m (cnS m g 8 (A,Z)) (cnN m g 8 A Z)).1,(q1I m (cnS m g 8 (A,Z)) (cnN m g 8 A Z)).2)))
  (q3I m g (cnS m g 64 ((q1I m (cnS m g 8 (A,Z)) (cnN m g 8 A Z)).1,(q1I m (cnS m g 8 (A,Z)) (cnN m g 8 A Z)).2)) (cnN m g 64 (q1I m (cnS m g 8 (A,Z)) (cnN m g 8 A Z)).1 (q1I m (cnS m g 8 (A,Z)) (cnN m g 8 A Z)).2)).1
  (q3I m g (cnS m g 64 ((q1I m (cnS m g 8 (A,Z)) (cnN m g 8 A Z)).1,(q1I m (cnS m g 8 (A,Z)) (cnN m g 8 A Z)).2)) (cnN m g 64 (q1I m (cnS m g 8 (A,Z)) (cnN m g 8 A Z)).1 (q1I m (cnS m g 8 (A,Z)) (cnN m g 8 A Z)).2)).2
end Go.W

namespace Go.W
open Go
theorem raEy {L:List Nat} (h:isRd L):raE L=0:=by unfold raE;rw[hide_eq,if_pos (raB_yes h)]
theorem raEn {L:List Nat} (h:¬isRd L):raE L=7:=by unfold raE;rw[hide_eq,raB_no h];rfl
def Ld0 (L:List Nat) (r:OR):Prop:=∃A:AR,Sam A (raA L)∧A.n=0∧A.m=0∧r=some (.tuple #[acV A.k A.K A.l nilS nilS A.g A.X,i64 (raE L)],[])
theorem Ld0_no {L:List Nat} (h:¬isRd L):Ld0 L ze7:=⟨zeR,by rw[raA_no h];exact Sam.refl _,rfl,rfl,by rw[raEn h];rfl⟩
theorem Ld0_end {k:Int} {K:RP} {lab:ByteArray} {g:Int} {X:Nat×Nat} {L:List Nat} {q:Int×Bool} {r:OR}
  (fwd:stO L q=some []->Right (nlA k K lab g X)->wr0 (nlA k K lab g X)=L) (bwd:∀a,Right a->Wsl a->wr0 a=L->stO L q=some []∧Sam (nlA k K lab g X) a)
  (yes:stO L q=some []->Right (nlA k K lab g X)->r=ouA k K lab g X) (no:¬(stO L q=some []∧Right (nlA k K lab g X))->r=ze7):Ld0 L r:=by
 by_cases c:stO L q=some []∧Right (nlA k K lab g X)
 ·have hw:Wsl (nlA k K lab g X):=fun j hj=>absurd hj (Nat.not_lt_zero _)
  have hL:=fwd c.1 c.2
  refine⟨nlA k K lab g X,raA_of c.2 hw hL,rfl,rfl,?_⟩
  rw[raEy ⟨_,c.2,hw,hL⟩]
  exact yes c.1 c.2
 ·have hn:¬isRd L:=by
   rintro ⟨a,h1,h2,h3⟩
   obtain ⟨b1,b2⟩:=bwd a h1 h2 h3
   exact c ⟨b1,Right_sam b2 h1⟩
  have:=Ld0_no hn
  rw[<-no c] at this
  exact this
theorem donT_eq {m:Nat} {q:Int×Bool} {L:List Nat} (hm:L.length=m) (hq:inQ m q) (O:OR):(stO L q=some []->donT m q.1 q.2 O=O)∧(¬stO L q=some []->donT m q.1 q.2 O=ze7):=by
 obtain ⟨h0,h3⟩:=hq
 unfold stO donT
 cases hz:q.2 with
 | true=>rw[if_pos rfl];exact⟨fun h=>(by cases h),fun _=>rfl⟩
 | false =>
  rw[if_neg (by decide),Bool.not_false,cond_true]
  by_cases e:q.1=(m:Int)
  ·rw[beq_iff_eq.2 e,Bool.not_true,cond_false]
   refine⟨fun _=>rfl,fun h=>absurd ?_ h⟩
   rw[e,Int.toNat_natCast,<-hm,List.drop_length]
  ·rw[beq_eq_false_iff_ne.2 e,Bool.not_false,cond_true]
   refine⟨fun h=>?_,fun _=>rfl⟩
   have:=congrArg List.length (Option.some.inj h)
   rw[List.length_drop,hm] at this
   have this:m - q.1.toNat=0:=this
   exact absurd (by omega) e
theorem fkT_eq {K:RP} (h:okR K) (O:OR):fkT K O=if fulB K=true then O else ze7:=by
 unfold fkT fulB
 rw[isPt_ptV,req_true rfl,unPt_ptV h]
 cases K.1<;>cases ckR K<;>rfl
theorem loT_eq {a:Nat} (h:a<2^256) (O:OR):loT a O=if a<pN then O else ze7:=by
 unfold loT
 have hp:primeN 1=pN:=rfl
 rw[isNum_num,isNum_num,req_true (b:=true&&true) rfl,unnum_lt h,hp,unnum_lt (by decide)]
 by_cases e:a<pN
 ·rw[if_pos e,show cmpI a pN=-1 from if_pos e];rfl
 ·rw[if_neg e]
  unfold cmpI;rw[if_neg e]
  split<;>rfl
section
variable {m:Nat} {g:Nat->List Value} (hm:m<=1000000) (hg:okY m g=true)
include hg
theorem kindN {a:AR} (h:Right a) (e:wr0 a=lsB m g):a.k=nuV m g 0∧∃r,lsB m g=a.k.toNat::r∧stO (lsB m g) (nuS m q00)=some r:=by
 obtain ⟨r,h1,h2,h3⟩:=wr0_hd h
 rw[h1] at e
 have h4:stO (lsB m g) q00=some (a.k.toNat::r):=by rw[stO_00,e]
 obtain ⟨k1,k2⟩:=nu_back hg (inQ_00 m) h4
 have k2:nuV m g 0=((a.k.toNat:Nat):Int):=k2
 exact⟨by rw[k2];omega,r,e.symm,k1⟩
theorem kindT {r:List Nat} (h:stO (lsB m g) (nuS m q00)=some r):lsB m g=(nuV m g 0).toNat::r:=by
 obtain ⟨b,hb,hv⟩:=nu_some hg (inQ_00 m) h
 rw[stO_00] at hb
 have hv:nuV m g 0=((b:Nat):Int):=hv
 rw[Option.some.inj hb,hv];rfl
theorem ld_5 (hk:nuV m g 0=5):Ld0 (lsB m g) (ldT5 m (nuA m 0) (nuZ m 0 false)):=by
 have hq:=inQ_nu (inQ_00 m)
 have hR:Right (nlA 5 zR ⟨#[]⟩ 0 (0,0)):=.inr (.inr (.inr (.inr ⟨rfl,rfl,rfl,rfl,rfl,rfl,rfl⟩)))
 obtain ⟨d1,d2⟩:=donT_eq (lsB_len m g) hq (ouA 5 zR ⟨#[]⟩ 0 (0,0))
 refine Ld0_end (k:=5) (K:=zR) (lab:=⟨#[]⟩) (g:=0) (X:=(0,0)) (q:=nuS m q00) ?_ ?_ (fun h _=>d1 h) (fun h=>d2 fun h2=>h ⟨h2,hR⟩)
 ·intro h _
  rw[kindT hg h,hk];rfl
 ·intro a ha hw e
  obtain ⟨e1,r,e2,e3⟩:=kindN hg ha e
  have k5:a.k=5:=e1.trans hk
  have e4:wr0 a=[5]:=by unfold wr0;rw[k5];rfl
  rw[e4] at e
  rw[<-e] at e2
  have hr:=(List.cons.inj e2).2
  subst hr
  rcases ha with h | h | h | h | ⟨_,c1,c2,c3,c4,c5,c6⟩
  ·exact absurd h.1 (by omega)
  ·exact absurd h.1 (by omega)
  ·exact absurd h.1 (by omega)
  ·exact absurd h.1 (by omega)
  exact⟨e3,k5.symm,c1.symm,c2.symm,c3.symm,fun j hj=>absurd hj (Nat.not_lt_zero _),c4.symm,fun j hj=>absurd hj (Nat.not_lt_zero _),c5.symm,c6.symm⟩
theorem ld_x (h1:nuV m g 0≠1) (h2:nuV m g 0≠2) (h3:nuV m g 0≠3) (h4:nuV m g 0≠4) (h5:nuV m g 0≠5):Ld0 (lsB m g) ze7:=by
 refine Ld0_no ?_
 rintro ⟨a,ha,hw,e⟩
 have:=(kindN hg ha e).1
 rcases ha with h | h | h | h | h<;>(have:=h.1;omega)
include hm
theorem ld_1 (hk:nuV m g 0=1):Ld0 (lsB m g) (ldT1 m g (nuA m 0) (nuZ m 0 false)):=by
 have h1:=inQ_nu (inQ_00 m)
 have h2:=inQ_po (g:=g) h1
 have h3:=inQ_tx (g:=g) h2
 have c1:qoC m g (nuA m 0)=true:=qoC_in hg h1 hm
 have c2:qoC m g (poA m g (nuA m 0) (nuZ m 0 false))=true:=qoC_in hg h2 hm
 have hK:=okR_po m g (nuA m 0) (nuZ m 0 false)
 obtain ⟨K,eK⟩:∃K,K=(poR m g (nuA m 0) (nuZ m 0 false)).1:=⟨_,rfl⟩
 obtain ⟨lab,eb⟩:∃lab,lab=gxV m g (poA m g (nuA m 0) (nuZ m 0 false)):=⟨_,rfl⟩
 have hs:lab.size<=1000000:=by
  rw[eb];unfold gxV;rw[hide_eq]
  have:=tx25_size (rowS (gpL m g (poA m g (nuA m 0) (nuZ m 0 false))) (gpR g (poA m g (nuA m 0) (nuZ m 0 false))));omega
 have hRi:Right (nlA 1 K lab 0 (0,0))↔fulB K=true∧lblB lab=true:=by
  constructor
  ·rintro (⟨_,a1,a2,_⟩ | ⟨h,_⟩ | ⟨h,_⟩ | ⟨h,_⟩ | ⟨h,_⟩)
   ·exact⟨a1,a2⟩
   all_goals (simp only[nlA] at h;omega)
  ·rintro ⟨a1,a2⟩;exact .inl ⟨rfl,a1,a2,rfl,rfl,rfl,rfl⟩
 unfold ldT1
 rw[c1,req_true rfl,c2,req_true rfl,<-eK,<-eb,Nat.ble_eq_true_of_le hs,req_true rfl]
 rw[<-eK] at hK
 obtain ⟨d1,d2⟩:=donT_eq (lsB_len m g) h3 (fkT K (bif lbE lab != 0 then ze7 else ouA 1 K lab 0 (0,0)))
 have hF:fkT K (bif lbE lab != 0 then ze7 else ouA 1 K lab 0 (0,0))=if fulB K=true∧lblB lab=true then ouA 1 K lab 0 (0,0) else ze7:=by
  rw[fkT_eq hK]
  unfold lbE;rw[hide_eq]
  cases fulB K<;>cases lblB lab<;>rfl
 refine Ld0_end (k:=1) (K:=K) (lab:=lab) (g:=0) (X:=(0,0)) (q:=gxS m g (poS m g (nuS m q00))) ?_ ?_ (fun h hR=>(d1 h).trans (hF.trans (if_pos (hRi.1 hR)))) (fun h=>?_)
 ·intro h hR
  obtain ⟨l,t1,t2⟩:=tx_some hg h
  obtain ⟨a5,a6⟩:=po_some hg h1 t1
  have hl:lblB l=true:=by
   rw[<-lblB_tx,<-t2]
   have:=(hRi.1 hR).2
   rw[eb] at this;exact this
  have e3:lab=l:=by rw[eb,<-tx_lbl (lblB_iff.1 hl)];exact t2
  rw[kindT hg a5,hk,wr0_1 rfl]
  show[1]++pyB K++(beL 4 lab.size++txB lab)=_
  rw[e3,eK,List.append_assoc,List.append_nil];rfl
 ·intro a ha hw e
  obtain ⟨e1,r,e2,e3⟩:=kindN hg ha e
  have k1:a.k=1:=e1.trans hk
  rcases ha with⟨_,b1,b2,b3,b4,b5,b6⟩ | h | h | h | h
  ·rw[<-e,wr0_1 k1,k1,List.append_assoc] at e2
   have e4:=(List.cons.inj e2).2
   rw[<-e4] at e3
   have e3:stO (lsB m g) (nuS m q00)=some (pyB a.K++(beL 4 a.l.size++txB a.l)):=e3
   obtain ⟨f1,f2⟩:=po_back hg h1 (ful_ck b1) e3
   have s1:=lbl_size b2
   rw[<-List.append_nil (txB a.l)] at f1
   obtain ⟨f3,f4⟩:=tx_back hg h2 (by omega) f1
   have e5:lab=a.l:=by rw[eb,<-tx_lbl (lblB_iff.1 b2)];exact f4
   exact⟨f3,k1.symm,by rw[eK];exact f2,e5,b3.symm,fun j hj=>absurd hj (Nat.not_lt_zero _),b4.symm,fun j hj=>absurd hj (Nat.not_lt_zero _),b5.symm,b6.symm⟩
  ·exact absurd h.1 (by omega)
  ·exact absurd h.1 (by omega)
  ·exact absurd h.1 (by omega)
  ·exact absurd h.1 (by omega)
 ·by_cases c:stO (lsB m g) (gxS m g (poS m g (nuS m q00)))=some []
  ·exact(d1 c).trans (hF.trans (if_neg fun h9=>h ⟨c,hRi.2 h9⟩))
  ·exact d2 c
theorem ld_kp {q:Int×Bool} (hq:inQ m q) {k ag:Int} {P:Prop} {T:OR->OR} (hT1:P->∀O,T O=O) (hT2:¬P->∀O,T O=ze7)
  (hR:∀K (X:Nat×Nat),Right (nlA k K ⟨#[]⟩ ag X)↔P∧fulB K=true∧X.1<pN∧X.2<pN)
  (fwd:∀(K:RP) (X:Nat×Nat),stO (lsB m g) q=some (pyB K++(beL 32 X.1++beL 32 X.2))->wr0 (nlA k K ⟨#[]⟩ ag X)=lsB m g)
  (bwd:∀a,Right a->Wsl a->wr0 a=lsB m g->a.k=k∧a.l=⟨#[]⟩∧a.n=0∧a.m=0∧a.g=ag∧ckR a.K=true∧a.X.1<2^256∧a.X.2<2^256∧stO (lsB m g) q=some (pyB a.K++(beL 32 a.X.1++beL 32 a.X.2))) :
  Ld0 (lsB m g) (ldTp m g q.1 q.2 k ag T):=by
 have h1:=inQ_po (g:=g) hq
 have h2:=inQ_tk h1 (n:=32) (by decide)
 have h3:=inQ_tk h2 (n:=32) (by decide)
 have c0:qoC m g q.1=true:=qoC_in hg hq hm
 have c1:qoC m g (poA m g q.1 q.2)=true:=qoC_in hg h1 hm
 have c2:qoC m g (tkA m (poA m g q.1 q.2) (poZ m g q.1 q.2) 32)=true:=qoC_in hg h2 hm
 have hK:=okR_po m g q.1 q.2
 have n1:=rn_lt hg h1
 have n2:=rn_lt hg h2
 obtain ⟨K,eK⟩:∃K,K=(poR m g q.1 q.2).1:=⟨_,rfl⟩
 obtain ⟨x,ex⟩:∃x,x=rnN m g (poA m g q.1 q.2) (poZ m g q.1 q.2):=⟨_,rfl⟩
 obtain ⟨y,ey⟩:∃y,y=rnN m g (tkA m (poA m g q.1 q.2) (poZ m g q.1 q.2) 32) (tkZ m (poA m g q.1 q.2) (poZ m g q.1 q.2) 32):=⟨_,rfl⟩
 have n1:x<2^256:=by rw[ex];exact n1
 have n2:y<2^256:=by rw[ey];exact n2
 unfold ldTp
 rw[c0,req_true rfl,c1,req_true rfl,<-ex,isB32_bytesV,req_true rfl,c2,req_true rfl,<-ey,isB32_bytesV,req_true rfl,unbytes_bytesV,unbytes_bytesV,Nat.mod_eq_of_lt n1,Nat.mod_eq_of_lt n2,<-eK]
 rw[<-eK] at hK
 obtain ⟨d1,d2⟩:=donT_eq (lsB_len m g) h3 (T (fkT K (loT x (loT y (ouA k K ⟨#[]⟩ ag (x,y))))))
 have hFy:Right (nlA k K ⟨#[]⟩ ag (x,y))->T (fkT K (loT x (loT y (ouA k K ⟨#[]⟩ ag (x,y)))))=ouA k K ⟨#[]⟩ ag (x,y):=by
  intro h
  obtain ⟨p,p1,p2,p3⟩:=(hR K (x,y)).1 h
  rw[hT1 p,fkT_eq hK,loT_eq n1,loT_eq n2,if_pos p1,if_pos p2,if_pos p3]
 have hFn:¬Right (nlA k K ⟨#[]⟩ ag (x,y))->T (fkT K (loT x (loT y (ouA k K ⟨#[]⟩ ag (x,y)))))=ze7:=by
  intro h
  by_cases p:P
  ·rw[hT1 p,fkT_eq hK,loT_eq n1,loT_eq n2]
   by_cases p1:fulB K=true
   ·by_cases p2:x<pN
    ·by_cases p3:y<pN
     ·exact absurd ((hR K (x,y)).2 ⟨p,p1,p2,p3⟩) h
     ·rw[if_pos p1,if_pos p2,if_neg p3]
    ·rw[if_pos p1,if_neg p2]
   ·rw[if_neg p1]
  ·exact hT2 p _
 refine Ld0_end (k:=k) (K:=K) (lab:=⟨#[]⟩) (g:=ag) (X:=(x,y)) (q:=tkS m (tkS m (poS m g q) 32) 32) ?_ ?_ (fun h hR=>(d1 h).trans (hFy hR)) (fun h=>?_)
 ·intro h _
  obtain ⟨a1,a2⟩:=rn_some hg h2 h
  obtain ⟨a3,a4⟩:=rn_some hg h1 a1
  obtain ⟨a5,a6⟩:=po_some hg hq a3
  rw[List.append_nil] at a5
  rw[eK,ex,ey]
  exact fwd _ (_,_) a5
 ·intro a ha hw e
  obtain ⟨b1,b2,b3,b4,b5,b6,b7,b8,b9⟩:=bwd a ha hw e
  obtain ⟨f1,f2⟩:=po_back hg hq b6 b9
  obtain ⟨f3,f4⟩:=rn_back hg h1 b7 f1
  rw[<-List.append_nil (beL 32 a.X.2)] at f3
  obtain ⟨f5,f6⟩:=rn_back hg h2 b8 f3
  refine⟨f5,b1.symm,by rw[eK];exact f2,b2.symm,b3.symm,fun j hj=>absurd hj (Nat.not_lt_zero _),b4.symm,fun j hj=>absurd hj (Nat.not_lt_zero _),b5.symm,?_⟩
  rw[ex,ey];exact Prod.ext f4 f6
 ·by_cases c:stO (lsB m g) (tkS m (tkS m (poS m g q) 32) 32)=some []
  ·exact(d1 c).trans (hFn fun h9=>h ⟨c,h9⟩)
  ·exact d2 c
theorem ld_4 (hk:nuV m g 0=4):Ld0 (lsB m g) (ldT4 m g (nuA m 0) (nuZ m 0 false)):=by
 refine ld_kp hm hg (q:=nuS m q00) (inQ_nu (inQ_00 m)) (P:=True) (fun _ _=>rfl) (fun h=>absurd trivial h) ?_ ?_ ?_
 ·intro K X
  constructor
  ·rintro (⟨h,_⟩ | ⟨h,_⟩ | ⟨h,_⟩ | ⟨_,_,_,_,_,a1,a2,a3⟩ | ⟨h,_⟩)
   ·simp only[nlA] at h;omega
   ·simp only[nlA] at h;omega
   ·simp only[nlA] at h;omega
   ·exact⟨trivial,a1,a2,a3⟩
   ·simp only[nlA] at h;omega
  ·rintro ⟨_,a1,a2,a3⟩;exact .inr (.inr (.inr (.inl ⟨rfl,rfl,rfl,rfl,rfl,a1,a2,a3⟩)))
 ·intro K X h
  rw[kindT hg h,hk,wr0_4 rfl]
  show[4]++pyB K++(beL 32 X.1++beL 32 X.2)=4::(pyB K++(beL 32 X.1++beL 32 X.2))
  rw[List.append_assoc];rfl
 ·intro a ha hw e
  obtain ⟨e1,r,e2,e3⟩:=kindN hg ha e
  have k4:a.k=4:=e1.trans hk
  rcases ha with h | h | h | ⟨_,c1,c2,c3,c4,c5,c6,c7⟩ | h
  ·exact absurd h.1 (by omega)
  ·exact absurd h.1 (by omega)
  ·exact absurd h.1 (by omega)
  ·refine⟨k4,c1,c2,c3,c4,ful_ck c5,Nat.lt_trans c6 pN_256,Nat.lt_trans c7 pN_256,?_⟩
   rw[e3]
   rw[<-e,wr0_4 k4,k4,List.append_assoc] at e2
   exact congrArg some (List.cons.inj e2).2.symm
  ·exact absurd h.1 (by omega)
theorem ld_3 (hk:nuV m g 0=3):Ld0 (lsB m g) (ldT3 m g (nuA m 0) (nuZ m 0 false)):=by
 have h1:=inQ_nu (inQ_00 m)
 have c1:qoC m g (nuA m 0)=true:=qoC_in hg h1 hm
 unfold ldT3
 rw[c1,req_true rfl]
 obtain ⟨ag,eg⟩:∃ag,ag=nuV m g (nuA m 0):=⟨_,rfl⟩
 rw[<-eg]
 refine ld_kp hm hg (q:=nuS m (nuS m q00)) (inQ_nu h1) (P:=1<=ag∧ag<=8) (fun h O=>?_) (fun h O=>?_) ?_ ?_ ?_
 ·show(bif decide (ag<1) then ze7 else bif decide (ag > 8) then ze7 else O)=O
  rw[decide_eq_false (by omega),decide_eq_false (by omega)];rfl
 ·show(bif decide (ag<1) then ze7 else bif decide (ag > 8) then ze7 else O)=ze7
  by_cases e1:ag<1
  ·rw[decide_eq_true e1];rfl
  ·rw[decide_eq_false e1,decide_eq_true (by omega)];rfl
 ·intro K X
  constructor
  ·rintro (⟨h,_⟩ | ⟨h,_⟩ | ⟨_,_,_,_,a1,a2,a3,a4,a5⟩ | ⟨h,_⟩ | ⟨h,_⟩)
   ·simp only[nlA] at h;omega
   ·simp only[nlA] at h;omega
   ·exact⟨⟨a1,a2⟩,a3,a4,a5⟩
   ·simp only[nlA] at h;omega
   ·simp only[nlA] at h;omega
  ·rintro ⟨⟨a1,a2⟩,a3,a4,a5⟩;exact .inr (.inr (.inl ⟨rfl,rfl,rfl,rfl,a1,a2,a3,a4,a5⟩))
 ·intro K X h
  obtain ⟨b,hb,hv⟩:=nu_some hg h1 h
  have hv:nuV m g (nuA m 0)=((b:Nat):Int):=hv
  rw[kindT hg hb,hk,wr0_3 rfl]
  show[3]++[ag.toNat]++pyB K++(beL 32 X.1++beL 32 X.2)=3::b::(pyB K++(beL 32 X.1++beL 32 X.2))
  rw[eg,hv,Int.toNat_natCast,List.append_assoc,List.append_assoc];rfl
 ·intro a ha hw e
  obtain ⟨e1,r,e2,e3⟩:=kindN hg ha e
  have k3:a.k=3:=e1.trans hk
  rcases ha with h | h | ⟨_,c1,c2,c3,c4,c5,c6,c7,c8⟩ | h | h
  ·exact absurd h.1 (by omega)
  ·exact absurd h.1 (by omega)
  ·rw[<-e,wr0_3 k3,k3,List.append_assoc,List.append_assoc] at e2
   have e4:=(List.cons.inj e2).2
   rw[<-e4] at e3
   have e3:stO (lsB m g) (nuS m q00)=some (a.g.toNat::(pyB a.K++(beL 32 a.X.1++beL 32 a.X.2))):=e3
   obtain ⟨e5,e6⟩:=nu_back hg h1 e3
   have e6:nuV m g (nuA m 0)=((a.g.toNat:Nat):Int):=e6
   exact⟨k3,c1,c2,c3,by rw[eg,e6];omega,ful_ck c6,Nat.lt_trans c7 pN_256,Nat.lt_trans c8 pN_256,e5⟩
  ·exact absurd h.1 (by omega)
  ·exact absurd h.1 (by omega)
end
section
variable {m:Nat} {g:Nat->List Value} (hg:okY m g=true)
include hg
theorem s3_back {q0:Int×Bool} (hq:inQ m q0):∀{n:Nat} {r:List Nat},stO (lsB m g) (q3I m g q0 n)=some r->stO (lsB m g) q0=some (pyS (pVn m g q0) n++r)∧∀j,j<n->ckR (pVn m g q0 j)=true
 | 0,_,h=>⟨h,fun j hj=>absurd hj (Nat.not_lt_zero _)⟩
 | n+1,r,h=>by
  obtain ⟨h1,h2⟩:=po_some hg (inQ_3I hq n) h
  obtain ⟨h3,h4⟩:=s3_back hq h1
  refine⟨by rw[h3,pyS,List.append_assoc];rfl,fun j hj=>?_⟩
  by_cases e:j=n
  ·rw[e];exact h2
  ·exact h4 j (by omega)
theorem s3_to {q0:Int×Bool} (hq:inQ m q0) {V:Nat->RP}:∀{n:Nat} {r:List Nat},(∀j,j<n->ckR (V j)=true)->stO (lsB m g) q0=some (pyS V n++r)->stO (lsB m g) (q3I m g q0 n)=some r∧∀j,j<n->pVn m g q0 j=V j
 | 0,_,_,h=>⟨h,fun j hj=>absurd hj (Nat.not_lt_zero _)⟩
 | n+1,r,hV,h=>by
  rw[pyS,List.append_assoc] at h
  obtain ⟨h1,h2⟩:=s3_to hq (fun j hj=>hV j (by omega)) h
  obtain ⟨h3,h4⟩:=po_back hg (inQ_3I hq n) (hV n (by omega)) h1
  refine⟨h3,fun j hj=>?_⟩
  by_cases e:j=n
  ·rw[e];exact h4
  ·exact h2 j (by omega)
end
def Ld2 (t32 tP id:Nat) (L:List Nat) (r:OR):Prop:=Ld0 L r∨∃A:AR,Sam A (raA L)∧raE L=0∧r=some (.tuple #[acV A.k A.K A.l (nSk id 0 A.n) (nSk id 1 A.m) A.g A.X,i64 0],rwA t32 tP id A.n (slF A.S) A.m (ptF A.V))
theorem poE_iff {n m:Nat} {V:Nat->RP}:poE n m V=0↔n<=8∧1<=m∧m<=64∧alP V m=true∧(V 0).1=false:=by
 unfold poE
 by_cases c:8<n∨m<1∨64<m
 ·rw[if_pos c];constructor
  ·intro h;cases h
  ·intro h;omega
 ·rw[if_neg c]
  cases (V 0).1<;>cases alP V m<;>simp<;>omega
theorem ld_2 (t32 tP id:Nat) {m:Nat} {g:Nat->List Value} (hm:m<=1000000) (hg:okY m g=true) (hk:nuV m g 0=2) {N M:Nat} {qa:Int×Bool} (eN:N=cnN m g 8 (nuA m 0) (nuZ m 0 false)) (ea:qa=q1I m (cnS m g 8 (nuS m q00)) N) (eM:M=cnN m g 64 qa.1 qa.2) :
  Ld2 t32 tP id (lsB m g) (ldT2 t32 tP id m g N (sVl m g (cnS m g 8 (nuS m q00))) qa.1 M (pVn m g (cnS m g 64 qa)) (q3I m g (cnS m g 64 qa) M).1 (q3I m g (cnS m g 64 qa) M).2):=by
 have i1:=inQ_nu (inQ_00 m)
 have i0:=inQ_cn (g:=g) (mx:=8) i1
 have ia:inQ m qa:=by rw[ea];exact inQ_1I i0 N
 have i2:=inQ_cn (g:=g) (mx:=64) ia
 have iF:=inQ_3I (g:=g) i2 M
 have lN:N<=8:=by rw[eN];exact cnN_le 8 _ _
 have lM:M<=64:=by rw[eM];exact cnN_le 64 _ _
 obtain ⟨S,eS⟩:∃S,S=sVl m g (cnS m g 8 (nuS m q00)):=⟨_,rfl⟩
 obtain ⟨V,eV⟩:∃V,V=pVn m g (cnS m g 64 qa):=⟨_,rfl⟩
 have hS:∀j,S j<2^256:=fun j=>by rw[eS];exact rn_lt hg (inQ_1I i0 j)
 have hV:∀j,okR (V j):=fun j=>by rw[eV];exact okR_po m g _ _
 have o2:okP M (sg9 M (ptF V))=true:=by rw[okP_sg];exact okP_pt (by omega)
 have eA:pA (sg9 M (ptF V))=V:=by
  rw[pA_sg];funext j;exact pA_pt (hV j)
 obtain ⟨A,hA⟩:∃A:AR,A=⟨2,zR,⟨#[]⟩,N,S,M,V,0,(0,0)⟩:=⟨_,rfl⟩
 have hR:Right A↔poE N M V=0:=by
  rw[poE_iff,hA]
  constructor
  ·rintro (⟨h,_⟩ | ⟨_,_,_,_,_,a1,a2,a3,a4,a5⟩ | ⟨h,_⟩ | ⟨h,_⟩ | ⟨h,_⟩)
   ·simp only at h;omega
   ·exact⟨a1,a2,a3,a4,a5⟩
   ·simp only at h;omega
   ·simp only at h;omega
   ·simp only at h;omega
  ·rintro ⟨a1,a2,a3,a4,a5⟩;exact .inr (.inl ⟨rfl,rfl,rfl,rfl,rfl,a1,a2,a3,a4,a5⟩)
 have hw:Wsl A:=by rw[hA];exact fun j _=>hS j
 have c0:qoC m g qa.1=true:=qoC_in hg ia hm
 rw[<-eS,<-eV]
 unfold ldT2
 rw[c0,req_true rfl,whN_true,whN_true,o2,eA,req_true (b:=true&&(true&&true)) rfl,Nat.ble_eq_true_of_le (Nat.le_refl N),Nat.ble_eq_true_of_le (Nat.le_refl M),req_true rfl,req_true rfl]
 obtain ⟨d1,d2⟩:=donT_eq (lsB_len m g) iF (bif poE N M V != 0 then ze7 else some (.tuple #[acV 2 zR ⟨#[]⟩ (nSk id 0 N) (nSk id 1 M) 0 (0,0),i64 0],rwA t32 tP id N (slF S) M (ptF V)))
 by_cases cc:stO (lsB m g) (q3I m g (cnS m g 64 qa) M)=some []∧Right A
 ·have e:wr0 A=lsB m g:=by
   obtain ⟨h,_⟩:=cc
   obtain ⟨a1,a2⟩:=s3_back hg i2 h
   rw[List.append_nil,<-eV] at a1
   have a3:stO (lsB m g) qa=some (M::pyS V M):=by rw[eM];rw[eM] at a1;exact cn_some hg (mx:=64) ia a1
   rw[ea] at a3
   have a4:=s1_back hg i0 a3
   rw[<-eS] at a4
   have a5:stO (lsB m g) (nuS m q00)=some (N::(syS S N++(M::pyS V M))):=by
    have:=cn_some hg (mx:=8) i1 a4
    exact this.trans (by rw[eN];rfl)
   rw[kindT hg a5,hk,hA,wr0_2 rfl]
   unfold l1A l0A
   simp only[List.append_assoc]
   rfl
  refine .inr ⟨A,raA_of cc.2 hw e,raEy ⟨A,cc.2,hw,e⟩,?_⟩
  refine(d1 cc.1).trans ?_
  rw[hR.1 cc.2,hA];rfl
 ·have hn:¬isRd (lsB m g):=by
   rintro ⟨a,ha,hwa,e⟩
   apply cc
   obtain ⟨k1,r,k2,k3⟩:=kindN hg ha e
   have k4:a.k=2:=k1.trans hk
   rcases ha with h | ⟨_,c1,c2,c3,c4,c5,c6,c7,c8,c9⟩ | h | h | h
   ·exact absurd h.1 (by omega)
   ·have ha:Right a:=.inr (.inl ⟨k4,c1,c2,c3,c4,c5,c6,c7,c8,c9⟩)
    rw[<-e,wr0_2 k4,k4] at k2
    unfold l1A l0A at k2
    simp only[List.append_assoc] at k2
    have k2:2::a.n::(syS a.S a.n++(a.m::pyS a.V a.m))=2::r:=k2
    have k5:=(List.cons.inj k2).2
    rw[<-k5] at k3
    obtain ⟨k6,hn1⟩:=cn_back hg (mx:=8) i1 c5 k3
    have hn1:N=a.n:=by rw[eN];exact hn1
    obtain ⟨k7,k8⟩:=s1_to hg i0 hwa k6
    rw[<-hn1,<-ea] at k7
    obtain ⟨k9,hn2⟩:=cn_back hg (mx:=64) ia c7 k7
    have hn2:M=a.m:=by rw[eM];exact hn2
    rw[<-List.append_nil (pyS a.V a.m)] at k9
    obtain ⟨e1,e2⟩:=s3_to hg i2 (alP_iff.1 c8) k9
    rw[<-hn2] at e1
    refine⟨e1,Right_sam (b:=a) ?_ ha⟩
    rw[hA]
    exact⟨k4.symm,c1.symm,c2.symm,hn1,fun j hj=>by rw[eS];exact k8 j (by rw[<-hn1];exact hj),hn2,fun j hj=>by rw[eV];exact e2 j (by rw[<-hn2];exact hj),c3.symm,c4.symm⟩
   ·exact absurd h.1 (by omega)
   ·exact absurd h.1 (by omega)
   ·exact absurd h.1 (by omega)
  refine .inl ?_
  have h9:donT m (q3I m g (cnS m g 64 qa) M).1 (q3I m g (cnS m g 64 qa) M).2 (bif poE N M V != 0 then ze7 else some (.tuple #[acV 2 zR ⟨#[]⟩ (nSk id 0 N) (nSk id 1 M) 0 (0,0),i64 0],rwA t32 tP id N (slF S) M (ptF V)))=ze7:=by
   by_cases c:stO (lsB m g) (q3I m g (cnS m g 64 qa) M)=some []
   ·refine(d1 c).trans ?_
    rw[bne_iff_ne.2 fun h=>cc ⟨c,hR.2 h⟩];rfl
   ·exact d2 c
  rw[h9]
  exact Ld0_no hn
theorem ldT_eq (t32 tP id:Nat) {m:Nat} {g:Nat->List Value} (hm:m<=1000000) (hg:okY m g=true):Ld2 t32 tP id (lsB m g) (ldT m g (ldT2a t32 tP id m g (nuA m 0) (nuZ m 0 false))):=by
 have i1:=inQ_nu (inQ_00 m)
 have c0:qoC m g 0=true:=qoC_in hg (inQ_00 m) hm
 have c1:qoC m g (nuA m 0)=true:=qoC_in hg i1 hm
 have nb:∀x:Int,nuV m g 0≠x->(nuV m g 0==x)=false:=fun x hx=>beq_eq_false_iff_ne.2 hx
 unfold ldT
 rw[c0,req_true rfl]
 by_cases k1:nuV m g 0=1
 ·rw[beq_iff_eq.2 k1,cond_true];exact .inl (ld_1 hm hg k1)
 rw[nb 1 k1,cond_false]
 by_cases k2:nuV m g 0=2
 ·rw[beq_iff_eq.2 k2,cond_true,c1,req_true rfl]
  exact ld_2 t32 tP id hm hg k2 (N:=cnN m g 8 (nuA m 0) (nuZ m 0 false)) (qa:=q1I m (cnS m g 8 (nuS m q00)) (cnN m g 8 (nuA m 0) (nuZ m 0 false))) rfl rfl rfl
 rw[nb 2 k2,cond_false]
 by_cases k3:nuV m g 0=3
 ·rw[beq_iff_eq.2 k3,cond_true];exact .inl (ld_3 hm hg k3)
 rw[nb 3 k3,cond_false]
 by_cases k4:nuV m g 0=4
 ·rw[beq_iff_eq.2 k4,cond_true];exact .inl (ld_4 hm hg k4)
 rw[nb 4 k4,cond_false]
 by_cases k5:nuV m g 0=5
 ·rw[beq_iff_eq.2 k5,cond_true];exact .inl (ld_5 hg k5)
 rw[nb 5 k5,cond_false]
 exact .inl (ld_x hg k1 k2 k3 k4 k5)
section
variable {P:Program} [Laid P]
theorem ld_done {t32 tP id g:Nat} {args':List Value} {w0:Wb (lay P)} {R:Nat->Pl->Prop} {fm:Nat->Option Blk} {w:World} {L:List Nat} (hid:id<60000) (f0:fm (nid id 0)=none) (f1:fm (nid id 1)=none) {r:OR}
  (hr:Ld2 t32 tP id L r)
  (hi:∀v l,r=some (v,l)->(∀p∈l,fm p.1=none)->Invokes P g args'.toArray w fun v' w'=>∃R':Nat->Pl->Prop,(∀i p,R i p->R' i p)∧V2 R' v v'∧MRel w0 R' (memF fm l) w') :
  Invokes P g args'.toArray w fun v' w'=>∃R':Nat->Pl->Prop,(∀i p,R i p->R' i p)∧V2 R' (rdV2 id (raA L) (i64 (raE L))) v'∧MRel w0 R' (memF fm (raR t32 tP id L)) w':=by
 rcases hr with⟨A,h1,h2,h3,h4⟩ | ⟨A,h1,h2,h3⟩
 ·refine invokes_mono ?_ (hi _ _ h4 (by intro p hp;cases hp))
  rintro v' w' ⟨R',c1,c2,c3⟩
  obtain ⟨R2,d1,d2,d3⟩:=rd_nil2 c2 c3 hid f0 f1 t32 tP (slF A.S) (ptF A.V)
  refine⟨R2,fun i p hp=>d1 _ _ (c1 _ _ hp),rd_same h1 ?_,?_⟩
  ·unfold rdV2;rw[h2,h3];exact d2
  ·refine rd_rows h1 ?_
   rw[h2,h3];exact d3
 ·refine invokes_mono ?_ (hi _ _ h3 (by
   intro p hp
   unfold rwA at hp
   rcases List.mem_cons.1 hp with rfl | hp
   ·exact f1
   ·rcases List.mem_cons.1 hp with rfl | hp
    ·exact f0
    ·cases hp))
  rintro v' w' ⟨R',c1,c2,c3⟩
  refine⟨R',c1,rd_same h1 ?_,rd_rows h1 c3⟩
  rw[h2];exact c2
end
end Go.W

namespace Go.Proofs.YtckbmhegopjnmaaGreat
set_option maxRecDepth 100000
open Go.W
noncomputable def aprS:Sums:=[(55,.me (RdrF 69 pntR)),(79,.me (RdrF 69 bkR)),(80,.pl OfF)]
theorem aprS_ok:SumsOk Tryz.prog aprS:=sums_consM apn_msum (sums_consM abk_msum (sums_cons Of_sum sums_nil))
noncomputable def aprE:Ent:=inl tab aprS 13 Tryz.f59 (bodyOf Tryz.f59)
theorem aprE_ok:EntOk Tryz.prog 59 aprE:=inl_sum tabOk aprS_ok mixed Tryz.func59 (by kernel_rfl) (by kernel_rfl) rfl
noncomputable def afrS:Sums:=[(54,.me (RdrF 69 nuR)),(55,.me (RdrF 69 pntR)),(56,.me (RdrF 69 txR)),(57,.me (RdrF 69 (slR 64))),(58,.me (RdrF 69 (cmR 26))),(59,aprE)]
theorem afrS_ok:SumsOk Tryz.prog afrS:=sums_consM anu_msum (sums_consM apn_msum (sums_consM atx_msum (sums_consM asl_msum (sums_consM acm_msum (sums_consI aprE_ok sums_nil)))))
noncomputable def afrE:Ent:=inl tab afrS 39 Tryz.f36 (bodyOf Tryz.f36)
theorem afrE_ok:EntOk Tryz.prog 36 afrE:=inl_sum tabOk afrS_ok mixed Tryz.func36 (by kernel_rfl) (by kernel_rfl) rfl
noncomputable def aidE:Ent:=inl tab [] 20 Tryz.f37 (bodyOf Tryz.f37)
theorem aidE_ok:EntOk Tryz.prog 37 aidE:=inl_sum tabOk sums_nil mixed Tryz.func37 (by kernel_rfl) (by kernel_rfl) rfl
noncomputable def ardS:Sums:=[(36,afrE),(37,aidE),(28,aftE),(38,awhE)]
theorem ardS_ok:SumsOk Tryz.prog ardS:=sums_consI afrE_ok (sums_consI aidE_ok (sums_consI aftE_ok (sums_consI awhE_ok sums_nil)))
noncomputable def ardC:Cfg:=⟨tab,ardS,23,[]⟩
theorem ardC_ok:CfgOk Tryz.prog ardC (bodyOf Tryz.f14):=⟨mixed,tabOk,ardS_ok,noL⟩
theorem ard_ev (es:Nat->TypeId) (er:Nat->Nat->TypeId) (m id:Nat) (g:Nat->List Value):fnX ardC 60 Tryz.f14 (bodyOf Tryz.f14) (cArgsX [.c (.sl kB m g)] 0) (cMemX es er [.c (.sl kB m g)]) 0 id=ldT m g (ldT2a 64 26 id m g (nuA m 0) (nuZ m 0 false)):=by kernel_rfl
theorem ard_msum:MSum Tryz.prog 14 (RacF 64 26):=by
 intro w0 R fm w hm vs args' hl mm hsub id hlt v l hpick hnew
 match vs,hl,hpick with
 | [a],hl,hpick =>
  obtain ⟨hc,rfl,rfl⟩:=pick_one hpick
  simp only[Bool.and_eq_true] at hc
  obtain ⟨⟨h0,h1⟩,hg⟩:=hc
  have hm1:=Nat.le_of_ble_eq_true h1
  obtain ⟨m,g,hs⟩:∃m g,srcB mm kB a=(true,m,g):=⟨(srcB mm kB a).2.1,(srcB mm kB a).2.2,by rw[<-h0]⟩
  rw[hs] at hg hm1 hnew ⊢
  simp only at hg hm1 hnew ⊢
  have f1:fm (nid id 1)=none:=(hnew _ (List.mem_cons_self ..)).1 (by unfold nid;omega)
  have f0:fm (nid id 0)=none:=(hnew (nid id 0,_) (List.mem_cons_of_mem _ (List.mem_cons_self ..))).1 (by unfold nid;omega)
  refine ld_done hlt f0 f1 (ldT_eq 64 26 id hm1 hg) fun v l hr hfree=>?_
  exact msum_atX (c:=bodyOf Tryz.f14) (fuel:=60) (next:=0) Tryz.func14 (by kernel_rfl) (by kernel_rfl) hm hl hsub hlt (A:=[.c (.sl kB m g)]) ⟨⟨hs,fun _ e=>by cases e⟩,trivial⟩ (by kernel_rfl) (by show 1<=Tryz.f14.ntmps;decide +kernel) hfree
   fun es er=>⟨ardC,ardC_ok,rfl,(ard_ev es er m id g).trans hr⟩
 | [],_,h=>simp[RacF,pickM] at h
 | _::_::_,_,h=>simp[RacF,pickM] at h
end Go.Proofs.YtckbmhegopjnmaaGreat

namespace Go.W
open Go
theorem cellW_src {w:World} {ks:List CK} {n:Nat} {g:Nat->List Value} {v':Value} (h:SrcW w ks n g v'):∃e er p,CellW w e er p (.sl ks n g) v':=by
 obtain ⟨p,e,h1,h2⟩:=h
 refine⟨e,fun _=>0,p,h1,?_⟩
 cases hpa:p.a with
 | none=>rw[hpa] at h2;exact h2
 | some b =>
  rw[hpa] at h2
  obtain ⟨h3,cs,fz,h4,h5⟩:=h2
  refine⟨h3,cs,fz,h4,?_⟩
  have:=(LR_plain (r:=V0 (fun _ _=>False)) (pl:=pl0) (fun _ _ hv=>V0_plain hv) (rowL_pl ks g n 0)).1 h5
  rw[rowL_len] at this;exact this
theorem LX_pl (w:World):∀l:List Value,LX w (l.map .pl) l
 | []=>trivial
 | _::l=>⟨⟨0,fun _=>0,⟨none,0,0⟩,rfl⟩,LX_pl w l⟩
def acR (A:AR):List AC:=acA A.k A.K A.l A.n (slF A.S) A.m (ptF A.V) A.g A.X
def ActW (w:World) (A:AR) (v:Value):Prop:=∃s c,v=.agg (acC A.k A.K A.l s c A.g A.X).toArray∧SrcW w k32 A.n (slF A.S) s∧SrcW w kP9 A.m (ptF A.V) c
def ActO (A:AR):Prop:=okR A.K∧A.X.1<2^256∧A.X.2<2^256∧(∀i,A.S i<2^256)∧∀i,okR (A.V i)
theorem LX_act {w:World} {A:AR} {v:Value} (h:ActW w A v) {r:List AV} {vs:List Value} (hr:LX w (cellsX r) (flatV r vs)):LX w (cellsX (.ag (acR A)::r)) (flatV (.ag (acR A)::r) (v::vs)):=by
 obtain ⟨s,c,rfl,h1,h2⟩:=h
 have e1:cellsX (.ag (acR A)::r)=acR A++cellsX r:=rfl
 have e2:flatV (.ag (acR A)::r) (Value.agg (acC A.k A.K A.l s c A.g A.X).toArray::vs)=acC A.k A.K A.l s c A.g A.X++flatV r vs:=rfl
 rw[e1,e2]
 refine LX_app ?_ hr
 show LX w ([AC.pl (i64 A.k)]++((ptC A.K).map .pl++([AC.pl (.string A.l)]++(.sl k32 A.n (slF A.S)::.sl kP9 A.m (ptF A.V)::([AC.pl (i64 A.g)]++(prL A.X).map .pl))))) ([i64 A.k]++(ptC A.K++([.string A.l]++(s::c::([i64 A.g]++prL A.X)))))
 refine LX_app (LX_pl w [i64 A.k]) (LX_app (LX_pl w _) (LX_app (LX_pl w [.string A.l]) ⟨cellW_src h1,cellW_src h2,LX_app (LX_pl w [i64 A.g]) (LX_pl w _)⟩))
theorem shX_act {w:World} {A:AR} {v:Value} (h:ActW w A v) {r:List AV} {vs:List Value} (hr:shX r vs):shX (.ag (acR A)::r) (v::vs):=by
 obtain ⟨s,c,rfl,_,_⟩:=h
 refine⟨⟨_,rfl,rfl⟩,?_,hr⟩
 intro x hx
 unfold acR acA at hx
 simp only[List.mem_cons,List.mem_append,List.mem_map,AC.pl.injEq,reduceCtorEq,false_or,exists_eq_right] at hx
 rcases hx with rfl | hx | rfl | rfl | hx
 ·rfl
 ·have:∀u∈ptC A.K,pl0 u=true:=by
   obtain ⟨⟨i,x,y⟩,_⟩:∃K,K=A.K:=⟨_,rfl⟩
   intro u hu
   unfold ptC at hu
   simp only[List.mem_cons,List.mem_nil_iff,or_false] at hu
   rcases hu with rfl | rfl | rfl | rfl | rfl | rfl | rfl | rfl | rfl<;>rfl
  exact this x hx
 ·rfl
 ·rfl
 ·unfold prL at hx
  simp only[List.mem_cons,List.mem_nil_iff,or_false] at hx
  rcases hx with rfl | rfl | rfl | rfl | rfl | rfl | rfl | rfl<;>rfl
end Go.W

namespace Go.W
open Go
noncomputable def isAw (mm:Nat->Option Blk) (v:Value):Bool :=
 aggK v (fun l=>Nat.beq l.length 22&&(isI (nV 0 l)&&(isPt (cKey l)&&(isT (nV 10 l)&&(isI (nV 13 l)&&(isPrf (cPrf l) &&
  ((srcB mm k32 (nV 11 l)).1&&(srcB mm kP9 (nV 12 l)).1))))))) false
theorem isAw_some {mm:Nat->Option Blk} {v:Value} (h:isAw mm v=true):∃k K lab s c g X n f m q,v=acV k K lab s c g X∧okR K∧X.1<2^256∧X.2<2^256 ∧
  srcB mm k32 s=(true,n,f)∧srcB mm kP9 c=(true,m,q)∧unA mm v=⟨k,K,lab,n,slA f,m,pA q,g,X⟩:=by
 unfold isAw aggK at h
 split at h
 ·rename_i cs
  obtain ⟨l,hc⟩:∃l,cs=List.toArray l:=⟨cs.toList,by simp⟩
  subst hc
  rw[List.toList_toArray] at h
  simp only[Bool.and_eq_true] at h
  obtain ⟨hl,h0,hK,hT,hg,hX,h1,h3⟩:=h
  have hl:l.length=22:=nbeq.1 hl
  match l,hl with
  | [c0,c1,c2,c3,c4,c5,c6,c7,c8,c9,c10,c11,c12,c13,c14,c15,c16,c17,c18,c19,c20,c21],_ =>
   obtain ⟨k,e0⟩:∃k,c0=i64 k:=by
    have h0:isI c0=true:=h0
    unfold isI at h0
    split at h0
    ·exact⟨_,rfl⟩
    ·cases h0
   obtain ⟨lab,e1⟩:∃lab,c10=.string lab:=by
    have h0:isT c10=true:=hT
    unfold isT at h0
    split at h0
    ·exact⟨_,rfl⟩
    ·cases h0
   obtain ⟨g,e2⟩:∃k,c13=i64 k:=by
    have h0:isI c13=true:=hg
    unfold isI at h0
    split at h0
    ·exact⟨_,rfl⟩
    ·cases h0
   obtain ⟨K,oK,eK⟩:=isPt_some hK
   obtain ⟨X,oX,eX⟩:=isPrf_some hX
   have eK1:[c1,c2,c3,c4,c5,c6,c7,c8,c9]=ptC K:=congrArg (fun v:Value=>v.cells.toList) eK
   have eX1:[c14,c15,c16,c17,c18,c19,c20,c21]=prL X:=congrArg (fun v:Value=>v.cells.toList) eX
   have hv:Value.agg [c0,c1,c2,c3,c4,c5,c6,c7,c8,c9,c10,c11,c12,c13,c14,c15,c16,c17,c18,c19,c20,c21].toArray=acV k K lab c11 c12 g X:=by
    unfold acV
    congr 2
    show[c0]++([c1,c2,c3,c4,c5,c6,c7,c8,c9]++([c10]++(c11::c12::([c13]++[c14,c15,c16,c17,c18,c19,c20,c21]))))=_
    rw[e0,e1,e2,eK1,eX1];rfl
   refine⟨k,K,lab,c11,c12,g,X,(srcB mm k32 c11).2.1,(srcB mm k32 c11).2.2,(srcB mm kP9 c12).2.1,(srcB mm kP9 c12).2.2,hv,oK,oX.1,oX.2,?_,?_,?_⟩
   ·rw[<-show(srcB mm k32 c11).1=true from h1]
   ·rw[<-show(srcB mm kP9 c12).1=true from h3]
   ·show(⟨inV c0,unPt (cKey [c0,c1,c2,c3,c4,c5,c6,c7,c8,c9,c10,c11,c12,c13,c14,c15,c16,c17,c18,c19,c20,c21]),teV c10,_,_,_,_,inV c13,unPrf (cPrf [c0,c1,c2,c3,c4,c5,c6,c7,c8,c9,c10,c11,c12,c13,c14,c15,c16,c17,c18,c19,c20,c21])⟩:AR)=_
    rw[eK,eX,unPt_ptV oK,unPrf_prV oX.1 oX.2,e0,e1,e2];rfl
 ·cases h
def hvyB (A:AR):Bool:=decide (500<A.l.size)||(decide (70<A.n)||decide (70<A.m))
noncomputable def HvyF:List Value->(Nat->Option Blk)->Nat->List (Bool×Value×List (Nat×Blk))
 | [a],mm,_=>[(isAw mm a,.bool (hvyB (unA mm a)),[])]
 | _,_,_=>[]
def hvyT (lab:ByteArray) (n m:Nat):OR:=bif decide ((lab.size:Int) > 500) then some (.bool true,[]) else bif decide ((n:Int) > 70) then some (.bool true,[]) else some (.bool (decide ((m:Int) > 70)),[])
theorem hvyT_eq (k:Int) (K:RP) (lab:ByteArray) (n:Nat) (S:Nat->Nat) (m:Nat) (V:Nat->RP) (g:Int) (X:Nat×Nat):hvyT lab n m=some (.bool (hvyB ⟨k,K,lab,n,S,m,V,g,X⟩),[]):=by
 unfold hvyT hvyB
 simp only
 have e:∀(a b:Nat),decide ((a:Int) > (b:Int))=decide (b<a):=fun a b=>by
  by_cases h:b<a
  ·rw[decide_eq_true h,decide_eq_true (by omega)]
  ·rw[decide_eq_false h,decide_eq_false (by omega)]
 rw[show((500:Int))=((500:Nat):Int) from rfl,show((70:Int))=((70:Nat):Int) from rfl,e,e,e]
 cases decide (500<lab.size)<;>cases decide (70<n)<;>rfl
end Go.W

namespace Go.Proofs.YtckbmhegopjnmaaGreat
set_option maxRecDepth 100000
open Go.W
def hvyC:Cfg:=⟨tab,[],19,[]⟩
theorem hvy_ev (k:Int) (i:Bool) (x y:Nat) (lab:ByteArray) (n:Nat) (f:Nat->List Value) (m:Nat) (h:Nat->List Value) (g:Int) (c r:Nat) (es:Nat->TypeId) (er:Nat->Nat->TypeId) (id:Nat) :
  fnX hvyC 60 Tryz.f5 (bodyOf Tryz.f5) (cArgsX [.ag (acA k (i,x,y) lab n f m h g (c,r))] 0) (cMemX es er [.ag (acA k (i,x,y) lab n f m h g (c,r))]) 0 id=hvyT lab n m:=by kernel_rfl
theorem hvy_msum:MSum Tryz.prog 5 HvyF:=by
 intro w0 R fm w hm vs args' hl mm hsub id hlt v l hpick hnew
 match vs,hl,hpick with
 | [a],hl,hpick =>
  obtain ⟨hc,rfl,rfl⟩:=pick_one hpick
  obtain ⟨k,K,lab,s,c,g,X,n,f,m,q,ea,oK,oX,oX',hs,hq,eA⟩:=isAw_some hc
  rw[eA]
  clear eA hc hpick
  subst ea
  refine msum_atX (c:=bodyOf Tryz.f5) (fuel:=60) (next:=0) Tryz.func5 (by kernel_rfl) (by kernel_rfl) hm hl hsub hlt
   (A:=[.ag (acA k K lab n f m q g X)]) ⟨⟨_,rfl,acA_ok hs hq⟩,trivial⟩ (by kernel_rfl) (by show 1<=Tryz.f5.ntmps;decide +kernel) (by intro p hp;cases hp) (fun es er=>?_)
  refine⟨hvyC,⟨mixed,tabOk,sums_nil,noL⟩,rfl,?_⟩
  exact(hvy_ev k K.1 K.2.1 K.2.2 lab n f m q g X.1 X.2 es er id).trans (hvyT_eq _ _ _ _ _ _ _ _ _)
 | [],_,h=>simp[HvyF,pickM] at h
 | _::_::_,_,h=>simp[HvyF,pickM] at h
end Go.Proofs.YtckbmhegopjnmaaGreat

namespace Go.W
open Go
def wkF1:Nat->List Value:=lstF [.int .u8 5] 0 1
def wkF2:Nat->List Value:=lstF [.int .u8 5,.int .u8 0] 0 1
noncomputable def wk12T:Option Value :=
 req (okY 1 wkF1) (req (okY 2 wkF2) (bif raE (lsB 1 wkF1)==0 then bif (raA (lsB 1 wkF1)).k==5 then some (.bool (raE (lsB 2 wkF2)==7)) else some (.bool false) else some (.bool false)))
theorem raE_yes {L:List Nat} (h:isRd L):raE L=0:=by unfold raE;rw[hide_eq,raB_yes h,if_pos rfl]
theorem raE_no {L:List Nat} (h:¬isRd L):raE L=7:=by unfold raE;rw[hide_eq,raB_no h,if_neg (by decide)]
def acW:AR:=⟨5,zR,⟨#[]⟩,0,fun _=>0,0,fun _=>zR,0,(0,0)⟩
theorem acW_right:Right acW:=.inr (.inr (.inr (.inr ⟨rfl,rfl,rfl,rfl,rfl,rfl,rfl⟩)))
theorem wk12T_eq:wk12T=some (.bool true):=by
 have e1:lsB 1 wkF1=[5]:=by decide +kernel
 have e2:lsB 2 wkF2=[5,0]:=by decide +kernel
 have o1:okY 1 wkF1=true:=okY_iff.2 fun j hj=>by
  have:j=0:=by omega
  subst this;decide +kernel
 have o2:okY 2 wkF2=true:=okY_iff.2 fun j hj=>by
  have:j=0∨j=1:=by omega
  rcases this with rfl | rfl<;>decide +kernel
 have hw:Wsl acW:=fun j hj=>absurd hj (Nat.not_lt_zero _)
 have hr:isRd [5]:=⟨acW,acW_right,hw,rfl⟩
 have hn:¬isRd [5,0]:=by
  rintro ⟨a,ha,hwa,e⟩
  have:=(wr0_uni (s:=[0]) (t:=[]) acW_right ha hw hwa (by rw[e];rfl)).2
  cases this
 have hk:(raA [5]).k=5:=(raA_of acW_right hw rfl).1.symm
 unfold wk12T
 rw[e1,e2,o1,o2,req_true rfl,req_true rfl,raE_yes hr,raE_no hn,hk];rfl
def Wk12F:List Value->Option (Bool×Value)
 | []=>some (true,.bool true)
 | _=>none
end Go.W

namespace Go.Proofs.YtckbmhegopjnmaaGreat
set_option maxRecDepth 100000
open Go.W
noncomputable def wk12S:Sums:=[(14,.me (RacF 64 26))]
theorem wk12S_ok:SumsOk Tryz.prog wk12S:=sums_consM ard_msum sums_nil
noncomputable def wk12C:Cfg:=⟨tab,wk12S,26,[]⟩
theorem wk12Ok:CfgOk Tryz.prog wk12C (bodyOf Tryz.f11):=⟨mixed,tabOk,wk12S_ok,noL⟩
theorem wk12_ev:fnS wk12C 60 Tryz.f11 (bodyOf Tryz.f11) []=wk12T:=by kernel_rfl
theorem wk12_sum:Sum Tryz.prog 11 Wk12F:=by
 refine sum_of wk12Ok Tryz.func11 (by kernel_rfl) (by kernel_rfl) rfl (fuel:=60) fun args v h hpl=>?_
 unfold Wk12F at h
 split at h
 ·simp only[Option.some.injEq,Prod.mk.injEq] at h
  obtain ⟨_,rfl⟩:=h
  exact⟨Nat.zero_le _,wk12_ev.trans wk12T_eq,rfl⟩
 ·simp at h
end Go.Proofs.YtckbmhegopjnmaaGreat

namespace Go.Proofs.YtckbmhegopjnmaaGreat
set_option maxRecDepth 100000
open Go.W
def tpC:Cfg:=⟨tab,[],7,[]⟩
theorem tp_ev (n:Nat) (f:Nat->List Value) (es:Nat->Nat) (id:Nat):fnMS tpC 60 Tryz.f18 (bodyOf Tryz.f18) (cArgs [.sl kP9 n f] 0) (cMem es [.sl kP9 n f] 0) 0 id =
  req (Nat.ble n n&&true) (req (szOk n 72) (req (Nat.ble n n) (some (nSl id n,rw9 26 id n (sg9 n f))))):=by kernel_rfl
theorem tp_msum:MSum Tryz.prog 18 (TpF 26):=by
 refine msum_of (fuel:=60) (next:=0) (C:=tpC) (c:=bodyOf Tryz.f18) ⟨mixed,tabOk,sums_nil,noL⟩ Tryz.func18 (by kernel_rfl) (by kernel_rfl) rfl fun vs mm id v l hpick hlt=>?_
 match vs,hpick with
 | [a],hpick =>
  obtain ⟨hc,rfl,rfl⟩:=pick_one hpick
  simp only[Bool.and_eq_true] at hc
  obtain ⟨ha,hs⟩:=hc
  generalize hqa:srcB mm kP9 a=qa at ha hs ⊢
  obtain ⟨ok1,n,f⟩:=qa
  simp only at ha hs ⊢
  subst ha
  refine⟨[.sl kP9 n f],⟨hqa,trivial⟩,by show 1<=Tryz.f18.ntmps;decide +kernel,.inr ⟨_,rfl⟩,fun es=>?_⟩
  exact(tp_ev n f es id).trans (by rw[bE (Nat.le_refl n),hs];rfl)
 | [],h=>simp[TpF,pickM] at h
 | _::_::_,h=>simp[TpF,pickM] at h
def rpS:Sums:=[(42,CkF)]
theorem rpS_ok:SumsOk Tryz.prog rpS:=sums_cons ck_sum sums_nil
def rpC0:Cfg:=⟨tab,rpS,16,[]⟩
theorem rp_at:codeAt [1,0,1,0] (bodyOf Tryz.f23)=some (.loop (loopAt [1,0,1,0] (bodyOf Tryz.f23))):=by kernel_rfl
def rpNt:List Nat:=[0,2,3]
def rpNi:List Nat:=[1500000]
def rpSt (n:Nat) (f:Nat->List Value) (e0:Nat) (i:Int):St:=⟨[(0,aSl 0 n),(2,.bool false),(3,i64 i)],[(1500000,⟨.row kP9 n f,e0,false⟩)],2⟩
theorem rp_r (n:Nat) (V:Nat->RP) (e0 k:Nat):roundS rpC0 60 [1,0,1,0,0] (loopAt [1,0,1,0] (bodyOf Tryz.f23)) rpNt rpNi 2 rpNt rpNi 2 (rpSt n (ptF V) e0 (k:Int)) =
  bif decide ((k:Int)<(n:Int)) then rdR k n (req (isPt (ptV (V (0+k)))) (bif !(ckR (unPt (ptV (V (0+k))))) then some (.ret,rpSt n (ptF V) e0 (k:Int)) else some (.normal,rpSt n (ptF V) e0 (IntKind.i64.wrap ((k:Int)+1)))))
  else some (.exit 0,rpSt n (ptF V) e0 (k:Int)):=by kernel_rfl
theorem rp_step {n:Nat} {V:Nat->RP} {e0 k:Nat} (hn:n<=1000) (hV:∀j,j<n->okR (V j)) (hk:k<n):roundS rpC0 60 [1,0,1,0,0] (loopAt [1,0,1,0] (bodyOf Tryz.f23)) rpNt rpNi 2 rpNt rpNi 2 (rpSt n (ptF V) e0 (k:Int)) =
  bif ckR (V k) then some (.normal,rpSt n (ptF V) e0 ((k+1:Nat):Int)) else some (.ret,rpSt n (ptF V) e0 (k:Int)):=by
 refine(rp_r n V e0 k).trans ?_
 rw[decide_eq_true (by omega),cond_true,rdR_eq hk,isPt_ptV,req_true rfl,Nat.zero_add,unPt_ptV (hV k hk),wrap_i64 (by omega)]
 cases ckR (V k)<;>rfl
theorem rp_ok {n:Nat} {V:Nat->RP} {e0:Nat} (hn:n<=1000) (hV:∀j,j<n->okR (V j)) (hb:∀i,i<n->ckR (V i)=true):LoopOk Tryz.prog 16 (loopAt [1,0,1,0] (bodyOf Tryz.f23)) (atSt rpNt rpNi 2 (rpSt n (ptF V) e0 0) (.exit 0) (rpSt n (ptF V) e0 (n:Int))):=by
 refine loopE (fun _=>rpC0) n (fun _ _=>⟨mixed,tabOk,rpS_ok,noL⟩) (fun _=>rfl) rp_at (m:=60) (nt:=rpNt) (ni:=rpNi) (et:=rpNt) (ei:=rpNi) (nx:=2) (ex:=2) (fun k=>rpSt n (ptF V) e0 (k:Int)) rfl (by intro h;cases h) ?_ ?_
 ·intro k hk
  exact⟨_,(rp_step hn hV hk).trans (by rw[hb k hk,cond_true]),stEq_refl rfl⟩
 ·refine⟨_,?_,stEq_refl rfl⟩
  refine(rp_r n V e0 n).trans ?_
  rw[decide_eq_false (by omega),cond_false]
theorem rp_bad {n:Nat} {V:Nat->RP} {e0 k:Nat} (hn:n<=1000) (hV:∀j,j<n->okR (V j)) (hk:k<n) (hc:ckR (V k)=false) (hb:∀i,i<k->ckR (V i)=true):LoopOk Tryz.prog 16 (loopAt [1,0,1,0] (bodyOf Tryz.f23)) (atSt rpNt rpNi 2 (rpSt n (ptF V) e0 0) .ret (rpSt n (ptF V) e0 (k:Int))):=by
 refine loopE (fun _=>rpC0) k (fun _ _=>⟨mixed,tabOk,rpS_ok,noL⟩) (fun _=>rfl) rp_at (m:=60) (nt:=rpNt) (ni:=rpNi) (et:=rpNt) (ei:=rpNi) (nx:=2) (ex:=2) (fun k=>rpSt n (ptF V) e0 (k:Int)) rfl (by intro h;cases h) ?_ ?_
 ·intro i hi
  exact⟨_,(rp_step hn hV (by omega)).trans (by rw[hb i hi,cond_true]),stEq_refl rfl⟩
 ·exact⟨_,(rp_step hn hV hk).trans (by rw[hc,cond_false]),stEq_refl rfl⟩
noncomputable def rpC (n:Nat) (V:Nat->RP) (e0:Nat) (e:Exit) (k:Nat):Cfg:=⟨tab,rpS,16,[([1,0,1,0],atSt rpNt rpNi 2 (rpSt n (ptF V) e0 0) e (rpSt n (ptF V) e0 (k:Int)))]⟩
theorem rp_ev0 (n:Nat) (f:Nat->List Value) (V:Nat->RP) (k:Nat) (es:Nat->Nat) (id:Nat):fnMS (rpC n V (es 0) (.exit 0) k) 60 Tryz.f23 (bodyOf Tryz.f23) (cArgs [.sl kP9 n f] 0) (cMem es [.sl kP9 n f] 0) 0 id =
  req (stEq (rpSt n f (es 0) 0) (rpSt n (ptF V) (es 0) 0)) (some (.bool true,[])):=by kernel_rfl
theorem rp_ev1 (n:Nat) (f:Nat->List Value) (V:Nat->RP) (k:Nat) (es:Nat->Nat) (id:Nat):fnMS (rpC n V (es 0) .ret k) 60 Tryz.f23 (bodyOf Tryz.f23) (cArgs [.sl kP9 n f] 0) (cMem es [.sl kP9 n f] 0) 0 id =
  req (stEq (rpSt n f (es 0) 0) (rpSt n (ptF V) (es 0) 0)) (some (.bool false,[])):=by kernel_rfl
theorem rp_msum:MSum Tryz.prog 23 RpsF:=by
 intro w0 R fm w hm vs args' hl mm hsub id hlt v l hpick hnew
 match vs,hl,hpick with
 | [a],hl,hpick =>
  obtain ⟨hc,rfl,rfl⟩:=pick_one hpick
  simp only[Bool.and_eq_true] at hc
  obtain ⟨ha,hn⟩:=hc
  generalize hqa:srcB mm kP9 a=qa at ha hn ⊢
  obtain ⟨ok1,n,f⟩:=qa
  simp only at ha hn ⊢
  subst ha
  have hn1:=(okP_iff.1 hn).1
  have hV:∀j,j<n->okR (pA f j):=fun j hj=>(el_pt hn hj).2
  refine msum_at (c:=bodyOf Tryz.f23) (fuel:=60) (next:=0) Tryz.func23 (by kernel_rfl) (by kernel_rfl) hm hl hsub hlt (A:=[.sl kP9 n f]) ⟨hqa,trivial⟩ (by show 1<=Tryz.f23.ntmps;decide +kernel) (.inl rfl) hnew (fun es=>?_)
  cases hal:alP (pA f) n with
  | true =>
   refine⟨rpC n (pA f) (es 0) (.exit 0) n,⟨mixed,tabOk,rpS_ok,oneL (rp_ok hn1 hV (alP_iff.1 hal))⟩,rfl,?_⟩
   exact(rp_ev0 n f _ n es id).trans (req_true (stEq_mk rfl (mRow (row_pt hn) mNil)))
  | false =>
   obtain ⟨k,hk,hc,hb⟩:=first_no hal
   refine⟨rpC n (pA f) (es 0) .ret k,⟨mixed,tabOk,rpS_ok,oneL (rp_bad hn1 hV hk hc hb)⟩,rfl,?_⟩
   exact(rp_ev1 n f _ k es id).trans (req_true (stEq_mk rfl (mRow (row_pt hn) mNil)))
 | [],_,h=>simp[RpsF,pickM] at h
 | _::_::_,_,h=>simp[RpsF,pickM] at h
end Go.Proofs.YtckbmhegopjnmaaGreat

namespace Go.Proofs.YtckbmhegopjnmaaGreat
set_option maxRecDepth 100000
open Go.W
noncomputable def twaC:Cfg:=⟨tab,[(18,TpF 26)],14,[]⟩
theorem twa_ev (k g:Int) (i:Bool) (x y n m c r:Nat) (lab:ByteArray) (f h:Nat->List Value) (es:Nat->TypeId) (er:Nat->Nat->TypeId) (id:Nat) :
  fnX twaC 60 Tryz.f6 (bodyOf Tryz.f6) (cArgsX [.ag (acA k (i,x,y) lab n f m h g (c,r))] 0) (cMemX es er [.ag (acA k (i,x,y) lab n f m h g (c,r))]) 0 id =
  req (Nat.ble n n&&true) (req (szOk n 32) (req (whN m&&szOk m 72) (req (Nat.ble n n) (req (Nat.ble m m) (some (acV k (i,x,y) lab (nSk id 0 n) (nSk id 1 m) g (c,r),rwA 64 26 id n (sg32 n f) m (sg9 m (sg9 m h)))))))):=by kernel_rfl
theorem twa_msum:MSum Tryz.prog 6 (TwaF 64 26):=by
 intro w0 R fm w hm vs args' hl mm hsub id hlt v l hpick hnew
 match vs,hl,hpick with
 | [a],hl,hpick =>
  obtain ⟨hc,rfl,rfl⟩:=pick_one hpick
  obtain ⟨k,K,lab,s,c,g,X,n,f,m,q,ea,oK,oX,oX',hs,o1,hq,o2,eA,eS,eC⟩:=isA_more hc
  rw[eA,eS,eC] at hnew ⊢
  clear eA eS eC hc hpick
  subst ea
  refine msum_atX (c:=bodyOf Tryz.f6) (fuel:=60) (next:=0) Tryz.func6 (by kernel_rfl) (by kernel_rfl) hm hl hsub hlt
   (A:=[.ag (acA k K lab n f m q g X)]) ⟨⟨_,rfl,acA_ok hs hq⟩,trivial⟩ (by kernel_rfl) (by show 1<=Tryz.f6.ntmps;decide +kernel) (fun p hp=>(hnew p hp).1 ?_) (fun es er=>?_)
  ·rcases List.mem_cons.1 hp with rfl | hp
   ·exact⟨by show nid id 0<=nid id 1;unfold nid;omega,by show nid id 1<nid id 8;unfold nid;omega⟩
   ·rcases List.mem_cons.1 hp with rfl | hp
    ·exact⟨Nat.le_refl _,by show nid id 0<nid id 8;unfold nid;omega⟩
    ·cases hp
  refine⟨twaC,⟨mixed,tabOk,sums_consM tp_msum sums_nil,noL⟩,rfl,?_⟩
  refine(twa_ev k g K.1 K.2.1 K.2.2 n m X.1 X.2 lab f q es er id).trans ?_
  have hn:=(okSl_iff.1 o1).1
  have hm':=(okP_iff.1 o2).1
  rw[bE (Nat.le_refl n),bE (Nat.le_refl m),whN_true,show szOk n 32=true from by unfold szOk;rw[Nat.ble_eq];omega,show szOk m 72=true from by unfold szOk;rw[Nat.ble_eq];omega]
  rfl
 | [],_,h=>simp[TwaF,pickM] at h
 | _::_::_,_,h=>simp[TwaF,pickM] at h
end Go.Proofs.YtckbmhegopjnmaaGreat

namespace Go.Proofs.YtckbmhegopjnmaaGreat
set_option maxRecDepth 100000
open Go.W
def rnoC:Cfg:=⟨tab,[],18,[]⟩
theorem rno_ev (i:Bool) (x y:Nat):fnS rnoC 60 Tryz.f19 (bodyOf Tryz.f19) [ptV (i,x,y)]=nonT i x y:=by kernel_rfl
theorem rno_sum:Sum Tryz.prog 19 NonF:=by
 refine sum_of (C:=rnoC) (c:=bodyOf Tryz.f19) ⟨mixed,tabOk,sums_nil,noL⟩ Tryz.func19 (by kernel_rfl) (by kernel_rfl) rfl (fuel:=60) fun args v h _=>?_
 unfold NonF at h
 split at h
 ·simp only[Option.some.injEq,Prod.mk.injEq] at h
  obtain ⟨h1,rfl⟩:=h
  obtain ⟨⟨i,X,Y⟩,hp,rfl⟩:=isPt_some h1
  rw[unPt_ptV hp]
  exact⟨by show 1<=Tryz.f19.ntmps;decide +kernel,(rno_ev i X Y).trans (nonT_eq hp),rfl⟩
 ·simp at h
def rnpC:Cfg:=⟨tab,[],13,[]⟩
theorem rnp_ev (x y:Nat):fnS rnpC 60 Tryz.f20 (bodyOf Tryz.f20) [prV x y]=nprT x y:=by kernel_rfl
theorem rnp_sum:Sum Tryz.prog 20 NprF:=by
 refine sum_of (C:=rnpC) (c:=bodyOf Tryz.f20) ⟨mixed,tabOk,sums_nil,noL⟩ Tryz.func20 (by kernel_rfl) (by kernel_rfl) rfl (fuel:=60) fun args v h _=>?_
 unfold NprF at h
 split at h
 ·simp only[Option.some.injEq,Prod.mk.injEq] at h
  obtain ⟨h1,rfl⟩:=h
  obtain ⟨X,hp,rfl⟩:=isPrf_some h1
  rw[unPrf_prV hp.1 hp.2]
  exact⟨by show 1<=Tryz.f20.ntmps;decide +kernel,(rnp_ev X.1 X.2).trans (nprT_eq hp.1 hp.2),rfl⟩
 ·simp at h
def rfuC:Cfg:=⟨tab,[(42,CkF)],10,[]⟩
theorem rfu_ev (i:Bool) (x y:Nat):fnS rfuC 60 Tryz.f21 (bodyOf Tryz.f21) [ptV (i,x,y)]=bif !i then req (isPt (ptV (i,x,y))) (some (.bool (ckR (unPt (ptV (i,x,y)))))) else some (.bool false):=by kernel_rfl
theorem rfu_sum:Sum Tryz.prog 21 FulF:=by
 refine sum_of (C:=rfuC) (c:=bodyOf Tryz.f21) ⟨mixed,tabOk,sums_cons ck_sum sums_nil,noL⟩ Tryz.func21 (by kernel_rfl) (by kernel_rfl) rfl (fuel:=60) fun args v h _=>?_
 unfold FulF at h
 split at h
 ·simp only[Option.some.injEq,Prod.mk.injEq] at h
  obtain ⟨h1,rfl⟩:=h
  obtain ⟨⟨i,X,Y⟩,hp,rfl⟩:=isPt_some h1
  refine⟨by show 1<=Tryz.f21.ntmps;decide +kernel,(rfu_ev i X Y).trans ?_,rfl⟩
  rw[isPt_ptV,unPt_ptV hp,req_true rfl]
  cases i<;>rfl
 ·simp at h
noncomputable def rcaS:Sums:=[(19,NonF),(20,NprF),(21,FulF),(22,lLbF),(23,RpsF),(24,RblF)]
theorem rcaS_ok:SumsOk Tryz.prog rcaS:=sums_cons rno_sum (sums_cons rnp_sum (sums_cons rfu_sum (sums_cons lb_sum (sums_consM rp_msum (sums_cons rbl_sum sums_nil)))))
noncomputable def rcaC:Cfg:=⟨tab,rcaS,149,[]⟩
theorem rca_ev (i:Bool) (x y:Nat) (lab:ByteArray) (n:Nat) (f:Nat->List Value) (m:Nat) (h:Nat->List Value) (g:Int) (c r:Nat) (es:Nat->TypeId) (er:Nat->Nat->TypeId) (id:Nat) :
  ∀k:Int,fnX rcaC 60 Tryz.f7 (bodyOf Tryz.f7) (cArgsX [.ag (acA k (i,x,y) lab n f m h g (c,r))] 0) (cMemX es er [.ag (acA k (i,x,y) lab n f m h g (c,r))]) 0 id =
  rckT k i x y lab n m h g c r
 | .negSucc j=>by kernel_rfl
 | .ofNat 0=>by kernel_rfl
 | .ofNat 1=>by kernel_rfl
 | .ofNat 2=>by kernel_rfl
 | .ofNat 3=>by kernel_rfl
 | .ofNat 4=>by kernel_rfl
 | .ofNat 5=>by kernel_rfl
 | .ofNat (j+6)=>by kernel_rfl
theorem rca_msum:MSum Tryz.prog 7 CkeF:=by
 intro w0 R fm w hm vs args' hl mm hsub id hlt v l hpick hnew
 match vs,hl,hpick with
 | [a],hl,hpick =>
  obtain ⟨hc,rfl,rfl⟩:=pick_one hpick
  simp only[Bool.and_eq_true] at hc
  obtain ⟨hc,hz⟩:=hc
  obtain ⟨k,K,lab,s,c,g,X,n,f,m,q,ea,oK,oX,oX',hs,o1,hq,o2,eA⟩:=isA_some hc
  rw[eA] at hz ⊢
  clear eA hc
  subst ea
  refine msum_atX (c:=bodyOf Tryz.f7) (fuel:=60) (next:=0) Tryz.func7 (by kernel_rfl) (by kernel_rfl) hm hl hsub hlt
   (A:=[.ag (acA k K lab n f m q g X)]) ⟨⟨_,rfl,acA_ok hs hq⟩,trivial⟩ (by kernel_rfl) (by show 1<=Tryz.f7.ntmps;decide +kernel) (by intro p hp;cases hp) (fun es er=>?_)
  refine⟨rcaC,⟨mixed,tabOk,rcaS_ok,noL⟩,rfl,?_⟩
  exact(rca_ev K.1 K.2.1 K.2.2 lab n f m q g X.1 X.2 es er id k).trans (rckT_eq oK oX oX' (okSl_iff.1 o1).1 o2 (Nat.le_of_ble_eq_true hz) k)
 | [],_,h=>simp[CkeF,pickM] at h
 | _::_::_,_,h=>simp[CkeF,pickM] at h
end Go.Proofs.YtckbmhegopjnmaaGreat

namespace Go.Proofs.YtckbmhegopjnmaaGreat
set_option maxRecDepth 100000
open Go.W
theorem rpbA_msum:MSum Tryz.prog 34 (RPbF 5):=MSum_sub rby_msum (RPbF_sub _)
noncomputable def rwbS:Sums:=[(33,BytesF),(34,RPbF 5),(35,PtpF 5)]
theorem rwbS_ok:SumsOk Tryz.prog rwbS:=sums_cons BytesR_sum (sums_consM rpbA_msum (sums_consM rpp_msum sums_nil))
noncomputable def rwbC0:Cfg:=⟨tab,rwbS,111,[]⟩
theorem rwb_ev1 (g:Int) (i:Bool) (x y n m c r:Nat) (lab:ByteArray) (f h:Nat->List Value) (es:Nat->TypeId) (er:Nat->Nat->TypeId) (id:Nat) :
  fnMS rwbC0 60 Tryz.f13 (bodyOf Tryz.f13) (cArgsX [.ag (acA 1 (i,x,y) lab n f m h g (c,r))] 0) (cMemX es er [.ag (acA 1 (i,x,y) lab n f m h g (c,r))]) 0 id=rwT1 5 id i x y lab c r:=by kernel_rfl
theorem rwb_ev3 (g:Int) (i:Bool) (x y n m c r:Nat) (lab:ByteArray) (f h:Nat->List Value) (es:Nat->TypeId) (er:Nat->Nat->TypeId) (id:Nat) :
  fnMS rwbC0 60 Tryz.f13 (bodyOf Tryz.f13) (cArgsX [.ag (acA 3 (i,x,y) lab n f m h g (c,r))] 0) (cMemX es er [.ag (acA 3 (i,x,y) lab n f m h g (c,r))]) 0 id=rwT3 5 id g i x y c r:=by kernel_rfl
theorem rwb_ev4 (g:Int) (i:Bool) (x y n m c r:Nat) (lab:ByteArray) (f h:Nat->List Value) (es:Nat->TypeId) (er:Nat->Nat->TypeId) (id:Nat) :
  fnMS rwbC0 60 Tryz.f13 (bodyOf Tryz.f13) (cArgsX [.ag (acA 4 (i,x,y) lab n f m h g (c,r))] 0) (cMemX es er [.ag (acA 4 (i,x,y) lab n f m h g (c,r))]) 0 id=rwT4 5 id i x y c r:=by kernel_rfl
theorem rwb_ev5 (g:Int) (i:Bool) (x y n m c r:Nat) (lab:ByteArray) (f h:Nat->List Value) (es:Nat->TypeId) (er:Nat->Nat->TypeId) (id:Nat) :
  fnMS rwbC0 60 Tryz.f13 (bodyOf Tryz.f13) (cArgsX [.ag (acA 5 (i,x,y) lab n f m h g (c,r))] 0) (cMemX es er [.ag (acA 5 (i,x,y) lab n f m h g (c,r))]) 0 id=rwT5 5 id c r:=by kernel_rfl
def rwbP1:List Nat:=[1,1,1,0,1,0,1,1,1,0,1,0,1,0]
def rwbP2:List Nat:=[1,1,1,0,1,0,1,1,1,0,1,1,1,1,0]
def rwbN1:List Nat:=[1,3,6]
def rwbN2:List Nat:=[1,3,7]
def rwbI1:Ren:=[(0,0),(agId 0 11,agId 0 11),(agId 0 12,agId 0 12),(nid 31 0,nid 45 0)]
def rwbE1:Ren:=[(0,0),(agId 0 11,agId 0 11),(agId 0 12,agId 0 12),(nid 31 0,nid 31 0)]
def rwbI2:Ren:=[(0,0),(agId 0 11,agId 0 11),(agId 0 12,agId 0 12),(nid 40 0,nid 55 0)]
def rwbE2:Ren:=[(0,0),(agId 0 11,agId 0 11),(agId 0 12,agId 0 12),(nid 40 0,nid 40 0)]
theorem rwb_at1:codeAt rwbP1 (bodyOf Tryz.f13)=some (.loop (loopAt rwbP1 (bodyOf Tryz.f13))):=by kernel_rfl
theorem rwb_at2:codeAt rwbP2 (bodyOf Tryz.f13)=some (.loop (loopAt rwbP2 (bodyOf Tryz.f13))):=by kernel_rfl
theorem rwb_r1 (i:Bool) (x y n m c r:Nat) (g:Int) (lab:ByteArray) (S:Nat->Nat) (V:Nat->RP) (e0 e1 L:Nat) (F:Nat->List Value) (j:Nat) :
  roundS rwbC0 60 (rwbP1++[0]) (loopAt rwbP1 (bodyOf Tryz.f13)) rwbN1 rwbI1 34 rwbN1 rwbE1 34 (bySt 32 5 6 31 34 i x y n m c r g lab (slF S) (ptF V) e0 e1 L F (j:Int)) =
  bif decide ((j:Int)<(n:Int)) then rdR j n (apN L 32 (some (.normal,bySt 32 5 6 31 34 i x y n m c r g lab (slF S) (ptF V) e0 e1 (L+32) (appF L F (lstF (slC (S (0+j))) 0 1)) (IntKind.i64.wrap ((j:Int)+1)))))
  else some (.exit 1,bySt 32 5 6 31 34 i x y n m c r g lab (slF S) (ptF V) e0 e1 L F (j:Int)):=by kernel_rfl
theorem rwb_r2 (i:Bool) (x y n m c r:Nat) (g:Int) (lab:ByteArray) (S:Nat->Nat) (V:Nat->RP) (e0 e1 L:Nat) (F:Nat->List Value) (j:Nat) :
  roundS rwbC0 60 (rwbP2++[0]) (loopAt rwbP2 (bodyOf Tryz.f13)) rwbN2 rwbI2 43 rwbN2 rwbE2 43 (bySt 32 5 7 40 43 i x y n m c r g lab (slF S) (ptF V) e0 e1 L F (j:Int)) =
  bif decide ((j:Int)<(m:Int)) then rdR j m (req (isPt (ptV (V (0+j)))) (req (Nat.ble (pbL (unPt (ptV (V (0+j))))) (pbL (unPt (ptV (V (0+j)))))&&true) (apN L (pbL (unPt (ptV (V (0+j))))) (some (.normal,bySt 32 5 7 40 43 i x y n m c r g lab (slF S) (ptF V) e0 e1 (L+pbL (unPt (ptV (V (0+j))))) (appF L F (sgF (pbL (unPt (ptV (V (0+j))))) (pbR (unPt (ptV (V (0+j))))))) (IntKind.i64.wrap ((j:Int)+1)))))))
  else some (.exit 3,bySt 32 5 7 40 43 i x y n m c r g lab (slF S) (ptF V) e0 e1 L F (j:Int)):=by kernel_rfl
theorem rwb_l1 {i:Bool} {x y n m c r:Nat} {g:Int} {lab:ByteArray} {S:Nat->Nat} {V:Nat->RP} {e0 e1:Nat} (hn:n<=8) :
  LoopOk Tryz.prog 111 (loopAt rwbP1 (bodyOf Tryz.f13)) (atSt rwbN1 rwbE1 34 (bySt 32 5 6 31 34 i x y n m c r g lab (slF S) (ptF V) e0 e1 (1+1) (liF (l0A n)) 0) (.exit 1) (bySt 32 5 6 31 34 i x y n m c r g lab (slF S) (ptF V) e0 e1 (2+32*n) (liF (l0A n++syS S n)) (n:Int))):=by
 refine loopE (fun _=>rwbC0) n (fun _ _=>⟨mixed,tabOk,rwbS_ok,noL⟩) (fun _=>rfl) rwb_at1 (m:=60) (nt:=rwbN1) (ni:=rwbI1) (et:=rwbN1) (ei:=rwbE1) (nx:=34) (ex:=34) (fun k=>bySt 32 5 6 31 34 i x y n m c r g lab (slF S) (ptF V) e0 e1 (2+32*k) (liF (l0A n++syS S k)) (k:Int)) (by show bySt _ _ _ _ _ _ _ _ _ _ _ _ _ _ _ _ _ _ _ _ _=bySt _ _ _ _ _ _ _ _ _ _ _ _ _ _ _ _ _ _ _ _ _;rw[show syS S 0=[] from rfl,List.append_nil];rfl) (by intro h;cases h) ?_ ?_
 ·intro k hk
  refine⟨bySt 32 5 6 31 34 i x y n m c r g lab (slF S) (ptF V) e0 e1 (2+32*k+32) (appF (2+32*k) (liF (l0A n++syS S k)) (lstF (slC (S k)) 0 1)) ((k+1:Nat):Int),?_,?_⟩
  ·refine(rwb_r1 i x y n m c r g lab S V e0 e1 _ _ k).trans ?_
   rw[decide_eq_true (by omega),cond_true,rdR_eq hk,apN_eq (by omega),Nat.zero_add,wrap_i64 (by omega)];rfl
  ·refine by_eq (fun _ _=>rfl) (fun _ _=>rfl) ?_
   have h1:Holds (2+32*k) (liF (l0A n++syS S k)) (l0A n++syS S k):=by
    have:=rep_li (l0A n++syS S k)
    rw[List.length_append,syS_len,show(l0A n).length=2 from rfl] at this;exact this
   have h2:=rep_app h1 (holds_sl (S k))
   rw[List.append_assoc] at h2
   exact rep_row h2
 ·refine⟨_,?_,stEq_refl rfl⟩
  refine(rwb_r1 i x y n m c r g lab S V e0 e1 _ _ n).trans ?_
  rw[decide_eq_false (by omega),cond_false]
theorem rwb_l2 {i:Bool} {x y n m c r:Nat} {g:Int} {lab:ByteArray} {S:Nat->Nat} {V:Nat->RP} {e0 e1:Nat} (hn:n<=8) (hm:m<=64) (hV:∀j,j<m->okR (V j)) :
  LoopOk Tryz.prog 111 (loopAt rwbP2 (bodyOf Tryz.f13)) (atSt rwbN2 rwbE2 43 (bySt 32 5 7 40 43 i x y n m c r g lab (slF S) (ptF V) e0 e1 (2+32*n+1) (liF (l1A n S m)) 0) (.exit 3) (bySt 32 5 7 40 43 i x y n m c r g lab (slF S) (ptF V) e0 e1 (2+32*n+1+pyL V m) (liF (l1A n S m++pyS V m)) (m:Int))):=by
 refine loopE (fun _=>rwbC0) m (fun _ _=>⟨mixed,tabOk,rwbS_ok,noL⟩) (fun _=>rfl) rwb_at2 (m:=60) (nt:=rwbN2) (ni:=rwbI2) (et:=rwbN2) (ei:=rwbE2) (nx:=43) (ex:=43) (fun k=>bySt 32 5 7 40 43 i x y n m c r g lab (slF S) (ptF V) e0 e1 (2+32*n+1+pyL V k) (liF (l1A n S m++pyS V k)) (k:Int)) (by show bySt _ _ _ _ _ _ _ _ _ _ _ _ _ _ _ _ _ _ _ _ _=bySt _ _ _ _ _ _ _ _ _ _ _ _ _ _ _ _ _ _ _ _ _;rw[show pyS V 0=[] from rfl,List.append_nil];rfl) (by intro h;cases h) ?_ ?_
 ·intro k hk
  have hl:=pyL_le V k
  have hp:=pbL_le (V k)
  refine⟨bySt 32 5 7 40 43 i x y n m c r g lab (slF S) (ptF V) e0 e1 (2+32*n+1+pyL V k+pbL (V k)) (appF (2+32*n+1+pyL V k) (liF (l1A n S m++pyS V k)) (sgF (pbL (V k)) (pbR (V k)))) ((k+1:Nat):Int),?_,?_⟩
  ·refine(rwb_r2 i x y n m c r g lab S V e0 e1 _ _ k).trans ?_
   rw[decide_eq_true (by omega),cond_true,rdR_eq hk,Nat.zero_add,isPt_ptV,req_true rfl,unPt_ptV (hV k hk),Nat.ble_eq_true_of_le (Nat.le_refl _),req_true (b:=true&&true) rfl,apN_eq (by omega),wrap_i64 (by omega)];rfl
  ·rw[show 2+32*n+1+pyL V (k+1)=2+32*n+1+pyL V k+pbL (V k) from by rw[pyL];omega]
   refine by_eq (fun _ _=>rfl) (fun _ _=>rfl) ?_
   have h1:Holds (2+32*n+1+pyL V k) (liF (l1A n S m++pyS V k)) (l1A n S m++pyS V k):=by
    have:=rep_li (l1A n S m++pyS V k)
    rw[List.length_append,pyS_len,l1A_len] at this;exact this
   have h2:=rep_app h1 (rep_sg (pbL (V k)) (rep_pb (V k)))
   rw[List.append_assoc] at h2
   exact rep_row h2
 ·refine⟨_,?_,stEq_refl rfl⟩
  refine(rwb_r2 i x y n m c r g lab S V e0 e1 _ _ m).trans ?_
  rw[decide_eq_false (by omega),cond_false]
noncomputable def rwbC2 (i:Bool) (x y n m c r:Nat) (g:Int) (lab:ByteArray) (S:Nat->Nat) (V:Nat->RP) (e0 e1:Nat) (L1:Nat) (F0 F1:Nat->List Value) (L2:Nat) (F2:Nat->List Value) (L3:Nat) (F3:Nat->List Value):Cfg :=
 ⟨tab,rwbS,111,[(rwbP1,atSt rwbN1 rwbE1 34 (bySt 32 5 6 31 34 i x y n m c r g lab (slF S) (ptF V) e0 e1 (1+1) F0 0) (.exit 1) (bySt 32 5 6 31 34 i x y n m c r g lab (slF S) (ptF V) e0 e1 L1 F1 (n:Int))),
  (rwbP2,atSt rwbN2 rwbE2 43 (bySt 32 5 7 40 43 i x y n m c r g lab (slF S) (ptF V) e0 e1 L2 F2 0) (.exit 3) (bySt 32 5 7 40 43 i x y n m c r g lab (slF S) (ptF V) e0 e1 L3 F3 (m:Int)))]⟩
theorem rwb_ev2 (g:Int) (i:Bool) (x y n m c r:Nat) (lab:ByteArray) (f h:Nat->List Value) (S:Nat->Nat) (V:Nat->RP) (L1:Nat) (F0 F1:Nat->List Value) (L2:Nat) (F2:Nat->List Value) (L3:Nat) (F3:Nat->List Value) (es:Nat->TypeId) (er:Nat->Nat->TypeId) (id:Nat) :
  fnMS (rwbC2 i x y n m c r g lab S V (es (agId 0 11)) (es (agId 0 12)) L1 F0 F1 L2 F2 L3 F3) 60 Tryz.f13 (bodyOf Tryz.f13) (cArgsX [.ag (acA 2 (i,x,y) lab n f m h g (c,r))] 0) (cMemX es er [.ag (acA 2 (i,x,y) lab n f m h g (c,r))]) 0 id =
  qN2 c r (req (stEq (bySt 32 5 6 31 34 i x y n m c r g lab f h (es (agId 0 11)) (es (agId 0 12)) (1+1) (appF 1 (b1 2) (b1 (n:Int))) 0) (bySt 32 5 6 31 34 i x y n m c r g lab (slF S) (ptF V) (es (agId 0 11)) (es (agId 0 12)) (1+1) F0 0))
   (apN L1 1 (req (stEq (bySt 32 5 7 40 43 i x y n m c r g lab (slF S) (ptF V) (es (agId 0 11)) (es (agId 0 12)) (L1+1) (appF L1 F1 (b1 (m:Int))) 0) (bySt 32 5 7 40 43 i x y n m c r g lab (slF S) (ptF V) (es (agId 0 11)) (es (agId 0 12)) L2 F2 0)) (ouN 5 id L3 F3)))):=by kernel_rfl
theorem rwb_msum:MSum Tryz.prog 13 (RwbF 5):=by
 intro w0 R fm w hm vs args' hl mm hsub id hlt v l hpick hnew
 match vs,hl,hpick with
 | [a],hl,hpick =>
  obtain ⟨hc,rfl,rfl⟩:=pick_one hpick
  simp only[Bool.and_eq_true] at hc
  obtain ⟨⟨hc,hz⟩,h0⟩:=hc
  obtain ⟨k,K,lab,s,c,g,X,n,f,m,q,ea,oK,oX,oX',hs,o1,hq,o2,eA⟩:=isA_some hc
  rw[eA] at hz h0 hnew ⊢
  have h0:=of_decide_eq_true h0
  clear eA hc hpick
  subst ea
  obtain ⟨i,x,y⟩:=K
  obtain ⟨c,r⟩:=X
  have fin:∀(L:Nat) (F:Nat->List Value),Holds L F (wr0 ⟨k,(i,x,y),lab,n,slA f,m,pA q,g,(c,r)⟩)->(∀es er,∃C,CfgOk Tryz.prog C (bodyOf Tryz.f13)∧C.n=Tryz.f13.ntmps∧fnMS C 60 Tryz.f13 (bodyOf Tryz.f13) (cArgsX [.ag (acA k (i,x,y) lab n f m q g (c,r))] 0) (cMemX es er [.ag (acA k (i,x,y) lab n f m q g (c,r))]) 0 id=some (nSl id L,rw1 5 id L F)) ->
    Invokes Tryz.prog 13 args'.toArray w fun v' w'=>∃R':Nat->Pl->Prop,(∀i p,R i p->R' i p)∧V2 R' (nSl id (wrL ⟨k,(i,x,y),lab,n,slA f,m,pA q,g,(c,r)⟩)) v'∧MRel w0 R' (memF fm (rw1 5 id (wrL ⟨k,(i,x,y),lab,n,slA f,m,pA q,g,(c,r)⟩) (liF (wrA ⟨k,(i,x,y),lab,n,slA f,m,pA q,g,(c,r)⟩)))) w':=by
   intro L F hH hev
   have eL:wrL ⟨k,(i,x,y),lab,n,slA f,m,pA q,g,(c,r)⟩=L:=by rw[wrL_eq,wrA_ok h0,<-hH.1]
   rw[eL,wrA_ok h0]
   refine invokes_eqv (f:=F) (rep_row hH) ?_
   exact msum_atV (c:=bodyOf Tryz.f13) (fuel:=60) (next:=0) Tryz.func13 (by kernel_rfl) (by kernel_rfl) hm hl hsub hlt
    (A:=[.ag (acA k (i,x,y) lab n f m q g (c,r))]) ⟨⟨_,rfl,acA_ok hs hq⟩,trivial⟩ (by kernel_rfl) (by show 1<=Tryz.f13.ntmps;decide +kernel) (.inr ⟨_,rfl⟩) (fun p hp=>by
     rcases List.mem_cons.1 hp with rfl | hp
     ·have h9:=hnew _ (List.mem_cons_self ..)
      exact h9
     ·cases hp) hev
  have hR:=ckE_iff.1 h0
  rcases hR with⟨hk,hK,hl1,hn,hm',hg,hX⟩ | ⟨hk,hK,hl1,hg,hX,hn,hm1,hm2,hV,hI⟩ | ⟨hk,hl1,hn,hm',hg1,hg2,hK,hX1,hX2⟩ | ⟨hk,hl1,hn,hm',hg,hK,hX1,hX2⟩ | ⟨hk,hK,hl1,hn,hm',hg,hX⟩
  ·simp only at hk hl1
   subst hk
   refine fin _ _ ?_ fun es er=>⟨rwbC0,⟨mixed,tabOk,rwbS_ok,noL⟩,rfl,(rwb_ev1 g i x y n m c r lab f q es er id).trans (rwT1_eq oK _ _ _ _ _)⟩
   rw[wr0_1 rfl]
   have:=lbl_size hl1
   exact holds_pp (rep_sg _ (holds_pt1 (i,x,y) (holds_b1 (k:=1) (by decide)))) (rep_sg _ (rep_str lab)) (by omega)
  ·simp only at hk hn hm1 hm2
   subst hk
   refine fin (2+32*n+1+pyL (pA q) m) (liF (l1A n (slA f) m++pyS (pA q) m)) ?_ fun es er=>⟨rwbC2 i x y n m c r g lab (slA f) (pA q) (es (agId 0 11)) (es (agId 0 12)) (2+32*n) (liF (l0A n)) (liF (l0A n++syS (slA f) n)) (2+32*n+1) (liF (l1A n (slA f) m)) (2+32*n+1+pyL (pA q) m) (liF (l1A n (slA f) m++pyS (pA q) m)),⟨mixed,tabOk,rwbS_ok,twoL (rwb_l1 hn) (rwb_l2 hn hm2 (fun j hj=>(el_pt o2 hj).2))⟩,rfl,?_⟩
   ·rw[wr0_2 rfl]
    have:=rep_li (l1A n (slA f) m++pyS (pA q) m)
    rw[List.length_append,pyS_len,l1A_len] at this;exact this
   ·refine(rwb_ev2 g i x y n m c r lab f q (slA f) (pA q) _ _ _ _ _ _ _ es er id).trans ?_
    rw[qN2_eq]
    refine(req_true (by_eq (row_sl o1) (row_pt o2) (rep_row (rep_app (holds_b1 (k:=2) (by decide)) (holds_b1 (k:=n) (by omega)))))).trans ?_
    rw[apN_eq (by omega)]
    refine(req_true (by_eq (fun _ _=>rfl) (fun _ _=>rfl) ?_)).trans (by rw[ouN_eq])
    have h1:Holds (2+32*n) (liF (l0A n++syS (slA f) n)) (l0A n++syS (slA f) n):=by
     have:=rep_li (l0A n++syS (slA f) n)
     rw[List.length_append,syS_len,show(l0A n).length=2 from rfl] at this;exact this
    exact rep_row (rep_app h1 (holds_b1 (k:=m) (by omega)))
  ·simp only at hk hg1 hg2
   subst hk
   refine fin _ _ ?_ fun es er=>⟨rwbC0,⟨mixed,tabOk,rwbS_ok,noL⟩,rfl,(rwb_ev3 g i x y n m c r lab f q es er id).trans (rwT3_eq oK _ _ _ _ _)⟩
   rw[wr0_3 rfl]
   obtain ⟨g',rfl⟩:=Int.eq_ofNat_of_zero_le (show 0<=g by omega)
   exact holds_pf (holds_pt1 (i,x,y) (rep_app (holds_b1 (k:=3) (by decide)) (holds_b1 (k:=g') (by omega)))) oX oX'
  ·simp only at hk
   subst hk
   refine fin _ _ ?_ fun es er=>⟨rwbC0,⟨mixed,tabOk,rwbS_ok,noL⟩,rfl,(rwb_ev4 g i x y n m c r lab f q es er id).trans (rwT4_eq oK _ _ _ _)⟩
   rw[wr0_4 rfl]
   exact holds_pf (holds_pt1 (i,x,y) (holds_b1 (k:=4) (by decide))) oX oX'
  ·simp only at hk
   subst hk
   refine fin _ _ ?_ fun es er=>⟨rwbC0,⟨mixed,tabOk,rwbS_ok,noL⟩,rfl,(rwb_ev5 g i x y n m c r lab f q es er id).trans (rwT5_eq _ _ _ _)⟩
   exact holds_5 _ rfl
 | [],_,h=>simp[RwbF,pickM] at h
 | _::_::_,_,h=>simp[RwbF,pickM] at h
end Go.Proofs.YtckbmhegopjnmaaGreat

namespace Go.W
open Go
def gVa (A:AR):Value:=acV A.k A.K A.l (bsS A.n) (bsC A.m) A.g A.X
def gMe (n:Nat) (f:Nat->List Value) (m:Nat) (h:Nat->List Value):Nat->Option Blk:=look [bsR 0 n f,bcR 0 m h]
noncomputable def okG (A:AR) (f h:Nat->List Value):Bool:=isA (gMe A.n f A.m h) (gVa A)
def unG (A:AR) (f h:Nat->List Value):AR:=unA (gMe A.n f A.m h) (gVa A)
noncomputable def okGs (A:AR) (f h:Nat->List Value):Bool:=okG A f h&&Nat.ble (unG A f h).l.size 1000000
theorem unG_l (A:AR) (f h:Nat->List Value):(unG A f h).l=A.l:=rfl
theorem okG_eq {A:AR} {f h:Nat->List Value} (h1:okSl A.n f=true) (h2:okP A.m h=true):okG A f h=true :=
 isA_ac (src_bs 0 0 A.n A.m f h).1 (by rw[okSl_sg];exact h1) (src_bs 0 0 A.n A.m f h).2 (by rw[okP_sg];exact h2)
theorem unG_eq {A:AR} {f h:Nat->List Value} (hK:okR A.K) (hX:A.X.1<2^256) (hX':A.X.2<2^256):unG A f h=⟨A.k,A.K,A.l,A.n,slA f,A.m,pA h,A.g,A.X⟩:=by
 have:=unA_ac (k:=A.k) (lab:=A.l) (g:=A.g) hK hX hX' (src_bs 0 0 A.n A.m f h).1 (src_bs 0 0 A.n A.m f h).2
 rw[slA_sg,pA_sg] at this;exact this
theorem unG_arg {A:AR} (hA:ActO A) {f h:Nat->List Value} (hf:slA f=slA (slF A.S)) (hh:pA h=pA (ptF A.V)):unG A f h=A:=by
 obtain ⟨hK,hX,hX',hS,hV⟩:=hA
 rw[unG_eq hK hX hX',hf,hh,show slA (slF A.S)=A.S from funext fun j=>slA_slF (hS j),show pA (ptF A.V)=A.V from funext fun j=>pA_pt (hV j)]
def awG (A:AR):Bool:=true&&(isPt (ptV A.K)&&(true&&(true&&(isPrf (prV A.X.1 A.X.2)&&(whN A.n&&whN A.m)))))
theorem awG_eq (A:AR):awG A=true:=by unfold awG;rw[isPt_ptV,isPrf_prV,whN_true,whN_true];rfl
theorem right_ok {a:AR} (h:Right a) (hw:Wsl a):okR a.K∧a.X.1<2^256∧a.X.2<2^256∧a.n<=8∧a.m<=64∧a.l.size<=96∧(∀j,j<a.n->a.S j<2^256)∧∀j,j<a.m->okR (a.V j):=by
 have p:=pN_256
 rcases h with⟨_,c1,c2,c3,c4,c5,c6⟩ | ⟨_,c1,c2,c3,c4,c5,c6,c7,c8,c9⟩ | ⟨_,c1,c2,c3,c4,c5,c6,c7,c8⟩ | ⟨_,c1,c2,c3,c4,c6,c7,c8⟩ | ⟨_,c1,c2,c3,c4,c5,c6⟩
 ·exact⟨ck_okR (ful_ck c1),by rw[c6];decide,by rw[c6];decide,by omega,by omega,lbl_size c2,hw,fun j hj=>by omega⟩
 ·exact⟨by rw[c1];exact okR_z,by rw[c4];decide,by rw[c4];decide,c5,c7,by rw[c2];decide,hw,fun j hj=>ck_okR (alP_iff.1 c8 j hj)⟩
 ·exact⟨ck_okR (ful_ck c6),by omega,by omega,by omega,by omega,by rw[c1];decide,hw,fun j hj=>by omega⟩
 ·exact⟨ck_okR (ful_ck c6),by omega,by omega,by omega,by omega,by rw[c1];decide,hw,fun j hj=>by omega⟩
 ·exact⟨by rw[c1];exact okR_z,by rw[c6];decide,by rw[c6];decide,by omega,by omega,by rw[c2];decide,hw,fun j hj=>by omega⟩
theorem okG_small {A:AR} (hn:A.n<=1000) (hm:A.m<=1000):okG A (slF A.S) (ptF A.V)=true:=okG_eq (okSl_slF hn) (okP_pt hm)
theorem unG_right {a:AR} (h:Right a) (hw:Wsl a):Sam (unG a (slF a.S) (ptF a.V)) a:=by
 obtain ⟨h1,h2,h3,_,_,_,h4,h5⟩:=right_ok h hw
 rw[unG_eq h1 h2 h3]
 exact⟨rfl,rfl,rfl,rfl,fun j hj=>slA_slF (h4 j hj),rfl,fun j hj=>pA_pt (h5 j hj),rfl,rfl⟩
theorem zeR_un:unG zeR (slF zeR.S) (ptF zeR.V)=zeR:=by
 refine unG_arg ⟨okR_z,by decide,by decide,fun _=>(show(0:Nat)<2^256 by decide),fun _=>okR_z⟩ rfl rfl
theorem okG_read (L:List Nat):okG (raA L) (slF (raA L).S) (ptF (raA L).V)=true:=by
 by_cases h:isRd L
 ·obtain ⟨h1,h2,_⟩:=raA_is h
  obtain ⟨_,_,_,h3,h4,_⟩:=right_ok h1 h2
  exact okG_small (by omega) (by omega)
 ·rw[raA_no h];exact okG_small (by decide) (by decide)
theorem unG_read (L:List Nat):Sam (unG (raA L) (slF (raA L).S) (ptF (raA L).V)) (raA L):=by
 by_cases h:isRd L
 ·obtain ⟨h1,h2,_⟩:=raA_is h
  exact unG_right h1 h2
 ·rw[raA_no h,zeR_un];exact Sam.refl _
def tt12:Option Value:=some (.bool true)
def ff12:Option Value:=some (.bool false)
noncomputable def lsW (A:AR):List Nat:=lsB (wrL A) (sgF (wrL A) (liF (wrA A)))
noncomputable def rdcW (A:AR):Bool:=whN (wrL A)&&Nat.ble (wrL A) 1000000&&okY (wrL A) (sgF (wrL A) (liF (wrA A)))
def twS (A:AR):Nat->List Value:=sg32 A.n (sg32 A.n (slF A.S))
def twC (A:AR):Nat->List Value:=sg9 A.m (sg9 A.m (sg9 A.m (ptF A.V)))
noncomputable def exTb (A:AR) (U UI:AR):Option Value :=
 req (okGs A (slF A.S) (ptF A.V)&&decide (ckE U=0)) (req (whN (wrL UI)&&whN (wrL U)&&Nat.ble (wrL UI) 9223372036854775807) (bif !(eqR (wrL UI) (sgF (wrL UI) (liF (wrA UI))) (wrL U) (sgF (wrL U) (liF (wrA U)))) then ff12 else
  req (rdcW UI) (bif raE (lsW UI)==0 then req (okG (raA (lsW UI)) (slF (raA (lsW UI)).S) (ptF (raA (lsW UI)).V)&&okG A (slF A.S) (ptF A.V)) (bif smA (unG (raA (lsW UI)) (slF (raA (lsW UI)).S) (ptF (raA (lsW UI)).V)) U then tt12 else ff12) else ff12)))
noncomputable def exTa (A:AR) (U UI:AR):Option Value :=
 req (awG A) (bif hvyB U then tt12 else req (okG A (slF A.S) (ptF A.V)) (req (okGs A (slF A.S) (ptF A.V)) (req (okGs A (twS A) (twC A)) (req (okGs A (twS A) (twC A))
  (bif ckE UI != ckE U then ff12 else bif ckE UI != ckE U then ff12 else req (okG A (twS A) (twC A)&&okG A (slF A.S) (ptF A.V)) (bif !(smA UI U) then ff12 else
   bif ckE U != 0 then (bif ((wrL UI:Nat):Int)==0 then tt12 else ff12) else exTb A U UI))))))
noncomputable def exT (A:AR):Option Value:=exTa A (unG A (slF A.S) (ptF A.V)) (unG A (twS A) (twC A))
end Go.W

namespace Go.W
open Go
theorem pyB_byte (K:RP):∀b∈pyB K,b<256:=by
 intro b hb
 unfold pyB at hb
 split at hb
 ·rw[List.mem_singleton.1 hb];decide
 ·rcases List.mem_cons.1 hb with rfl | hb
  ·omega
  ·exact beL_byte _ _ b hb
theorem txB_byte (s:ByteArray):∀b∈txB s,b<256:=by
 intro b hb
 unfold txB at hb
 obtain ⟨x,_,rfl⟩:=List.mem_map.1 hb
 exact x.toNat_lt
theorem syS_byte (S:Nat->Nat):∀n,∀b∈syS S n,b<256
 | 0,b,h=>by cases h
 | n+1,b,h=>by
  rw[syS] at h
  rcases List.mem_append.1 h with h | h
  ·exact syS_byte S n b h
  ·exact beL_byte _ _ b h
theorem pyS_byte (V:Nat->RP):∀n,∀b∈pyS V n,b<256
 | 0,b,h=>by cases h
 | n+1,b,h=>by
  rw[pyS] at h
  rcases List.mem_append.1 h with h | h
  ·exact pyS_byte V n b h
  ·exact pyB_byte _ b h
theorem app_byte {l k:List Nat} (h1:∀b∈l,b<256) (h2:∀b∈k,b<256):∀b∈l++k,b<256:=fun b hb=>by
 rcases List.mem_append.1 hb with h | h
 ·exact h1 b h
 ·exact h2 b h
theorem one_byte {x:Nat} (h:x<256):∀b∈[x],b<256:=fun b hb=>by rw[List.mem_singleton.1 hb];exact h
theorem wr0_byte {a:AR} (h:Right a):(∀b∈wr0 a,b<256)∧(wr0 a).length<=4000:=by
 have pl:∀K:RP,(pyB K).length<=33:=fun K=>by rw[pyB_len];exact pbL_le K
 rcases h with⟨k,c1,c2,c3⟩ | ⟨k,c1,c2,c3,c4,c5,c6,c7,c8⟩ | ⟨k,c1,c2,c3,c4,c5,c6⟩ | ⟨k,c⟩ | ⟨k,c⟩
 ·rw[wr0_1 k]
  refine⟨app_byte (app_byte (one_byte (by decide)) (pyB_byte _)) (app_byte (beL_byte _ _) (txB_byte _)),?_⟩
  have:=pl a.K
  have:=lbl_size c2
  simp only[List.length_append,beL_len,txB_len,List.length_cons,List.length_nil];omega
 ·rw[wr0_2 k]
  unfold l1A l0A
  refine⟨app_byte (app_byte (app_byte (app_byte (one_byte (by decide)) (one_byte (by omega))) (syS_byte _ _)) (one_byte (by omega))) (pyS_byte _ _),?_⟩
  have:=pyL_le a.V a.m
  simp only[List.length_append,syS_len,pyS_len,List.length_cons,List.length_nil];omega
 ·rw[wr0_3 k]
  refine⟨app_byte (app_byte (app_byte (one_byte (by decide)) (one_byte (by omega))) (pyB_byte _)) (app_byte (beL_byte _ _) (beL_byte _ _)),?_⟩
  have:=pl a.K
  simp only[List.length_append,beL_len,List.length_cons,List.length_nil];omega
 ·rw[wr0_4 k]
  refine⟨app_byte (app_byte (one_byte (by decide)) (pyB_byte _)) (app_byte (beL_byte _ _) (beL_byte _ _)),?_⟩
  have:=pl a.K
  simp only[List.length_append,beL_len,List.length_cons,List.length_nil];omega
 ·have e:wr0 a=[5]:=by unfold wr0;rw[k];rfl
  rw[e];exact⟨one_byte (by decide),by decide⟩
theorem okY_li {l:List Nat} (h:∀b∈l,b<256) (n:Nat) (hn:n<=l.length):okY n (liF l)=true:=okY_iff.2 fun j hj=>by
 rw[bI_li,List.getD_eq_getElem?_getD,List.getElem?_eq_getElem (by omega),Option.getD_some]
 have:=h _ (List.getElem_mem (show j<l.length by omega))
 omega
theorem okY_sgF {n m:Nat} {f:Nat->List Value} (h:okY n f=true):okY n (sgF m f)=true:=okY_iff.2 fun j hj=>by
 rw[bI_sg];exact okY_iff.1 h j hj
theorem lsB_sg {n m:Nat} {f:Nat->List Value} {l:List Nat} (h:okY n f=true) (hf:Holds n f l):lsB n (sgF m f)=l:=rep_uniq (rep_ls (okY_sgF h)) (rep_sg m hf) rfl
theorem wrA_byte (A:AR):(∀b∈wrA A,b<256)∧(wrA A).length<=4000:=by
 by_cases h:ckE A=0
 ·rw[wrA_ok h];exact wr0_byte (ckE_iff.1 h)
 ·rw[wrA_no h];exact⟨fun b hb=>(by cases hb),(by decide)⟩
theorem holds_wr (A:AR):Holds (wrL A) (liF (wrA A)) (wrA A)∧okY (wrL A) (liF (wrA A))=true:=by
 rw[wrL_eq]
 exact⟨rep_li _,okY_li (wrA_byte A).1 _ (Nat.le_refl _)⟩
theorem lsW_eq (A:AR):lsW A=wrA A:=lsB_sg (holds_wr A).2 (holds_wr A).1
theorem rdcW_eq (A:AR):rdcW A=true:=by
 have:=(wrA_byte A).2
 unfold rdcW
 rw[whN_true,okY_sgF (holds_wr A).2,Nat.ble_eq_true_of_le (by rw[wrL_eq];omega)];rfl
theorem hvy_no {A:AR} (h:hvyB A=false):A.l.size<=500∧A.n<=70∧A.m<=70:=by
 unfold hvyB at h
 simp only[Bool.or_eq_false_iff,decide_eq_false_iff_not] at h
 omega
theorem arg_eqs {A:AR} (hA:ActO A):unG A (slF A.S) (ptF A.V)=A∧unG A (twS A) (twC A)=A:=by
 refine⟨unG_arg hA rfl rfl,unG_arg hA ?_ ?_⟩
 ·unfold twS;rw[slA_sg,slA_sg]
 ·unfold twC;rw[pA_sg,pA_sg,pA_sg]
theorem arg_oks {A:AR} (h:hvyB A=false):okG A (slF A.S) (ptF A.V)=true∧okGs A (slF A.S) (ptF A.V)=true∧okG A (twS A) (twC A)=true∧okGs A (twS A) (twC A)=true:=by
 obtain ⟨h1,h2,h3⟩:=hvy_no h
 have a1:okG A (slF A.S) (ptF A.V)=true:=okG_small (by omega) (by omega)
 have a2:okG A (twS A) (twC A)=true:=okG_eq (by unfold twS;rw[okSl_sg,okSl_sg];exact okSl_slF (by omega)) (by unfold twC;rw[okP_sg,okP_sg,okP_sg];exact okP_pt (by omega))
 refine⟨a1,?_,a2,?_⟩
 ·unfold okGs;rw[a1,unG_l,Nat.ble_eq_true_of_le (by omega)];rfl
 ·unfold okGs;rw[a2,unG_l,Nat.ble_eq_true_of_le (by omega)];rfl
theorem smA_self (A:AR):smA A A=true:=smA_iff.2 (Sam.refl A)
theorem read_wr {A:AR} (hA:ActO A) (hc:ckE A=0):raE (wrA A)=0∧smA (unG (raA (wrA A)) (slF (raA (wrA A)).S) (ptF (raA (wrA A)).V)) A=true∧Sam A (raA (wrA A)):=by
 have hR:=ckE_iff.1 hc
 have hw:Wsl A:=fun j _=>hA.2.2.2.1 j
 have hrd:isRd (wrA A):=⟨A,hR,hw,(wrA_ok hc).symm⟩
 have hs:Sam A (raA (wrA A)):=raA_of hR hw (wrA_ok hc).symm
 exact⟨raE_yes hrd,smA_iff.2 ((unG_read _).trans hs.symm),hs⟩
theorem exT_eq {A:AR} (hA:ActO A):exT A=some (.bool true):=by
 obtain ⟨u1,u2⟩:=arg_eqs hA
 unfold exT
 rw[u1,u2]
 unfold exTa
 rw[awG_eq,req_true rfl]
 cases hh:hvyB A with
 | true=>rfl
 | false =>
  obtain ⟨o1,o2,o3,o4⟩:=arg_oks hh
  rw[cond_false,o1,o2,o3,o4,req_true rfl,req_true rfl,req_true rfl,req_true rfl,bne_self_eq_false,cond_false,cond_false,req_true (b:=true&&true) rfl,smA_self,Bool.not_true,cond_false]
  by_cases hc:ckE A=0
  ·obtain ⟨r1,r2,_⟩:=read_wr hA hc
   unfold exTb
   rw[hc,lsW_eq,r1,r2,o1,o2,rdcW_eq,okG_read,whN_true,Nat.ble_eq_true_of_le (by rw[wrL_eq];have:=(wrA_byte A).2;omega),req_true (b:=true&&true&&true) rfl,req_true (b:=true&&true) rfl,eqR_iff.2 ⟨rfl,fun _ _=>rfl⟩];rfl
  ·have hz:wrL A=0:=by rw[wrL_eq,wrA_no hc];rfl
   rw[bne_iff_ne.2 hc,cond_true,hz];rfl
end Go.W

namespace Go.Proofs.YtckbmhegopjnmaaGreat
set_option maxRecDepth 100000
open Go.W
open Go.RowKit (Below)
noncomputable def aexS:Sums:=[(5,.me HvyF),(6,.me (TwaF 64 26)),(7,.me CkeF),(8,.me (BabF 5)),(9,.me CkeF),(10,.me ActF),(13,.me (RwbF 5)),(12,.me KbF),(14,.me (RacF 64 26)),(11,.pl Wk12F)]
noncomputable def aexC:Cfg:=⟨tab,aexS,62,[]⟩
theorem aex_ev (A:AR) (es:Nat->TypeId) (er:Nat->Nat->TypeId):fnA aexC 60 Tryz.f3 (bodyOf Tryz.f3) (cArgsX [.ag (acR A)] 0) (cMemX es er [.ag (acR A)]) 0=exT A:=by kernel_rfl
theorem aexS_ok:SumsOk Tryz.prog aexS:=sums_consM hvy_msum (sums_consM twa_msum (sums_consM rca_msum (sums_consM aby_msum (sums_consM ack_msum (sums_consM kac_msum (sums_consM rwb_msum (sums_consM kb_msum (sums_consM ard_msum (sums_cons wk12_sum sums_nil)))))))))
theorem aex_calls {v:Value} {A:AR} {W:World} (hv:ActW W A v) (hA:ActO A):Calls Tryz.prog 3 #[v] W fun e W'=>e=.returned (.bool true)∧Below W.heap.size W W' :=
 lawX_sound (fuel:=60) (next:=0) Tryz.func3 (by kernel_rfl) (args':=[v]) (LX_act (r:=[]) hv trivial) (shX_act (r:=[]) hv trivial) (by kernel_rfl) (GOk_nil _) (by show 1<=Tryz.f3.ntmps;decide +kernel) rfl nofun
  fun es er=>⟨aexC,⟨mixed,tabOk,aexS_ok,noL⟩,rfl,(aex_ev A es er).trans (exT_eq hA)⟩
end Go.Proofs.YtckbmhegopjnmaaGreat

namespace Go.W
open Go Go.RowKit Go.ChangeShapes Go.WideShapes Go.ChangeAt
section
variable {H:Type} {enc:TypeId×Value->H} {P:Program} {W:World} {r:Reach} {base b0:Nat} {held:Bool} {t:TypeId} {v:Value} {d:DataW H} {p:List MemPlace}
theorem open_actA {ti tb tn tu tp t8 t32 ts tg tl tr:TypeId} {fs fp fr:Array Field}
  (ht:P.underlying t=some (.struct fs)) (hfs:fs.toList.map (fun f=>(f.offset,f.type))=[(0,ti),(1,tp),(10,tg),(11,ts),(12,tl),(13,ti),(14,tr)])
  (hti:P.underlying ti=some (.int .i64)) (htp:P.underlying tp=some (.struct fp)) (hfp:fp.toList.map (fun f=>(f.offset,f.type))=[(0,tb),(1,tn),(5,tn)])
  (htb:P.underlying tb=some .bool) (htn:P.underlying tn=some (.array 4 tu)) (htu:P.underlying tu=some (.int .u64)) (htg:P.underlying tg=some .string)
  (hts:P.underlying ts=some (.slice t32)) (ht32:P.underlying t32=some (.array 32 t8)) (ht8:P.underlying t8=some (.int .u8)) (htl:P.underlying tl=some (.slice tp))
  (htr:P.underlying tr=some (.struct fr)) (hfr:fr.toList.map (fun f=>(f.offset,f.type))=[(0,tn),(4,tn)])
  (ci:P.cellsOf ti=1) (cp:P.cellsOf tp=9) (cb:P.cellsOf tb=1) (cn:P.cellsOf tn=4) (cu:P.cellsOf tu=1) (cg:P.cellsOf tg=1) (csl:P.cellsOf ts=1) (c32:P.cellsOf t32=32) (cb8:P.cellsOf t8=1) (cl:P.cellsOf tl=1) (cr:P.cellsOf tr=8) (ct:P.cellsOf t=22)
  (hv:Value.okWide P W r base t v) (h:DataW.Trod enc P W b0 (fun _=>true) held t v d p):∃A:AR,ActW W A v∧ActO A:=by
 obtain ⟨k,K,lab,s,c,g,X,n,m,S,V,e,_,hK,_,hs,hS,hc,hV,_,h1,h2⟩:=open_act ht hfs hti htp hfp htb htn htu htg hts ht32 ht8 htl htr hfr ci cp cb cn cu cg csl c32 cb8 cl cr ct hv h
 exact⟨⟨k,K,lab,n,S,m,V,g,X⟩,⟨s,c,e,hs,hc⟩,hK,h1,h2,hS,hV⟩
end
end Go.W
