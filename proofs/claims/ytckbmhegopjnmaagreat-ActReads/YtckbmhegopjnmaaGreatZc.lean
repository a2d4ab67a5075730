/-
  Several texts in one: Wq2 Wi Wr W8 W9 W10 W11 W12.
-/
import Derived.Test.YtckbmhegopjnmaaGreatZb
import Derived.Laws.RangeAny
import Derived.Laws.MakeOwn
import Derived.Lib.ConvBytes
import Derived.LoopN
import Derived.Scope
namespace Go.W
open Go.RowKit (Below)
section
variable {GL:Glob}{w0:Wb GL}{R:Nat->Pl->Prop}{fm:Nat->Option Blk}{w:World}
theorem MRel.freeze (h:MRel w0 R fm w){b:Nat}{ks:List CK}{n:Nat}{f:Nat->List Value}{e:TypeId}(hb:fm b=some ⟨.row ks n f,e,true⟩):
  ∃R':Nat->Pl->Prop,(∀i p,R i p->R' i p)∧(∀i p,R' i p->i<1000000000->R i p)∧MRel w0 R' (upd fm b ⟨.row ks n f,e,false⟩) w∧∀p bl,R b p->p.a=some bl->Frz R' bl:=by
 obtain ⟨p,hp,hc⟩:=memOk_row h hb
 have noOwn:∀bl,p.a=some bl->∀j q,R j q->q.a=some bl->∀blk,upd fm b ⟨.row ks n f,e,false⟩ j=some blk->blk.own=false:=by
  intro bl hpa j q hj hq blk hblk
  by_cases e1:b=j
  ·subst e1;rw[upd_same]at hblk;cases hblk;rfl
  ·rw[upd_ne _ _ e1]at hblk
   exact(h.inj b j p q bl hp hj hpa hq e1 _ hb rfl blk hblk).1
 refine⟨fun i q=>R i q∨∃bl,p.a=some bl∧i=1000000000+bl∧q=⟨some bl,0,0⟩,fun _ _=>.inl,?_,⟨h.below,?_,?_,?_,?_,?_,?_,?_⟩,?_⟩
 ·rintro i q (h1|⟨bl,_,rfl,_⟩) hlt
  ·exact h1
  ·omega
 ·rintro i q q' (h1|⟨bl,g1,rfl,rfl⟩) (h2|⟨bl',g2,g3,rfl⟩)
  ·exact h.func _ _ _ h1 h2
  ·subst g3
   have:=(h.fro _ _ h1 (Nat.le_add_right _ _)).1
   rw[this,Nat.add_sub_cancel_left]
  ·have:=(h.fro _ _ h2 (Nat.le_add_right _ _)).1
   rw[this,Nat.add_sub_cancel_left]
  ·have:bl=bl':=by omega
   rw[this]
 ·rintro i j q q' b2 hq hq' ha hb2 hne blk hblk hown blk' hblk'
  by_cases e1:b=i
  ·subst e1;rw[upd_same]at hblk;cases hblk;simp at hown
  ·rw[upd_ne _ _ e1]at hblk
   rcases hq with hq|⟨bl,g1,rfl,rfl⟩
   ·rcases hq' with hq' | ⟨bl,g1,rfl,rfl⟩
    ·by_cases e2:b=j
     ·subst e2
      have:=(h.inj _ _ _ _ _ hq hq' ha hb2 hne blk hblk hown _ hb).1
      simp at this
     ·rw[upd_ne _ _ e2]at hblk'
      exact h.inj _ _ _ _ _ hq hq' ha hb2 hne blk hblk hown blk' hblk'
    ·cases hb2
     have:=noOwn _ g1 i q hq ha blk (by rw[upd_ne _ _ e1];exact hblk)
     rw[this]at hown;simp at hown
   ·-- an own block whose number is a mark: none
    have h5:=h.mem _ _ hblk
    have h6:∃p,R (1000000000+bl) p:=by
     unfold MemOk at h5
     split at h5
     ·obtain ⟨_,q,_,_,h6,_⟩:=h5;exact⟨q,h6⟩
     ·obtain ⟨_,q,_,h6,_⟩:=h5;exact⟨q,h6⟩
     ·obtain ⟨p,h6,_⟩:=h5;exact⟨p,h6⟩
     ·obtain ⟨p,h6,_⟩:=h5;exact⟨_,h6⟩
     ·obtain ⟨p,h6,_⟩:=h5;exact⟨p,h6⟩
    obtain ⟨p6,h6⟩:=h6
    have h7:=h.fro _ _ h6 (Nat.le_add_right _ _)
    have:=h7.2 _ _ h6 rfl blk hblk
    rw[this]at hown;simp at hown
 ·intro i blk hi
  by_cases e1:b=i
  ·subst e1
   rw[upd_same]at hi
   cases hi
   refine⟨p,.inl hp,?_⟩
   cases hpa:p.a with
   | none=>rw[hpa]at hc;exact hc
   | some bl=>
    rw[hpa]at hc
    obtain ⟨cs,fz,g1,g2,_⟩:=hc
    exact⟨cs,fz,g1,LP_mono (fun _ _=>.inl) g2,fun ho=>by simp at ho⟩
  ·rw[upd_ne _ _ e1]at hi
   have hm1:=h.mem i blk hi
   unfold MemOk at hm1 ⊢
   split at hm1
   ·obtain ⟨p,q,b,k1,k2,k3⟩:=hm1;exact⟨p,q,b,.inl k1,.inl k2,k3⟩
   ·obtain ⟨p,q,k1,k2,k3⟩:=hm1;exact⟨p,q,.inl k1,.inl k2,k3⟩
   ·exact hm1.mono (fun _ _=>.inl) (fun _ _=>rfl) (fun _ _ _ _ _=>rfl)
   ·exact hm1.mono (fun _ _=>.inl) (fun _ _=>rfl)
   ·obtain ⟨p,k1,k2⟩:=hm1
    refine⟨p,.inl k1,?_⟩
    cases hpa:p.a with
    | none=>rw[hpa]at k2;exact k2
    | some b=>
     rw[hpa]at k2
     obtain ⟨cs',fz,k3,k4,k5⟩:=k2
     exact⟨cs',fz,k3,LP_mono (fun _ _=>.inl) k4,k5⟩
 ·rintro i q (h1|⟨bl,g1,rfl,rfl⟩) hvb
  ·by_cases e1:b=i
   ·subst e1;simp[upd_same]
   ·rw[upd_ne _ _ e1];exact h.dom _ _ h1 hvb
  ·omega
 ·rintro i q (h1|⟨bl,g1,rfl,rfl⟩) hge hvb
  ·exact h.anc _ _ h1 hge hvb
  ·omega
 ·rintro i q b2 (h1|⟨bl,g1,rfl,rfl⟩) hb2
  ·refine(h.there _ _ _ h1 hb2).mono (fun s pos hs=>?_) rfl
   by_cases e1:b=i
   ·subst e1;rw[hb]at hs;cases hs
   ·rw[upd_ne _ _ e1]
  ·cases hb2;exact .inl ((h.there _ _ _ hp g1).cells fun s pos hs=>by rw[hb]at hs;cases hs)
 ·rintro i q (h1|⟨bl,g1,rfl,rfl⟩) hge
  ·obtain ⟨h2,h3⟩:=h.fro i q h1 hge
   refine⟨h2,?_⟩
   rintro j q2 (h4|⟨bl,g1,rfl,rfl⟩) hq2 blk hblk
   ·by_cases e1:b=j
    ·subst e1;rw[upd_same]at hblk;cases hblk;rfl
    ·rw[upd_ne _ _ e1]at hblk;exact h3 j q2 h4 hq2 blk hblk
   ·by_cases e1:b=1000000000+bl
    ·rw[<-e1,upd_same]at hblk;cases hblk;rfl
    ·rw[upd_ne _ _ e1]at hblk
     cases ho:blk.own with
     | false=>rfl
     | true=>
      have h5:=h.mem _ _ hblk
      have h6:∃p,R (1000000000+bl) p:=by
       unfold MemOk at h5
       split at h5
       ·obtain ⟨_,q,_,_,h6,_⟩:=h5;exact⟨q,h6⟩
       ·obtain ⟨_,q,_,h6,_⟩:=h5;exact⟨q,h6⟩
       ·obtain ⟨p,h6,_⟩:=h5;exact⟨p,h6⟩
       ·obtain ⟨p,h6,_⟩:=h5;exact⟨_,h6⟩
       ·obtain ⟨p,h6,_⟩:=h5;exact⟨p,h6⟩
      obtain ⟨p6,h6⟩:=h6
      have:=(h.fro _ _ h6 (Nat.le_add_right _ _)).2 _ _ h6 rfl blk hblk
      rw[this]at ho;simp at ho
  ·refine⟨by rw[Nat.add_sub_cancel_left],?_⟩
   rintro j q2 (h4|⟨bl',g2,rfl,rfl⟩) hq2 blk hblk
   ·exact noOwn bl g1 j q2 h4 hq2 blk hblk
   ·by_cases e1:b=1000000000+bl'
    ·rw[<-e1,upd_same]at hblk;cases hblk;rfl
    ·rw[upd_ne _ _ e1]at hblk
     cases ho:blk.own with
     | false=>rfl
     | true=>
      have h5:=h.mem _ _ hblk
      have h6:∃p,R (1000000000+bl') p:=by
       unfold MemOk at h5
       split at h5
       ·obtain ⟨_,q,_,_,h6,_⟩:=h5;exact⟨q,h6⟩
       ·obtain ⟨_,q,_,h6,_⟩:=h5;exact⟨q,h6⟩
       ·obtain ⟨p,h6,_⟩:=h5;exact⟨p,h6⟩
       ·obtain ⟨p,h6,_⟩:=h5;exact⟨_,h6⟩
       ·obtain ⟨p,h6,_⟩:=h5;exact⟨p,h6⟩
      obtain ⟨p6,h6⟩:=h6
      have:=(h.fro _ _ h6 (Nat.le_add_right _ _)).2 _ _ h6 rfl blk hblk
      rw[this]at ho;simp at ho
 ·intro q bl hq hqa
  have:=h.func _ _ _ hq hp;subst this
  exact .inr ⟨bl,hqa,rfl,rfl⟩
theorem MRel.refam {i:Nat}{e:TypeId}(h:MRel w0 R (upd fm i ⟨.lst [],e,true⟩) w){ks:List CK}{n:Nat}{es:Nat->TypeId}{g:Nat->Nat×(Nat->List Value)}(hf:FamOk w0 R w i e true ks n es g):MRel w0 R (upd fm i ⟨.fam ks n es g,e,true⟩) w:=by
 refine⟨h.below,h.func,?_,?_,?_,h.anc,fun i1 p1 b1 h1 h2=>(h.there i1 p1 b1 h1 h2).mono (fun s pos hs=>by
  by_cases e1:i=i1
  ·subst e1;rw[upd_same]at hs;cases hs
  ·rw[upd_ne _ _ e1,upd_ne _ _ e1]) rfl,?_⟩
 ·intro i0 j0 p0 q0 b0 h5 h6 ha hb hne blk0 hblk0 hown0 blk1 hblk1
  by_cases e1:i=i0
  ·subst e1
   rw[upd_ne _ _ hne]at hblk1
   exact h.inj _ _ _ _ _ h5 h6 ha hb hne _ (upd_same _ _ _) rfl blk1 (by rw[upd_ne _ _ hne];exact hblk1)
  ·rw[upd_ne _ _ e1]at hblk0
   by_cases e2:i=j0
   ·subst e2
    have:=(h.inj _ _ _ _ _ h5 h6 ha hb hne blk0 (by rw[upd_ne _ _ e1];exact hblk0) hown0 _ (upd_same _ _ _)).1
    simp at this
   ·rw[upd_ne _ _ e2]at hblk1
    exact h.inj _ _ _ _ _ h5 h6 ha hb hne blk0 (by rw[upd_ne _ _ e1];exact hblk0) hown0 blk1 (by rw[upd_ne _ _ e2];exact hblk1)
 ·intro j blk hj
  by_cases e1:i=j
  ·subst e1;rw[upd_same]at hj;cases hj;exact hf
  ·rw[upd_ne _ _ e1]at hj
   exact h.mem j blk (by rw[upd_ne _ _ e1];exact hj)
 ·intro j q hj hvb
  by_cases e1:i=j
  ·subst e1;simp[upd_same]
  ·have:=h.dom j q hj hvb
   rw[upd_ne _ _ e1]at this ⊢;exact this
 ·intro i1 p1 h1 hge
  obtain ⟨h2,h3⟩:=h.fro i1 p1 h1 hge
  refine⟨h2,fun j q hj hq blk hblk=>?_⟩
  by_cases e1:i=j
  ·subst e1
   have:=h3 _ _ hj hq _ (upd_same _ _ _)
   simp at this
  ·rw[upd_ne _ _ e1]at hblk
   exact h3 _ _ hj hq blk (by rw[upd_ne _ _ e1];exact hblk)
end
section
variable {P:Program}{T:Tab}{GL:Glob}{w0:Wb GL}{w:World}{n:Nat}{R:Nat->Pl->Prop}{S:FS}{a:Act}
theorem sound_appF (hT:TabOk P T) (h:Rel w0 n R S a w){c:Call}{s x:Value}{t:Nat}{l:List Nat}(hts:c.argTypes.toList=t::l) (happ:appT T c.argTypes.toList=true) (hl:LR (V2 R) [s,x] (c.args.toList.map a.eval)){id:Nat}{r:Res}(hr:appFK T t s x id S.fm some none=some r) (ty:TypeId):
  ∃(R':Nat->Pl->Prop) (v':Value) (w':World),(∀i p,R i p->R' i p)∧(Builtin.append_ c.argTypes ty (c.args.map a.eval)).run P w=.ok v' w'∧V2 R' r.val v'∧MRel w0 R' (memF S.fm r.mem) w':=by
 obtain ⟨i,e,j,q,o,k1,k2,k3,k4,hq,ho,hsz,hby,hlt,hnone,hz1,hcase⟩:=appF_iff hr
 have hnone:=Option.isNone_iff_eq_none.1 hnone
 obtain ⟨dd,hd1,hd2,_⟩:=und_some hT k1
 have:=hd2 k2;subst this;rw[k3]at hd1
 obtain ⟨inf,hinf,hisz,hzer,hbyt⟩:=info_of hT k4
 obtain ⟨s',x',hargs,hvs,hvx⟩:=two_args hl
 obtain ⟨u,hl2,hu⟩:∃u,l=[u]∧∃d,P.underlying u=some d∧∀k,d≠.int k:=by
  rw[hts]at happ
  unfold appT at happ
  split at happ
  ·rename_i u0 u heq
   simp only[List.cons.injEq]at heq
   refine⟨u,heq.2,?_⟩
   cases hlk:look T u with
   | none=>rw[hlk]at happ;simp[oK]at happ
   | some i2=>
    rw[hlk]at happ
    obtain ⟨d,e1,e2,e3⟩:=und_some hT hlk
    refine⟨d,e1,fun k hk=>?_⟩
    simp only[oK,descK]at happ
    cases hst:i2.st with
    | true=>obtain ⟨fs,e4,_⟩:=e3 hst;rw[e4]at hk;cases hk
    | false=>
     have e4:=e2 hst
     rw[hst,cond_false]at happ
     rw[<-e4,hk]at happ
     simp at happ
  ·simp at happ
 subst hl2
 have h0:c.argTypes[0]?=some t:=by rw[<-Array.getElem?_toList,hts];rfl
 have h1:c.argTypes[1]?=some u:=by rw[<-Array.getElem?_toList,hts];rfl
 rw[hargs]
  -- the slice that is appended
 obtain ⟨off2,c2,l2,e2,own2,rfl,hb2,hget⟩:=oneSl_some hq
 obtain ⟨p2,hp2,hsl2⟩:=V2_slice hvx
 obtain ⟨b2',c2',hpa2,rfl⟩:=SlOk_some hsl2 (by omega)
 obtain ⟨p2',hp2',hcont2⟩:=memOk_lst h.m hb2
 have:=h.m.func _ _ _ hp2 hp2';subst this
 rw[hpa2]at hcont2
 obtain ⟨cs2,fz2,g1,g2,_⟩:=hcont2
 have g2:LP R l2 (cs2.toList.drop p2.d):=g2
 obtain ⟨v',g3,g4⟩:=LP_get g2 hget
 rw[List.getElem?_drop]at g3
 have hlen2:p2.d+off2<cs2.toList.length:=by
  rcases Nat.lt_or_ge (p2.d+off2) cs2.toList.length with h|h
  ·exact h
  ·rw[List.getElem?_eq_none h]at g3;simp at g3
 have hone:(cs2.toList.drop (p2.d+off2)).take 1=[v']:=by
  rw[List.drop_eq_getElem_cons hlen2]
  rw[List.getElem?_eq_getElem hlen2]at g3
  rw[Option.some.inj g3];rfl
 have hlen:∀w,(Builtin.lenOf (.slice (some ⟨b2',p2.d+off2,none⟩) 1 c2')).run P w=.ok 1 w:=fun w=>rfl
 have hsize:inf.size=1:=by rw[hisz];exact hsz
 have hfirst:∀w1:World,w1.heap[b2']?=some (.cells cs2 e2 fz2)->(Builtin.firstCells inf.size 1 (.slice (some ⟨b2',p2.d+off2,none⟩) 1 c2')).run P w1=.ok [v'].toArray w1:=by
  intro w1 hw1
  simp only[Builtin.firstCells,hsize,Nat.mul_one]
  rw[run_loads hw1 (by rw[List.length_drop];omega),hone]
 have hf0:=hfirst w g1
 have hfd:=hfirst w.drew g1
 have hfd:(Builtin.firstCells inf.size 1 (.slice (some ⟨b2',p2.d+off2,none⟩) 1 c2')).run P w.drew=.ok ([v']:List Value).toArray w.drew:=hfd
  -- its row
 obtain ⟨c3,hq2,hb3,hlo3,hn3,hc3⟩:=ownRow_some ho
 rw[hq2]at g4
 obtain ⟨p3,hp3,hsl3⟩:∃p,R o.num p∧SlOk ⟨o.num,0,none⟩ o.n c3 p v':=g4
 have hv1:∀cs,v'≠.agg cs∧∀cs,v'≠.tuple cs:=fun cs=>by
  obtain ⟨_,_,rfl⟩:=SlOk_sl hsl3
  exact⟨nofun,nofun⟩
 obtain ⟨R1,m1,m2,hm1,hfrz⟩:=h.m.freeze hb3
  -- what is known of it from there on
 have hrow:∀(R2:Nat->Pl->Prop) (w2:World),(∀i p,R1 i p->R2 i p)->(∀bl,p3.a=some bl->w2.heap[bl]?=w.heap[bl]?)->RowAt R2 w2 o.elem o.ks o.n o.g v':=by
  intro R2 w2 hR2 hw2
  obtain ⟨_,hcc,⟨bl,hpa3,rfl⟩|⟨hpa3,hn0,_,he5⟩⟩:=SlOk_loose hlo3 hsl3
  ·obtain ⟨cs3,fz3,z1,z2,z3,_⟩:=row_cells h.m hb3 hp3 hpa3
   refine .inr ⟨bl,p3.d,p3.c,cs3,fz3,rfl,by omega,hR2 _ _ (hfrz p3 bl hp3 hpa3),by rw[hw2 bl hpa3];exact z1,?_⟩
   have:=congrArg (List.take (o.n*o.ks.length)) z2
   rw[List.take_take,Nat.min_eq_left (Nat.mul_le_mul_right _ hn3),rowL_take o.ks o.g o.n o.tot 0 hn3]at this
   exact this
  ·exact .inl ⟨hn0,he5⟩
 have hnew3:(o.n=0∧Emp v')∨∃bl d m5 c5,v'=.slice (some ⟨bl,d,none⟩) m5 c5∧(w0.X bl∨w0.w.heap.size<=bl):=by
  obtain ⟨_,_,⟨bl3,hpa3,hv6⟩|⟨_,hn0,_,hv6⟩⟩:=SlOk_loose hlo3 hsl3
  ·exact .inr ⟨bl3,_,_,_,hv6,h.m.ownX hp3 hpa3 hb3 rfl⟩
  ·exact .inl ⟨hn0,hv6⟩
 have hid3:o.num≠nid id 0:=fun e3=>by rw[e3,hnone]at hb3;simp at hb3
 have hid1:upd S.fm o.num ⟨.row o.ks o.tot o.g,o.elem,false⟩ (nid id 0)=none:=by rw[upd_ne _ _ hid3];exact hnone
 have h3lt:∀bl,p3.a=some bl->bl<w.heap.size:=fun bl hb=>h.m.lt hp3 hb
  -- a new block
 have newBlk:∀(fm:Nat->Option Blk),MRel w0 R1 fm w->fm (nid id 0)=none->∀(olds:List Value) (ks:List CK) (tot C:Nat) (es:Nat->TypeId) (g:Nat->Nat×(Nat->List Value)),olds.length+1=tot->tot<=C->ks=o.ks->
   (∀jj,jj<olds.length->∃v,olds[jj]?=some v∧RowAt R1 w (es jj) ks (g jj).1 (g jj).2 v∧(((g jj).1=0∧Emp v)∨∃bl d m c,v=.slice (some ⟨bl,d,none⟩) m c∧(w0.X bl∨w0.w.heap.size<=bl)))->es olds.length=o.elem->g olds.length=(o.n,o.g)->
   ∃R':Nat->Pl->Prop,(∀i p,R1 i p->R' i p)∧V2 R' (.slice (some ⟨nid id 0,0,none⟩) tot tot) (.slice (some ⟨w.heap.size,0,none⟩) tot C)∧
    MRel w0 R' (upd fm (nid id 0) ⟨.fam ks tot es g,e,true⟩) (w.drew.alloc (.cells (olds.toArray++([v']:List Value).toArray++Builtin.zeroCells j.zer.cells (C-tot)) e)):=by
  intro fm hm hid olds ks tot C es g htot hC hks hold hes hgg
  subst hks
  have hm:=hm.world (w':=w.drew) (Below.refl w.heap.size w).drew
  have hal:=hm.alloc hid (nid_lt hlt (by omega)) (cap:=C) (c:=.lst []) (cs:=olds.toArray++([v']:List Value).toArray++Builtin.zeroCells j.zer.cells (C-tot)) (e:=e) (own:=true) nofun nofun nofun LP_nil (fun _ _=>by
   simp only[Array.size_append,List.size_toArray,zeroCells_size,List.length_cons,List.length_nil]
   have hz1:j.zer.cells.size=1:=by rw[<-Array.length_toList];exact hz1
   rw[hz1]
   show 0+C<=_
   omega)
  have hheap:∀bl,bl<w.heap.size->(w.drew.alloc (.cells (olds.toArray++([v']:List Value).toArray++Builtin.zeroCells j.zer.cells (C-tot)) e)).heap[bl]?=w.heap[bl]?:=fun bl hb=>Below.heap_alloc _ _ _ hb
  refine⟨_,fun _ _=>.inl,slice_V2 (nid_loose hlt (by omega)) (.inr ⟨rfl,rfl⟩) hC rfl,hal.refam ⟨⟨some w.heap.size,0,C⟩,.inr ⟨rfl,rfl⟩,olds.toArray++([v']:List Value).toArray++Builtin.zeroCells j.zer.cells (C-tot),(0,0),?_,?_,fun hx=>by simp at hx,fun _=>⟨rfl,.inr h.m.below.size,?_,?_⟩⟩⟩
  ·show(w.heap.push _)[w.heap.size]?=_
   simp
  ·intro jj hjj
   rw[Nat.zero_add]
   by_cases hj2:jj<olds.length
   ·obtain ⟨v,y1,y2,_⟩:=hold jj hj2
    refine⟨v,?_,y2.mono (fun _ _=>.inl) (fun b hb=>hheap b (hm.frz_lt hb))⟩
    simp only[Array.toList_append,List.append_assoc]
    rw[List.getElem?_append_left (by simpa using hj2)]
    simpa using y1
   ·have:jj=olds.length:=by omega
    subst this
    refine⟨v',?_,?_⟩
    ·simp only[Array.toList_append,List.append_assoc]
     rw[List.getElem?_append_right (by simp)]
     simp
    ·rw[hes,hgg]
     exact hrow _ _ (fun _ _=>.inl) (fun bl hb=>hheap bl (h3lt bl hb))
  ·intro _
   simp only[Array.size_append,List.size_toArray,zeroCells_size,List.length_cons,List.length_nil]
   have hz1:j.zer.cells.size=1:=by rw[<-Array.length_toList];exact hz1
   rw[hz1]
   show 0+C<=_
   omega
  ·intro jj hjj v5 hcell
   rw[Nat.zero_add]at hcell
   by_cases hj2:jj<olds.length
   ·obtain ⟨v,y1,_,y3⟩:=hold jj hj2
    simp only[Array.toList_append,List.append_assoc]at hcell
    rw[List.getElem?_append_left (by simpa using hj2)]at hcell
    have hcell:olds[jj]?=some v5:=by simpa using hcell
    rw[y1]at hcell
    rw[<-Option.some.inj hcell];exact y3
   ·have:jj=olds.length:=by omega
    subst this
    simp only[Array.toList_append,List.append_assoc]at hcell
    rw[List.getElem?_append_right (by simp)]at hcell
    have hcell:v'=v5:=by simpa using hcell
    rw[hgg,<-hcell];exact hnew3
 rcases hcase with⟨rfl,hso,rfl⟩|⟨b,m,cc,es,g,rfl,hb,hlo,hso,hbo,rfl⟩
 ·-- to nil
  have:=(V2_plain (R:=R) (v:=.slice none 0 0) rfl).1 hvs;subst this
  have hrun:=run_append_new (ty:=ty) hd1 h0 h1 hu hinf hzer (base:=none) (m:=0) (c:=0) (olds:=[]) (hlen w) hfd (by simp[Builtin.firstCells]) (by omega) (by rw[hbyt];exact hby) (by rw[hbyt,Nat.zero_add];exact szOk_le hso)
  obtain ⟨R',y1,y2,y3⟩:=newBlk _ hm1 hid1 [] o.ks 1 (grownCap w (0+1) 0 e) (fun _=>o.elem) (fun _=>(o.n,o.g)) rfl (by have:=grown_le w (0+1) 0 e;omega) rfl (fun jj hjj=>by simp at hjj) rfl rfl
  exact⟨R',_,_,fun i p hi=>y1 _ _ (m1 _ _ hi),hrun,y2,y3⟩
 ·have hbn:b≠nid id 0:=fun e3=>by rw[e3,hnone]at hb;simp at hb
  obtain ⟨p,hp,hsl⟩:=V2_slice hvs
  have hb1:upd S.fm o.num ⟨.row o.ks o.tot o.g,o.elem,false⟩ b=some ⟨.fam o.ks m es g,e,true⟩:=by rw[upd_ne _ _ (Ne.symm hbo)];exact hb
  have hmf:=hm1.forget hb1 nofun nofun
  have hdead:upd (upd S.fm o.num ⟨.row o.ks o.tot o.g,o.elem,false⟩) b ⟨.lst [],e,false⟩ (nid id 0)=none:=by rw[upd_ne _ _ hbn];exact hid1
  have hset:∀jj,jj<m->setN m o.elem es jj=es jj∧setN m (o.n,o.g) g jj=g jj:=fun jj hjj=>by unfold setN;rw[nbeq_ne (by omega)];exact⟨rfl,rfl⟩
  have hsetm:setN m o.elem es m=o.elem∧setN m (o.n,o.g) g m=(o.n,o.g):=by unfold setN;rw[Nat.beq_refl];exact⟨rfl,rfl⟩
  show ∃R' v' w',_∧_∧_∧MRel w0 R' (upd (upd (upd S.fm o.num _) b _) (nid id 0) _) w'
  obtain ⟨_,hcc,⟨bl,hpa,rfl⟩|⟨hpa,hm0,hc0,a0,rfl⟩⟩:=SlOk_loose hlo hsl
  ·obtain ⟨p',hp',hcont⟩:FamOk w0 R w b e true o.ks m es g:=h.m.mem b _ hb
   have:=h.m.func _ _ _ hp hp';subst this
   rw[hpa]at hcont
   obtain ⟨cs,fz,y1,y2,_,y4⟩:=hcont
   obtain ⟨rfl,hge,hroom,hnewr⟩:=y4 rfl
   have hcl:m<=(cs.toList.drop p.d).length:=by
    rw[List.length_drop]
    rcases Nat.eq_zero_or_pos m with h|h
    ·omega
    ·obtain ⟨v,z1,_⟩:=y2 (m-1) (by omega)
     rcases Nat.lt_or_ge (p.d+(m-1)) cs.toList.length with h2|h2
     ·omega
     ·rw[List.getElem?_eq_none h2]at z1;simp at z1
   have ecs:cs.toList.length=cs.size:=Array.length_toList
   by_cases hin:m+1<=p.c
   ·have hroom:=hroom (by omega)
    have hrun:=run_append_in (ty:=ty) hd1 h0 h1 hu hinf (base:=some ⟨bl,p.d,none⟩) (m:=m) (c:=p.c) (hlen w) hf0 hin
    have hst:=run_storeCells (P:=P) (e:=e) (b:=bl) (off:=p.d+m) ([v']:List Value) 0 w cs y1 (by simp only[List.length_cons,List.length_nil];omega) .zero (by intro u hu2;rw[List.mem_singleton]at hu2;subst hu2;exact⟨fun cs=>(hv1 cs).1,fun cs=>(hv1 cs).2 cs⟩)
    simp only[Nat.add_zero,List.length_cons,List.length_nil,Nat.zero_add]at hst
    simp only[addr_add,hsize,Nat.mul_one,hst,Result.andThen_ok]at hrun
    have hlb:p.d+m+1<=cs.toList.length:=by omega
    have hnew:∀jj,jj≠m->(cs.toList.take (p.d+m)++[v']++cs.toList.drop (p.d+m+1))[p.d+jj]?=cs.toList[p.d+jj]?:=by
     intro jj hjj
     have hl1:(cs.toList.take (p.d+m)).length=p.d+m:=by rw[List.length_take];omega
     rcases Nat.lt_or_ge jj m with h5|h5
     ·rw[List.append_assoc,List.getElem?_append_left (by rw[hl1];omega),List.getElem?_take_of_lt (by omega)]
     ·rw[List.getElem?_append_right (by rw[List.length_append,hl1,List.length_cons,List.length_nil];omega),List.getElem?_drop,List.length_append,hl1,List.length_cons,List.length_nil]
      congr 1;omega
    have hnewm:(cs.toList.take (p.d+m)++[v']++cs.toList.drop (p.d+m+1))[p.d+m]?=some v':=by
     have hl1:(cs.toList.take (p.d+m)).length=p.d+m:=by rw[List.length_take];omega
     rw[List.append_assoc,List.getElem?_append_right (by rw[hl1];exact Nat.le_refl _),hl1,Nat.sub_self];rfl
    have hns:(cs.toList.take (p.d+m)++[v']++cs.toList.drop (p.d+m+1)).toArray.size=cs.size:=by
     rw[List.size_toArray,List.length_append,List.length_append,List.length_take,List.length_drop,List.length_cons,List.length_nil];omega
    have hw:=hm1.write (i:=b) (blk:=⟨.fam o.ks m es g,e,true⟩) hb1 (m1 _ _ hp) hpa rfl y1 hge (c:=.lst []) (cs:=(cs.toList.take (p.d+m)++[v']++cs.toList.drop (p.d+m+1)).toArray) nofun nofun nofun LP_nil (fun _ _=>by rw[hns];exact hroom) .zero
    have hw2:=hw.forget (i:=b) (blk:=⟨.lst [],e,true⟩) (upd_same _ _ _) nofun nofun
    rw[upd_upd]at hw2
    have hw3:=hw2.rename (q:=p) hdead (nid_lt hlt (by omega)) (forget_free hm1 hb1 rfl (m1 _ _ hp) hpa e) (fun hf=>by have:=hm1.frz_own hf (m1 _ _ hp) hpa hb1;simp at this) hpa (setBlk_same (heap_lt y1)) .zero hge (c:=.lst []) nofun nofun nofun LP_nil (fun _ _=>by rw[hns];exact hroom)
    have hoth:∀b5,b5≠bl->(setBlk w bl (.cells (cs.toList.take (p.d+m)++[v']++cs.toList.drop (p.d+m+1)).toArray e (0,0))).heap[b5]?=w.heap[b5]?:=fun b5 hb5=>by
     simp only[setBlk];rw[Array.getElem?_setIfInBounds_ne (Ne.symm hb5)]
    refine⟨_,_,_,fun i p hi=>.inl (m1 _ _ hi),hrun,slice_V2 (nid_loose hlt (by omega)) (.inr ⟨rfl,rfl⟩) hin (by rw[hpa]),hw3.refam ⟨p,.inr ⟨rfl,rfl⟩,?_⟩⟩
    rw[hpa]
    refine⟨(cs.toList.take (p.d+m)++[v']++cs.toList.drop (p.d+m+1)).toArray,(0,0),setBlk_same (heap_lt y1),?_,fun hx=>by simp at hx,fun _=>⟨rfl,hge,fun _=>by rw[hns];exact hroom,fun jj hjj v5 hcell=>?_⟩⟩
    rotate_left
    ·rw[List.toList_toArray]at hcell
     by_cases hjm:jj=m
     ·subst hjm
      rw[hnewm]at hcell
      rw[hsetm.2,<-Option.some.inj hcell];exact hnew3
     ·rw[hnew jj hjm]at hcell
      rw[(hset jj (by omega)).2]
      exact hnewr jj (by omega) v5 hcell
    intro jj hjj
    rw[List.toList_toArray]
    by_cases hjm:jj=m
    ·subst hjm
     refine⟨v',hnewm,?_⟩
     rw[hsetm.1,hsetm.2]
     refine hrow _ _ (fun _ _=>.inl) (fun b3 hb3'=>hoth b3 ?_)
     rintro rfl
     have:=(h.m.inj _ _ _ _ _ hp hp3 hpa hb3' hbo _ hb rfl _ hb3).1
     simp at this
    ·obtain ⟨v,z1,z2⟩:=y2 jj (by omega)
     refine⟨v,by rw[hnew jj hjm];exact z1,?_⟩
     rw[(hset jj (by omega)).1,(hset jj (by omega)).2]
     refine z2.mono (fun _ _ hi=>.inl (m1 _ _ hi)) (fun b5 hb5=>hoth b5 ?_)
     rintro rfl
     have:=h.m.frz_own hb5 hp hpa hb
     simp at this
   ·have hrun:=run_append_new (ty:=ty) hd1 h0 h1 hu hinf hzer (base:=some ⟨bl,p.d,none⟩) (m:=m) (c:=p.c) (olds:=(cs.toList.drop p.d).take m) (hlen w) hfd (by
     simp only[Builtin.firstCells,hsize,Nat.mul_one]
     exact run_loads (w:=w.drew) y1 hcl) (by omega) (by rw[hbyt];exact hby) (by rw[hbyt];exact szOk_le hso)
    have hol:((cs.toList.drop p.d).take m).length=m:=by rw[List.length_take];omega
    obtain ⟨R',z1,z2,z3⟩:=newBlk _ hmf hdead ((cs.toList.drop p.d).take m) o.ks (m+1) (grownCap w (m+1) p.c e) (setN m o.elem es) (setN m (o.n,o.g) g) (by rw[hol]) (grown_le _ _ _ _) rfl (fun jj hjj=>by
     rw[hol]at hjj
     obtain ⟨v,q1,q2⟩:=y2 jj hjj
     refine⟨v,by rw[List.getElem?_take_of_lt hjj,List.getElem?_drop];exact q1,?_⟩
     rw[(hset jj hjj).1,(hset jj hjj).2]
     exact⟨q2.mono m1 (fun _ _=>rfl),hnewr jj hjj v q1⟩) (by rw[hol];exact hsetm.1) (by rw[hol];exact hsetm.2)
    exact⟨R',_,_,fun i p hi=>z1 _ _ (m1 _ _ hi),hrun,z2,z3⟩
  ·subst hm0
   have hrun:=run_append_new (ty:=ty) hd1 h0 h1 hu hinf hzer (base:=a0) (m:=0) (c:=0) (olds:=[]) (hlen w) hfd (by cases a0<;>simp[Builtin.firstCells,loadCells,loadCellsFrom]) (by omega) (by rw[hbyt];exact hby) (by rw[hbyt];exact szOk_le hso)
   obtain ⟨R',z1,z2,z3⟩:=newBlk _ hmf hdead [] o.ks (0+1) (grownCap w (0+1) 0 e) (setN 0 o.elem es) (setN 0 (o.n,o.g) g) rfl (grown_le _ _ _ _) rfl (fun jj hjj=>by simp at hjj) hsetm.1 hsetm.2
   exact⟨R',_,_,fun i p hi=>z1 _ _ (m1 _ _ hi),hrun,z2,z3⟩
theorem LP_snoc {l cs rest:List Value}{v v':Value}{d:Nat}(h:LP R l (cs.drop d)) (hv:V0 R v v') (hd:d<=cs.length):LP R (l++[v]) ((cs.take (d+l.length)++[v']++rest).drop d):=by
 have hl:=LP_le h
 rw[List.length_drop]at hl
 have e:(cs.take (d+l.length)++[v']++rest).drop d=(cs.drop d).take l.length++([v']++rest):=by
  rw[List.append_assoc,List.drop_append_of_le_length (by rw[List.length_take];omega),List.drop_take]
  congr 2
  omega
 rw[e]
 unfold LP
 rw[List.take_append,List.length_take,List.length_drop,Nat.min_eq_left (by omega),List.take_of_length_le (by rw[List.length_take,List.length_drop,List.length_append,List.length_cons,List.length_nil];omega),List.length_append,List.length_cons,List.length_nil,show l.length+(0+1)-l.length=1 from by omega]
 exact LR_append h ⟨hv,trivial⟩
theorem sound_appL (hT:TabOk P T) (h:Rel w0 n R S a w){c:Call}{s x:Value}{t:Nat}{l:List Nat}(hts:c.argTypes.toList=t::l) (happ:appT T c.argTypes.toList=true) (hl:LR (V2 R) [s,x] (c.args.toList.map a.eval)){id:Nat}{r:Res}(hr:appLK T t s x id S.fm some none=some r) (ty:TypeId):
  ∃(R':Nat->Pl->Prop) (v':Value) (w':World),(∀i p,R i p->R' i p)∧(Builtin.append_ c.argTypes ty (c.args.map a.eval)).run P w=.ok v' w'∧V2 R' r.val v'∧MRel w0 R' (memF S.fm r.mem) w':=by
 obtain ⟨i,e,j,q,tb,o3,n3,c3,k1,k2,k3,k4,hq,hq2,hsz,hby,hlt,hnone,hz1,hcase⟩:=appL_iff hr
 have hnone:=Option.isNone_iff_eq_none.1 hnone
 obtain ⟨dd,hd1,hd2,_⟩:=und_some hT k1
 have:=hd2 k2;subst this;rw[k3]at hd1
 obtain ⟨inf,hinf,hisz,hzer,hbyt⟩:=info_of hT k4
 obtain ⟨s',x',hargs,hvs,hvx⟩:=two_args hl
 obtain ⟨u,hl2,hu⟩:∃u,l=[u]∧∃d,P.underlying u=some d∧∀k,d≠.int k:=by
  rw[hts]at happ
  unfold appT at happ
  split at happ
  ·rename_i u0 u heq
   simp only[List.cons.injEq]at heq
   refine⟨u,heq.2,?_⟩
   cases hlk:look T u with
   | none=>rw[hlk]at happ;simp[oK]at happ
   | some i2=>
    rw[hlk]at happ
    obtain ⟨d,e1,e2,e3⟩:=und_some hT hlk
    refine⟨d,e1,fun k hk=>?_⟩
    simp only[oK,descK]at happ
    cases hst:i2.st with
    | true=>obtain ⟨fs,e4,_⟩:=e3 hst;rw[e4]at hk;cases hk
    | false=>
     have e4:=e2 hst
     rw[hst,cond_false]at happ
     rw[<-e4,hk]at happ
     simp at happ
  ·simp at happ
 subst hl2
 have h0:c.argTypes[0]?=some t:=by rw[<-Array.getElem?_toList,hts];rfl
 have h1:c.argTypes[1]?=some u:=by rw[<-Array.getElem?_toList,hts];rfl
 rw[hargs]
  -- the slice that is appended
 obtain ⟨off2,c2,l2,e2,own2,rfl,hb2,hget⟩:=oneSl_some hq
 obtain ⟨p2,hp2,hsl2⟩:=V2_slice hvx
 obtain ⟨b2',c2',hpa2,rfl⟩:=SlOk_some hsl2 (by omega)
 obtain ⟨p2',hp2',hcont2⟩:=memOk_lst h.m hb2
 have:=h.m.func _ _ _ hp2 hp2';subst this
 rw[hpa2]at hcont2
 obtain ⟨cs2,fz2,g1,g2,_⟩:=hcont2
 have g2:LP R l2 (cs2.toList.drop p2.d):=g2
 obtain ⟨v',g3,g4⟩:=LP_get g2 hget
 rw[List.getElem?_drop]at g3
 have hlen2:p2.d+off2<cs2.toList.length:=by
  rcases Nat.lt_or_ge (p2.d+off2) cs2.toList.length with h|h
  ·exact h
  ·rw[List.getElem?_eq_none h]at g3;simp at g3
 have hone:(cs2.toList.drop (p2.d+off2)).take 1=[v']:=by
  rw[List.drop_eq_getElem_cons hlen2]
  rw[List.getElem?_eq_getElem hlen2]at g3
  rw[Option.some.inj g3];rfl
 have hlen:∀w,(Builtin.lenOf (.slice (some ⟨b2',p2.d+off2,none⟩) 1 c2')).run P w=.ok 1 w:=fun w=>rfl
 have hsize:inf.size=1:=by rw[hisz];exact hsz
 have hfirst:∀w1:World,w1.heap[b2']?=some (.cells cs2 e2 fz2)->(Builtin.firstCells inf.size 1 (.slice (some ⟨b2',p2.d+off2,none⟩) 1 c2')).run P w1=.ok [v'].toArray w1:=by
  intro w1 hw1
  simp only[Builtin.firstCells,hsize,Nat.mul_one]
  rw[run_loads hw1 (by rw[List.length_drop];omega),hone]
 have hf0:=hfirst w g1
 have hfd:=hfirst w.drew g1
 have hfd:(Builtin.firstCells inf.size 1 (.slice (some ⟨b2',p2.d+off2,none⟩) 1 c2')).run P w.drew=.ok ([v']:List Value).toArray w.drew:=hfd
 have hsl3:∃p,R tb p∧SlOk ⟨tb,o3,none⟩ n3 c3 p v':=by rw[hq2]at g4;exact g4
 have hv1:∀cs,v'≠.agg cs∧∀cs,v'≠.tuple cs:=fun cs=>by
  obtain ⟨_,_,hs3⟩:=hsl3
  obtain ⟨_,_,rfl⟩:=SlOk_sl hs3
  exact⟨nofun,nofun⟩
  -- a new block
 have newBlk:∀(fm:Nat->Option Blk),MRel w0 R fm w->fm (nid id 0)=none->∀(olds L:List Value) (tot C:Nat),olds.length+1=tot->tot<=C->LR (V0 R) L olds->
   ∃R':Nat->Pl->Prop,(∀i p,R i p->R' i p)∧V2 R' (.slice (some ⟨nid id 0,0,none⟩) tot tot) (.slice (some ⟨w.heap.size,0,none⟩) tot C)∧
    MRel w0 R' (upd fm (nid id 0) ⟨.lst (L++[q.2]),e,true⟩) (w.drew.alloc (.cells (olds.toArray++([v']:List Value).toArray++Builtin.zeroCells j.zer.cells (C-tot)) e)):=by
  intro fm hm hid olds L tot C htot hC hLo
  have hm:=hm.world (w':=w.drew) (Below.refl w.heap.size w).drew
  have hll:=LR_len hLo
  have hal:=hm.alloc hid (nid_lt hlt (by omega)) (cap:=C) (c:=.lst (L++[q.2])) (cs:=olds.toArray++([v']:List Value).toArray++Builtin.zeroCells j.zer.cells (C-tot)) (e:=e) (own:=true) nofun nofun nofun (by
   have e2:(olds.toArray++([v']:List Value).toArray++Builtin.zeroCells j.zer.cells (C-tot)).toList=(olds++[v'])++(Builtin.zeroCells j.zer.cells (C-tot)).toList:=by
    simp only[Array.toList_append]
   rw[e2]
   show LR (V0 R) (L++[q.2]) (((olds++[v'])++(Builtin.zeroCells j.zer.cells (C-tot)).toList).take (L++[q.2]).length)
   rw[List.take_append_of_le_length (by rw[List.length_append,List.length_append,hll];exact Nat.le_refl _),List.take_of_length_le (by rw[List.length_append,List.length_append,hll];exact Nat.le_refl _)]
   exact LR_append hLo ⟨g4,trivial⟩) (fun _ _=>by
   simp only[Array.size_append,List.size_toArray,zeroCells_size,List.length_cons,List.length_nil]
   have hz1:j.zer.cells.size=1:=by rw[<-Array.length_toList];exact hz1
   rw[hz1]
   show 0+C<=_
   omega)
  exact⟨_,fun _ _=>.inl,slice_V2 (nid_loose hlt (by omega)) (.inr ⟨rfl,rfl⟩) hC rfl,hal⟩
 rcases hcase with⟨rfl,hso,rfl⟩|⟨b,cc,ls,rfl,hb,hlo,hso,rfl⟩
 ·-- to nil
  have:=(V2_plain (R:=R) (v:=.slice none 0 0) rfl).1 hvs;subst this
  have hrun:=run_append_new (ty:=ty) hd1 h0 h1 hu hinf hzer (base:=none) (m:=0) (c:=0) (olds:=[]) (hlen w) hfd (by simp[Builtin.firstCells]) (by omega) (by rw[hbyt];exact hby) (by rw[hbyt,Nat.zero_add];exact szOk_le hso)
  obtain ⟨R',y1,y2,y3⟩:=newBlk _ h.m hnone [] [] 1 (grownCap w (0+1) 0 e) rfl (by have:=grown_le w (0+1) 0 e;omega) trivial
  exact⟨R',_,_,y1,hrun,y2,y3⟩
 ·have hbn:b≠nid id 0:=fun e3=>by rw[e3,hnone]at hb;simp at hb
  obtain ⟨p,hp,hsl⟩:=V2_slice hvs
  have hmf:=h.m.forget hb nofun nofun
  have hdead:upd S.fm b ⟨.lst [],e,false⟩ (nid id 0)=none:=by rw[upd_ne _ _ hbn];exact hnone
  show ∃R' v' w',_∧_∧_∧MRel w0 R' (upd (upd S.fm b _) (nid id 0) _) w'
  obtain ⟨p',hp',hcont⟩:=memOk_lst h.m hb
  have:=h.m.func _ _ _ hp hp';subst this
  obtain ⟨_,hcc,⟨bl,hpa,rfl⟩|⟨hpa,hm0,hc0,a0,rfl⟩⟩:=SlOk_loose hlo hsl
  ·rw[hpa]at hcont
   obtain ⟨cs,fz,y1,y2,y3⟩:=hcont
   obtain ⟨hfz,hge,hroom⟩:=y3 rfl
   have y2:LP R ls (cs.toList.drop p.d):=y2
   have hcl:=LP_le y2
   have ecs:cs.toList.length=cs.size:=Array.length_toList
   by_cases hin:ls.length+1<=p.c
   ·have hroom:p.d+p.c<=cs.size:=hroom hlo (by omega)
    have hrun:=run_append_in (ty:=ty) hd1 h0 h1 hu hinf (base:=some ⟨bl,p.d,none⟩) (m:=ls.length) (c:=p.c) (hlen w) hf0 hin
    have hst:=run_storeCells (P:=P) (e:=e) (b:=bl) (off:=p.d+ls.length) ([v']:List Value) 0 w cs y1 (by simp only[List.length_cons,List.length_nil];omega) hfz (by intro u hu2;rw[List.mem_singleton]at hu2;subst hu2;exact⟨fun cs=>(hv1 cs).1,fun cs=>(hv1 cs).2 cs⟩)
    simp only[Nat.add_zero,List.length_cons,List.length_nil,Nat.zero_add]at hst
    simp only[addr_add,hsize,Nat.mul_one,hst,Result.andThen_ok]at hrun
    have hns:(cs.toList.take (p.d+ls.length)++[v']++cs.toList.drop (p.d+ls.length+1)).toArray.size=cs.size:=by
     rw[List.size_toArray,List.length_append,List.length_append,List.length_take,List.length_drop,List.length_cons,List.length_nil];omega
    have hw:=h.m.write (i:=b) (blk:=⟨.lst ls,e,true⟩) hb hp hpa rfl y1 hge (c:=.lst []) (cs:=(cs.toList.take (p.d+ls.length)++[v']++cs.toList.drop (p.d+ls.length+1)).toArray) nofun nofun nofun LP_nil (fun _ _=>by rw[hns];exact hroom) (hfz.of hns)
    have hw2:=hw.forget (i:=b) (blk:=⟨.lst [],e,true⟩) (upd_same _ _ _) nofun nofun
    rw[upd_upd]at hw2
    have hw3:=hw2.rename (q:=p) hdead (nid_lt hlt (by omega)) (forget_free h.m hb rfl hp hpa e) (fun hf=>by have:=h.m.frz_own hf hp hpa hb;simp at this) hpa (setBlk_same (heap_lt y1)) (hfz.of hns) hge (c:=.lst (ls++[q.2])) nofun nofun nofun (by
     rw[List.toList_toArray]
     exact LP_snoc y2 g4 (by omega)) (fun _ _=>by rw[hns];exact hroom)
    exact⟨_,_,_,fun i p hi=>.inl hi,hrun,slice_V2 (nid_loose hlt (by omega)) (.inr ⟨rfl,rfl⟩) hin (by rw[hpa]),hw3⟩
   ·have hrun:=run_append_new (ty:=ty) hd1 h0 h1 hu hinf hzer (base:=some ⟨bl,p.d,none⟩) (m:=ls.length) (c:=p.c) (olds:=(cs.toList.drop p.d).take ls.length) (hlen w) hfd (by
     simp only[Builtin.firstCells,hsize,Nat.mul_one]
     exact run_loads (w:=w.drew) y1 hcl) (by omega) (by rw[hbyt];exact hby) (by rw[hbyt];exact szOk_le hso)
    obtain ⟨R',z1,z2,z3⟩:=newBlk _ hmf hdead ((cs.toList.drop p.d).take ls.length) ls (ls.length+1) (grownCap w (ls.length+1) p.c e) (by rw[List.length_take];omega) (grown_le _ _ _ _) y2
    exact⟨R',_,_,z1,hrun,z2,z3⟩
  ·have hls:ls=[]:=List.length_eq_zero_iff.1 hm0
   subst hls
   have hrun:=run_append_new (ty:=ty) hd1 h0 h1 hu hinf hzer (base:=a0) (m:=0) (c:=0) (olds:=[]) (hlen w) hfd (by cases a0<;>simp[Builtin.firstCells,loadCells,loadCellsFrom]) (by omega) (by rw[hbyt];exact hby) (by rw[hbyt];exact szOk_le hso)
   obtain ⟨R',z1,z2,z3⟩:=newBlk _ hmf hdead [] [] (0+1) (grownCap w (0+1) 0 e) rfl (grown_le _ _ _ _) trivial
   exact⟨R',_,_,z1,hrun,z2,z3⟩
end
end Go.W

namespace Go.W
open Go.RowKit (Below)
section
variable {GL:Glob}{w0:Wb GL}{R:Nat->Pl->Prop}{fm:Nat->Option Blk}{w:World}
theorem small_tight {id:Nat}(h:id<500000):loose id=false:=by
 unfold loose
 rw[show Nat.ble 500000 id=false from by rw[Bool.eq_false_iff,ne_eq,Nat.ble_eq];omega,show Nat.ble 1500000 id=false from by rw[Bool.eq_false_iff,ne_eq,Nat.ble_eq];omega];rfl
theorem MRel.allocItr (h:MRel w0 R fm w){id:Nat}(hid:fm id=none) (hsm:id<60000) (s:ByteArray):
  MRel w0 (fun i p=>R i p∨(i=id∧p=⟨some w.heap.size,0,0⟩)) (upd fm id ⟨.itr s 0,0,true⟩) (w.iter s 0):=by
 have hR:∀p,¬R id p:=fun p hp=>by have:=h.dom id p hp (by omega);rw[hid]at this;simp at this
 have hsz:=h.below.size
 have hold:∀b,b<w.heap.size->(w.iter s 0).heap[b]?=w.heap[b]?:=fun b hb=>Below.heap_alloc _ _ _ hb
 refine⟨h.below.trans ⟨rfl,rfl,rfl,by simp[World.iter],fun k hk=>hold k hk⟩,?_,?_,?_,?_,?_,?_,?_⟩
 ·rintro i p p' (h1|⟨rfl,rfl⟩) (h2|⟨h3,rfl⟩)
  ·exact h.func _ _ _ h1 h2
  ·subst h3;exact absurd h1 (hR _)
  ·exact absurd h2 (hR _)
  ·rfl
 ·rintro i j p q b (h1|⟨rfl,rfl⟩) (h2|⟨rfl,rfl⟩) ha hb hne blk hblk hown blk' hblk'
  ·by_cases e1:id=i
   ·subst e1;exact absurd h1 (hR _)
   ·by_cases e2:id=j
    ·subst e2;exact absurd h2 (hR _)
    ·simp only[upd_ne _ _ e1]at hblk
     simp only[upd_ne _ _ e2]at hblk'
     exact h.inj _ _ _ _ _ h1 h2 ha hb hne blk hblk hown blk' hblk'
  ·have:=h.lt h1 ha;simp only[Option.some.injEq]at hb;omega
  ·have:=h.lt h2 hb;simp only[Option.some.injEq]at ha;omega
  ·exact absurd rfl hne
 ·intro i blk hi
  by_cases e1:id=i
  ·subst e1
   simp only[upd_same,Option.some.injEq]at hi
   subst hi
   exact⟨w.heap.size,.inr ⟨rfl,rfl⟩,World.iter_heap w s 0,hsz,rfl⟩
  ·simp only[upd_ne _ _ e1]at hi
   have hm:=h.mem i blk hi
   unfold MemOk at hm ⊢
   split at hm
   ·obtain ⟨p,q,b,k1,k2,k3⟩:=hm;exact⟨p,q,b,.inl k1,.inl k2,k3⟩
   ·obtain ⟨p,q,k1,k2,k3⟩:=hm;exact⟨p,q,.inl k1,.inl k2,k3⟩
   ·exact hm.mono (fun _ _=>.inl) (fun b hb=>hold _ (h.frz_lt hb)) (fun _ p b hp hb=>hold _ (h.lt hp hb))
   ·exact hm.mono (fun _ _=>.inl) (fun b hp=>hold _ (h.lt hp rfl))
   ·obtain ⟨p,k1,k2⟩:=hm
    refine⟨p,.inl k1,?_⟩
    cases hpa:p.a with
    | none=>rw[hpa]at k2;exact k2
    | some b=>
     rw[hpa]at k2
     obtain ⟨cs',fz,k3,k4,k5⟩:=k2
     refine⟨cs',fz,?_,LP_mono (fun _ _=>.inl) k4,k5⟩
     rw[hold _ (h.lt k1 hpa)];exact k3
 ·rintro i p (h1|⟨rfl,rfl⟩) hvb
  ·by_cases e1:id=i
   ·subst e1;simp[upd_same]
   ·simp only[upd_ne _ _ e1];exact h.dom _ _ h1 hvb
  ·simp[upd_same]
 ·rintro i p (h1|⟨rfl,rfl⟩) hge hvb
  ·exact h.anc _ _ h1 hge hvb
  ·omega
 ·rintro i p b (h1|⟨rfl,rfl⟩) hb
  ·refine(h.there _ _ _ h1 hb).mono (fun s pos hs=>?_) (hold _ (h.lt h1 hb))
   by_cases e1:id=i
   ·subst e1;exact absurd h1 (hR _)
   ·rw[upd_ne _ _ e1]
  ·simp only[Option.some.injEq]at hb
   subst hb
   exact .inr ⟨s,0,small_tight (by omega),upd_same _ _ _,World.iter_heap w s 0⟩
 ·rintro i p (h1|⟨rfl,rfl⟩) hge
  ·obtain ⟨h2,h3⟩:=h.fro i p h1 hge
   refine⟨h2,?_⟩
   rintro j q (h4|⟨rfl,rfl⟩) hq blk hblk
   ·by_cases e1:id=j
    ·subst e1;exact absurd h4 (hR _)
    ·rw[upd_ne _ _ e1]at hblk;exact h3 j q h4 hq blk hblk
   ·rw[h2]at hq
    have:=h.lt h1 (b:=i-1000000000) (by rw[h2])
    simp only[Option.some.injEq]at hq;omega
  ·omega
theorem MRel.stepItr (h:MRel w0 R fm w){i b:Nat}{blk:Blk}{s:ByteArray}{pos:Nat}(hi:fm i=some blk) (hsm:i<60000) (hp:R i ⟨some b,0,0⟩) (hw:w.heap[b]?=some (.stringIter s pos)) (hge:w0.w.heap.size<=b) (hown:blk.own=true) (pos':Nat):
  MRel w0 R (upd fm i ⟨.itr s pos',0,true⟩) (setBlk w b (.stringIter s pos')):=by
 have hlt:=heap_lt hw
 have hold:∀b2,b≠b2->(setBlk w b (.stringIter s pos')).heap[b2]?=w.heap[b2]?:=fun b2 hne=>by
  simp only[setBlk];rw[Array.getElem?_setIfInBounds_ne hne]
 have hnf:¬Frz R b:=fun hb=>by
  have:=h.frz_own hb hp rfl hi
  rw[hown]at this;simp at this
 refine⟨⟨h.below.os,h.below.tape,h.below.output,by simpa [setBlk] using h.below.size,fun k hk hx=>?_,h.below.glob⟩,h.func,?_,?_,?_,h.anc,fun i1 p1 b1 h1 h2=>?_,fun i1 p1 h1 hge1=>?_⟩
 ·rw[hold k (by omega)];exact h.below.block k hk hx
 ·intro i0 j0 p0 q0 b0 h5 h6 ha hb hne blk0 hblk0 hown0 blk1 hblk1
  by_cases e1:i=i0
  ·subst e1
   rw[upd_ne _ _ hne]at hblk1
   exact h.inj _ _ _ _ _ h5 h6 ha hb hne blk hi hown blk1 hblk1
  ·rw[upd_ne _ _ e1]at hblk0
   by_cases e2:i=j0
   ·subst e2
    have:=h.inj _ _ _ _ _ h5 h6 ha hb hne blk0 hblk0 hown0 blk hi
    rw[this.1]at hown;simp at hown
   ·rw[upd_ne _ _ e2]at hblk1
    exact h.inj _ _ _ _ _ h5 h6 ha hb hne blk0 hblk0 hown0 blk1 hblk1
 ·intro j blk' hj
  by_cases e1:i=j
  ·subst e1
   rw[upd_same]at hj
   cases hj
   exact⟨b,hp,setBlk_same hlt,hge,rfl⟩
  ·rw[upd_ne _ _ e1]at hj
   have hm:=h.mem j blk' hj
   unfold MemOk at hm ⊢
   split at hm
   ·exact hm
   ·exact hm
   ·refine hm.mono (fun _ _ h=>h) (fun b2 hb2=>hold _ fun e=>hnf (e▸hb2)) (fun ho p2 b2 hp2 hpa2=>hold _ ?_)
    rintro rfl
    have:=(h.inj _ _ _ _ _ hp hp2 rfl hpa2 e1 blk hi hown blk' hj).1
    rw[ho]at this;simp at this
   ·obtain ⟨b2,k1,k2,k3,k4⟩:=hm
    have hne:b≠b2:=by
     rintro rfl
     have:=(h.inj _ _ _ _ _ hp k1 rfl rfl e1 blk hi hown blk' hj).1
     rw[k4]at this;simp at this
    exact⟨b2,k1,by rw[hold _ hne];exact k2,k3,k4⟩
   ·obtain ⟨q,k1,k2⟩:=hm
    refine⟨q,k1,?_⟩
    cases hqa:q.a with
    | none=>rw[hqa]at k2;exact k2
    | some b'=>
     rw[hqa]at k2
     obtain ⟨cs',fz',k3,k4,k5⟩:=k2
     have hne:b≠b':=by rintro rfl;rw[hw]at k3;simp at k3
     exact⟨cs',fz',by rw[hold _ hne];exact k3,k4,k5⟩
 ·intro j q hj hvb
  by_cases e1:i=j
  ·subst e1;simp[upd_same]
  ·rw[upd_ne _ _ e1];exact h.dom _ _ hj hvb
 ·by_cases e1:i=i1
  ·subst e1
   have:=h.func _ _ _ hp h1;subst this
   cases h2
   exact .inr ⟨s,pos',small_tight (by omega),upd_same _ _ _,setBlk_same hlt⟩
  ·by_cases hne:b=b1
   ·subst hne
    rcases h.there _ _ _ h1 h2 with⟨cs,e,fz,k⟩|⟨s2,pos2,_,k1,k2⟩
    ·rw[hw]at k;simp at k
    ·have:=(h.inj _ _ _ _ _ hp h1 rfl h2 e1 blk hi hown _ k1).1
     simp at this
   ·exact(h.there _ _ _ h1 h2).mono (fun _ _ _=>upd_ne _ _ e1) (hold _ hne)
 ·obtain ⟨h2,h3⟩:=h.fro i1 p1 h1 hge1
  refine⟨h2,fun j q hj hq blk1 hblk1=>?_⟩
  by_cases e1:i=j
  ·subst e1
   have:=h3 i q hj hq blk hi
   rw[this]at hown;simp at hown
  ·rw[upd_ne _ _ e1]at hblk1;exact h3 j q hj hq blk1 hblk1
end
section
variable {P:Program}{T:Tab}{G:Sums}{GL:Glob}{w0:Wb GL}{w:World}{n:Nat}{R:Nat->Pl->Prop}{S:FS}{a:Act}
theorem sound_range (hT:TabOk P T) (h:Rel w0 n R S a w){o:Oper}{t:Nat}{x:Operand}(ho:o.op=.range t x){id:Nat}{r:Res}(hr:opS T G id o.op (evF S.fs) S.fm=some r):
  ∃s,S.fm id=none∧id<60000∧r=⟨.pointer (some ⟨id,0,none⟩),[(id,⟨.itr s 0,0,true⟩)],[id]⟩∧(execOp a.eval o).run P w=.ok (.value (.pointer (some ⟨w.heap.size,0,none⟩))) (w.iter s 0):=by
 rw[ho]at hr
 simp only[opS,opK,oK_some]at hr
 obtain ⟨v,hv,hr⟩:=hr
 obtain ⟨s,rfl,hr⟩:=strK_some.1 hr
 have hev:=V2_string (h.ev hv)
 obtain ⟨i,hi,hr⟩:=oK_some.1 hr
 obtain ⟨d,hd1,hd2,_⟩:=und_some hT hi
 obtain ⟨hst,⟨_,_,_,h3⟩|⟨_,_,h3⟩|⟨_,_,h3⟩|⟨_,h3⟩|⟨hu,h3⟩⟩:=descK_some hr<;>first|(simp at h3;done)|skip
 have:=hd2 hst;subst this;rw[hu]at hd1
 obtain ⟨h4,h5⟩:=cond_some.1 h3
 simp only[Bool.and_eq_true,Nat.blt_eq]at h4
 refine⟨s,Option.isNone_iff_eq_none.1 h4.1,h4.2,(Option.some.inj h5).symm,?_⟩
 simp only[execOp,ho,hev,Sem.run_bind,run_range_string w t s hd1,Result.andThen_ok,Sem.run_pure]
theorem sound_next (h:Rel w0 n R S a w){o:Oper}{x:Operand}{b:Bool}(ho:o.op=.next x b){id:Nat}{r:Res}(hr:opS T G id o.op (evF S.fs) S.fm=some r):
  PR P R a w o r∨∃j b' s pos,S.fm j=some ⟨.itr s pos,0,true⟩∧j<60000∧R j ⟨some b',0,0⟩∧w.heap[b']?=some (.stringIter s pos)∧w0.w.heap.size<=b'∧
   r=⟨.tuple #[.bool true,.int .i64 (pos:Nat),.int .i32 (dcC s pos)],[(j,⟨.itr s (pos+dcW s pos),0,true⟩)],[j]⟩∧
   (execOp a.eval o).run P w=.ok (.value (.tuple #[.bool true,.int .i64 (pos:Nat),.int .i32 (dcC s pos)])) (setBlk w b' (.stringIter s (pos+dcW s pos))):=by
 rw[ho]at hr
 simp only[opS,opK,cond_some,oK_some,ptrK_some]at hr
 obtain ⟨rfl,v,hv,j,off,rfl,hr⟩:=hr
 unfold nextK at hr
 obtain ⟨blk,hblk,hr⟩:=oK_some.1 hr
 split at hr
 ·rename_i s pos hc
  obtain ⟨h0,hr2⟩:=cond_some.1 hr
  clear hr
  simp only[Bool.and_eq_true,Nat.blt_eq]at h0
  obtain ⟨hoff,hj⟩:=h0
  have hoff:=nbeq.1 hoff
  subst hoff
  obtain ⟨cells,elem,own⟩:=blk
  simp only at hc
  subst hc
  obtain ⟨b',k1,k2,k3,rfl⟩:ItrOk w0 R w j s pos own:=h.m.mem j _ hblk
  obtain ⟨p,b2,hp,hpa,hev⟩:=V2_ptr (h.ev hv)
  have:=h.m.func _ _ _ hp k1;subst this
  cases hpa
  have hblk2:S.fm j=some ⟨.itr s pos,0,true⟩:=by
   rcases h.m.there _ _ _ k1 rfl with⟨cs,e,fz,k⟩|⟨s2,pos2,_,k4,k5⟩
   ·rw[k2]at k;simp at k
   ·rw[hblk]at k4
    have:=Option.some.inj k4
    simp only[Blk.mk.injEq]at this
    rw[hblk,this.2.1]
  have hget:(getObj b').run P w=.ok (.stringIter s pos) w:=by simp[getObj,Sem.run,k2]
  cases hlt:Nat.blt pos s.size with
  | true=>
   rw[hlt,cond_true]at hr2
   have hlt':pos<s.size:=by rw[Nat.blt_eq]at hlt;exact hlt
   right
   refine⟨j,b',s,pos,hblk2,hj,k1,k2,k3,(Option.some.inj hr2).symm,?_⟩
   have hset:(setObj b' (.stringIter s (pos+dcW s pos))).run P w=.ok () (setBlk w b' (.stringIter s (pos+dcW s pos))):=by
    simp[setObj,Sem.run,setBlk,k2]
   simp only[execOp,ho,hev,Nat.zero_add]
   unfold Instr.next
   simp only[Sem.run_bind,hget,Result.andThen_ok,hlt',if_true]
   rw[show(Utf8.decode s pos).2=dcW s pos from rfl,hset]
   simp[goInt,dcC,Sem.run_pure]
  | false=>
   rw[hlt,cond_false]at hr2
   have hlt':¬pos<s.size:=fun hl=>by
    have:Nat.blt pos s.size=true:=by rw[Nat.blt_eq];exact hl
    rw[this]at hlt;simp at hlt
   left
   cases hr2
   refine⟨rfl,.tuple #[.bool false],?_,(V2_plain rfl).2 rfl⟩
   simp only[execOp,ho,hev,Nat.zero_add]
   unfold Instr.next
   simp only[Sem.run_bind,hget,Result.andThen_ok,hlt',if_false,Sem.run_pure]
 ·simp at hr
end
end Go.W

namespace Go.W
open Go.RowKit (Below)
section
variable {P:Program}{T:Tab}{G:Sums}{GL:Glob}{w0:Wb GL}{w:World}{n:Nat}{R:Nat->Pl->Prop}{S:FS}{a:Act}
theorem rowL_const {ks:List CK}{z:List Value}(hf:fitsK ks z=true):∀(m lo:Nat),rowL ks (fun _=>z) lo m=repL m z
 | 0,_=>rfl
 | m+1,lo=>by rw[rowL,repL,nrmK_fits hf,rowL_const hf m (lo+1)]
theorem sound_make (hT:TabOk P T) (h:Rel w0 n R S a w){o:Oper}{t:Nat}{x y:Operand}(ho:o.op=.makeSlice t x y){id:Nat}{r:Res}(hr:opS T G id o.op (evF S.fs) S.fm=some r):
  ∃(R':Nat->Pl->Prop) (v':Value) (w':World),(∀i p,R i p->R' i p)∧(execOp a.eval o).run P w=.ok (.value v') w'∧V2 R' r.val v'∧MRel w0 R' (memF S.fm r.mem) w':=by
 rw[ho]at hr
 simp only[opS,opK,oK_some]at hr
 obtain ⟨vl,hvl,vc,hvc,hr⟩:=hr
 cases hel:elSl T t with
 | true=>
  rw[hel,cond_true]at hr
  obtain ⟨i,e,j,k1,k2,k3,k4,hr⟩:=makeLK_some.1 hr
  obtain ⟨dd,hd1,hd2,_⟩:=und_some hT k1
  have:=hd2 k2;subst this;rw[k3]at hd1
  obtain ⟨inf,hinf,hsz,hzer,hbyt⟩:=info_of hT k4
  simp only[intK_some,cond_some,Bool.and_eq_true,decide_eq_true_eq,Nat.blt_eq,Bool.not_eq_true']at hr
  obtain ⟨kd1,l,rfl,kd2,l2,rfl,⟨⟨⟨⟨⟨⟨⟨⟨e1,hl0⟩,hso⟩,hby⟩,hlt⟩,hnone⟩,hpl⟩,hz1⟩,hz2⟩,hr⟩:=hr
  have hr:=(Option.some.inj hr).symm
  subst hr
  subst e1
  have hnone:=Option.isNone_iff_eq_none.1 hnone
  have he1:=V2_int (h.ev hvl)
  have he2:=V2_int (h.ev hvc)
  have hso:=szOk_le hso
  have hby:j.byt≠0:=fun e=>by rw[e]at hby;simp at hby
  have hln:l.toNat<=140737488355328:=Nat.le_trans (Nat.le_mul_of_pos_right _ (by omega)) hso
  have hkz:j.zer.cells.size=j.siz:=by rw[<-Array.length_toList];exact(nbeq.1 hz1).symm
  have hz2:j.siz≠0:=fun e=>by rw[e]at hz2;simp at hz2
  have hz0:j.zer.cells.size≠0:=by omega
  have hall:∀m,(repL m j.zer.cells.toList).all pl0=true:=by
   intro m
   induction m with
   | zero=>rfl
   | succ m ih=>rw[repL,List.all_append,hpl,ih];rfl
  have hrun:(execOp a.eval o).run P w=.ok (.value (.slice (some ⟨w.heap.size,0,none⟩) l.toNat l.toNat)) (w.alloc (.cells (repL l.toNat j.zer.cells.toList).toArray e)):=by
   have hbig:(inf.bytes:Int)*l<=281474976710656:=by
    obtain ⟨m,rfl⟩:∃m:Nat,l=(m:Int):=⟨l.toNat,by omega⟩
    simp only[Int.toNat_natCast]at hso
    rw[hbyt,Int.mul_comm]
    have:((m*j.byt:Nat):Int)<=140737488355328:=Int.ofNat_le.2 hso
    rw[Int.natCast_mul]at this
    omega
   have hmk:=run_make (P:=P) w t e inf j.zer hd1 hinf hzer kd1 kd2 l l hl0 (Int.le_refl _) hbig (by omega)
   have hcl:madeCells j.zer.cells (l.toNat*inf.size)=(repL l.toNat j.zer.cells.toList).toArray:=by
    rw[hsz,<-hkz]
    exact repL_range (z:=j.zer.cells) (n:=l.toNat) hz0
   rw[hcl]at hmk
   simp only[execOp,ho,he1,he2,hmk,Sem.run_bind,Result.andThen_ok,Sem.run_pure]
  refine⟨_,_,_,fun _ _=>.inl,hrun,?_,h.m.alloc hnone (nid_lt hlt (by omega)) (cap:=l.toNat) (c:=.lst (repL l.toNat j.zer.cells.toList)) nofun nofun nofun ?_ ?_⟩
  ·exact slice_V2 (nid_loose hlt (by omega)) (.inr ⟨rfl,rfl⟩) (Nat.le_refl _) rfl
  ·show LP R (repL l.toNat j.zer.cells.toList) _
   refine LP_plain (hall _) ?_
   rw[List.toList_toArray,List.take_length]
  ·show loose (nid id 0)=true->_
   intro _ _
   have e1:(repL l.toNat j.zer.cells.toList).length=l.toNat*j.siz:=by rw[repL_len,Array.length_toList,hkz]
   have e2:(repL l.toNat j.zer.cells.toList).toArray.size=l.toNat*j.siz:=by rw[List.size_toArray];exact e1
   show 0+l.toNat<=(repL l.toNat j.zer.cells.toList).toArray.size
   rw[e2,Nat.zero_add]
   exact Nat.le_mul_of_pos_right _ (by omega)
 | false=>
 rw[hel,cond_false]at hr
 unfold makeK at hr
 obtain ⟨i,e,j,k1,k2,k3,k4,k5,hr⟩:=elemK_some.1 hr
 obtain ⟨dd,hd1,hd2,_⟩:=und_some hT k1
 have:=hd2 k2;subst this;rw[k3]at hd1
 obtain ⟨hke,hkl,hkb,hkz⟩:=ksOk_parts k5
 obtain ⟨inf,hinf,hsz,hzer,hbyt⟩:=info_of hT k4
 simp only[intK_some,cond_some,Bool.and_eq_true,Nat.blt_eq]at hr
 obtain ⟨kd1,l,rfl,kd2,l2,rfl,⟨⟨⟨⟨⟨⟨⟨e1,hl0⟩,hso⟩,_⟩,hlt⟩,hnone⟩,htup⟩,hfit⟩,hr⟩:=hr
 have hl0:=of_decide_eq_true hl0
 have hr:=(Option.some.inj hr).symm
 subst hr
 obtain ⟨e1,hso⟩:l<=l2∧szOk l2.toNat j.byt=true:=by
  cases hso2:sameOp x y with
  | true=>
   rw[hso2,cond_true]at e1 hso
   have e1:=of_decide_eq_true e1
   subst e1
   exact⟨Int.le_refl _,hso⟩
  | false=>
   rw[hso2,cond_false]at e1 hso
   exact⟨of_decide_eq_true e1,hso⟩
 have hnone:=Option.isNone_iff_eq_none.1 hnone
 have he1:=V2_int (h.ev hvl)
 have he2:=V2_int (h.ev hvc)
 have hso:=szOk_le hso
 have hln:l2.toNat<=140737488355328:=Nat.le_trans (Nat.le_mul_of_pos_right _ (by omega)) hso
 have hz0:j.zer.cells.size≠0:=by
  have:0<j.eqk.length:=List.length_pos_iff.2 hke
  omega
 have hrow:=rowL_const hfit l2.toNat 0
 have hrun:(execOp a.eval o).run P w=.ok (.value (.slice (some ⟨w.heap.size,0,none⟩) l.toNat l2.toNat)) (w.alloc (.cells (repL l2.toNat j.zer.cells.toList).toArray e)):=by
  have hbig:(inf.bytes:Int)*l2<=281474976710656:=by
   obtain ⟨m,rfl⟩:∃m:Nat,l2=(m:Int):=⟨l2.toNat,by omega⟩
   simp only[Int.toNat_natCast]at hso
   rw[hbyt,Int.mul_comm]
   have:((m*j.byt:Nat):Int)<=140737488355328:=Int.ofNat_le.2 hso
   rw[Int.natCast_mul]at this
   omega
  have hmk:=run_make (P:=P) w t e inf j.zer hd1 hinf hzer kd1 kd2 l l2 hl0 e1 hbig (by omega)
  have hcl:madeCells j.zer.cells (l2.toNat*inf.size)=(repL l2.toNat j.zer.cells.toList).toArray:=by
   rw[hsz,<-hkz]
   exact repL_range (z:=j.zer.cells) (n:=l2.toNat) hz0
  rw[hcl]at hmk
  simp only[execOp,ho,he1,he2,hmk,Sem.run_bind,Result.andThen_ok,Sem.run_pure]
 refine⟨_,_,_,fun _ _=>.inl,hrun,?_,h.m.alloc hnone (nid_lt hlt (by omega)) (cap:=l2.toNat) (c:=.row j.eqk l.toNat (fun _=>j.zer.cells.toList)) nofun nofun nofun ?_ ?_⟩
 ·exact slice_V2 (nid_loose hlt (by omega)) (.inr ⟨rfl,rfl⟩) (show l.toNat<=l2.toNat by omega) rfl
 ·show LP R (rowL j.eqk _ 0 l.toNat) _
  refine LP_plain (rowL_pl _ _ _ _) ?_
  rw[List.toList_toArray,<-hrow,rowL_len]
  exact rowL_take _ _ _ _ _ (by omega)
 ·show loose (nid id 0)=true->_
  intro _ _
  have e1:(repL l2.toNat j.zer.cells.toList).length=l2.toNat*j.eqk.length:=by rw[repL_len,Array.length_toList,hkz,<-hkl]
  have e2:(repL l2.toNat j.zer.cells.toList).toArray.size=l2.toNat*j.eqk.length:=by rw[List.size_toArray];exact e1
  show 0+l2.toNat*j.eqk.length<=(repL l2.toNat j.zer.cells.toList).toArray.size
  rw[e2];omega
theorem intsEq_eq:∀{l m:List Value},intsEq l m=true->l=m
 | [],[],_=>rfl
 | x::l,y::m,h=>by
  cases x<;>cases y<;>simp only[intsEq,Bool.and_eq_true,decide_eq_true_eq]at h<;>first|(simp at h;done)|skip
  rw[h.1.1,h.1.2,intsEq_eq h.2]
 | [],_::_,h=>by simp[intsEq]at h
 | x::_,[],h=>by cases x<;>simp[intsEq]at h
theorem zCells_itr (T:Tab) (i:TInf) (s:ByteArray) (pos:Nat):zCells T i≠.itr s pos:=by
 unfold zCells
 intro h
 cases h1:Nat.ble i.siz 63<;>rw[h1]at h
 ·rw[cond_false]at h
  split at h
  ·split at h
   ·rename_i j _
    cases hc:(fitsK j.eqk j.zer.cells.toList&&intsEq i.zer.cells.toList (repL _ j.zer.cells.toList))<;>rw[hc]at h<;>cases h
   ·cases h
  ·cases h
 ·cases h
theorem zCells_ok (T:Tab) (i:TInf):(zCells T i).list=i.zer.cells.toList∧(∀a k sz,zCells T i≠.elt a k sz)∧(∀a l k sz,zCells T i≠.tail a l k sz)∧(∀ks n es g,zCells T i≠.fam ks n es g):=by
 unfold zCells
 cases Nat.ble i.siz 63 with
 | true=>exact⟨rfl,nofun,nofun,nofun⟩
 | false=>
  rw[cond_false]
  split
  ·rename_i n e _
   split
   ·rename_i j _
    cases hc:(fitsK j.eqk j.zer.cells.toList&&intsEq i.zer.cells.toList (repL n j.zer.cells.toList)) with
    | false=>exact⟨rfl,nofun,nofun,nofun⟩
    | true=>
     rw[cond_true]
     rw[Bool.and_eq_true]at hc
     exact⟨(rowL_const hc.1 n 0).trans (intsEq_eq hc.2).symm,nofun,nofun,nofun⟩
   ·exact⟨rfl,nofun,nofun,nofun⟩
  ·exact⟨rfl,nofun,nofun,nofun⟩
theorem loose_small {i:Nat}(h:i<60000):loose i=false:=by
 unfold loose
 rw[show Nat.ble 500000 i=false from by rw[Bool.eq_false_iff,ne_eq,Nat.ble_eq];omega,show Nat.ble 1500000 i=false from by rw[Bool.eq_false_iff,ne_eq,Nat.ble_eq];omega];rfl
theorem roomOk_small {i:Nat}(h:i<60000) (c:Cells) (p:Pl) (size:Nat):roomOk i c p size:=by
 unfold roomOk
 split
 ·intro e;rw[loose_small h]at e;simp at e
 ·intro e;rw[loose_small h]at e;simp at e
 ·trivial
theorem zeroCells_one (x:Value) (k:Nat):Builtin.zeroCells #[x] k=Array.replicate k x:=by
 apply Array.ext
 ·simp[Builtin.zeroCells]
 ·intro i h1 h2
  simp[Builtin.zeroCells,Nat.mod_one]
theorem freeze_new {w:World}{cs:Array Value}{e:TypeId}:(w.alloc (.cells cs e)).freeze ⟨w.heap.size,cs.size,none⟩ 1=setBlk (w.alloc (.cells cs e)) w.heap.size (.cells cs e (cs.size,cs.size+1)):=by
 unfold World.freeze setBlk
 rw[if_neg (by decide)]
 congr 1
 apply Array.ext
 ·simp
 ·intro q h1 h2
  rw[Array.getElem_modify,Array.getElem_setIfInBounds (by simpa using h1)]
  by_cases hq:w.heap.size=q
  ·subst hq
   have hk:(w.alloc (.cells cs e)).heap[w.heap.size]?=some (.cells cs e):=by
    show(w.heap.push (.cells cs e))[w.heap.size]?=_
    simp
   rw[Array.getElem?_eq_getElem (by simp)]at hk
   rw[if_pos rfl,if_pos rfl,Option.some.inj hk];rfl
  ·rw[if_neg hq,if_neg hq]
theorem sound_cvt (hT:TabOk P T) (h:Rel w0 n R S a w){o:Oper}{s d:Nat}{x:Operand}(ho:o.op=.convert s d x){id:Nat}{r:Res}{sb:ByteArray}{i j:TInf}(hx:evF S.fs x=some (.string sb)) (hi:look T s=some i) (hj:look T d=some j) (hr:cvtK T j sb id S.fm some none=some r):
  ∃(R':Nat->Pl->Prop) (v':Value) (w':World),(∀i p,R i p->R' i p)∧(execOp a.eval o).run P w=.ok (.value v') w'∧V2 R' r.val v'∧MRel w0 R' (memF S.fm r.mem) w':=by
 obtain ⟨e,je,h2,h3,h4,h6,h7,h8,rfl⟩:=cvt_iff.1 hr
 rw[Nat.blt_eq]at h7
 have h8:=Option.isNone_iff_eq_none.1 h8
 obtain ⟨d0,hd0,_,_⟩:=und_some hT hi
 obtain ⟨d1,hd1,hd2,_⟩:=und_some hT hj
 have:=hd2 h2;subst this;rw[h3]at hd1
 obtain ⟨d2,he1,he2,_⟩:=und_some hT h4
 have hu8:P.underlying e=some (.int .u8):=by
  unfold isU8T at h6
  split at h6
  ·rename_i hu
   have:=he2 (by simpa using h6);subst this;rw[he1,hu]
  ·simp at h6
 have hev:=V2_string (h.ev hx)
 have hrow:rowL [.i .u8] (strF sb) 0 sb.size=sb.data.toList.map fun b=>Value.int .u8 (b.toNat:Int):=by
  have hl:sb.data.toList.length<=sb.size:=by rw[Array.length_toList];exact Nat.le_refl _
  rw[rowL_str sb sb.size 0 (by omega),List.drop_zero,List.take_of_length_le hl]
 obtain ⟨R',⟨p,hp,hpa⟩,h5,h9,h10⟩:=append_newP h.m h8 h7 (e:=e) (C:=grownCap w sb.size 0 e) (ks:=[.i .u8]) (olds:=[]) (news:=sb.data.toList.map fun b=>Value.int .u8 (b.toNat:Int)) (z:=#[.int .u8 0]) (f:=strF sb) (tot:=sb.size) (by rw[hrow];rfl) (grown_le _ _ _ _) rfl
 have hcells:(([]:List Value).toArray++(sb.data.toList.map fun b=>Value.int .u8 (b.toNat:Int)).toArray++Builtin.zeroCells #[.int .u8 0] (grownCap w sb.size 0 e-sb.size))=Lib.bytesCells w e sb:=by
  unfold Lib.bytesCells
  congr 1
  ·apply Array.ext';simp
  ·exact zeroCells_one _ _
 rw[hcells]at h10
 have hfm:upd S.fm (nid id 0) ⟨.row [.i .u8] sb.size (strF sb),e,true⟩ (nid id 0)=some ⟨.row [.i .u8] sb.size (strF sb),e,true⟩:=upd_same _ _ _
 have hheap:(w.drew.alloc (.cells (Lib.bytesCells w e sb) e)).heap[w.heap.size]?=some (.cells (Lib.bytesCells w e sb) e (0,0)):=by
  show(w.heap.push (.cells (Lib.bytesCells w e sb) e))[w.heap.size]?=_
  simp
 obtain ⟨p',hp',hcont⟩:=memOk_row h10 hfm
 have:=h10.func _ _ _ hp hp';subst this
 rw[hpa]at hcont
 obtain ⟨cs0,fz0,y1,y2,y3⟩:=hcont
 rw[hheap]at y1
 simp only[Option.some.injEq,Obj.cells.injEq]at y1
 obtain ⟨rfl,_,rfl⟩:=y1
 have hmark:=h10.write (fz':=((Lib.bytesCells w e sb).size,(Lib.bytesCells w e sb).size+1)) (c:=.row [.i .u8] sb.size (strF sb)) hfm hp hpa rfl hheap (.inr h.m.below.size) nofun nofun nofun y2 (y3 rfl).2.2 (.inr (Nat.le_refl _))
 refine⟨R',_,Lib.bytesWorld w e sb,h5,?_,h9,?_⟩
 ·simp only[execOp,ho,hev,Lib.run_convert_string_bytes w s d e sb hd0 hd1 hu8,Sem.run_bind,Result.andThen_ok,Sem.run_pure]
 ·have e1:upd (upd S.fm (nid id 0) ⟨.row [.i .u8] sb.size (strF sb),e,true⟩) (nid id 0) ⟨.row [.i .u8] sb.size (strF sb),e,true⟩=upd S.fm (nid id 0) ⟨.row [.i .u8] sb.size (strF sb),e,true⟩:=upd_upd _ _ _ _
  have e2:Lib.bytesWorld w e sb=setBlk (w.drew.alloc (.cells (Lib.bytesCells w e sb) e)) w.heap.size (.cells (Lib.bytesCells w e sb) e ((Lib.bytesCells w e sb).size,(Lib.bytesCells w e sb).size+1)):=freeze_new (w:=w.drew)
  show MRel w0 R' (upd S.fm (nid id 0) ⟨.row [.i .u8] sb.size (strF sb),e,true⟩) _
  rw[e2,<-e1];exact hmark
theorem sound_famL (hT:TabOk P T) (h:Rel w0 n R S a w){o:Oper}{t:Nat}{x:Operand}(ho:o.op=.load t x){id:Nat}{r:Res}{b off:Nat}(hv:evF S.fs x=some (.pointer (some ⟨b,off,none⟩))) (hr:famLK T t id S.fm b off some none=some r):
  ∃(R':Nat->Pl->Prop) (v':Value),(∀i p,R i p->R' i p)∧(execOp a.eval o).run P w=.ok (.value v') w∧V2 R' r.val v'∧MRel w0 R' (memF S.fm r.mem) w:=by
 obtain ⟨blk,i,j,sz,ks,m,es,g,ti,j',rd,h1,h2,hF,h5,h6,rfl,rfl,h9,h10,h11,rfl⟩:=famL_iff.1 hr
 have h11:=Option.isNone_iff_eq_none.1 h11
 obtain ⟨q,b',hq,hqa,hev⟩:=V2_ptr (h.ev hv)
 obtain ⟨cells,e,own⟩:=blk
 simp only at h2
 subst h2
 obtain ⟨p,q',b2,k1,k2,k3,k4,k5,_⟩:∃p q b',R i p∧R b q∧p.a=some b'∧q.a=some b'∧q.d=p.d+j*1∧own=false:=h.m.mem b _ h1
 have:=h.m.func _ _ _ hq k2;subst this
 rw[hqa]at k4;cases k4
 obtain ⟨cs,e2,fz,dd,l3,l4,k5⟩:∃cs e2 fz dd,w.heap[b']?=some (.cells cs e2 fz)∧FamAt R w ks m es g cs.toList dd∧q.d=dd+j':=by
  rcases hF with⟨base,h3,h4,rfl,rfl⟩|⟨base,i2,l,cnt,base2,h3,h4,z3,z4,z5,rfl,rfl⟩
  ·obtain ⟨cells2,e2,own2⟩:=base
   simp only at h4
   subst h4
   obtain ⟨p',l1,l2⟩:FamOk w0 R w i e2 own2 ks m es g:=h.m.mem i _ h3
   have:=h.m.func _ _ _ k1 l1;subst this
   rw[k3]at l2
   obtain ⟨cs,fz,l3,l4,_,_⟩:=l2
   exact⟨cs,e2,fz,p.d,l3,l4,by rw[k5,Nat.mul_one]⟩
  ·obtain ⟨cells2,e2,own2⟩:=base
   obtain ⟨cells3,e3,own3⟩:=base2
   simp only at h4 z4
   subst h4 z4
   obtain ⟨p2,p',y1,y2,y3,_⟩:∃p q,R i2 p∧R i q∧(cnt=0∨(q.a=p.a∧q.d=p.d+l*1∧q.c+l<=p.c))∧own2=false:=h.m.mem i _ h3
   have:=h.m.func _ _ _ k1 y2;subst this
   obtain ⟨y4,y5⟩:p.a=p2.a∧p.d=p2.d+l*1:=by
    rcases y3 with y3|y3
    ·omega
    ·exact⟨y3.1,y3.2.1⟩
   obtain ⟨p3,l1,l2⟩:FamOk w0 R w i2 e3 own3 ks m es g:=h.m.mem i2 _ z3
   have:=h.m.func _ _ _ y1 l1;subst this
   rw[<-y4,k3]at l2
   obtain ⟨cs,fz,l3,l4,_,_⟩:=l2
   exact⟨cs,e3,fz,p2.d,l3,l4,by rw[k5,y5];omega⟩
 obtain ⟨v,l5,l6⟩:=l4 j' h9
 have hrun:(execOp a.eval o).run P w=.ok (.value v) w:=by
  have hc:w.cell? ⟨b',q.d,none⟩=some v:=by
   rw[cell_at l3,<-Array.getElem?_toList,k5];exact l5
  have h2:(loadVar t ⟨b',q.d+0,none⟩).run P w=.ok v w:=by rw[Nat.add_zero];simp[loadVar,run_agg hT h5,h6,hc]
  simp only[execOp,ho,hev,Instr.loadAt,Instr.sureAddr,Sem.run_bind,Sem.run_pure,Result.andThen_ok,h2]
 rcases l6 with⟨l7,a0,rfl⟩|⟨bl,d,c,cs2,fz2,rfl,l8,l9,l10,l11⟩
 ·refine⟨fun i p=>R i p∨(i=nid id 0∧p=⟨none,0,0⟩),.slice a0 0 0,fun _ _=>.inl,hrun,slice_V2 (q:=⟨none,0,0⟩) (nid_loose h10 (by omega)) (.inr ⟨rfl,rfl⟩) (by rw[l7];exact Nat.le_refl _) ⟨l7,rfl,a0,rfl⟩,?_⟩
  refine h.m.view h11 (nid_lt h10 (by omega)) (.inr (.inl rfl)) nofun (fun R' _ hR=>⟨_,hR,?_⟩)
  show rowL ks (g j').2 0 (g j').1=[]
  rw[l7];rfl
 ·refine⟨fun i p=>R i p∨(i=nid id 0∧p=⟨some bl,d,c⟩),_,fun _ _=>.inl,hrun,slice_V2 (q:=⟨some bl,d,c⟩) (nid_loose h10 (by omega)) (.inr ⟨rfl,rfl⟩) l8 rfl,?_⟩
  refine h.m.view h11 (nid_lt h10 (by omega)) (.inr (.inr ⟨rfl,fun b hb=>by cases hb;exact .inr l9⟩)) (fun b hb=>by cases hb;exact⟨_,_,_,l10⟩) (fun R' _ hR=>⟨_,hR,cs2,fz2,l10,?_,fun ho=>by simp at ho⟩)
  exact LP_plain (rowL_pl _ _ _ _) (by rw[show(Cells.row ks (g j').1 (g j').2).list=rowL ks (g j').2 0 (g j').1 from rfl,rowL_len];exact l11)
theorem op_sound [Laid P] {w0:Wb (lay P)}(hT:TabOk P T) (hG:SumsOk P G) (h:Rel w0 n R S a w){o:Oper}{id:Nat}(hd:∀t,o.dst=some t->t<n){r:Res}
  (hr:opS T G id o.op (evF S.fs) S.fm=some r){K:Act->World->Prop}{Q:Exit->Act->World->Prop}(hK:∀(R':Nat->Pl->Prop) a' w',(∀i p,R i p->R' i p)->Rel w0 n R' (S.apply o.dst r) a' w'->K a' w'):o.wp P a w K Q:=by
 have quiet:PR P R a w o r->o.wp P a w K Q:=by
  rintro ⟨h1,v',h3,h4⟩
  unfold Oper.wp
  rw[h3]
  refine hK R _ _ (fun _ _ h=>h) ?_
  have:=h.put hd h4
  unfold FS.apply
  rw[h1];exact this
  -- a value, and memory
 have made:∀(R':Nat->Pl->Prop) (v':Value) (w':World),(∀i p,R i p->R' i p)->(execOp a.eval o).run P w=.ok (.value v') w'->V2 R' r.val v'->MRel w0 R' (memF S.fm r.mem) w'->o.wp P a w K Q:=by
  intro R' v' w' h1 h2 h3 h4
  unfold Oper.wp
  rw[h2]
  exact hK R' _ _ h1 ((h.remem h1 h4).put hd h3)
 cases ho:o.op with
 | alloc t=>
  rw[ho]at hr;simp only[opS,opK,oK_some,cond_some,Bool.and_eq_true,Nat.blt_eq]at hr
  obtain ⟨i,hi,⟨⟨⟨ht,hp⟩,hid⟩,hsm⟩,hr⟩:=hr
  have hid:=Option.isNone_iff_eq_none.1 hid
  cases hr
  refine made (fun i p=>R i p∨(i=id∧p=⟨some w.heap.size,0,0⟩)) (.pointer (some ⟨w.heap.size,0,none⟩)) (w.alloc (.cells i.zer.cells t)) (fun _ _=>.inl) ?_ ⟨_,_,.inr ⟨rfl,rfl⟩,rfl,rfl⟩ (h.m.alloc hid (by omega) (zCells_ok T i).2.1 (zCells_ok T i).2.2.1 (zCells_ok T i).2.2.2 (by rw[(zCells_ok T i).1];exact LP_of (plain_cells hp ht)) (roomOk_small hsm _ _ _) (zCells_itr T i))
  simp[execOp,ho,Instr.alloc,run_zero hT hi,newVar,newRow,newObj,Sem.run]
 | box t x=>
  rw[ho]at hr;simp only[opS,opK,oK_some,cond_some,Bool.and_eq_true,Nat.blt_eq]at hr
  obtain ⟨v,hv,⟨⟨ht,hid⟩,hsm⟩,hr⟩:=hr
  have hid:=Option.isNone_iff_eq_none.1 hid
  cases hr
  refine made (fun i p=>R i p∨(i=id∧p=⟨some w.heap.size,0,0⟩)) (.pointer (some ⟨w.heap.size,0,none⟩)) (w.alloc (.cells (a.eval x).cells t)) (fun _ _=>.inl) ?_ ⟨_,_,.inr ⟨rfl,rfl⟩,rfl,rfl⟩ (h.m.alloc hid (by omega) nofun nofun nofun (LP_of (V2_cells (h.ev hv) (notTup_ne ht))) (roomOk_small hsm _ _ _))
  simp[execOp,ho,Instr.box,newVar,newRow,newObj,Sem.run]
 | store t x y=>
  obtain ⟨h1,w',h2,h3⟩:=sound_store hT h ho hr
  unfold Oper.wp
  rw[h2]
  refine hK R _ _ (fun _ _ h=>h) ?_
  have:=(h.remem (fun _ _ h=>h) h3).put hd (V2_undef (R:=R))
  unfold FS.apply
  rw[h1];exact this
 | load t x=>
  have hr0:=hr
  rw[ho]at hr0
  simp only[opS,opK,oK_some,ptrK_some]at hr0
  obtain ⟨v,hv,b,off,rfl,hr0⟩:=hr0
  cases hfb:famB S.fm b with
  | true=>
   rw[hfb,cond_true]at hr0
   obtain ⟨R',v',h1,h2,h3,h4⟩:=sound_famL hT h ho hv hr0
   exact made R' v' w h1 h2 h3 h4
  | false=>
   rw[hfb,cond_false]at hr0
   exact quiet (sound_load hT h ho hv hr0)
 | indexAddr t x ix=>
  by_cases hng:∃g,x=.global g
  ·obtain ⟨g,rfl⟩:=hng
   rw[ho]at hr
   simp only[opS,opK,glbK,oK_some]at hr
   obtain ⟨vi,hvi,hr⟩:=hr
   obtain ⟨kd,m,i,len,e,j,ks,N,c,el,rfl,k2,k3,k4,k5,k6,k7,k8,k9,rfl⟩:=gidx_iff.1 hr
   obtain ⟨dd,hd1,hd2,_⟩:=und_some hT k2
   have:=hd2 k3;subst this;rw[k4]at hd1
   have hm:=V2_int (h.ev hvi)
   have hin':0<=m∧m<(len:Int):=by simpa [inR] using k7
   obtain ⟨g',e1,hmem⟩:=hG _ _ k6
   have e1:g=g':=Nat.add_left_cancel e1
   subst e1
   obtain ⟨fz,hcell⟩:=h.m.below.gok _ hmem
   obtain ⟨fz0,hcell0⟩:=h.m.below.glob.1 _ hmem
   have hX:=h.m.below.glob.2 _ hmem
   have hk9:id<60000:=by rw[Nat.blt_eq]at k9;exact k9
   refine made (fun i p=>R i p∨(i=id∧p=⟨some g,0,0⟩)) (.pointer (some ⟨g,0+m.toNat*j.siz,none⟩)) w (fun _ _=>.inl) ?_ ⟨_,_,.inr ⟨rfl,rfl⟩,rfl,rfl⟩ (h.m.view (Option.isNone_iff_eq_none.1 k8) (by omega) (.inr (.inr ⟨rfl,fun b hb=>by cases hb;exact .inl ⟨hX,heap_lt hcell0⟩⟩)) (fun b2 hb2=>by cases hb2;exact⟨_,_,_,hcell⟩) ?_)
   ·have hge:a.eval (.global g)=.pointer (some ⟨g,0,none⟩):=rfl
    simp[execOp,ho,hm,hge,Instr.indexAt,asIntOf,Instr.sureAddr,run_underlying hd1,hin',run_size hT k5,addr_add]
   ·intro R' h7 h8
    refine⟨_,h8,_,fz,hcell,?_,fun ho=>by simp at ho⟩
    refine LP_plain (rowL_pl _ _ _ _) ?_
    show List.take (rowL ks c 0 N).length (List.drop 0 (rowL ks c 0 N).toArray.toList)=rowL ks c 0 N
    rw[List.drop_zero,List.toList_toArray,List.take_length]
  rcases sound_indexAddr hT h ho hng hr with h1|⟨b,k,sz,e,q,b',rd,h1,h2,rfl,h3,h4,h5,h6⟩
  ·exact quiet h1
  ·refine made (fun i p=>R i p∨(i=id∧p=⟨some b',q.d+k*sz,0⟩)) _ w (fun _ _=>.inl) h6 ⟨_,_,.inr ⟨rfl,rfl⟩,rfl,rfl⟩ (h.m.view h1 (by omega) (.inl ⟨rfl,rfl⟩) (fun b2 hb2=>by cases hb2;exact(h.m.there _ _ _ h4 h5).loose h3) ?_)
   intro R' h7 h8
   exact⟨q,_,b',h7 _ _ h4,h8,h5,rfl,rfl,rfl⟩
 | slice t x lo hi mx=>
  rcases sound_slice hT h ho hr with h1|⟨b,b2,L2,L,H,c,sz,e,p,q,h1,h2,rfl,h3,h4,h5,⟨p2,h6a,h6⟩,h7,h8⟩
  ·exact quiet h1
  ·have hview:MRel w0 (fun i p=>R i p∨(i=nid id 0∧p=q)) (upd S.fm (nid id 0) ⟨.tail b2 L2 (H-L) sz,e,false⟩) w:=by
    refine h.m.view h1 (nid_lt h2 (by omega)) (.inl ⟨rfl,rfl⟩) (fun b2 hb2=>(h.m.there _ _ _ h4 (by rw[<-h7];exact hb2)).loose h3) ?_
    intro R' h9 h10
    exact⟨p2,q,h9 _ _ h6a,h10,h6,rfl⟩
   rcases h8 with⟨b',h9,h10⟩|⟨h9,h10,h11,a0,h12⟩
   ·exact made _ _ w (fun _ _=>.inl) h10 (slice_V2 (nid_loose h2 (by omega)) (.inr ⟨rfl,rfl⟩) h5 (by rw[h9])) hview
   ·exact made _ _ w (fun _ _=>.inl) h12 (slice_V2 (nid_loose h2 (by omega)) (.inr ⟨rfl,rfl⟩) h5 (by rw[h9];exact⟨h10,h11,a0,rfl⟩)) hview
 | convert s d x=>
  rcases sound_convert hT h ho hr with h1|⟨v',w',h2,h3,h4⟩|⟨sb,i,j,h1,h2,h3,h4⟩
  ·exact quiet h1
  ·exact made R v' w' (fun _ _ h=>h) h2 h3 h4
  ·obtain ⟨R',v',w',k1,k2,k3,k4⟩:=sound_cvt hT h ho h1 h2 h3 h4
   exact made R' v' w' k1 k2 k3 k4
 | makeSlice t l c=>
  obtain ⟨R',v',w',h1,h2,h3,h4⟩:=sound_make hT h ho hr
  exact made R' v' w' h1 h2 h3 h4
 | call c=>
  rw[ho]at hr;simp only[opS,opK,callK]at hr
  split at hr
  ·rename_i g hc
   obtain ⟨vs,hr,hl⟩:=evs_run h _ hr
   obtain ⟨ent,hent,hr⟩:=oK_some.1 hr
   have hsum:=hG g ent hent
   have hex:execOp a.eval o=callFunc g (c.args.map a.eval):=by
    obtain ⟨cal,args,ats⟩:=c
    simp only at hc
    subst hc
    unfold execOp;simp[ho,resolve,Deferred.ofValue,invoke,Act.eval]
   have fin0:∀(vs':List Value) (Ψ:Value->World->Prop),c.args.map a.eval=vs'.toArray->Invokes P g vs'.toArray w Ψ->(∀v' w',Ψ v' w'->K (a.put o.dst v') w')->o.wp P a w K Q:=by
    intro vs' Ψ hargs' hinv fin
    unfold Oper.wp
    rw[hex,hargs']
    unfold Invokes at hinv
    split at hinv
    ·rename_i hrun;rw[hrun];exact fin _ _ hinv
    ·rename_i hrun
     rw[hrun]
     refine Calls.mono hinv fun e w'' he=>?_
     cases e with
     | returned v=>exact fin _ _ he
     | panicked c=>exact he.elim
     | outgrown=>exact he.elim
    ·exact hinv.elim
   cases ent with
   | gl _ _ _ _=>simp[entK]at hr
   | pl F=>
    simp only[entK,cond_some,oK_some]at hr
    obtain ⟨hp,⟨q,v⟩,hv,hq,hpv,hr⟩:=hr
    simp only at hq hpv
    subst hq
    cases hr
    have hargs:=(LR_plain (fun v v' hv=>V2_plain hv) hp).1 hl
    have hinv:=hsum vs v hv hp w h.m.below.gok
    refine fin0 vs _ (by apply Array.ext';simp[<-hargs]) hinv ?_
    rintro v' w' ⟨rfl,hb⟩
    exact hK R _ _ (fun _ _ h=>h) ((h.world hb).put hd ((V2_plain hpv).2 rfl))
   | me F=>
    simp only[entK,cond_some,Nat.blt_eq]at hr
    obtain ⟨hsm,hr⟩:=hr
    obtain ⟨v,l,hpick,hr⟩:=altM_some.1 hr
    obtain ⟨hok,hr⟩:=cond_some.1 hr
    cases hr
    have hinv:=hsum w0 R S.fm w h.m vs _ hl _ (fun b blk hb=>by unfold restr at hb;exact(cond_some.1 hb).2) id hsm v l hpick (by
     intro p hp
     have:=List.all_eq_true.1 hok p hp
     cases hb:(Nat.ble (nid id 0) p.1&&Nat.blt p.1 (nid id 8)) with
     | true=>
      rw[hb,cond_true]at this
      simp only[Bool.and_eq_true,Nat.ble_eq,Nat.blt_eq]at hb
      exact⟨fun _=>Option.isNone_iff_eq_none.1 this,fun hx=>absurd hb hx⟩
     | false=>
      rw[hb,cond_false]at this
      simp only[Bool.and_eq_true]at this
      refine⟨fun hx=>?_,fun _=>?_⟩
      ·have:(Nat.ble (nid id 0) p.1&&Nat.blt p.1 (nid id 8))=true:=by simp only[Bool.and_eq_true,Nat.ble_eq,Nat.blt_eq];exact hx
       rw[hb]at this;simp at this
      ·unfold restr
       rw[this.1];exact this.2)
    refine fin0 (c.args.toList.map a.eval) _ (by apply Array.ext';simp) hinv ?_
    rintro v' w' ⟨R',hmono,hvv,hm⟩
    exact hK R' _ _ hmono ((h.remem hmono hm).put hd hvv)
   | il F nat=>
    simp only[entK,cond_some,Nat.blt_eq]at hr
    obtain ⟨hsm,hr⟩:=hr
    obtain ⟨v,l,hpick,hr⟩:=(ilF_some nat).1 hr
    obtain ⟨hok,hr⟩:=cond_some.1 hr
    cases hr
    have hinv:=hsum w0 R S.fm w h.m vs _ hl _ (fun b blk hb=>by unfold restr at hb;exact(cond_some.1 hb).2) _ id hsm v l hpick (by
     intro p hp
     have:=List.all_eq_true.1 hok p hp
     cases hb:(Nat.ble (nid id 0) p.1&&Nat.blt p.1 (nid id 8)) with
     | true=>
      rw[hb,cond_true]at this
      simp only[Bool.and_eq_true,Nat.ble_eq,Nat.blt_eq]at hb
      exact⟨fun _=>Option.isNone_iff_eq_none.1 this,fun hx=>absurd hb hx⟩
     | false=>
      rw[hb,cond_false]at this
      simp only[Bool.and_eq_true]at this
      refine⟨fun hx=>?_,fun _=>?_⟩
      ·have:(Nat.ble (nid id 0) p.1&&Nat.blt p.1 (nid id 8))=true:=by simp only[Bool.and_eq_true,Nat.ble_eq,Nat.blt_eq];exact hx
       rw[hb]at this;simp at this
      ·unfold restr
       rw[this.1];exact this.2)
    refine fin0 (c.args.toList.map a.eval) _ (by apply Array.ext';simp) hinv ?_
    rintro v' w' ⟨R',hmono,hvv,hm⟩
    exact hK R' _ _ hmono ((h.remem hmono hm).put hd hvv)
  ·rename_i hc
   obtain ⟨vs,hr,hl⟩:=evs_run h _ hr
   simp only[twoK_some]at hr
   obtain ⟨d,s,t,l,rfl,hts,hr⟩:=hr
   obtain ⟨m,w',h1,h2,h3⟩:=sound_copy hT h hts hl hr 0
   refine made R (.int .i64 ((m:Nat):Int)) w' (fun _ _ h=>h) ?_ (by rw[h1];exact(V2_plain rfl).2 rfl) h3
   unfold Builtin.copy_ at h2
   simp only[execOp,ho,resolve,hc,Sem.run_bind,Sem.run_pure,Result.andThen_ok,invoke,builtin]
   unfold Builtin.copy_
   rw[h2];rfl
  ·rename_i hc
   obtain ⟨vs,hr,hl⟩:=evs_run h _ hr
   simp only[twoK_some]at hr
   obtain ⟨d,s,t,l,rfl,hts,hr⟩:=hr
   obtain ⟨happ,hr⟩:=cond_some.1 hr
   obtain ⟨R',v',w',h1,h2,h3,h4⟩:∃(R':Nat->Pl->Prop) (v':Value) (w':World),(∀i p,R i p->R' i p)∧(Builtin.append_ c.argTypes 0 (c.args.map a.eval)).run P w=.ok v' w'∧V2 R' r.val v'∧MRel w0 R' (memF S.fm r.mem) w':=by
    cases hel:elSl T t with
    | true=>
     rw[hel,cond_true]at hr
     cases hB:tlB S.fm s with
     | true=>rw[hB,cond_true]at hr;exact sound_appL hT h hts happ hl hr 0
     | false=>rw[hB,cond_false]at hr;exact sound_appF hT h hts happ hl hr 0
    | false=>rw[hel,cond_false]at hr;exact sound_append hT h hts happ hl hr 0
   refine made R' v' w' h1 ?_ h3 h4
   unfold Builtin.append_ at h2
   simp only[execOp,ho,resolve,hc,Sem.run_bind,Sem.run_pure,Result.andThen_ok,invoke,builtin]
   unfold Builtin.append_
   rw[h2];rfl
  ·rename_i hc
   obtain ⟨vs,hr,hl⟩:=evs_run h _ hr
   simp only[oneLK_some]at hr
   obtain ⟨v,t,l,rfl,hts,hr⟩:=hr
   unfold lenK at hr
   obtain ⟨i,hi,hr⟩:=oK_some.1 hr
   obtain ⟨dd,hd1,hd2,_⟩:=und_some hT hi
   obtain ⟨x0,hxs⟩:∃x0,c.args.toList=[x0]:=by
    have:=LR_len hl
    simp at this
    match hx:c.args.toList with
    | [x0]=>exact⟨x0,rfl⟩
    | []=>rw[<-Array.length_toList,hx]at this;simp at this
    | _::_::_=>rw[<-Array.length_toList,hx]at this;simp at this
   rw[hxs]at hl
   simp only[List.map_cons,List.map_nil,LR,and_true]at hl
   have hargs:c.args.map a.eval=#[a.eval x0]:=by
    apply Array.ext'
    simp[hxs]
   have hat:c.argTypes[0]?=some t:=by rw[<-Array.getElem?_toList,hts];rfl
   have fin:∀m:Nat,r=val (.int .i64 ((m:Nat):Int))->(Builtin.len_ c.argTypes 0 #[a.eval x0]).run P w=.ok (goInt m) w->o.wp P a w K Q:=by
    rintro m rfl hrun
    refine made R (.int .i64 ((m:Nat):Int)) w (fun _ _ h=>h) ?_ ((V2_plain rfl).2 rfl) h.m
    unfold Builtin.len_ at hrun
    simp only[execOp,ho,resolve,hc,Sem.run_bind,Sem.run_pure,Result.andThen_ok,invoke,builtin,hargs]
    unfold Builtin.len_
    rw[hrun];rfl
   obtain ⟨hst,⟨n',e,hu,h3⟩|⟨e,hu,h3⟩|⟨_,_,h3⟩|⟨_,h3⟩|⟨hu,h3⟩⟩:=descK_some hr<;>first|(simp at h3;done)|skip
   ·have:=hd2 hst;subst this;rw[hu]at hd1
    refine fin n' (Option.some.inj h3).symm ?_
    simp[Builtin.len_,hat,run_underlying hd1]
   ·have:=hd2 hst;subst this;rw[hu]at hd1
    obtain ⟨ad,m,c',rfl,h4⟩:=slLenK_some.1 h3
    refine fin m (Option.some.inj h4).symm ?_
    have hx:∃ad' c2,a.eval x0=.slice ad' m c2:=by
     cases ad with
     | none=>exact⟨none,_,(V2_plain (R:=R) rfl).1 hl⟩
     | some ad=>obtain ⟨p,_,e⟩:=(show V0 R (.slice (some ad) m c') (a.eval x0) from hl);exact SlOk_sl e
    obtain ⟨ad',c2,hx⟩:=hx
    simp[Builtin.len_,hat,run_underlying hd1,hx]
   ·have:=hd2 hst;subst this;rw[hu]at hd1
    obtain ⟨s,rfl,h4⟩:=strK_some.1 h3
    refine fin s.size (Option.some.inj h4).symm ?_
    simp[Builtin.len_,hat,run_underlying hd1,V2_string hl]
  ·rename_i hc
   obtain ⟨vs,hr,hl⟩:=evs_run h _ hr
   obtain ⟨kd,x,k2,y,rfl,hr⟩:=two2K_some.1 hr
   cases hr
   have hp:=(LR_plain (r:=V2 R) (pl:=pl2) (fun v v' hv=>V2_plain hv) (l:=[.int kd x,.int k2 y]) rfl).1 hl
   have hargs:c.args.map a.eval=#[.int kd x,.int k2 y]:=by
    apply Array.ext'
    simpa using hp
   refine made R (.int kd (if y > x then y else x)) w (fun _ _ h=>h) ?_ ((V2_plain rfl).2 rfl) h.m
   simp only[execOp,ho,resolve,hc,Sem.run_bind,Sem.run_pure,Result.andThen_ok,invoke,builtin,Builtin.max_,hargs,List.foldlM_cons,List.foldlM_nil,Builtin.max2]
  ·rename_i hc
   obtain ⟨vs,hr,hl⟩:=evs_run h _ hr
   obtain ⟨kd,x,k2,y,rfl,hr⟩:=two2K_some.1 hr
   cases hr
   have hp:=(LR_plain (r:=V2 R) (pl:=pl2) (fun v v' hv=>V2_plain hv) (l:=[.int kd x,.int k2 y]) rfl).1 hl
   have hargs:c.args.map a.eval=#[.int kd x,.int k2 y]:=by
    apply Array.ext'
    simpa using hp
   refine made R (.int kd (if y<x then y else x)) w (fun _ _ h=>h) ?_ ((V2_plain rfl).2 rfl) h.m
   simp only[execOp,ho,resolve,hc,Sem.run_bind,Sem.run_pure,Result.andThen_ok,invoke,builtin,Builtin.min_,hargs,List.foldlM_cons,List.foldlM_nil,Builtin.min2]
  ·simp at hr
 | buildSlice t len ps=>
  rw[ho]at hr;simp only[opS,opK,oK_some]at hr
  obtain ⟨i,hi,hr⟩:=hr
  obtain ⟨vs,hr,h1,h2⟩:=parts_run h _ hr
  obtain ⟨dd,hd1,hd2,_⟩:=und_some hT hi
  obtain ⟨hst,⟨_,_,_,h3⟩|⟨e,hu,h3⟩|⟨_,_,h3⟩|⟨_,h3⟩|⟨_,h3⟩⟩:=descK_some hr<;>first|(simp at h3;done)|skip
  have:=hd2 hst;subst this;rw[hu]at hd1
  simp only[oK_some,cond_some,Bool.and_eq_true,Bool.not_eq_true',Nat.blt_eq]at h3
  obtain ⟨j,hj,⟨⟨⟨⟨⟨⟨⟨ht,hp⟩,hsz⟩,hs0⟩,hl0⟩,hle⟩,hid⟩,hsm⟩,h3⟩:=h3
  have hid:=Option.isNone_iff_eq_none.1 hid
  have hsz:=nbeq.1 hsz
  have hle:=Nat.le_of_ble_eq_true hle
  have hs0:j.siz≠0:=fun e=>by rw[e]at hs0;simp at hs0
  have hl0:len≠0:=fun e=>by rw[e]at hl0;simp at hl0
  have h1':vs.map (·.1)=(ps.toList.map fun p=>(p.1,a.eval p.2)).map (·.1):=by rw[h1];simp
  have h2':LR (V2 R) (vs.map (·.2)) ((ps.toList.map fun p=>(p.1,a.eval p.2)).map (·.2)):=by rw[List.map_map];exact h2
  have hparts:(ps.map fun(i,x)=>(i,a.eval x)).toList=ps.toList.map fun p=>(p.1,a.eval p.2):=by simp
  have hz:j.zer.cells.size=j.siz:=by rw[<-Array.length_toList];exact hsz
  obtain ⟨cs,cs',h4,h5,h6⟩:=fill_run (place':=fun m=>some (m*j.siz,j.siz)) (fun _ _ h=>h) vs _ h1' h2' _ (repL len j.zer.cells.toList).toArray (by rw[List.toList_toArray];exact LR_rep (plain_cells hp ht) len) h3
  cases h4
  have:(execOp a.eval o).run P w=.ok (.value (.slice (some ⟨w.heap.size,0,none⟩) len len)) (w.alloc (.cells cs' e)):=by
   have hne:len*j.siz≠0:=Nat.mul_ne_zero hl0 hs0
   have hr0:=repL_range (z:=j.zer.cells) (n:=len) (by rw[hz];exact hs0)
   rw[hz]at hr0
   simp only[execOp,ho,Instr.buildSlice,Sem.run_bind,run_underlying hd1,Result.andThen_ok,run_size hT hj,hparts]
   rw[if_neg (by omega)]
   simp only[Sem.run_pure,Result.andThen_ok,if_neg hne,Sem.run_bind,run_zero hT hj,hz,hr0,h5,newRow,newObj]
   simp[Sem.run]
  have hlo:loose id=false:=by
   unfold loose
   rw[show Nat.ble 500000 id=false from by rw[Bool.eq_false_iff,ne_eq,Nat.ble_eq];omega,show Nat.ble 1500000 id=false from by rw[Bool.eq_false_iff,ne_eq,Nat.ble_eq];omega];rfl
  refine made (fun i p=>R i p∨(i=id∧p=⟨some w.heap.size,0,0⟩)) _ _ (fun _ _=>.inl) this ⟨_,.inr ⟨rfl,rfl⟩,?_⟩ (h.m.alloc hid (by omega) nofun nofun nofun (LP_of h6) (roomOk_small (by assumption) _ _ _))
  unfold SlOk
  rw[if_neg (by simp[hlo])]
  exact⟨_,rfl,by simp⟩
 | range t x=>
  obtain ⟨s,h1,h2,rfl,h4⟩:=sound_range hT h ho hr
  exact made (fun i p=>R i p∨(i=id∧p=⟨some w.heap.size,0,0⟩)) _ _ (fun _ _=>.inl) h4 ⟨_,_,.inr ⟨rfl,rfl⟩,rfl,rfl⟩ (h.m.allocItr h1 h2 s)
 | next x b=>
  rcases sound_next h ho hr with h1|⟨j,b',s,pos,h1,h2,h3,h4,h5,rfl,h6⟩
  ·exact quiet h1
  ·exact made R _ _ (fun _ _ h=>h) h6 ((V2_plain rfl).2 rfl) (h.m.stepItr h1 h2 h3 h4 h5 rfl _)
 | _=>exact quiet (sound_quiet hT h hr (by simp[ho]) (by simp[ho]) (by simp[ho]) (by simp[ho]) (by simp[ho]) (by simp[ho]) (by simp[ho]) (by simp[ho]) (by simp[ho]) (by simp[ho]) (by simp[ho]) (by simp[ho]))
end
end Go.W

namespace Go.W
open Go.RowKit (Below)
structure Rec where
 o:Oper
 id:Nat
 r:Res
def opTmps:List Operand->List Nat
 | []=>[]
 | .tmp t::r=>t::opTmps r
 | _::r=>opTmps r
theorem opTmps_mem {t:Nat}{l:List Operand}(h:.tmp t∈l):t∈opTmps l:=by
 induction l with
 | nil=>simp at h
 | cons x l ih=>
  rcases List.mem_cons.1 h with rfl|h'
  ·simp[opTmps]
  ·cases x<;>simp[opTmps,ih h']
def gslot (ops:Array Oper) (o:Oper):Option Nat:=o.guard.bind fun g=>(ops[g.1]?).bind (·.dst)
def looks (ops:Array Oper) (o:Oper):List Nat:=opTmps o.op.operands.toList++(gslot ops o).toList
def wrs (c:Rec):List Nat:=c.r.mem.map (·.1)
def dstIn (d:Option Nat) (l:List Nat):Bool:=
 match d with
 | some t=>nmem t l
 | none=>false
def meets (l m:List Nat):Bool:=
 match l with
 | []=>false
 | x::l=>nmem x m||meets l m
theorem meets_false {l m:List Nat}(h:meets l m=false):∀x∈l,x ∉ m:=by
 induction l with
 | nil=>simp
 | cons y l ih=>
  simp only[meets,Bool.or_eq_false_iff]at h
  intro x hx
  rcases List.mem_cons.1 hx with rfl|hx
  ·intro hm;rw[nmem_iff.2 hm]at h;simp at h
  ·exact ih h.2 x hx
def clash (ops:Array Oper) (x y:Rec):Bool:=
 dstIn x.o.dst (looks ops y.o)||dstIn x.o.dst y.o.dst.toList||dstIn y.o.dst (looks ops x.o) ||
 meets (wrs x) y.r.rd||meets (wrs x) (wrs y)||meets (wrs y) x.r.rd
def isTup (v:Value):Bool:=
 match v with
 | .tuple _=>true
 | _=>false
section
variable (T:Tab) (G:Sums) (ops:Array Oper)
def stepF (id:Nat) (o:Oper) (S:FS):Option Res:=
 match o.guard with
 | none=>opS T G id o.op (evF S.fs) S.fm
 | some g=>oK (gslot ops o) (fun t=>oK (S.fs t) (fun v=>bif isTup v then some (val undef) else boolK v (fun b=>bif b==g.2 then opS T G id o.op (evF S.fs) S.fm else some (val undef)) none) none) none
def RunL:List Rec->FS->FS->Prop
 | [],S,S'=>S=S'
 | c::I,S,S'=>stepF T G ops c.id c.o S=some c.r∧RunL I (S.apply c.o.dst c.r) S'
variable {T G ops}
theorem stepF_congr {id:Nat}{o:Oper}{S S':FS}{r:Res}(h:stepF T G ops id o S=some r) (hs:∀t∈looks ops o,S'.fs t=S.fs t) (hm:∀b∈r.rd,S'.fm b=S.fm b):
  stepF T G ops id o S'=some r:=by
 have hev:∀x∈o.op.operands.toList,evF S'.fs x=evF S.fs x:=by
  intro x hx
  cases x with
  | tmp t=>exact hs t (List.mem_append_left _ (opTmps_mem hx))
  | _=>rfl
 have hop:∀r,opS T G id o.op (evF S.fs) S.fm=some r->(∀b∈r.rd,S'.fm b=S.fm b)->opS T G id o.op (evF S'.fs) S'.fm=some r:=by
  intro r hr hm
  rw[opS_ev hev]
  exact opS_mm hr hm
 unfold stepF at *
 split at h
 ·rename_i hg;simp only[hg]at *;exact hop r h hm
 ·rename_i g hg
  simp only[hg]at *
  simp only[oK_some]at h ⊢
  obtain ⟨t,ht,v,hv,h⟩:=h
  refine⟨t,ht,v,by rw[<-hv];exact hs t (List.mem_append_right _ (by simp[ht])),?_⟩
  cases hu:isTup v with
  | true=>simp only[hu,cond_true]at h ⊢;exact h
  | false=>
   simp only[hu,cond_false,boolK_some]at h ⊢
   obtain ⟨b,hb,h⟩:=h
   refine⟨b,hb,?_⟩
   cases hbg:(b==g.2) with
   | true=>simp only[hbg,cond_true]at h ⊢;exact hop r h hm
   | false=>simp only[hbg,cond_false]at h ⊢;exact h
theorem putF_ne {f:Nat->Option Value}{d:Option Nat}{v:Value}{t:Nat}(h:∀u,d=some u->u≠t):putF f d v t=f t:=by
 cases d with
 | none=>rfl
 | some u=>exact upd_ne _ _ (h u rfl)
theorem memF_out:∀{l:List (Nat×Blk)}{fm:Nat->Option Blk}{b:Nat},b ∉ l.map (·.1)->memF fm l b=fm b
 | [],_,_,_=>rfl
 | p::l,fm,b,h=>by
  simp only[List.map_cons,List.mem_cons,not_or]at h
  rw[memF,upd_ne _ _ (Ne.symm h.1),memF_out h.2]
theorem memF_ne {fm:Nat->Option Blk}{c:Rec}{b:Nat}(h:b ∉ wrs c):memF fm c.r.mem b=fm b:=memF_out h
theorem putF_comm {f:Nat->Option Value}{d e:Option Nat}{v u:Value}(h:∀t,d=some t->e≠some t):putF (putF f d v) e u=putF (putF f e u) d v:=by
 cases d with
 | none=>rfl
 | some t=>
  cases e with
  | none=>rfl
  | some s=>exact upd_comm _ _ _ (fun hts=>h t rfl (by rw[hts]))
theorem memF_in:∀{l:List (Nat×Blk)}{fm fm':Nat->Option Blk}{b:Nat},b∈l.map (·.1)->memF fm l b=memF fm' l b
 | [],_,_,_,h=>by simp at h
 | p::l,fm,fm',b,h=>by
  rw[memF,memF]
  by_cases hp:p.1=b
  ·rw[hp,upd_same,upd_same]
  ·rw[upd_ne _ _ hp,upd_ne _ _ hp]
   simp only[List.map_cons,List.mem_cons]at h
   exact memF_in (h.resolve_left (Ne.symm hp))
theorem memF_eq (fm:Nat->Option Blk) (c:Rec) (b:Nat):b∈wrs c->∀fm',memF fm c.r.mem b=memF fm' c.r.mem b:=fun h _=>memF_in h
theorem memF_comm {fm:Nat->Option Blk}{x y:Rec}(h:meets (wrs x) (wrs y)=false):
  memF (memF fm x.r.mem) y.r.mem=memF (memF fm y.r.mem) x.r.mem:=by
 funext b
 have hm:=meets_false h
 by_cases hx:b∈wrs x
 ·have hy:=hm b hx
  rw[memF_ne hy]
  exact memF_eq _ _ _ hx _
 ·rw[memF_ne (c:=x) hx]
  by_cases hy:b∈wrs y
  ·exact memF_eq _ _ _ hy _
  ·rw[memF_ne (c:=y) hy,memF_ne (c:=y) hy,memF_ne (c:=x) hx]
theorem dstIn_false {d:Option Nat}{l:List Nat}(h:dstIn d l=false):∀u,d=some u->u ∉ l:=by
 rintro u rfl hm
 simp only[dstIn]at h
 rw[nmem_iff.2 hm]at h
 simp at h
theorem RunL_swap {x y:Rec}{I:List Rec}{S S':FS}(hc:clash ops x y=false) (h:RunL T G ops (x::y::I) S S'):RunL T G ops (y::x::I) S S':=by
 simp only[clash,Bool.or_eq_false_iff]at hc
 obtain ⟨⟨⟨⟨⟨c1,c2⟩,c3⟩,c4⟩,c5⟩,c6⟩:=hc
 obtain ⟨h1,h2,h3⟩:=h
 have d1:=dstIn_false c1
 have d3:=dstIn_false c3
 have m4:=meets_false c4
 have m6:=meets_false c6
 refine⟨stepF_congr h2 (fun t ht=>?_) (fun b hb=>?_),stepF_congr h1 (fun t ht=>?_) (fun b hb=>?_),?_⟩
 ·exact(putF_ne (fun u hu e=>d1 u hu (e▸ht))).symm
 ·exact(memF_ne (fun hw=>m4 b hw hb)).symm
 ·exact putF_ne (fun u hu e=>d3 u hu (e▸ht))
 ·exact memF_ne (fun hw=>m6 b hw hb)
 ·have:(S.apply y.o.dst y.r).apply x.o.dst x.r=(S.apply x.o.dst x.r).apply y.o.dst y.r:=by
   simp only[FS.apply]
   congr 1
   ·refine putF_comm fun t ht e=>?_
    have:=dstIn_false c2 t e
    rw[ht]at this
    simp at this
   ·exact(memF_comm c5).symm
  rw[this];exact h3
theorem RunL_front {x:Rec}:∀(pre:List Rec){post:List Rec}{S S':FS},(∀p∈pre,clash ops p x=false)->RunL T G ops (pre++x::post) S S'->RunL T G ops (x::(pre++post)) S S'
 | [],_,_,_,_,h=>h
 | p::pre,post,S,S',hc,h=>by
  have h':RunL T G ops (p::x::(pre++post)) S S':=⟨h.1,RunL_front pre (fun q hq=>hc q (by simp[hq])) h.2⟩
  exact RunL_swap (hc p (by simp)) h'
end
section
variable {P:Program} [Laid P] {T:Tab}{G:Sums}{w0:Wb (lay P)}{w:World}{n:Nat}{R:Nat->Pl->Prop}{S:FS}{a:Act}{ops:Array Oper}{Q:Exit->Act->World->Prop}
theorem step_sound (hT:TabOk P T) (hG:SumsOk P G) (h:Rel w0 n R S a w){i:Nat}{o:Oper}(hi:ops[i]?=some o){id:Nat}(hd:∀t,o.dst=some t->t<n){r:Res}
  (hr:stepF T G ops id o S=some r){K:Act->World->Prop}(hK:∀(R':Nat->Pl->Prop) a' w',(∀i p,R i p->R' i p)->Rel w0 n R' (S.apply o.dst r) a' w'->K a' w'):wpOp P ops Q i K a w:=by
 unfold wpOp
 simp only[hi]
 unfold stepF at hr
 split at hr
 ·rename_i hg
  have:Region.wanted o (yielded ops a.tmps)=true:=by simp[Region.wanted,hg]
  rw[if_pos this]
  exact .inl (op_sound hT hG h hd hr hK)
 ·rename_i g hg
  simp only[oK_some]at hr
  obtain ⟨t,ht,v,hv,hr⟩:=hr
  obtain ⟨v',h1,h2⟩:=h.slot t _ hv
  cases hu:isTup v with
  | true=>
   simp only[hu,cond_true]at hr
   cases hr
   have hw:Region.wanted o (yielded ops a.tmps)=false:=by
    obtain ⟨j,want⟩:=g
    simp only[gslot,hg,Option.bind_some]at ht
    unfold isTup at hu
    split at hu
    ·obtain ⟨cs',rfl,_⟩:=V2_tuple h2
     simp[Region.wanted,hg,yielded,ht,h1]
    ·simp at hu
   rw[hw]
   exact hK R _ _ (fun _ _ h=>h) (h.put hd V2_undef)
  | false=>
  simp only[hu,cond_false,boolK_some]at hr
  obtain ⟨b,rfl,hr⟩:=hr
  have:=V2_bool h2;subst this
  have hy:yielded ops a.tmps g.1=some b:=by
   simp only[gslot,hg,Option.bind_some]at ht
   simp[yielded,ht,h1]
  have hw:Region.wanted o (yielded ops a.tmps)=(b==g.2):=by
   obtain ⟨j,want⟩:=g
   simp only[Region.wanted,hg]at *
   rw[hy]
   cases b<;>cases want<;>rfl
  rw[hw]
  cases hbg:(b==g.2) with
  | true=>
   simp only[hbg,cond_true]at hr
   exact .inl (op_sound hT hG h hd hr hK)
  | false=>
   simp only[hbg,cond_false]at hr
   cases hr
   exact hK R _ _ (fun _ _ h=>h) (h.put hd V2_undef)
theorem text_sound (hT:TabOk P T) (hG:SumsOk P G):∀(I:List (Nat×Rec)){R:Nat->Pl->Prop}{S S':FS}{a:Act}{w:World},RunL T G ops (I.map (·.2)) S S'->Rel w0 n R S a w->
  (∀c∈I,ops[c.1]?=some c.2.o∧∀t,c.2.o.dst=some t->t<n)->(∀(R':Nat->Pl->Prop) a w,(∀i p,R i p->R' i p)->Rel w0 n R' S' a w->Q .normal a w)->wpOps P ops Q (I.map (·.1)) a w
 | [],R,S,S',a,w,hrun,h,_,hQ=>by
  have:S=S':=hrun
  subst this;exact hQ R a w (fun _ _ h=>h) h
 | c::I,R,S,S',a,w,hrun,h,hI,hQ=>by
  simp only[List.map_cons]
  rw[wpOps_cons]
  obtain ⟨h1,h2⟩:=hI c (by simp)
  exact step_sound hT hG h h1 h2 hrun.1 fun R' a' w' hm h'=>text_sound hT hG I hrun.2 h' (fun d hd=>hI d (by simp[hd])) fun R2 a2 w2 hm2 hr2=>hQ R2 a2 w2 (fun i p hp=>hm2 i p (hm i p hp)) hr2
end
end Go.W

namespace Go.W
open Go.RowKit (Below)
def upE (acc:List Nat):List Edge->Nat->Nat
 | [],s=>s
 | e::r,s=>upE acc r (bif Region.binds .any e&&Nat.blt e.on acc.length then s ||| 2^e.on ||| acc.getD e.on 0 else s)
def ancL:List Oper->List Nat->List Nat
 | [],acc=>acc
 | o::r,acc=>ancL r (acc++[upE acc o.after.toList 0])
theorem upE_bit {acc:List Nat}{i:Nat}:∀(es:List Edge) (s:Nat),(upE acc es s).testBit i=true->
  s.testBit i=true∨∃e∈es,Region.binds .any e=true∧e.on<acc.length∧(e.on=i∨(acc.getD e.on 0).testBit i=true)
 | [],s,h=>.inl h
 | e::r,s,h=>by
  rcases upE_bit r _ h with h1|⟨e',h1,h2⟩
  ·cases hb:(Region.binds .any e&&Nat.blt e.on acc.length) with
   | false=>rw[hb]at h1;exact .inl h1
   | true=>
    rw[hb]at h1
    simp only[Bool.and_eq_true]at hb
    simp only[cond_true,Nat.testBit_or,Bool.or_eq_true,Nat.testBit_two_pow,decide_eq_true_eq]at h1
    rcases h1 with(h1|h1)|h1
    ·exact .inl h1
    ·exact .inr ⟨e,by simp,hb.1,(Nat.blt_eq▸hb.2),.inl h1⟩
    ·exact .inr ⟨e,by simp,hb.1,(Nat.blt_eq▸hb.2),.inr h1⟩
  ·exact .inr ⟨e',by simp[h1],h2⟩
theorem ancL_prefix:∀(l:List Oper) (acc:List Nat),∃t,ancL l acc=acc++t
 | [],acc=>⟨[],by simp[ancL]⟩
 | o::r,acc=>by
  obtain ⟨t,ht⟩:=ancL_prefix r (acc++[upE acc o.after.toList 0])
  exact⟨_,by simp only[ancL,ht,List.append_assoc];rfl⟩
theorem ancL_at:∀(l:List Oper) (acc:List Nat) (k:Nat) (o:Oper),l[k]?=some o->
  (ancL l acc).getD (acc.length+k) 0=upE ((ancL l acc).take (acc.length+k)) o.after.toList 0∧acc.length+k<=(ancL l acc).length
 | [],_,_,_,h=>by simp at h
 | x::r,acc,0,o,h=>by
  simp only[List.getElem?_cons_zero,Option.some.injEq]at h
  subst h
  obtain ⟨t,ht⟩:=ancL_prefix r (acc++[upE acc x.after.toList 0])
  simp only[ancL,ht,Nat.add_zero,List.append_assoc]
  constructor
  ·rw[List.take_left,List.getD_eq_getElem?_getD,List.getElem?_append_right (Nat.le_refl _)]
   simp
  ·simp
 | x::r,acc,k+1,o,h=>by
  simp only[List.getElem?_cons_succ]at h
  have:=ancL_at r (acc++[upE acc x.after.toList 0]) k o h
  simp only[List.length_append,List.length_cons,List.length_nil,Nat.zero_add]at this
  simp only[ancL]
  rw[show acc.length+(k+1)=acc.length+1+k from by omega]
  exact this
theorem anc_step {ops:Array Oper}{j i:Nat}{o:Oper}(ho:ops[j]?=some o) (h:((ancL ops.toList []).getD j 0).testBit i=true):
  ∃e∈o.after.toList,Region.binds .any e=true∧e.on<j∧(e.on=i∨((ancL ops.toList []).getD e.on 0).testBit i=true):=by
 have h0:=ancL_at ops.toList [] j o (by rw[Array.getElem?_toList];exact ho)
 simp only[List.length_nil,Nat.zero_add]at h0
 rw[h0.1]at h
 rcases upE_bit _ _ h with h1|⟨e,h1,h2,h3,h4⟩
 ·simp at h1
 ·simp only[List.length_take]at h3
  refine⟨e,h1,h2,by omega,?_⟩
  rcases h4 with h4|h4
  ·exact .inl h4
  ·refine .inr ?_
   rw[List.getD_eq_getElem?_getD]at h4 ⊢
   rwa [List.getElem?_take_of_lt (by omega)]at h4
def closedL (ops:Array Oper) (listed:Array Bool):Prop:=
 ∀(j:Nat) (o:Oper),ops[j]?=some o->listed[j]?=some true->∀e∈o.after.toList,Region.binds .any e=true->listed.getD e.on false=true
theorem anc_listed {ops:Array Oper}{listed:Array Bool}(hc:closedL ops listed):∀(j:Nat) (o:Oper),ops[j]?=some o->(∀e∈o.after.toList,Region.binds .any e=true->listed.getD e.on false=true)->
  ∀i,((ancL ops.toList []).getD j 0).testBit i=true->listed.getD i false=true:=by
 intro j
 induction j using Nat.strongRecOn with
 | _ j ih=>
  intro o ho hready i hi
  obtain ⟨e,he,hb,hlt,h⟩:=anc_step ho hi
  have hl:=hready e he hb
  rcases h with rfl|h
  ·exact hl
  ·have hjs:j<ops.size:=by
    rcases Nat.lt_or_ge j ops.size with h|h
    ·exact h
    ·rw[Array.getElem?_eq_none h]at ho;simp at ho
   have hoe:ops[e.on]?=some ops[e.on]:=Array.getElem?_eq_getElem (by omega)
   refine ih e.on hlt _ hoe (hc _ _ hoe ?_) i h
   rw[Array.getD_eq_getD_getElem?]at hl
   cases hx:listed[e.on]? with
   | none=>rw[hx]at hl;simp at hl
   | some b=>rw[hx]at hl;simp at hl;rw[hl]
def okWith (ops:Array Oper) (Aj:Nat) (y:Rec):List Rec->Nat->Bool
 | [],_=>true
 | x::r,i=>(Aj.testBit i||!clash ops x y)&&okWith ops Aj y r (i+1)
def okAll (ops:Array Oper) (A:List Nat):List Rec->List Rec->Bool
 | _,[]=>true
 | done,y::r=>okWith ops (A.getD done.length 0) y done 0&&okAll ops A (done++[y]) r
theorem okWith_at {ops:Array Oper}{Aj:Nat}{y:Rec}:∀(l:List Rec) (i:Nat),okWith ops Aj y l i=true->∀k x,l[k]?=some x->Aj.testBit (i+k)=true∨clash ops x y=false
 | [],_,_,_,_,h=>by simp at h
 | z::l,i,h,0,x,hx=>by
  simp only[okWith,Bool.and_eq_true,Bool.or_eq_true,Bool.not_eq_true']at h
  simp at hx;subst hx
  exact h.1
 | z::l,i,h,k+1,x,hx=>by
  simp only[okWith,Bool.and_eq_true]at h
  have:=okWith_at l (i+1) h.2 k x (by simpa using hx)
  rwa [show i+(k+1)=i+1+k from by omega]
theorem okAll_at {ops:Array Oper}{A:List Nat}:∀(todo done:List Rec),okAll ops A done todo=true->∀k y,todo[k]?=some y->∀i x,(done++todo)[i]?=some x->i<done.length+k->
  (A.getD (done.length+k) 0).testBit i=true∨clash ops x y=false
 | [],_,_,_,_,h,_,_,_,_=>by simp at h
 | z::todo,done,h,0,y,hy,i,x,hx,hlt=>by
  simp only[okAll,Bool.and_eq_true]at h
  simp at hy;subst hy
  have:=okWith_at done 0 h.1 i x (by rwa [List.getElem?_append_left (by omega)]at hx)
  simpa using this
 | z::todo,done,h,k+1,y,hy,i,x,hx,hlt=>by
  simp only[okAll,Bool.and_eq_true]at h
  have:=okAll_at todo (done++[z]) h.2 k y (by simpa using hy) i x (by simpa using hx) (by simp;omega)
  simpa [Nat.add_assoc,Nat.add_comm 1 k] using this
def edgesDown:List Oper->Nat->Bool
 | [],_=>true
 | o::r,j=>o.after.toList.all (fun e=>!Region.binds .any e||Nat.blt e.on j)&&edgesDown r (j+1)
theorem edgesDown_at:∀(l:List Oper) (j:Nat),edgesDown l j=true->∀k o,l[k]?=some o->∀e∈o.after.toList,Region.binds .any e=true->e.on<j+k
 | [],_,_,_,_,h=>by simp at h
 | z::l,j,h,0,o,ho=>by
  simp only[edgesDown,Bool.and_eq_true]at h
  simp at ho;subst ho
  intro e he hb
  have:=List.all_eq_true.1 h.1 e he
  simp only[hb,Bool.not_true,Bool.false_or]at this
  rw[Nat.blt_eq]at this;simpa using this
 | z::l,j,h,k+1,o,ho=>by
  simp only[edgesDown,Bool.and_eq_true]at h
  intro e he hb
  have:=edgesDown_at l (j+1) h.2 k o (by simpa using ho) e he hb
  omega
def drawOk (ops:Array Oper) (recs:List Rec):Bool:=edgesDown ops.toList 0&&okAll ops (ancL ops.toList []) [] recs
section
variable {P:Program} [Laid P] {T:Tab}{G:Sums}{w0:Wb (lay P)}{n:Nat}{ops:Array Oper}{Q:Exit->Act->World->Prop}
theorem any_sound (hT:TabOk P T) (hG:SumsOk P G){recs:List Rec}(hok:drawOk ops recs=true):∀(fuel:Nat) (I:List (Nat×Rec)) (listed:Array Bool){R:Nat->Pl->Prop}{S S':FS}{a:Act}{w:World},
  I.length<=fuel->I.Pairwise (fun x y=>x.1<y.1)->
  (∀c∈I,ops[c.1]?=some c.2.o∧recs[c.1]?=some c.2∧∀t,c.2.o.dst=some t->t<n)->
  (∀j,(∃c∈I,c.1=j)↔(j<ops.size∧listed.getD j true=false))->(∀j,j<ops.size->j<listed.size)->closedL ops listed->
  RunL T G ops (I.map (·.2)) S S'->Rel w0 n R S a w->(∀(R':Nat->Pl->Prop) a w,(∀i p,R i p->R' i p)->Rel w0 n R' S' a w->Q .normal a w)->wpAny P .any ops Q fuel listed a w:=by
 have hdown:=edgesDown_at ops.toList 0 (by simp only[drawOk,Bool.and_eq_true]at hok;exact hok.1)
 have hpairs:=okAll_at recs [] (by simp only[drawOk,Bool.and_eq_true]at hok;exact hok.2)
 simp only[Nat.zero_add,List.length_nil,List.nil_append]at hdown hpairs
  -- the least of those that wait is ready
 have hmin:∀(c:Nat×Rec) (I:List (Nat×Rec)) (listed:Array Bool),(c::I).Pairwise (fun x y=>x.1<y.1)->(∀d∈c::I,ops[d.1]?=some d.2.o∧recs[d.1]?=some d.2∧∀t,d.2.o.dst=some t->t<n)->
   (∀j,(∃d∈c::I,d.1=j)↔(j<ops.size∧listed.getD j true=false))->c.1∈Region.ready .any ops listed:=by
  intro c I listed hs hI hl
  obtain ⟨h1,_,_⟩:=hI c (by simp)
  obtain ⟨h2,h3⟩:=(hl c.1).1 ⟨c,by simp,rfl⟩
  unfold Region.ready
  rw[List.mem_filter]
  refine⟨List.mem_range.2 h2,?_⟩
  simp only[h3,Bool.not_false,Bool.true_and,h1,Option.map_some,Option.getD_some]
  rw[Array.all_eq_true_iff_forall_mem]
  intro e he
  cases hb:Region.binds .any e with
  | false=>rfl
  | true=>
   simp only[Bool.not_true,Bool.false_or]
   have hlt:=hdown c.1 c.2.o (by rw[Array.getElem?_toList];exact h1) e (by simpa using he) hb
   cases hx:listed.getD e.on false with
   | true=>rfl
   | false=>
    exfalso
    have hx':listed.getD e.on true=false∨listed[e.on]?=none:=by
     rw[Array.getD_eq_getD_getElem?]at hx ⊢
     cases hy:listed[e.on]? with
     | none=>exact .inr rfl
     | some b=>rw[hy]at hx;simp at hx;left;simp[hx]
    rcases hx' with hx' | hx'
    ·obtain ⟨d,hd,hde⟩:=(hl e.on).2 ⟨by omega,hx'⟩
     rcases List.mem_cons.1 hd with rfl|hd
     ·omega
     ·have:=List.rel_of_pairwise_cons hs hd
      omega
    ·have:=Array.getElem?_eq_none_iff.1 hx'
     rw[Array.getD_eq_getD_getElem?,Array.getElem?_eq_none (by omega)]at h3
     simp at h3
 intro fuel
 induction fuel with
 | zero=>
  intro I listed R S S' a w hf hs hI hl hsz hc hrun h hQ
  have:I=[]:=List.length_eq_zero_iff.1 (Nat.le_zero.1 hf)
  subst this
  have hr:Region.ready .any ops listed=[]:=by
   unfold Region.ready
   rw[List.filter_eq_nil_iff]
   intro j hj
   have hj:=List.mem_range.1 hj
   cases hx:listed.getD j true with
   | true=>simp
   | false=>exact absurd ((hl j).2 ⟨hj,hx⟩) (by simp)
  have:S=S':=hrun
  subst this
  exact⟨hr,hQ R a w (fun _ _ h=>h) h⟩
 | succ fuel ih=>
  intro I listed R S S' a w hf hs hI hl hsz hc hrun h hQ
  constructor
  ·intro hr
   cases I with
   | nil=>have:S=S':=hrun;subst this;exact hQ R a w (fun _ _ h=>h) h
   | cons c I=>have:=hmin c I listed hs hI hl;rw[hr]at this;simp at this
  ·intro i hi
   unfold Region.ready at hi
   rw[List.mem_filter]at hi
   obtain ⟨hi1,hi2⟩:=hi
   have hi1:=List.mem_range.1 hi1
   simp only[Bool.and_eq_true,Bool.not_eq_true']at hi2
   obtain ⟨hi2,hi3⟩:=hi2
   obtain ⟨c,hc1,rfl⟩:=(hl i).2 ⟨hi1,hi2⟩
   obtain ⟨pre,post,rfl⟩:=List.append_of_mem hc1
   obtain ⟨k1,k2,k3⟩:=hI c hc1
   have hready:∀e∈c.2.o.after.toList,Region.binds .any e=true->listed.getD e.on false=true:=by
    intro e he hb
    simp only[k1,Option.map_some,Option.getD_some,Array.all_eq_true_iff_forall_mem]at hi3
    have:=hi3 e (by simpa using he)
    simpa [hb] using this
   have hpw:=List.pairwise_append.1 hs
      -- none of those ahead clashes with it
   have hfront:RunL T G ops (c.2::(pre.map (·.2)++post.map (·.2))) S S':=by
    refine RunL_front _ (fun p hp=>?_) (by simpa using hrun)
    obtain ⟨d,hd,rfl⟩:=List.mem_map.1 hp
    obtain ⟨j1,j2,_⟩:=hI d (by simp[hd])
    have hlt:d.1<c.1:=hpw.2.2 d hd c (by simp)
    rcases hpairs c.1 c.2 k2 d.1 d.2 j2 hlt with hb|hb
    ·have hlisted:=anc_listed hc c.1 c.2.o k1 hready d.1 hb
     have hd2:=((hl d.1).1 ⟨d,by simp[hd],rfl⟩).2
     rw[Array.getD_eq_getD_getElem?]at hlisted hd2
     cases hx:listed[d.1]? with
     | none=>rw[hx]at hlisted;simp at hlisted
     | some b=>rw[hx]at hlisted hd2;simp at hlisted hd2;rw[hlisted]at hd2;simp at hd2
    ·exact hb
   refine step_sound hT hG h k1 k3 hfront.1 fun R' a' w' hm h'=>?_
   refine ih (pre++post) (listed.setIfInBounds c.1 true) (by simp at hf ⊢;omega) ?_ (fun d hd=>hI d (by
     rcases List.mem_append.1 hd with hd|hd<;>simp[hd])) ?_ (by simpa using hsz) ?_ (by simpa using hfront.2) h' (fun R2 a2 w2 hm2 hr2=>hQ R2 a2 w2 (fun i p hp=>hm2 i p (hm i p hp)) hr2)
   ·refine List.pairwise_append.2 ⟨hpw.1,(List.pairwise_cons.1 hpw.2.1).2,fun x hx y hy=>hpw.2.2 x hx y (by simp[hy])⟩
   ·intro j
    have hcs:c.1<listed.size:=hsz _ hi1
    by_cases hj:c.1=j
    ·subst hj
     constructor
     ·rintro ⟨d,hd,he⟩
      rcases List.mem_append.1 hd with hd|hd
      ·have:=hpw.2.2 d hd c (by simp);omega
      ·have:=(List.pairwise_cons.1 hpw.2.1).1 d hd;omega
     ·rintro ⟨_,hx⟩
      rw[Array.getD_eq_getD_getElem?,Array.getElem?_setIfInBounds_self_of_lt hcs]at hx
      simp at hx
    ·rw[Array.getD_eq_getD_getElem?,Array.getElem?_setIfInBounds_ne hj,<-Array.getD_eq_getD_getElem?,<-hl j]
     constructor
     ·rintro ⟨d,hd,he⟩
      refine⟨d,?_,he⟩
      rcases List.mem_append.1 hd with hd|hd<;>simp[hd]
     ·rintro ⟨d,hd,he⟩
      refine⟨d,?_,he⟩
      rcases List.mem_append.1 hd with hd|hd
      ·simp[hd]
      ·rcases List.mem_cons.1 hd with rfl|hd
       ·exact absurd he hj
       ·simp[hd]
   ·intro j o ho hj e he hb
    by_cases hje:e.on=c.1
    ·rw[hje,Array.getD_eq_getD_getElem?,Array.getElem?_setIfInBounds_self_of_lt (hsz _ hi1)];rfl
    ·rw[Array.getD_eq_getD_getElem?,Array.getElem?_setIfInBounds_ne (Ne.symm hje),<-Array.getD_eq_getD_getElem?]
     by_cases hjc:c.1=j
     ·subst hjc
      rw[k1]at ho
      cases ho
      exact hready e he hb
     ·rw[Array.getElem?_setIfInBounds_ne hjc]at hj
      exact hc j o ho hj e he hb
end
end Go.W

namespace Go.W
open Go.RowKit (Below)
structure St where
 slots:List (Nat×Value)
 mem:List (Nat×Blk)
 next:Nat
def St.f (s:St):FS:=⟨look s.slots,look s.mem⟩
theorem look_memL (mem:List (Nat×Blk)):∀l:List (Nat×Blk),look (l++mem)=memF (look mem) l
 | []=>rfl
 | p::l=>by rw[List.cons_append,memF,<-look_memL mem l];rfl
def slotL (slots:List (Nat×Value)) (d:Option Nat) (v:Value):List (Nat×Value):=
 match d with
 | some t=>(t,v)::slots
 | none=>slots
def St.app (s:St) (dst:Option Nat) (r:Res):St:=⟨slotL s.slots dst r.val,r.mem++s.mem,s.next⟩
theorem St.app_f (s:St) (dst:Option Nat) (r:Res):(s.app dst r).f=s.f.apply dst r:=by
 unfold St.app St.f FS.apply
 congr 1
 ·cases dst<;>rfl
 ·exact look_memL _ _
def St.ref (s:St) (t:Nat) (b:Bool):St:=⟨(t,.bool b)::s.slots,s.mem,s.next⟩
theorem St.ref_f {s:St}{t:Nat}{b:Bool}(h:look s.slots t=some (.bool b)):(s.ref t b).f=s.f:=by
 unfold St.ref St.f
 simp only[look_cons,upd_idem _ h]
structure Cfg where
 T:Tab
 G:Sums
 n:Nat
 L:List (List Nat×(St->List (Bool×Exit×St)))
section
variable {R:Type}
def tstK (s:St) (t:Nat) (yes no:St->R) (f:R):R:=
 oK (look s.slots t) (fun v=>boolK v (fun b=>bif b then yes (s.ref t true) else no (s.ref t false)) f) f
def grdK (ops:Array Oper) (o:Oper) (s:St) (yes no:St->R) (f:R):R:=
 match o.guard with
 | none=>yes s
 | some g=>oK (gslot ops o) (fun t=>oK (look s.slots t) (fun v=>bif isTup v then no s else bif g.2 then tstK s t yes no f else tstK s t no yes f) f) f
def dstLt (n:Nat) (d:Option Nat):Bool:=
 match d with
 | some t=>Nat.blt t n
 | none=>true
def rgK (C:Cfg) (ops:Array Oper) (base:Nat):List Oper->Nat->St->List Rec->(St->List Rec->R)->R->R
 | [],_,s,acc,k,_=>k s acc
 | o::rest,i,s,acc,k,f=>
  bif dstLt C.n o.dst then
   grdK ops o s
    (fun s=>opK C.T C.G (base+i) o.op (evF (look s.slots)) (look s.mem) (fun r=>rgK C ops base rest (i+1) (s.app o.dst r) (acc++[⟨o,base+i,r⟩]) k f) f)
    (fun s=>rgK C ops base rest (i+1) (s.app o.dst (val undef)) (acc++[⟨o,base+i,val undef⟩]) k f) f
  else f
def St.bump (s:St) (m:Nat):St:=⟨s.slots,s.mem,m⟩
def regK (C:Cfg) (ops:Array Oper) (draw:Bool) (s:St) (k:St->R) (f:R):R:=
 rgK C ops s.next ops.toList 0 s [] (fun s' acc=>bif !draw||drawOk ops acc then k (s'.bump (s.next+ops.toList.length)) else f) f
def nlEq:List Nat->List Nat->Bool
 | [],[]=>true
 | a::l,b::m=>Nat.beq a b&&nlEq l m
 | _,_=>false
theorem nlEq_iff:∀{l m:List Nat},nlEq l m=true->l=m
 | [],[],_=>rfl
 | a::l,b::m,h=>by
  simp only[nlEq,Bool.and_eq_true]at h
  rw[nbeq.1 h.1,nlEq_iff h.2]
 | [],_::_,h=>by simp[nlEq]at h
 | _::_,[],h=>by simp[nlEq]at h
def lookP {α:Type}:List (List Nat×α)->List Nat->Option α
 | [],_=>none
 | p::r,t=>bif nlEq p.1 t then some p.2 else lookP r t
def altK:List (Bool×Exit×St)->(Exit->St->R)->R->R
 | [],_,f=>f
 | p::r,k,f=>bif p.1 then k p.2.1 p.2.2 else altK r k f
def thenK (e:Exit) (s:St) (nxt:St->R) (k:Exit->St->R):R:=
 match e with
 | .normal=>nxt s
 | e=>k e s
def blockK (id:Nat) (e:Exit) (s:St) (k:Exit->St->R):R:=
 match e with
 | .exit j=>bif Nat.beq j id then k .normal s else k (.exit j) s
 | e=>k e s
def scopeK (e:Exit) (s:St) (k:Exit->St->R) (f:R):R:=
 match e with
 | .goto _=>f
 | e=>k e s
def condK (s:St) (c:Operand) (yes no:St->R) (f:R):R:=
 match c with
 | .tmp t=>tstK s t yes no f
 | .const (.bool b)=>bif b then yes s else no s
 | _=>f
def evK (C:Cfg):Nat->List Nat->Code->St->(Exit->St->R)->R->R
 | 0,_,_,_,_,f=>f
 | m+1,p,c,s,k,f=>
  match c with
  | .skip=>k .normal s
  | .label _=>k .normal s
  | .region _ ops draw=>regK C ops draw s (fun s'=>k .normal s') f
  | .seq x y=>evK C m (p++[0]) x s (fun e s'=>thenK e s' (fun s'=>evK C m (p++[1]) y s' k f) k) f
  | .cond c x y=>condK s c (fun s=>evK C m (p++[0]) x s k f) (fun s=>evK C m (p++[1]) y s k f) f
  | .block id x=>evK C m (p++[0]) x s (fun e s'=>blockK id e s' k) f
  | .loop x=>oK (lookP C.L p) (fun F=>altK (F s) k f) (evK C m (p++[0]) x s (fun e s'=>thenK e s' (fun s'=>evK C m p (.loop x) s' k f) k) f)
  | .exit id=>k (.exit id) s
  | .scope x=>evK C m (p++[0]) x s (fun e s'=>scopeK e s' k f) f
  | .ret=>k .ret s
  | _=>f
variable {R':Type}(h:R->R')
theorem tstK_nat (s:St) (t:Nat) (yes no:St->R) (f:R):h (tstK s t yes no f)=tstK s t (fun s=>h (yes s)) (fun s=>h (no s)) (h f):=by
 simp only[tstK,oK_nat h,boolK_nat h,cond_nat h]
theorem grdK_nat (ops:Array Oper) (o:Oper) (s:St) (yes no:St->R) (f:R):h (grdK ops o s yes no f)=grdK ops o s (fun s=>h (yes s)) (fun s=>h (no s)) (h f):=by
 unfold grdK;split<;>simp only[oK_nat h,cond_nat h,tstK_nat h]
theorem rgK_nat (C:Cfg) (ops:Array Oper) (base:Nat):∀(l:List Oper) (i:Nat) (s:St) (acc:List Rec) (k:St->List Rec->R) (f:R),
  h (rgK C ops base l i s acc k f)=rgK C ops base l i s acc (fun s a=>h (k s a)) (h f)
 | [],_,_,_,_,_=>rfl
 | o::rest,i,s,acc,k,f=>by
  simp only[rgK,cond_nat h,grdK_nat h,opK_nat h,rgK_nat C ops base rest]
theorem regK_nat (C:Cfg) (ops:Array Oper) (draw:Bool) (s:St) (k:St->R) (f:R):h (regK C ops draw s k f)=regK C ops draw s (fun s=>h (k s)) (h f):=by
 simp only[regK,rgK_nat h,cond_nat h]
theorem altK_nat:∀(l:List (Bool×Exit×St)) (k:Exit->St->R) (f:R),h (altK l k f)=altK l (fun e s=>h (k e s)) (h f)
 | [],_,_=>rfl
 | p::r,k,f=>by simp only[altK,cond_nat h,altK_nat r]
theorem thenK_nat (e:Exit) (s:St) (nxt:St->R) (k:Exit->St->R):h (thenK e s nxt k)=thenK e s (fun s=>h (nxt s)) (fun e s=>h (k e s)):=by
 cases e<;>rfl
theorem blockK_nat (id:Nat) (e:Exit) (s:St) (k:Exit->St->R):h (blockK id e s k)=blockK id e s (fun e s=>h (k e s)):=by
 cases e<;>simp only[blockK,cond_nat h]
theorem scopeK_nat (e:Exit) (s:St) (k:Exit->St->R) (f:R):h (scopeK e s k f)=scopeK e s (fun e s=>h (k e s)) (h f):=by
 cases e<;>rfl
theorem condK_nat (s:St) (c:Operand) (yes no:St->R) (f:R):h (condK s c yes no f)=condK s c (fun s=>h (yes s)) (fun s=>h (no s)) (h f):=by
 unfold condK;split<;>simp only[tstK_nat h,cond_nat h]
theorem evK_nat (C:Cfg):∀(m:Nat) (p:List Nat) (c:Code) (s:St) (k:Exit->St->R) (f:R),h (evK C m p c s k f)=evK C m p c s (fun e s=>h (k e s)) (h f)
 | 0,_,_,_,_,_=>rfl
 | m+1,p,c,s,k,f=>by
  cases c<;>simp only[evK]<;>first|rfl|simp only[regK_nat h,evK_nat C m,thenK_nat h,condK_nat h,blockK_nat h,scopeK_nat h,oK_nat h,altK_nat h]
end
def evS (C:Cfg) (m:Nat) (p:List Nat) (c:Code) (s:St):Option (Exit×St):=evK C m p c s (fun e s=>some (e,s)) none
theorem evK_eq {R:Type}(C:Cfg) (m:Nat) (p:List Nat) (c:Code) (s:St) (k:Exit->St->R) (f:R):evK C m p c s k f=oK (evS C m p c s) (fun q=>k q.1 q.2) f:=
 (evK_nat (fun o:Option (Exit×St)=>oK o (fun q=>k q.1 q.2) f) C m p c s (fun e s=>some (e,s)) none).symm
def codeAt:List Nat->Code->Option Code
 | [],c=>some c
 | i::p,c=>
  match c with
  | .seq a b=>codeAt p (bif Nat.beq i 0 then a else b)
  | .cond _ a b=>codeAt p (bif Nat.beq i 0 then a else b)
  | .block _ b=>codeAt p b
  | .loop b=>codeAt p b
  | .scope b=>codeAt p b
  | _=>none
theorem codeAt_app (i:Nat):∀(p:List Nat) (c:Code),codeAt (p++[i]) c=(codeAt p c).bind (codeAt [i])
 | [],c=>by cases c<;>simp[codeAt]
 | j::p,c=>by cases c<;>simp[codeAt,codeAt_app i p]
def loopAt (p:List Nat) (c:Code):Code:=
 match codeAt p c with
 | some (.loop b)=>b
 | _=>.skip
def pickL:List (Bool×Exit×St)->Option (Exit×St)
 | []=>none
 | p::r=>bif p.1 then some p.2 else pickL r
theorem altK_eq {R:Type}(l:List (Bool×Exit×St)) (k:Exit->St->R) (f:R):altK l k f=oK (pickL l) (fun q=>k q.1 q.2) f:=by
 induction l with
 | nil=>rfl
 | cons p r ih=>simp only[altK,pickL,ih];cases p.1<;>rfl
def LoopOk (P:Program) [Laid P] (n:Nat) (body:Code) (F:St->List (Bool×Exit×St)):Prop:=
 ∀(w0:Wb (lay P)) R s a w,Rel w0 n R s.f a w->∀e s',pickL (F s)=some (e,s')->(Code.loop body).wp P (fun e' a' w'=>e'=e∧∃R',Rel w0 n R' s'.f a' w') a w
def MonoK (K:Nat->Prop) (R R':Nat->Pl->Prop):Prop:=∀i p,K i->R i p->R' i p
theorem MonoK.refl {K:Nat->Prop}{R:Nat->Pl->Prop}:MonoK K R R:=fun _ _ _ h=>h
theorem MonoK.trans {K:Nat->Prop}{R R' R2:Nat->Pl->Prop}(h:MonoK K R R') (k:MonoK K R' R2):MonoK K R R2:=fun i p h1 h2=>k i p h1 (h i p h1 h2)
def LoopOkK (P:Program) [Laid P] (n:Nat) (body:Code) (K:Nat->Prop) (F:St->List (Bool×Exit×St)):Prop:=
 ∀(w0:Wb (lay P)) R s a w,Rel w0 n R s.f a w->∀e s',pickL (F s)=some (e,s')->(Code.loop body).wp P (fun e' a' w'=>e'=e∧∃R',MonoK K R R'∧Rel w0 n R' s'.f a' w') a w
structure CfgOk (P:Program) [Laid P] (C:Cfg) (code:Code):Prop where
 mixed:P.follows .mixedOrders=true
 T:TabOk P C.T
 G:SumsOk P C.G
 L:∀p F,lookP C.L p=some F->LoopOk P C.n (loopAt p code) F
section
variable {P:Program} [Laid P] {C:Cfg}{code:Code}{w0:Wb (lay P)}
theorem tst_some {β:Type}{s:St}{t:Nat}{yes no:St->Option β}{r:β}(h:tstK s t yes no none=some r):
  (look s.slots t=some (.bool true)∧yes (s.ref t true)=some r)∨(look s.slots t=some (.bool false)∧no (s.ref t false)=some r):=by
 simp only[tstK,oK_some,boolK_some]at h
 obtain ⟨v,hv,b,rfl,h⟩:=h
 cases b
 ·exact .inr ⟨hv,h⟩
 ·exact .inl ⟨hv,h⟩
theorem rg_run {ops:Array Oper}{base:Nat}:∀(l:List Oper) (i:Nat) (s:St) (acc:List Rec){s':St}{acc':List Rec},
  rgK C ops base l i s acc (fun s a=>some (s,a)) none=some (s',acc')->
   ∃recs,acc'=acc++recs∧recs.map (·.o)=l∧(∀c∈recs,∀t,c.o.dst=some t->t<C.n)∧RunL C.T C.G ops recs s.f s'.f
 | [],_,s,acc,s',acc',h=>by
  simp only[rgK,Option.some.injEq,Prod.mk.injEq]at h
  obtain ⟨rfl,rfl⟩:=h
  exact⟨[],by simp,rfl,by simp,rfl⟩
 | o::rest,i,s,acc,s',acc',h=>by
  simp only[rgK,cond_some]at h
  obtain ⟨hd,h⟩:=h
  have hdst:∀t,o.dst=some t->t<C.n:=by
   intro t ht
   simp only[dstLt,ht,Nat.blt_eq]at hd
   exact hd
    -- what is common to the ways
  have go:∀(s0:St) (r:Res),s0.f=s.f->stepF C.T C.G ops (base+i) o s.f=some r->
    rgK C ops base rest (i+1) (s0.app o.dst r) (acc++[⟨o,base+i,r⟩]) (fun s a=>some (s,a)) none=some (s',acc')->
    ∃recs,acc'=acc++recs∧recs.map (·.o)=o::rest∧(∀c∈recs,∀t,c.o.dst=some t->t<C.n)∧RunL C.T C.G ops recs s.f s'.f:=by
   intro s0 r hs hstep hrest
   obtain ⟨recs,h1,h2,h3,h4⟩:=rg_run rest (i+1) _ _ hrest
   refine⟨⟨o,base+i,r⟩::recs,by rw[h1];simp,by simp[h2],?_,hstep,?_⟩
   ·intro c hc
    rcases List.mem_cons.1 hc with rfl|hc
    ·exact hdst
    ·exact h3 c hc
   ·rw[St.app_f,hs]at h4;exact h4
  have goOp:∀(s0:St),s0.f=s.f->(∀r,opS C.T C.G (base+i) o.op (evF s.f.fs) s.f.fm=some r->stepF C.T C.G ops (base+i) o s.f=some r)->
    opK C.T C.G (base+i) o.op (evF (look s0.slots)) (look s0.mem) (fun r=>rgK C ops base rest (i+1) (s0.app o.dst r) (acc++[⟨o,base+i,r⟩]) (fun s a=>some (s,a)) none) none=some (s',acc')->
    ∃recs,acc'=acc++recs∧recs.map (·.o)=o::rest∧(∀c∈recs,∀t,c.o.dst=some t->t<C.n)∧RunL C.T C.G ops recs s.f s'.f:=by
   intro s0 hs hst hop
   rw[opK_eq,oK_some]at hop
   obtain ⟨r,hr,hop⟩:=hop
   have e1:look s0.slots=s.f.fs:=congrArg FS.fs hs
   have e2:look s0.mem=s.f.fm:=congrArg FS.fm hs
   rw[e1,e2]at hr
   exact go s0 r hs (hst r hr) hop
  unfold grdK at h
  split at h
  ·rename_i hg
   exact goOp s rfl (fun r hr=>by simp only[stepF,hg];exact hr) h
  ·rename_i g hg
   simp only[oK_some]at h
   obtain ⟨t,ht,v0,hv0,h⟩:=h
   cases hu:isTup v0 with
   | true=>
    simp only[hu,cond_true]at h
    refine go s _ rfl ?_ h
    simp only[stepF,hg,ht,oK]
    have:s.f.fs t=some v0:=hv0
    simp only[this,hu,cond_true]
   | false=>
   simp only[hu,cond_false]at h
   have hstep:∀(b:Bool) (r:Res),look s.slots t=some (.bool b)->(bif b==g.2 then opS C.T C.G (base+i) o.op (evF s.f.fs) s.f.fm else some (val undef))=some r->stepF C.T C.G ops (base+i) o s.f=some r:=by
    intro b r hb hr
    simp only[stepF,hg,ht,oK]
    have:s.f.fs t=some (.bool b):=hb
    simp only[this,boolK,isTup,cond_false]
    exact hr
   cases hg2:g.2 with
   | true=>
    simp only[hg2,cond_true]at h
    rcases tst_some h with⟨hb,h⟩|⟨hb,h⟩
    ·exact goOp _ (St.ref_f hb) (fun r hr=>hstep true r hb (by simp[hg2,hr])) h
    ·exact go _ _ (St.ref_f hb) (hstep false _ hb (by simp[hg2])) h
   | false=>
    simp only[hg2,cond_false]at h
    rcases tst_some h with⟨hb,h⟩|⟨hb,h⟩
    ·exact go _ _ (St.ref_f hb) (hstep true _ hb (by simp[hg2])) h
    ·exact goOp _ (St.ref_f hb) (fun r hr=>hstep false r hb (by simp[hg2,hr])) h
theorem zip_fst {α:Type}:∀(recs:List α) (i:Nat),(recs.zipIdx i).map (·.2)=List.range' i recs.length
 | [],_=>rfl
 | c::r,i=>by simp[List.range'_succ,zip_fst r (i+1)]
def pairUp (recs:List Rec):List (Nat×Rec):=recs.zipIdx.map fun q=>(q.2,q.1)
theorem pairUp_fst (recs:List Rec):(pairUp recs).map (·.1)=List.range recs.length:=by
 unfold pairUp
 rw[List.map_map,List.range_eq_range',<-zip_fst recs 0]
 rfl
theorem pairUp_snd (recs:List Rec):(pairUp recs).map (·.2)=recs:=by
 unfold pairUp
 rw[List.map_map]
 have:((fun x:Nat×Rec=>x.2) ∘ fun q:Rec×Nat=>(q.2,q.1))=Prod.fst:=rfl
 rw[this,List.zipIdx_map_fst]
theorem pairUp_mem {recs:List Rec}{c:Nat×Rec}(h:c∈pairUp recs):recs[c.1]?=some c.2:=by
 unfold pairUp at h
 obtain ⟨q,hq,rfl⟩:=List.mem_map.1 h
 exact List.mem_zipIdx_iff_getElem?.1 hq
theorem pairUp_of {recs:List Rec}{j:Nat}(h:j<recs.length):∃c∈pairUp recs,c.1=j:=by
 have:j∈(pairUp recs).map (·.1):=by rw[pairUp_fst];exact List.mem_range.2 h
 obtain ⟨c,hc,rfl⟩:=List.mem_map.1 this
 exact⟨c,hc,rfl⟩
theorem reg_sound (hC:CfgOk P C code){ops:Array Oper}{draw:Bool}{rid:Nat}{s s':St}(h:regK C ops draw s some none=some s'){R:Nat->Pl->Prop}{a:Act}{w:World}(hrel:Rel w0 C.n R s.f a w):
  (Code.region rid ops draw).wp P (fun e a' w'=>e=.normal∧∃R':Nat->Pl->Prop,(∀i p,R i p->R' i p)∧Rel w0 C.n R' s'.f a' w') a w:=by
 unfold regK at h
 have hnat:=rgK_nat (fun o:Option (St×List Rec)=>oK o (fun q=>bif !draw||drawOk ops q.2 then some (q.1.bump (s.next+ops.toList.length)) else none) none) C ops s.next ops.toList 0 s [] (fun s a=>some (s,a)) none
 simp only[oK]at hnat
 rw[<-hnat]at h
 cases hrun:rgK C ops s.next ops.toList 0 s [] (fun s a=>some (s,a)) none with
 | none=>rw[hrun]at h;simp at h
 | some q=>
  obtain ⟨s1,acc⟩:=q
  rw[hrun]at h
  simp only[cond_some]at h
  obtain ⟨hok,h⟩:=h
  have h:=Option.some.inj h
  have hf:s'.f=s1.f:=by rw[<-h];rfl
  obtain ⟨recs,h1,h2,h3,h4⟩:=rg_run _ _ _ _ hrun
  simp only[List.nil_append]at h1
  subst h1
  have hlen:acc.length=ops.size:=by rw[<-Array.length_toList,<-h2,List.length_map]
  have hI:∀c∈pairUp acc,ops[c.1]?=some c.2.o∧∀t,c.2.o.dst=some t->t<C.n:=by
   intro c hc
   have hc':=pairUp_mem hc
   refine⟨?_,h3 c.2 (List.mem_of_getElem? hc')⟩
   rw[<-Array.getElem?_toList,<-h2,List.getElem?_map,hc']
   rfl
  have hQ:∀(R2:Nat->Pl->Prop) a w,(∀i p,R i p->R2 i p)->Rel w0 C.n R2 s1.f a w->(fun e a' w'=>e=Exit.normal∧∃R':Nat->Pl->Prop,(∀i p,R i p->R' i p)∧Rel w0 C.n R' s'.f a' w') Exit.normal a w:=by
   intro R2 a w hm hr;exact⟨rfl,R2,hm,by rw[hf];exact hr⟩
  cases draw with
  | false=>
   refine wp_region ?_
   have:=text_sound (Q:=fun e a' w'=>e=Exit.normal∧∃R':Nat->Pl->Prop,(∀i p,R i p->R' i p)∧Rel w0 C.n R' s'.f a' w') hC.T hC.G (pairUp acc) (by rw[pairUp_snd];exact h4) hrel hI hQ
   rw[pairUp_fst,hlen]at this
   exact this
  | true=>
   simp only[Bool.not_true,Bool.false_or]at hok
   refine wp_region_any hC.mixed ?_
   have hrel':Rel w0 C.n R s.f a { w with drawn:=w.drawn+1 }:=hrel.world ⟨rfl,rfl,rfl,Nat.le_refl _,fun _ _=>rfl⟩
   refine any_sound hC.T hC.G hok ops.size (pairUp acc) _ (by rw[<-List.length_map (f:=(·.1)),pairUp_fst,List.length_range,hlen];exact Nat.le_refl _) ?_ (fun c hc=>⟨(hI c hc).1,pairUp_mem hc,(hI c hc).2⟩) ?_ (by simp) ?_ (by rw[pairUp_snd];exact h4) hrel' hQ
   ·have:((pairUp acc).map (·.1)).Pairwise (·<·):=by rw[pairUp_fst];exact List.pairwise_lt_range
    exact List.pairwise_map.1 this
   ·intro j
    constructor
    ·rintro ⟨c,hc,rfl⟩
     have h5:=(hI c hc).1
     have hlt:c.1<ops.size:=by
      rcases Nat.lt_or_ge c.1 ops.size with h|h
      ·exact h
      ·rw[Array.getElem?_eq_none h]at h5;simp at h5
     exact⟨hlt,by simp[Array.getD_eq_getD_getElem?,hlt]⟩
    ·rintro ⟨hlt,_⟩
     exact pairUp_of (by omega)
   ·intro j o ho hj
    rw[Array.getElem?_replicate]at hj
    split at hj<;>simp at hj
theorem cond_run {β:Type}{s:St}{c:Operand}{yes no:St->Option β}{r:β}(h:condK s c yes no none=some r){n:Nat}{R:Nat->Pl->Prop}{a:Act}{w:World}(hrel:Rel w0 n R s.f a w):
  ∃(b:Bool) (s0:St),a.eval c=.bool b∧s0.f=s.f∧(if b then yes s0 else no s0)=some r:=by
 unfold condK at h
 split at h
 ·rename_i t
  rcases tst_some h with⟨hb,h⟩|⟨hb,h⟩
  ·exact⟨true,_,V2_bool (hrel.ev (x:=.tmp t) hb),St.ref_f hb,h⟩
  ·exact⟨false,_,V2_bool (hrel.ev (x:=.tmp t) hb),St.ref_f hb,h⟩
 ·rename_i b
  cases b
  ·exact⟨false,s,rfl,rfl,h⟩
  ·exact⟨true,s,rfl,rfl,h⟩
 ·simp at h
theorem rounds_monoQ {P:Program}{x:Code}{Q Q':Exit->Act->World->Prop}(hQ:∀e a w,Q e a w->Q' e a w):∀{n:Nat}{a:Act}{w:World},Code.rounds P x Q n a w->Code.rounds P x Q' n a w
 | 0,_,_,h=>h.elim
 | n+1,a,w,h=>by
  rw[rounds_succ]at h ⊢
  refine wp_mono h ?_
  intro e a' w' h'
  cases e with
  | normal=>exact rounds_monoQ hQ h'
  | _=>exact hQ _ _ _ h'
theorem ev_sound2 (hC:CfgOk P C code){K:Nat->Prop}(hLK:∀p F,lookP C.L p=some F->LoopOkK P C.n (loopAt p code) K F):∀(m:Nat) (p:List Nat) (c:Code) (s:St) (e:Exit) (s':St),codeAt p code=some c->evS C m p c s=some (e,s')->
  (∀{R:Nat->Pl->Prop}{a:Act}{w:World},Rel w0 C.n R s.f a w->c.wp P (fun e' a' w'=>e'=e∧∃R',MonoK K R R'∧Rel w0 C.n R' s'.f a' w') a w)∧
  (∀x,c=.loop x->lookP C.L p=none->∃r,∀{R:Nat->Pl->Prop}{a:Act}{w:World},Rel w0 C.n R s.f a w->Code.rounds P x (fun e' a' w'=>e'=e∧∃R',MonoK K R R'∧Rel w0 C.n R' s'.f a' w') r a w):=by
 intro m
 induction m with
 | zero=>intro p c s e s' _ h;simp[evS,evK]at h
 | succ m ih=>
  intro p c s e s' hp h
  unfold evS at h
  cases c with
  | skip=>simp only[evK,Option.some.injEq,Prod.mk.injEq]at h;obtain ⟨rfl,rfl⟩:=h;exact⟨fun hrel=>wp_skip ⟨rfl,_,.refl,hrel⟩,nofun⟩
  | label l=>simp only[evK,Option.some.injEq,Prod.mk.injEq]at h;obtain ⟨rfl,rfl⟩:=h;exact⟨fun hrel=>wp_label ⟨rfl,_,.refl,hrel⟩,nofun⟩
  | exit id=>simp only[evK,Option.some.injEq,Prod.mk.injEq]at h;obtain ⟨rfl,rfl⟩:=h;exact⟨fun hrel=>wp_exit ⟨rfl,_,.refl,hrel⟩,nofun⟩
  | ret=>simp only[evK,Option.some.injEq,Prod.mk.injEq]at h;obtain ⟨rfl,rfl⟩:=h;exact⟨fun hrel=>wp_ret ⟨rfl,_,.refl,hrel⟩,nofun⟩
  | region rid ops draw=>
   simp only[evK]at h
   have hnat:=regK_nat (fun o:Option St=>oK o (fun s'=>some (Exit.normal,s')) none) C ops draw s some none
   simp only[oK]at hnat
   rw[<-hnat]at h
   cases hr:regK C ops draw s some none with
   | none=>rw[hr]at h;simp at h
   | some s1=>
    rw[hr]at h
    simp only[Option.some.injEq,Prod.mk.injEq]at h
    obtain ⟨rfl,rfl⟩:=h
    exact⟨fun hrel=>wp_mono (reg_sound hC hr hrel) (by rintro e' a' w' ⟨rfl,R',hm,hr'⟩;exact⟨rfl,R',fun i p _ h=>hm i p h,hr'⟩),nofun⟩
  | seq x y=>
   refine⟨fun {R a w} hrel=>?_,nofun⟩
   simp only[evK]at h
   rw[evK_eq,oK_some]at h
   obtain ⟨⟨e1,s1⟩,h1,h2⟩:=h
   have hx:codeAt (p++[0]) code=some x:=by rw[codeAt_app,hp];rfl
   have hy:codeAt (p++[1]) code=some y:=by rw[codeAt_app,hp];rfl
   refine wp_seq (wp_mono ((ih _ _ _ _ _ hx h1).1 hrel) ?_)
   rintro e' a' w' ⟨rfl,R',hmo,hrel'⟩
   cases e' with
   | normal=>simp only[thenK]at h2;exact wp_mono ((ih _ _ _ _ _ hy h2).1 hrel') (by rintro e' a' w' ⟨rfl,R2,hm2,hr2⟩;exact⟨rfl,R2,hmo.trans hm2,hr2⟩)
   | _=>simp only[thenK,Option.some.injEq,Prod.mk.injEq]at h2;obtain ⟨rfl,rfl⟩:=h2;exact⟨rfl,R',hmo,hrel'⟩
  | cond cc x y=>
   refine⟨fun {R a w} hrel=>?_,nofun⟩
   simp only[evK]at h
   obtain ⟨b,s0,hb,hs0,h1⟩:=cond_run h hrel
   have hx:codeAt (p++[0]) code=some x:=by rw[codeAt_app,hp];rfl
   have hy:codeAt (p++[1]) code=some y:=by rw[codeAt_app,hp];rfl
   refine wp_cond hb ?_
   cases b with
   | true=>exact(ih _ _ _ _ _ hx h1).1 (by rw[hs0];exact hrel)
   | false=>exact(ih _ _ _ _ _ hy h1).1 (by rw[hs0];exact hrel)
  | block id x=>
   refine⟨fun {R a w} hrel=>?_,nofun⟩
   simp only[evK]at h
   rw[evK_eq,oK_some]at h
   obtain ⟨⟨e1,s1⟩,h1,h2⟩:=h
   have hx:codeAt (p++[0]) code=some x:=by rw[codeAt_app,hp];rfl
   refine wp_block (wp_mono ((ih _ _ _ _ _ hx h1).1 hrel) ?_)
   rintro e' a' w' ⟨rfl,R',hmo,hrel'⟩
   cases e' with
   | exit j=>
    simp only[blockK]at h2
    simp only[Exit.inBlock]
    by_cases hj:j=id
    ·subst hj
     simp only[Nat.beq_refl,cond_true,Option.some.injEq,Prod.mk.injEq]at h2
     obtain ⟨rfl,rfl⟩:=h2
     rw[if_pos rfl]
     exact⟨rfl,R',hmo,hrel'⟩
    ·rw[nbeq_ne hj]at h2
     simp only[cond_false,Option.some.injEq,Prod.mk.injEq]at h2
     obtain ⟨rfl,rfl⟩:=h2
     rw[if_neg hj]
     exact⟨rfl,R',hmo,hrel'⟩
   | _=>simp only[blockK,Option.some.injEq,Prod.mk.injEq]at h2;obtain ⟨rfl,rfl⟩:=h2;exact⟨rfl,R',hmo,hrel'⟩
  | scope x=>
   refine⟨fun {R a w} hrel=>?_,nofun⟩
   simp only[evK]at h
   rw[evK_eq,oK_some]at h
   obtain ⟨⟨e1,s1⟩,h1,h2⟩:=h
   have hx:codeAt (p++[0]) code=some x:=by rw[codeAt_app,hp];rfl
   refine wp_scope_straight (wp_mono ((ih _ _ _ _ _ hx h1).1 hrel) ?_)
   rintro e' a' w' ⟨rfl,R',hmo,hrel'⟩
   cases e' with
   | goto l=>simp[scopeK]at h2
   | _=>simp only[scopeK,Option.some.injEq,Prod.mk.injEq]at h2;obtain ⟨rfl,rfl⟩:=h2;exact⟨rfl,R',hmo,hrel'⟩
  | loop x=>
   simp only[evK]at h
   have hx:codeAt (p++[0]) code=some x:=by rw[codeAt_app,hp];rfl
   cases hL:lookP C.L p with
   | some F=>
    rw[hL]at h
    simp only[oK,altK_eq]at h
    have hbody:loopAt p code=x:=by simp[loopAt,hp]
    have h0:=hLK p F hL
    rw[hbody]at h0
    cases hpk:pickL (F s) with
    | none=>rw[hpk]at h;simp at h
    | some q=>
     rw[hpk]at h
     have h:q=(e,s'):=Option.some.inj h
     subst h
     exact⟨fun {R a w} hrel=>h0 w0 R s a w hrel e s' hpk,nofun⟩
   | none=>
    rw[hL]at h
    simp only[oK]at h
    have hr:∃r,∀{R:Nat->Pl->Prop}{a:Act}{w:World},Rel w0 C.n R s.f a w->Code.rounds P x (fun e' a' w'=>e'=e∧∃R',MonoK K R R'∧Rel w0 C.n R' s'.f a' w') r a w:=by
     rw[evK_eq,oK_some]at h
     obtain ⟨⟨e1,s1⟩,h1,h2⟩:=h
     obtain ⟨hb,_⟩:=ih _ _ _ _ _ hx h1
     cases e1 with
     | normal=>
      simp only[thenK]at h2
      obtain ⟨r,hr⟩:=(ih p (.loop x) s1 e s' hp h2).2 x rfl hL
      refine⟨r+1,fun {R a w} hrel=>?_⟩
      rw[rounds_succ]
      refine wp_mono (hb hrel) ?_
      rintro e' a' w' ⟨rfl,R',hmo,hrel'⟩
      exact rounds_monoQ (by rintro e' a' w' ⟨rfl,R2,hm2,hr2⟩;exact⟨rfl,R2,hmo.trans hm2,hr2⟩) (hr hrel')
     | _=>
      simp only[thenK,Option.some.injEq,Prod.mk.injEq]at h2
      obtain ⟨rfl,rfl⟩:=h2
      refine⟨1,fun {R a w} hrel=>wp_mono (hb hrel) ?_⟩
      rintro e' a' w' ⟨rfl,hrel'⟩
      exact⟨rfl,hrel'⟩
    obtain ⟨r,hr⟩:=hr
    exact⟨fun {R a w} hrel=>wp_loop_rounds r (hr hrel),fun x' hx' _=>by cases hx';exact⟨r,hr⟩⟩
  | _=>simp[evK]at h
theorem ev_soundK (hC:CfgOk P C code){K:Nat->Prop}(hLK:∀p F,lookP C.L p=some F->LoopOkK P C.n (loopAt p code) K F){m:Nat}{p:List Nat}{c:Code}{s:St}{e:Exit}{s':St}(hp:codeAt p code=some c) (h:evS C m p c s=some (e,s')){R:Nat->Pl->Prop}{a:Act}{w:World}(hrel:Rel w0 C.n R s.f a w):
  c.wp P (fun e' a' w'=>e'=e∧∃R',MonoK K R R'∧Rel w0 C.n R' s'.f a' w') a w:=(ev_sound2 hC hLK m p c s e s' hp h).1 hrel
theorem ev_sound (hC:CfgOk P C code){m:Nat}{p:List Nat}{c:Code}{s:St}{e:Exit}{s':St}(hp:codeAt p code=some c) (h:evS C m p c s=some (e,s')){R:Nat->Pl->Prop}{a:Act}{w:World}(hrel:Rel w0 C.n R s.f a w):
  c.wp P (fun e' a' w'=>e'=e∧∃R',Rel w0 C.n R' s'.f a' w') a w:=by
 refine wp_mono (ev_soundK hC (K:=fun _=>False) (fun p F hF w0 R s a w hr e s' hpk=>wp_mono (hC.L p F hF w0 R s a w hr e s' hpk) ?_) hp h hrel) ?_
 ·rintro e' a' w' ⟨rfl,R',hr'⟩;exact⟨rfl,R',fun _ _ h=>h.elim,hr'⟩
 ·rintro e' a' w' ⟨rfl,R',_,hr'⟩;exact⟨rfl,R',hr'⟩
end
end Go.W

namespace Go.W
open Go.RowKit (Below)
section
variable {R:Type}
def resK (T:Tab) (s:St):List ResultVar->(List Value->R)->R->R
 | [],k,_=>k []
 | .tmp t::r,k,f=>oK (look s.slots t) (fun v=>resK T s r (fun vs=>k (v::vs)) f) f
 | .cell a t::r,k,f=>oK (look s.slots a) (fun v=>ptrK v (fun b off=>loadK T t (look s.mem) b off (fun q=>resK T s r (fun vs=>k (q.val::vs)) f) f) f) f
def oneK (vs:List Value) (k:Value->R):R:=
 match vs with
 | [v]=>k v
 | vs=>k (.tuple vs.toArray)
def endK (T:Tab) (fn:Func) (e:Exit) (s:St) (k:Value->R) (f:R):R:=
 match e with
 | .normal=>resK T s fn.results.toList (fun vs=>oneK vs k) f
 | .ret=>resK T s fn.results.toList (fun vs=>oneK vs k) f
 | _=>f
def argSlots:Nat->List Value->List (Nat×Value)
 | _,[]=>[]
 | i,v::r=>(i,v)::argSlots (i+1) r
def fnK (C:Cfg) (fuel:Nat) (fn:Func) (c:Code) (args:List Value) (k:Value->R) (f:R):R:=
 evK C fuel [] c ⟨argSlots 0 args,[],0⟩ (fun e s=>endK C.T fn e s k f) f
variable {R':Type}(h:R->R')
theorem resK_nat (T:Tab) (s:St):∀(l:List ResultVar) (k:List Value->R) (f:R),h (resK T s l k f)=resK T s l (fun vs=>h (k vs)) (h f)
 | [],_,_=>rfl
 | .tmp t::r,k,f=>by simp only[resK,oK_nat h,resK_nat T s r]
 | .cell a t::r,k,f=>by simp only[resK,oK_nat h,ptrK_nat h,loadK_nat h,resK_nat T s r]
theorem oneK_nat (vs:List Value) (k:Value->R):h (oneK vs k)=oneK vs (fun v=>h (k v)):=by
 unfold oneK;split<;>rfl
end
def fnS (C:Cfg) (fuel:Nat) (fn:Func) (c:Code) (args:List Value):Option Value:=fnK C fuel fn c args some none
def resOne (tmps:Array Value) (x:ResultVar):Sem Value:=
 match x with
 | .tmp t=>pure (tmps.getD t undef)
 | .cell b t=>do loadVar t (<-asAddr (tmps.getD b undef))
theorem results_eq (fn:Func) (tmps:Array Value):results fn tmps=(do
  let vs <-fn.results.mapM (resOne tmps)
  pure (if h:vs.size=1 then vs[0] else .tuple vs)):=by
 unfold results
 congr 1
section
variable {P:Program} [Laid P] {C:Cfg}{c:Code}{w0:Wb (lay P)}{w:World}{R:Nat->Pl->Prop}{a:Act}
theorem res_run (hC:CfgOk P C c){s:St}(hrel:Rel w0 C.n R s.f a w):∀(l:List ResultVar){β:Type}{k:List Value->Option β}{r:β},resK C.T s l k none=some r->
  ∃vs vs',k vs=some r∧LR (V2 R) vs vs'∧
   (l.mapM (resOne a.tmps)).run P w=.ok vs' w
 | [],β,k,r,h=>⟨[],[],h,trivial,rfl⟩
 | .tmp t::l,β,k,r,h=>by
  simp only[resK,oK_some]at h
  obtain ⟨v,hv,h⟩:=h
  obtain ⟨vs,vs',h1,h2,h3⟩:=res_run hC hrel l h
  have hev:=hrel.ev (x:=.tmp t) hv
  refine⟨v::vs,a.tmps.getD t undef::vs',h1,⟨hev,h2⟩,?_⟩
  simp only[List.mapM_cons,resOne,Sem.run_bind,Sem.run_pure,Result.andThen_ok]at h3 ⊢
  simp only[h3,Result.andThen_ok]
 | .cell b t::l,β,k,r,h=>by
  simp only[resK,oK_some,ptrK_some]at h
  obtain ⟨v,hv,b1,off,rfl,h⟩:=h
  obtain ⟨p,b2,hp,hpa,hev⟩:=V2_ptr (hrel.ev (x:=.tmp b) hv)
  have hev:a.tmps.getD b undef=.pointer (some ⟨b2,p.d+off,none⟩):=hev
  obtain ⟨q,hq,h⟩:∃q,loadK C.T t (look s.mem) b1 off some none=some q∧resK C.T s l (fun vs=>k (q.val::vs)) none=some r:=by
   have:=loadK_nat (fun o:Option Res=>oK o (fun q=>resK C.T s l (fun vs=>k (q.val::vs)) none) none) C.T t (look s.mem) b1 off some none
   simp only[oK]at this
   rw[<-this]at h
   cases hq:loadK C.T t (look s.mem) b1 off some none with
   | none=>rw[hq]at h;simp at h
   | some q=>rw[hq]at h;exact⟨q,rfl,h⟩
  obtain ⟨_,u',h5,h4⟩:=load_run hC.T hrel.m hp hpa hq
  obtain ⟨vs,vs',h6,h7,h8⟩:=res_run hC hrel l h
  refine⟨q.val::vs,u'::vs',h6,⟨h4,h7⟩,?_⟩
  have hadr:(asAddr (a.tmps.getD b undef)).run P w=.ok ⟨b2,p.d+off,none⟩ w:=by rw[hev];rfl
  rw[List.mapM_cons]
  have h9:(resOne a.tmps (.cell b t)).run P w=.ok u' w:=by simp only[resOne,Sem.run_bind,hadr,Result.andThen_ok,h5]
  simp only[Sem.run_bind,h9,Sem.run_pure,Result.andThen_ok,h8]
theorem oneK_some {vs:List Value}{v:Value}(h:oneK vs some=some v):(vs=[v])∨(vs.length≠1∧v=.tuple vs.toArray):=by
 unfold oneK at h
 split at h
 ·left;simp at h;rw[h]
 ·rename_i hne
  right
  simp at h
  refine⟨fun hl=>?_,h.symm⟩
  match vs,hl with
  | [x],_=>exact hne x rfl
theorem argSlots_look:∀(args:List Value) (i t:Nat) (v:Value),look (argSlots i args) t=some v->∃j,t=i+j∧args[j]?=some v
 | [],_,_,_,h=>by simp[argSlots,look]at h
 | x::r,i,t,v,h=>by
  simp only[argSlots,look_cons]at h
  by_cases ht:i=t
  ·subst ht
   rw[upd_same]at h
   cases h
   exact⟨0,rfl,rfl⟩
  ·rw[upd_ne _ _ ht]at h
   obtain ⟨j,h1,h2⟩:=argSlots_look r (i+1) t v h
   exact⟨j+1,by omega,by simpa using h2⟩
theorem fn_sound (hC:CfgOk P C c){g:FuncId}{fn:Func}(hf:P.funcs[g]?=some fn) (hb:fn.body=some c) (hn:C.n=fn.ntmps){args:List Value}(hlen:args.length<=fn.ntmps) (hp:args.all pl2=true)
  {fuel:Nat}{v:Value}(h:fnS C fuel fn c args=some v) (hv:pl2 v=true) (w:World) (hg:GOk (lay P) w):Calls P g args.toArray w fun e w'=>e=.returned v∧Below w.heap.size w w':=by
 unfold fnS fnK at h
 rw[evK_eq,oK_some]at h
 obtain ⟨⟨e,s'⟩,h1,h2⟩:=h
 refine calls_of_wp hf hb ?_
 have hrel:Rel (⟨w,fun _=>False,fun _ _=>False⟩:Wb (lay P)) C.n (fun _ _=>False) (St.f ⟨argSlots 0 args,[],0⟩) { tmps:=args.toArray++Array.replicate (fn.ntmps-args.toArray.size) undef,defers:=[] } w:=by
  refine⟨rfl,by simp;omega,?_,⟨BelowX.refl _ _ _ hg (fun _ _ h=>h),nofun,nofun,?_,nofun,nofun,nofun,nofun⟩⟩
  ·intro t u hu
   obtain ⟨j,rfl,hj⟩:=argSlots_look args 0 t u hu
   have hu2:=List.all_eq_true.1 hp u (List.mem_of_getElem? hj)
   have hlt:j<args.length:=by
    rcases Nat.lt_or_ge j args.length with h|h
    ·exact h
    ·rw[List.getElem?_eq_none h]at hj;simp at hj
   refine⟨u,?_,(V2_plain hu2).2 rfl⟩
   rw[Nat.zero_add,Array.getElem?_append_left (by simpa using hlt)]
   simpa using hj
  ·intro i blk hi;simp[St.f,look]at hi
 refine wp_mono (ev_sound hC (p:=[]) rfl h1 hrel) ?_
 rintro e' a' w' ⟨rfl,R',hr'⟩
 have fin:endK C.T fn e' s' some none=some v->(e'=.normal∨e'=.ret)->a'.defers=[]∧∃v',(results fn a'.tmps).run P w'=.ok v' w'∧(v'=v∧Below w.heap.size w w'):=by
  intro h3 h4
  refine⟨hr'.defers,?_⟩
  have h3:resK C.T s' fn.results.toList (fun vs=>oneK vs some) none=some v:=by
   rcases h4 with rfl|rfl<;>exact h3
  obtain ⟨vs,vs',h5,h6,h7⟩:=res_run hC hr' _ h3
  have hrun:(results fn a'.tmps).run P w'=.ok (if h:vs'.toArray.size=1 then vs'.toArray[0] else .tuple vs'.toArray) w':=by
   rw[results_eq,Array.mapM_eq_mapM_toList]
   simp only[Sem.run_bind,Sem.run_map,h7,Result.andThen_ok,Sem.run_pure]
  refine⟨_,hrun,?_,hr'.m.below.below fun _ h=>h⟩
  rcases oneK_some h5 with rfl|⟨hl,rfl⟩
  ·match vs',h6 with
   | [u],h6=>
    have:=(V2_plain hv).1 h6.1
    subst this
    simp
  ·have hl':vs'.length≠1:=by rw[<-LR_len h6];exact hl
   rw[dif_neg (by simpa using hl')]
   have hall:vs.all pl1=true:=by simpa [pl2] using hv
   have:vs'=vs:=by
    refine(LR_plain (r:=V2 R') (pl:=pl1) (fun u u' hu=>?_) hall).1 h6
    refine V2_plain ?_
    unfold pl2;split
    ·simp[pl1,pl0]at hu
    ·exact hu
   rw[this]
 cases e' with
 | normal=>obtain ⟨k1,v',k2,rfl,k3⟩:=fin h2 (.inl rfl);exact⟨k1,v',k2,rfl,k3⟩
 | ret=>obtain ⟨k1,v',k2,rfl,k3⟩:=fin h2 (.inr rfl);exact⟨k1,v',k2,rfl,k3⟩
 | _=>simp[endK]at h2
theorem sums_nil:SumsOk P []:=by intro g e h;simp[look]at h
theorem sums_cons {G:Sums}{g:FuncId}{F:List Value->Option (Bool×Value)}(h:Sum P g F) (hG:SumsOk P G):SumsOk P ((g,.pl F)::G):=by
 intro g' F' hF
 rw[look_cons]at hF
 by_cases hg:g=g'
 ·subst hg;rw[upd_same]at hF;cases hF;exact h
 ·rw[upd_ne _ _ hg]at hF;exact hG g' F' hF
theorem sums_consM {G:Sums}{g:FuncId}{F:List Value->(Nat->Option Blk)->Nat->List (Bool×Value×List (Nat×Blk))}(h:MSum P g F) (hG:SumsOk P G):SumsOk P ((g,.me F)::G):=by
 intro g' F' hF
 rw[look_cons]at hF
 by_cases hg:g=g'
 ·subst hg;rw[upd_same]at hF;cases hF;exact h
 ·rw[upd_ne _ _ hg]at hF;exact hG g' F' hF
theorem sum_of (hC:CfgOk P C c){g:FuncId}{fn:Func}(hf:P.funcs[g]?=some fn) (hname:(fn.name=="runtime.NumGoroutine")=false) (hb:fn.body=some c) (hn:C.n=fn.ntmps){F:List Value->Option (Bool×Value)}{fuel:Nat}
  (h:∀args v,F args=some (true,v)->args.all pl2=true->args.length<=fn.ntmps∧fnS C fuel fn c args=some v∧pl2 v=true):Sum P g F:=by
 intro args v hF hp w hgk
 obtain ⟨h1,h2,h3⟩:=h args v hF hp
 have hne:fn.name≠"runtime.NumGoroutine":=by simpa using hname
 have hrun:(callFunc g args.toArray).run P w=.ok (.enter g args.toArray) w:=by simp[callFunc,hf,hne,hb]
 unfold Invokes
 rw[hrun]
 refine Calls.mono (fn_sound hC hf hb hn h1 hp h2 h3 w hgk) ?_
 rintro e w' ⟨rfl,hb⟩
 exact⟨rfl,hb⟩
theorem sum_at (hC:CfgOk P C c){g:FuncId}{fn:Func}(hf:P.funcs[g]?=some fn) (hname:(fn.name=="runtime.NumGoroutine")=false) (hb:fn.body=some c) (hn:C.n=fn.ntmps){args:List Value}{v:Value}{fuel:Nat}
  (h1:args.length<=fn.ntmps) (h2:fnS C fuel fn c args=some v) (h3:pl2 v=true):args.all pl2=true->∀w,GOk (lay P) w->Invokes P g args.toArray w fun v' w'=>v'=v∧Below w.heap.size w w':=by
 intro hp w hgk
 have hne:fn.name≠"runtime.NumGoroutine":=by simpa using hname
 have hrun:(callFunc g args.toArray).run P w=.ok (.enter g args.toArray) w:=by simp[callFunc,hf,hne,hb]
 unfold Invokes
 rw[hrun]
 refine Calls.mono (fn_sound hC hf hb hn h1 hp h2 h3 w hgk) ?_
 rintro e w' ⟨rfl,hb⟩
 exact⟨rfl,hb⟩
end
section
variable {P:Program}
theorem tab_nil:TabOk P []:=by intro t i h;simp[look]at h
theorem tab_cons {T:Tab}{t:Nat}{i:TInf}(h:TOk P t i) (hT:TabOk P T):TabOk P ((t,i)::T):=by
 intro t' i' hi
 rw[look_cons]at hi
 by_cases ht:t=t'
 ·subst ht;rw[upd_same]at hi;cases hi;exact h
 ·rw[upd_ne _ _ ht]at hi;exact hT t' i' hi
theorem tok_plain {t:Nat}{d:TypeDesc}{siz byt:Nat}{zer:Value}(h1:P.underlying t=some d) (h2:(P.info? t).map (fun i=>(i.size,i.zero,i.bytes))=some (siz,some zer,byt)):TOk P t ⟨d,siz,zer,false,[],[],byt⟩:=by
 obtain ⟨i,h3,h4⟩:=Option.map_eq_some_iff.1 h2
 simp only[Prod.mk.injEq]at h4
 exact⟨⟨i,h3,h4.1,h4.2.1,h4.2.2⟩,fun _=>h1,nofun,fun h=>absurd rfl h⟩
theorem tok_eq {t:Nat}{d:TypeDesc}{siz byt:Nat}{zer:Value}{ks:List CK}(h1:P.underlying t=some d) (h2:(P.info? t).map (fun i=>(i.size,i.zero,i.bytes))=some (siz,some zer,byt)) (h3:P.eqGuardType P.depth t=false) (h6:kindsT P 20 t=some ks):TOk P t ⟨d,siz,zer,false,[],ks,byt⟩:=by
 obtain ⟨i,h4,h5⟩:=Option.map_eq_some_iff.1 h2
 simp only[Prod.mk.injEq]at h5
 exact⟨⟨i,h4,h5.1,h5.2.1,h5.2.2⟩,fun _=>h1,nofun,fun _=>⟨h3,h6⟩⟩
def structFlds (d:Option TypeDesc):Option (List (Nat×Nat)):=
 match d with
 | some (.struct fs)=>some (fs.toList.map fun f=>(f.offset,f.type))
 | _=>none
theorem tok_struct {t:Nat}{siz byt:Nat}{zer:Value}{flds:List (Nat×Nat)}(h1:structFlds (P.underlying t)=some flds) (h2:(P.info? t).map (fun i=>(i.size,i.zero,i.bytes))=some (siz,some zer,byt)):TOk P t ⟨.bool,siz,zer,true,flds,[],byt⟩:=by
 obtain ⟨i,h3,h4⟩:=Option.map_eq_some_iff.1 h2
 simp only[Prod.mk.injEq]at h4
 refine⟨⟨i,h3,h4.1,h4.2.1,h4.2.2⟩,nofun,fun _=>?_,fun h=>absurd rfl h⟩
 unfold structFlds at h1
 split at h1
 ·rename_i fs hd
  exact⟨fs,hd,Option.some.inj h1⟩
 ·simp at h1
theorem tok_structE {t:Nat}{siz byt:Nat}{zer:Value}{flds:List (Nat×Nat)}{ks:List CK}(h1:structFlds (P.underlying t)=some flds) (h2:(P.info? t).map (fun i=>(i.size,i.zero,i.bytes))=some (siz,some zer,byt))
  (h5:P.eqGuardType P.depth t=false) (h6:kindsT P 20 t=some ks):TOk P t ⟨.bool,siz,zer,true,flds,ks,byt⟩:=by
 obtain ⟨i,h3,h4⟩:=Option.map_eq_some_iff.1 h2
 simp only[Prod.mk.injEq]at h4
 refine⟨⟨i,h3,h4.1,h4.2.1,h4.2.2⟩,nofun,fun _=>?_,fun _=>⟨h5,h6⟩⟩
 unfold structFlds at h1
 split at h1
 ·rename_i fs hd
  exact⟨fs,hd,Option.some.inj h1⟩
 ·simp at h1
end
end Go.W

namespace Go.W
open Go.RowKit (Below)
abbrev Ren:=List (Nat×Nat)
def idR (l:List Nat):Ren:=l.map fun i=>(i,i)
instance:Coe (List Nat) Ren:=⟨idR⟩
def swapR:Ren->Ren
 | []=>[]
 | p::l=>(p.2,p.1)::swapR l
def ren00 (ρ:Ren):Value->Option Value
 | .pointer (some a)=>oK (look ρ a.block) (fun b=>some (.pointer (some ⟨b,a.off,a.spot⟩))) none
 | .slice (some a) n c=>oK (look ρ a.block) (fun b=>some (.slice (some ⟨b,a.off,a.spot⟩) n c)) none
 | v=>some v
def renL (q:Value->Option Value):List Value->Option (List Value)
 | []=>some []
 | v::l=>oK (q v) (fun u=>oK (renL q l) (fun m=>some (u::m)) none) none
def renI (ρ:Ren):Value->Option Value
 | .agg cs=>oK (renL (ren00 ρ) cs.toList) (fun l=>some (.agg l.toArray)) none
 | v=>ren00 ρ v
def ren0 (ρ:Ren):Value->Option Value
 | .pointer (some a)=>oK (look ρ a.block) (fun b=>some (.pointer (some ⟨b,a.off,a.spot⟩))) none
 | .slice (some a) n c=>oK (look ρ a.block) (fun b=>some (.slice (some ⟨b,a.off,a.spot⟩) n c)) none
 | .iface t x=>oK (renI ρ x) (fun u=>some (.iface t u)) none
 | v=>some v
def ren1 (ρ:Ren):Value->Option Value
 | .agg cs=>oK (renL (ren0 ρ) cs.toList) (fun l=>some (.agg l.toArray)) none
 | v=>ren0 ρ v
def ren2 (ρ:Ren):Value->Option Value
 | .tuple vs=>oK (renL (ren1 ρ) vs.toList) (fun l=>some (.tuple l.toArray)) none
 | v=>ren1 ρ v
def renC (ρ:Ren):Cells->Option Cells
 | .lst l=>oK (renL (ren0 ρ) l) (fun m=>some (.lst m)) none
 | .row ks n f=>some (.row ks n f)
 | .elt i k sz=>oK (look ρ i) (fun j=>some (.elt j k sz)) none
 | .tail i l cnt sz=>oK (look ρ i) (fun j=>some (.tail j l cnt sz)) none
 | .fam ks n es g=>some (.fam ks n es g)
 | .itr s pos=>some (.itr s pos)
def renOk1 (p:Nat×Nat):Bool:=(loose p.1==loose p.2)&&(Nat.beq p.1 p.2||Nat.blt p.1 1000000)&&(Nat.blt p.1 1000000000&&Nat.blt p.2 1000000000)
def nodupB:List Nat->Bool
 | []=>true
 | x::l=>!(nmem x l)&&nodupB l
def renOk (is:Ren):Bool:=is.all renOk1&&nodupB (is.map (·.1))&&nodupB (is.map (·.2))
def getSlots (s:St) (ρ:Ren):List Nat->Option (List (Nat×Value))
 | []=>some []
 | t::r=>oK (look s.slots t) (fun v=>oK (ren2 ρ v) (fun u=>oK (getSlots s ρ r) (fun l=>some ((t,u)::l)) none) none) none
def getMem (s:St) (ρ:Ren):Ren->Option (List (Nat×Blk))
 | []=>some []
 | i::r=>oK (look s.mem i.2) (fun b=>oK (renC ρ b.cells) (fun c=>oK (getMem s ρ r) (fun l=>some ((i.1,⟨c,b.elem,b.own⟩)::l)) none) none) none
def restS (ts:List Nat) (is:Ren) (nx:Nat) (s:St):Option St:=
 bif renOk is then oK (getSlots s (swapR is) ts) (fun sl=>oK (getMem s (swapR is) is) (fun me=>some ⟨sl,me,nx⟩) none) none else none
section
variable {GL:Glob}{w0:Wb GL}{w:World}{n:Nat}{R:Nat->Pl->Prop}{a:Act}{is:Ren}
theorem look_swap:∀{is:Ren}{o i:Nat},nodupB (is.map (·.1))=true->look (swapR is) o=some i->look is i=some o
 | [],_,_,_,h=>by simp[swapR,look]at h
 | p::is,o,i,hn,h=>by
  simp only[List.map_cons,nodupB,Bool.and_eq_true,Bool.not_eq_true']at hn
  simp only[swapR,look_cons]at h
  by_cases hp:p.2=o
  ·subst hp
   rw[upd_same]at h
   cases h
   obtain ⟨x,y⟩:=p
   rw[look_cons,upd_same]
  ·rw[upd_ne _ _ hp]at h
   have ih:=look_swap hn.2 h
   obtain ⟨x,y⟩:=p
   rw[look_cons]
   by_cases hx:x=i
   ·subst hx
    have:x∈is.map (·.1):=by
     have key:∀(l:Ren) (z:Nat),look l x=some z->x∈l.map (·.1):=by
      intro l
      induction l with
      | nil=>intro z hz;simp[look]at hz
      | cons q l ih2=>
       intro z hz
       obtain ⟨q1,q2⟩:=q
       rw[look_cons]at hz
       by_cases hq:q1=x
       ·simp[hq]
       ·rw[upd_ne _ _ hq]at hz;simp[ih2 z hz]
     exact key is o ih
    rw[nmem_iff.2 this]at hn
    simp at hn
   ·rw[upd_ne _ _ hx];exact ih
theorem look_mem2:∀{is:Ren}{i o:Nat},look is i=some o->(i,o)∈is
 | [],_,_,h=>by simp[look]at h
 | (x,y)::is,i,o,h=>by
  rw[look_cons]at h
  by_cases hx:x=i
  ·subst hx;rw[upd_same]at h;cases h;simp
  ·rw[upd_ne _ _ hx]at h;exact List.mem_cons_of_mem _ (look_mem2 h)
theorem look_inj:∀{is:Ren}{i j o:Nat},nodupB (is.map (·.2))=true->look is i=some o->look is j=some o->i=j
 | [],_,_,_,_,h,_=>by simp[look]at h
 | (x,y)::is,i,j,o,hn,hi,hj=>by
  simp only[List.map_cons,nodupB,Bool.and_eq_true,Bool.not_eq_true']at hn
  rw[look_cons]at hi hj
  have out:∀z,look is z=some y->False:=by
   intro z hz
   have:y∈is.map (·.2):=List.mem_map.2 ⟨(z,y),look_mem2 hz,rfl⟩
   rw[nmem_iff.2 this]at hn
   simp at hn
  by_cases hx:x=i
  ·subst hx
   rw[upd_same]at hi
   cases hi
   by_cases hx2:x=j
   ·exact hx2
   ·rw[upd_ne _ _ hx2]at hj;exact(out _ hj).elim
  ·rw[upd_ne _ _ hx]at hi
   by_cases hx2:x=j
   ·subst hx2
    rw[upd_same]at hj
    cases hj
    exact(out _ hi).elim
   ·rw[upd_ne _ _ hx2]at hj
    exact look_inj hn.2 hi hj
def renR (is:Ren) (R:Nat->Pl->Prop) (i:Nat) (p:Pl):Prop:=(∃o,look is i=some o∧R o p)∨(1000000000<=i∧R i p)
theorem renOk_loose (hk:renOk is=true){i o:Nat}(h:look is i=some o):loose i=loose o∧(i=o∨i<1000000):=by
 unfold renOk at hk
 simp only[Bool.and_eq_true]at hk
 have:=List.all_eq_true.1 hk.1.1 _ (look_mem2 h)
 simp only[renOk1,Bool.and_eq_true,beq_iff_eq,Bool.or_eq_true,nbeq,Nat.blt_eq]at this
 exact this.1
theorem renOk_lt (hk:renOk is=true){i o:Nat}(h:look is i=some o):i<1000000000∧o<1000000000:=by
 unfold renOk at hk
 simp only[Bool.and_eq_true]at hk
 have:=List.all_eq_true.1 hk.1.1 _ (look_mem2 h)
 simp only[renOk1,Bool.and_eq_true,beq_iff_eq,Bool.or_eq_true,nbeq,Nat.blt_eq]at this
 exact this.2
theorem LR_ren {r r':Value->Value->Prop}{q:Value->Option Value}(hr:∀v u v',r v v'->q v=some u->r' u v'):∀{l m l':List Value},LR r l l'->renL q l=some m->LR r' m l'
 | [],m,[],_,h=>by simp only[renL,Option.some.injEq]at h;subst h;trivial
 | v::l,m,v'::l',hl,h=>by
  simp only[renL,oK_some]at h
  obtain ⟨u,hu,m',hm',h⟩:=h
  cases h
  exact⟨hr _ _ _ hl.1 hu,LR_ren hr hl.2 hm'⟩
 | [],_,_::_,h,_=>h.elim
 | _::_,_,[],h,_=>h.elim
theorem V00_ren2 (hk:renOk is=true){R2:Nat->Pl->Prop}(hR:∀i o p,look is i=some o->R o p->R2 i p){v u v':Value}(h:V00 R v v') (hu:ren00 (swapR is) v=some u):V00 R2 u v':=by
 have hn:nodupB (is.map (·.1))=true:=by
  unfold renOk at hk
  simp only[Bool.and_eq_true]at hk
  exact hk.1.2
 unfold ren00 at hu
 split at hu
 ·rename_i a
  obtain ⟨b,hb,hu⟩:=oK_some.1 hu
  cases hu
  obtain ⟨p,bl,h1,h2,h3⟩:=h
  exact⟨p,bl,hR _ _ _ (look_swap hn hb) h1,h2,h3⟩
 ·rename_i a n c
  obtain ⟨b,hb,hu⟩:=oK_some.1 hu
  cases hu
  obtain ⟨p,h1,h2⟩:=h
  refine⟨p,hR _ _ _ (look_swap hn hb) h1,?_⟩
  unfold SlOk at h2 ⊢
  simp only
  rw[(renOk_loose hk (look_swap hn hb)).1]
  exact h2
 ·cases hu
  rename_i h1 h2
  unfold V00 at h ⊢
  split at h
  ·exact absurd rfl (h1 _)
  ·exact absurd rfl (h2 _ _ _)
  ·exact h
  ·exact h
  ·exact h
  ·exact h
theorem VI_ren2 (hk:renOk is=true){R2:Nat->Pl->Prop}(hR:∀i o p,look is i=some o->R o p->R2 i p){v u v':Value}(h:VI R v v') (hu:renI (swapR is) v=some u):VI R2 u v':=by
 unfold renI at hu
 split at hu
 ·obtain ⟨m,hm,hu⟩:=oK_some.1 hu
  cases hu
  obtain ⟨cs',rfl,hl⟩:=h
  exact⟨cs',rfl,LR_ren (r:=V00 R) (fun _ _ _ h1 h2=>V00_ren2 hk hR h1 h2) hl hm⟩
 ·rename_i hne
  have h0:V00 R v v':=by
   unfold VI at h
   split at h
   ·exact absurd rfl (hne _)
   ·exact h
  have:=V00_ren2 hk hR h0 hu
  unfold VI
  split
  ·exact(show False from this).elim
  ·exact this
theorem V0_ren2 (hk:renOk is=true){R2:Nat->Pl->Prop}(hR:∀i o p,look is i=some o->R o p->R2 i p){v u v':Value}(h:V0 R v v') (hu:ren0 (swapR is) v=some u):V0 R2 u v':=by
 have hn:nodupB (is.map (·.1))=true:=by
  unfold renOk at hk
  simp only[Bool.and_eq_true]at hk
  exact hk.1.2
 unfold ren0 at hu
 split at hu
 ·rename_i a
  obtain ⟨b,hb,hu⟩:=oK_some.1 hu
  cases hu
  obtain ⟨p,bl,h1,h2,h3⟩:=h
  exact⟨p,bl,hR _ _ _ (look_swap hn hb) h1,h2,h3⟩
 ·rename_i a n c
  obtain ⟨b,hb,hu⟩:=oK_some.1 hu
  cases hu
  obtain ⟨p,h1,h2⟩:=h
  refine⟨p,hR _ _ _ (look_swap hn hb) h1,?_⟩
  unfold SlOk at h2 ⊢
  simp only
  rw[(renOk_loose hk (look_swap hn hb)).1]
  exact h2
 ·rename_i t x
  obtain ⟨y,hy,hu⟩:=oK_some.1 hu
  cases hu
  obtain ⟨x',rfl,hx⟩:=h
  exact⟨x',rfl,VI_ren2 hk hR hx hy⟩
 ·cases hu
  rename_i h1 h2 h3
  unfold V0 at h ⊢
  split at h
  ·exact absurd rfl (h1 _)
  ·exact absurd rfl (h2 _ _ _)
  ·exact h
  ·exact h
  ·exact absurd rfl (h3 _ _)
  ·exact h
theorem renL_len {q:Value->Option Value}:∀{l m:List Value},renL q l=some m->m.length=l.length
 | [],m,h=>by simp only[renL,Option.some.injEq]at h;subst h;rfl
 | v::l,m,h=>by
  simp only[renL,oK_some]at h
  obtain ⟨u,hu,m',hm',h⟩:=h
  cases h
  simp[renL_len hm']
theorem V1_ren2 (hk:renOk is=true){R2:Nat->Pl->Prop}(hR:∀i o p,look is i=some o->R o p->R2 i p){v u v':Value}(h:V1 R v v') (hu:ren1 (swapR is) v=some u):V1 R2 u v':=by
 unfold ren1 at hu
 split at hu
 ·obtain ⟨m,hm,hu⟩:=oK_some.1 hu
  cases hu
  obtain ⟨cs',rfl,hl⟩:=h
  exact⟨cs',rfl,LR_ren (r:=V0 R) (fun _ _ _ h1 h2=>V0_ren2 hk hR h1 h2) hl hm⟩
 ·rename_i hne
  have h0:V0 R v v':=by
   unfold V1 at h
   split at h
   ·exact absurd rfl (hne _)
   ·exact h
  have:=V0_ren2 hk hR h0 hu
  unfold V1
  split
  ·exact(show False from this).elim
  ·exact this
theorem V2_ren2 (hk:renOk is=true){R2:Nat->Pl->Prop}(hR:∀i o p,look is i=some o->R o p->R2 i p){v u v':Value}(h:V2 R v v') (hu:ren2 (swapR is) v=some u):V2 R2 u v':=by
 unfold ren2 at hu
 split at hu
 ·obtain ⟨m,hm,hu⟩:=oK_some.1 hu
  cases hu
  obtain ⟨cs',rfl,hl⟩:=h
  exact⟨cs',rfl,LR_ren (r:=V1 R) (fun _ _ _ h1 h2=>V1_ren2 hk hR h1 h2) hl hm⟩
 ·rename_i hne
  have h0:V1 R v v':=by
   unfold V2 at h
   split at h
   ·exact absurd rfl (hne _)
   ·exact h
  exact V2_of_V1 (V1_ren2 hk hR h0 hu)
theorem V0_ren (hk:renOk is=true){v u v':Value}(h:V0 R v v') (hu:ren0 (swapR is) v=some u):V0 (renR is R) u v':=V0_ren2 hk (fun _ o _ h1 h2=>.inl ⟨o,h1,h2⟩) h hu
theorem V2_ren (hk:renOk is=true){v u v':Value}(h:V2 R v v') (hu:ren2 (swapR is) v=some u):V2 (renR is R) u v':=V2_ren2 hk (fun _ o _ h1 h2=>.inl ⟨o,h1,h2⟩) h hu
theorem getSlots_look {s:St}{ρ:Ren}:∀{ts:List Nat}{l:List (Nat×Value)},getSlots s ρ ts=some l->∀t u,look l t=some u->∃v,look s.slots t=some v∧ren2 ρ v=some u
 | [],l,h,t,u,hv=>by simp only[getSlots,Option.some.injEq]at h;subst h;simp[look]at hv
 | x::r,l,h,t,u,hv=>by
  simp only[getSlots,oK_some]at h
  obtain ⟨v,hx,u',hu,l',hl',h⟩:=h
  cases h
  rw[look_cons]at hv
  by_cases hu2:x=t
  ·subst hu2;rw[upd_same]at hv;cases hv;exact⟨v,hx,hu⟩
  ·rw[upd_ne _ _ hu2]at hv;exact getSlots_look hl' t u hv
theorem getMem_look {s:St}{ρ:Ren}:∀{js:Ren}{l:List (Nat×Blk)},getMem s ρ js=some l->(∀i,look l i=none↔look js i=none)∧∀i b,look l i=some b->∃o b0,look js i=some o∧look s.mem o=some b0∧renC ρ b0.cells=some b.cells∧b.elem=b0.elem∧b.own=b0.own
 | [],l,h=>by simp only[getMem,Option.some.injEq]at h;subst h;exact⟨fun i=>by simp[look],fun i b hb=>by simp[look]at hb⟩
 | (x,y)::r,l,h=>by
  simp only[getMem,oK_some]at h
  obtain ⟨b0,hx,c,hc,l',hl',h⟩:=h
  cases h
  obtain ⟨ih1,ih2⟩:=getMem_look hl'
  constructor
  ·intro i
   rw[look_cons,look_cons]
   by_cases hu:x=i
   ·subst hu;simp[upd_same]
   ·rw[upd_ne _ _ hu,upd_ne _ _ hu];exact ih1 i
  ·intro i b hb
   rw[look_cons]at hb ⊢
   by_cases hu:x=i
   ·subst hu
    rw[upd_same]at hb
    cases hb
    exact⟨y,b0,by rw[upd_same],hx,hc,rfl,rfl⟩
   ·rw[upd_ne _ _ hu]at hb ⊢
    exact ih2 i b hb
theorem MRel.ren (hk:renOk is=true){s:St}{me:List (Nat×Blk)}(hm:getMem s (swapR is) is=some me) (h:MRel w0 R (look s.mem) w):MRel w0 (renR is R) (look me) w:=by
 obtain ⟨g1,g2⟩:=getMem_look hm
 have hk2:=hk
 unfold renOk at hk2
 simp only[Bool.and_eq_true]at hk2
 have hn1:=hk2.1.2
 have hn2:=hk2.2
 have big:∀i,1000000000<=i->look is i=none:=fun i hi=>by
  cases hl:look is i with
  | none=>rfl
  | some o=>have:=(renOk_lt hk hl).1;omega
 have bigm:∀i blk,look me i=some blk->i<1000000000:=fun i blk hi=>by
  obtain ⟨o,b0,k1,_⟩:=g2 _ _ hi
  exact(renOk_lt hk k1).1
 have frz:∀b,Frz R b->Frz (renR is R) b:=fun b hb=>.inr ⟨Nat.le_add_right _ _,hb⟩
 have row:∀(e:TypeId) (ks:List CK) (m:Nat) (f:Nat->List Value) (v:Value),RowAt R w e ks m f v->RowAt (renR is R) w e ks m f v:=by
  intro e ks m f v hr
  rcases hr with hr|⟨b,d,c,cs,fz,h1,h2,h3,h4,h5⟩
  ·exact .inl hr
  ·exact .inr ⟨b,d,c,cs,fz,h1,h2,frz _ h3,h4,h5⟩
 refine⟨h.below,?_,?_,?_,?_,?_,?_,?_⟩
 ·rintro i p p' (⟨o,h1,h2⟩|⟨h1,h2⟩) (⟨o',h3,h4⟩|⟨h3,h4⟩)
  ·rw[h1]at h3;cases h3
   exact h.func _ _ _ h2 h4
  ·have:=(renOk_lt hk h1).1;omega
  ·have:=(renOk_lt hk h3).1;omega
  ·exact h.func _ _ _ h2 h4
 ·rintro i j p q b (⟨o,h1,h2⟩|⟨h1,h2⟩) (⟨o',h3,h4⟩|⟨h3,h4⟩) ha hb hne blk hblk hown blk' hblk'
  rotate_left
  ·have:=bigm _ _ hblk';omega
  ·have:=bigm _ _ hblk;omega
  ·have:=bigm _ _ hblk;omega
  obtain ⟨o1,b1,k1,k2,k3,k4,k5⟩:=g2 _ _ hblk
  obtain ⟨o2,b2,l1,l2,l3,l4,l5⟩:=g2 _ _ hblk'
  rw[h1]at k1;cases k1
  rw[h3]at l1;cases l1
  have:=h.inj o o' p q b h2 h4 ha hb (fun e=>hne (look_inj hn2 h1 (by rw[e];exact h3))) b1 k2 (by rw[<-k5];exact hown) b2 l2
  refine⟨by rw[l5];exact this.1,?_⟩
  have hl:=this.2
  unfold renC at l3
  split at l3
  ·rename_i l hc
   rw[hc]at hl
   have hl:l=[]:=hl
   rw[hl]at l3
   simp only[renL,oK]at l3
   rw[<-Option.some.inj l3];rfl
  ·rename_i hc
   rw[hc]at hl
   rw[<-Option.some.inj l3];exact hl
  ·obtain ⟨_,_,l3⟩:=oK_some.1 l3;rw[<-Option.some.inj l3];rfl
  ·obtain ⟨_,_,l3⟩:=oK_some.1 l3;rw[<-Option.some.inj l3];rfl
  ·rw[<-Option.some.inj l3];rfl
  ·rw[<-Option.some.inj l3];rfl
 ·intro i blk hi
  obtain ⟨o,b0,k1,k2,k3,k4,k5⟩:=g2 _ _ hi
  have hmo:=h.mem o b0 k2
  obtain ⟨cells,elem,own⟩:=blk
  obtain ⟨cells0,elem0,own0⟩:=b0
  simp only at k3 k4 k5
  subst k4 k5
  have cont:∀(c:Cells),ContOk w0 R w o ⟨cells0,elem,own⟩->(∀l,LP R cells0.list l->LP (renR is R) c.list l)->(cells0.list=[]->c.list=[])->(∀p size,roomOk o cells0 p size->roomOk i c p size)->ContOk w0 (renR is R) w i ⟨c,elem,own⟩:=by
   intro c hco hlp hnil hroom
   obtain ⟨p,m1,m2⟩:=hco
   refine⟨p,.inl ⟨o,k1,m1⟩,?_⟩
   cases hpa:p.a with
   | none=>rw[hpa]at m2;exact hnil m2
   | some b=>
    rw[hpa]at m2
    obtain ⟨cs,fz,n1,n2,n3⟩:=m2
    exact⟨cs,fz,n1,hlp _ n2,fun ho=>⟨(n3 ho).1,(n3 ho).2.1,hroom _ _ (n3 ho).2.2⟩⟩
  unfold renC at k3
  split at k3
  ·rename_i l
   obtain ⟨m,hm2,k3⟩:=oK_some.1 k3
   have k3:=(Option.some.inj k3).symm;subst k3
   refine cont (.lst m) hmo (fun l' hl'=>?_) (fun h0=>?_) (fun p size hr=>by show loose i=true->_;rw[(renOk_loose hk k1).1];exact hr)
   ·have hl':LR (V0 R) l (l'.take l.length):=hl'
    show LR (V0 (renR is R)) m (l'.take m.length)
    rw[renL_len hm2]
    exact LR_ren (r:=V0 R) (fun _ _ _ h1 h2=>V0_ren hk h1 h2) hl' hm2
   ·have h0:l=[]:=h0
    rw[h0]at hm2
    simp only[renL,Option.some.injEq]at hm2
    exact hm2.symm
  ·rename_i ks n f
   have k3:=(Option.some.inj k3).symm;subst k3
   refine cont (.row ks n f) hmo (fun l' hl'=>?_) (fun h0=>h0) (fun p size hr=>?_)
   ·have hl':LP R (rowL ks f 0 n) l':=hl'
    show LP (renR is R) (rowL ks f 0 n) l'
    have:=(LR_plain (r:=V0 R) (pl:=pl0) (fun v v' hv=>V0_plain hv) (rowL_pl ks f n 0)).1 hl'
    exact LP_plain (rowL_pl _ _ _ _) this
   ·show loose i=true->_
    rw[(renOk_loose hk k1).1];exact hr
  ·rename_i j k sz
   obtain ⟨j',hj,k3⟩:=oK_some.1 k3
   have k3:=(Option.some.inj k3).symm;subst k3
   obtain ⟨p,q,b,m1,m2,m3⟩:=hmo
   exact⟨p,q,b,.inl ⟨j,look_swap hn1 hj,m1⟩,.inl ⟨o,k1,m2⟩,m3⟩
  ·rename_i j l cnt sz
   obtain ⟨j',hj,k3⟩:=oK_some.1 k3
   have k3:=(Option.some.inj k3).symm;subst k3
   obtain ⟨p,q,m1,m2,m3⟩:=hmo
   exact⟨p,q,.inl ⟨j,look_swap hn1 hj,m1⟩,.inl ⟨o,k1,m2⟩,m3⟩
  ·rename_i ks m es g
   have k3:=(Option.some.inj k3).symm;subst k3
   obtain ⟨p,m1,m2⟩:FamOk w0 R w o elem own ks m es g:=hmo
   refine⟨p,.inl ⟨o,k1,m1⟩,?_⟩
   cases hpa:p.a with
   | none=>rw[hpa]at m2;exact m2
   | some b=>
    rw[hpa]at m2
    obtain ⟨cs,fz,n1,n2,n3,n4⟩:=m2
    refine⟨cs,fz,n1,fun j hj=>?_,fun hf=>frz _ (n3 hf),n4⟩
    obtain ⟨v,n5,n6⟩:=n2 j hj
    exact⟨v,n5,row _ _ _ _ _ n6⟩
  ·rename_i s pos
   have k3:=(Option.some.inj k3).symm;subst k3
   obtain ⟨b,m1,m2,m3⟩:ItrOk w0 R w o s pos own:=hmo
   exact⟨b,.inl ⟨o,k1,m1⟩,m2,m3⟩
 ·rintro i p (⟨o,h1,h2⟩|⟨h1,h2⟩) hvb
  ·cases hl:look me i with
   | none=>rw[(g1 i).1 hl]at h1;simp at h1
   | some _=>rfl
  ·omega
 ·rintro i p (⟨o,h1,h2⟩|⟨h1,h2⟩) hge hvb
  ·rcases (renOk_loose hk h1).2 with e|e
   ·subst e;exact h.anc _ _ h2 hge hvb
   ·omega
  ·omega
 ·rintro i p b (⟨o,h1,h2⟩|⟨h1,h2⟩) hb
  ·rcases h.there _ _ _ h2 hb with hc|⟨s2,pos,j1,j2,j3⟩
   ·exact .inl hc
   ·cases hl:look me i with
    | none=>rw[(g1 i).1 hl]at h1;simp at h1
    | some blk=>
     obtain ⟨o1,b1,k1,k2,k3,k4,k5⟩:=g2 _ _ hl
     rw[h1]at k1;cases k1
     rw[j2]at k2;cases k2
     obtain ⟨cells,elem,own⟩:=blk
     simp only[renC,Option.some.injEq]at k3 k4 k5
     subst k3 k4 k5
     exact .inr ⟨s2,pos,by rw[(renOk_loose hk h1).1];exact j1,hl,j3⟩
  ·refine .inl ((h.there _ _ _ h2 hb).loose ?_)
   unfold loose
   rw[show Nat.ble 1500000 i=true from by rw[Nat.ble_eq];omega]
   simp
 ·rintro i p (⟨o,h1,h2⟩|⟨h1,h2⟩) hge
  ·have:=(renOk_lt hk h1).1;omega
  ·obtain ⟨h3,h4⟩:=h.fro i p h2 hge
   refine⟨h3,?_⟩
   rintro j q (⟨o,h5,h6⟩|⟨h5,h6⟩) hq blk hblk
   ·obtain ⟨o1,b1,k1,k2,k3,k4,k5⟩:=g2 _ _ hblk
    rw[h5]at k1;cases k1
    rw[k5];exact h4 o q h6 hq b1 k2
   ·have:=bigm _ _ hblk;omega
theorem Rel.rest {ts:List Nat}{nx:Nat}{s s':St}(hr:restS ts is nx s=some s') (h:Rel w0 n R s.f a w):∃R',Rel w0 n R' s'.f a w:=by
 unfold restS at hr
 obtain ⟨hk,hr⟩:=cond_some.1 hr
 obtain ⟨sl,h1,hr⟩:=oK_some.1 hr
 obtain ⟨me,h2,h3⟩:=oK_some.1 hr
 cases h3
 refine⟨renR is R,h.defers,h.size,?_,MRel.ren hk h2 h.m⟩
 intro t u hu
 obtain ⟨v,h3,h4⟩:=getSlots_look h1 t u hu
 obtain ⟨v',h5,h6⟩:=h.slot t v h3
 exact⟨v',h5,V2_ren hk h6 h4⟩
end
section
variable {P:Program} [Laid P] {C:Cfg}{code body:Code}
def cutK (nt:List Nat) (ni:Ren) (nx:Nat) (et:List Nat) (ei:Ren) (ex:Nat) (e:Exit) (s:St):Option (Exit×St):=
 match e with
 | .normal=>oK (restS nt ni nx s) (fun s=>some (.normal,s)) none
 | e=>oK (restS et ei ex s) (fun s=>some (e,s)) none
def roundS (C:Cfg) (m:Nat) (p:List Nat) (body:Code) (nt:List Nat) (ni:Ren) (nx:Nat) (et:List Nat) (ei:Ren) (ex:Nat) (s:St):Option (Exit×St):=
 evK C m p body s (fun e s'=>cutK nt ni nx et ei ex e s') none
theorem round_sound (hC:CfgOk P C code){p:List Nat}(hp:codeAt p code=some body){m:Nat}{nt et:List Nat}{ni ei:Ren}{nx ex:Nat}{s s':St}{e:Exit}(h:roundS C m p body nt ni nx et ei ex s=some (e,s'))
  {w0:Wb (lay P)}{R:Nat->Pl->Prop}{a:Act}{w:World}(hrel:Rel w0 C.n R s.f a w):body.wp P (fun e' a' w'=>e'=e∧∃R',Rel w0 C.n R' s'.f a' w') a w:=by
 unfold roundS at h
 rw[evK_eq,oK_some]at h
 obtain ⟨⟨e1,s1⟩,h1,h2⟩:=h
 refine wp_mono (ev_sound hC hp h1 hrel) ?_
 rintro e' a' w' ⟨rfl,R',hr'⟩
 cases e'<;>simp only[cutK,oK_some]at h2 <;>
  (obtain ⟨s2,h3,h4⟩:=h2;cases h4;exact⟨rfl,Rel.rest h3 hr'⟩)
theorem loop_rounds (hC:CfgOk P C code){p:List Nat}(hp:codeAt p code=some (.loop body)){m:Nat}{nt et:List Nat}{ni ei:Ren}{nx ex:Nat}(st:Nat->St) (N:Nat){e:Exit}{sf:St}(he:e≠.normal)
  (step:∀k,k<N->roundS C m (p++[0]) body nt ni nx et ei ex (st k)=some (.normal,st (k+1)))
  (last:roundS C m (p++[0]) body nt ni nx et ei ex (st N)=some (e,sf))
  {w0:Wb (lay P)}{R:Nat->Pl->Prop}{a:Act}{w:World}(hrel:Rel w0 C.n R (st 0).f a w):(Code.loop body).wp P (fun e' a' w'=>e'=e∧∃R',Rel w0 C.n R' sf.f a' w') a w:=by
 have hx:codeAt (p++[0]) code=some body:=by rw[codeAt_app,hp];rfl
 have key:∀j,j<=N->∀(R:Nat->Pl->Prop) (a:Act) (w:World),Rel w0 C.n R (st (N-j)).f a w->Code.rounds P body (fun e' a' w'=>e'=e∧∃R',Rel w0 C.n R' sf.f a' w') (j+1) a w:=by
  intro j
  induction j with
  | zero=>
   intro _ R a w hr
   rw[rounds_succ]
   refine wp_mono (round_sound hC hx last hr) ?_
   rintro e' a' w' ⟨rfl,hr'⟩
   cases e' with
   | normal=>exact absurd rfl he
   | _=>exact⟨rfl,hr'⟩
  | succ j ih=>
   intro hj R a w hr
   rw[rounds_succ]
   refine wp_mono (round_sound hC hx (step (N-(j+1)) (by omega)) hr) ?_
   rintro e' a' w' ⟨rfl,R',hr'⟩
   refine ih (by omega) R' a' w' ?_
   rw[show N-j=N-(j+1)+1 from by omega]
   exact hr'
 exact wp_loop_rounds (N+1) (key N (Nat.le_refl N) R a w (by rw[Nat.sub_self];exact hrel))
end
end Go.W
