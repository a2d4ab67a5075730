/-
  Several texts in one: Wm Wn W5 W6 W7 Wo Wp Wq.
-/
import Derived.Test.YtckbmhegopjnmaaZa
import Derived.Laws.Small
import Derived.Laws.Append
import Derived.Laws.Concat
import Derived.Laws.BytesString
namespace Go.W
open Go.RowKit (Below)
section
variable {GL:Glob} {w0:Wb GL} {R:Nat->Pl->Prop} {fm:Nat->Option Blk} {w:World}
theorem memOk_row {i:Nat} {ks:List CK} {n:Nat} {f:Nat->List Value} {e:TypeId} {own:Bool} (h:MRel w0 R fm w) (hi:fm i=some ⟨.row ks n f,e,own⟩):ContOk w0 R w i ⟨.row ks n f,e,own⟩:=h.mem i _ hi
theorem memOk_lst {i:Nat} {l:List Value} {e:TypeId} {own:Bool} (h:MRel w0 R fm w) (hi:fm i=some ⟨.lst l,e,own⟩):ContOk w0 R w i ⟨.lst l,e,own⟩:=h.mem i _ hi
theorem seg_ok (h:MRel w0 R fm w) {b:Nat} {s:Seg} (hs:segS fm b=some s) {q:Pl} (hq:R b q) :
  ∃p,R s.base p∧fm s.base=some ⟨.row s.ks s.n s.f,s.elem,s.own⟩∧s.start+s.cnt<=s.n∧(s.cnt=0∨(q.a=p.a∧q.d=p.d+s.start*s.ks.length)):=by
 unfold segS segK at hs
 obtain ⟨blk,hb,hs⟩:=oK_some.1 hs
 obtain ⟨cells,elem,own⟩:=blk
 simp only at hs
 split at hs
 ·cases hs
  exact⟨q,hq,hb,by simp,.inr ⟨rfl,by simp⟩⟩
 ·rename_i i l cnt sz
  obtain ⟨base,h1,hs⟩:=oK_some.1 hs
  obtain ⟨c1,e1,o1⟩:=base
  have hm:=h.mem b _ hb
  obtain ⟨p,q',hp,hq',hcase,_⟩:∃p q,R i p∧R b q∧(cnt=0∨(q.a=p.a∧q.d=p.d+l*sz∧q.c+l<=p.c))∧own=false:=hm
  have:=h.func _ _ _ hq hq';subst this
  simp only at hs
  split at hs
  ·obtain ⟨h2,hs⟩:=cond_some.1 hs
   cases hs
   simp only[Bool.and_eq_true] at h2
   have e2:=nbeq.1 h2.1
   exact⟨p,hp,h1,Nat.le_of_ble_eq_true h2.2,by rw[<-e2] at hcase;exact hcase.imp id (fun z=>⟨z.1,z.2.1⟩)⟩
  ·rename_i i2 l2 cnt2 sz2
   obtain ⟨base2,h3,hs⟩:=oK_some.1 hs
   obtain ⟨c2,e2,o2⟩:=base2
   simp only at hs
   split at hs
   ·rename_i ks n g
    obtain ⟨h4,hs⟩:=cond_some.1 hs
    cases hs
    simp only[Bool.and_eq_true] at h4
    obtain ⟨⟨⟨k1,k2⟩,k3⟩,k4⟩:=h4
    have k1:=nbeq.1 k1
    have k2:=nbeq.1 k2
    have k3:=Nat.le_of_ble_eq_true k3
    have k4:=Nat.le_of_ble_eq_true k4
    obtain ⟨p2,q2,hp2,hq2,hcase2,_⟩:∃p q,R i2 p∧R i q∧(cnt2=0∨(q.a=p.a∧q.d=p.d+l2*sz2∧q.c+l2<=p.c))∧o1=false:=h.mem i _ h1
    have:=h.func _ _ _ hp hq2;subst this
    refine⟨p2,hp2,h3,by simp only;omega,?_⟩
    rcases hcase with h0 | ⟨a1,a2,_⟩
    ·exact .inl h0
    ·rcases hcase2 with h0 | ⟨a3,a4,_⟩
     ·exact .inl (by simp only;omega)
     ·exact .inr ⟨a1.trans a3,by simp only;rw[a2,a4,k2,<-k1,Nat.add_mul,Nat.add_assoc]⟩
   ·simp at hs
  ·simp at hs
 ·simp at hs
theorem row_cells (h:MRel w0 R fm w) {i:Nat} {ks:List CK} {n:Nat} {f:Nat->List Value} {e:TypeId} {own:Bool} (hi:fm i=some ⟨.row ks n f,e,own⟩) {p:Pl} (hp:R i p) {b:Nat} (hb:p.a=some b) :
  ∃cs fz,w.heap[b]?=some (.cells cs e fz)∧(cs.toList.drop p.d).take (n*ks.length)=rowL ks f 0 n∧n*ks.length<=(cs.toList.drop p.d).length∧(own=true->FzOk fz cs.size∧(w0.X b∨w0.w.heap.size<=b)∧(loose i=true->p.c≠0->p.d+p.c*ks.length<=cs.size)):=by
 obtain ⟨p',hp',hc⟩:=memOk_row h hi
 have:=h.func _ _ _ hp hp';subst this
 rw[hb] at hc
 obtain ⟨cs,fz,h1,h2,h3⟩:=hc
 have h2:LP R (rowL ks f 0 n) (cs.toList.drop p.d):=h2
 have hle:=LP_le h2
 rw[rowL_len] at hle
 refine⟨cs,fz,h1,?_,hle,h3⟩
 have:=(LR_plain (r:=V0 R) (pl:=pl0) (fun v v' hv=>V0_plain hv) (rowL_pl ks f n 0)).1 h2
 rw[rowL_len] at this;exact this
theorem LP_plain {cells l:List Value} (hp:cells.all pl0=true) (h:l.take cells.length=cells):LP R cells l:=by
 unfold LP
 exact(LR_plain (r:=V0 R) (pl:=pl0) (fun v v' hv=>V0_plain hv) hp).2 h
theorem seg_cells (h:MRel w0 R fm w) {b:Nat} {s:Seg} (hs:segS fm b=some s) {q:Pl} (hq:R b q) {bl:Nat} (hbl:q.a=some bl) (h0:s.cnt≠0) :
  ∃p cs fz,R s.base p∧p.a=some bl∧q.d=p.d+s.start*s.ks.length∧fm s.base=some ⟨.row s.ks s.n s.f,s.elem,s.own⟩∧s.start+s.cnt<=s.n∧w.heap[bl]?=some (.cells cs s.elem fz) ∧
   (cs.toList.drop q.d).take (s.cnt*s.ks.length)=rowL s.ks s.f s.start s.cnt∧s.cnt*s.ks.length<=(cs.toList.drop q.d).length∧(s.own=true->FzOk fz cs.size∧(w0.X bl∨w0.w.heap.size<=bl)):=by
 obtain ⟨p,hp,hbase,hle,hcase⟩:=seg_ok h hs hq
 obtain ⟨a1,a2⟩:=hcase.resolve_left h0
 have hpa:p.a=some bl:=by rw[<-a1];exact hbl
 obtain ⟨cs,fz,h1,h2,h3,h4⟩:=row_cells h hbase hp hpa
 refine⟨p,cs,fz,hp,hpa,a2,hbase,hle,h1,?_,?_,fun ho=>⟨(h4 ho).1,(h4 ho).2.1⟩⟩
 ·have e1:cs.toList.drop q.d=(cs.toList.drop p.d).drop (s.start*s.ks.length):=by rw[List.drop_drop,a2]
  have e2:((cs.toList.drop p.d).take (s.n*s.ks.length)).drop (s.start*s.ks.length)=rowL s.ks s.f s.start (s.n - s.start):=by
   rw[h2,rowL_drop s.ks s.f s.start s.n 0 (by omega),Nat.zero_add]
  have e3:=congrArg (List.take (s.cnt*s.ks.length)) e2
  rw[rowL_take s.ks s.f s.cnt (s.n - s.start) s.start (by omega),List.drop_take,List.take_take,Nat.min_eq_left (by rw[<-Nat.sub_mul];exact Nat.mul_le_mul_right _ (by omega))] at e3
  rw[e1];exact e3
 ·rw[List.length_drop,a2]
  rw[List.length_drop] at h3
  have:(s.start+s.cnt)*s.ks.length<=s.n*s.ks.length:=Nat.mul_le_mul_right _ hle
  rw[Nat.add_mul] at this
  omega
theorem acc_ok (h:MRel w0 R fm w) {b:Nat} {A:Acc} (hA:accS fm b=some A) {q:Pl} (hq:R b q) {bl:Nat} (hbl:q.a=some bl) :
  A.cells=[]∨∃cs e fz,w.heap[bl]?=some (.cells cs e fz)∧LP R A.cells (cs.toList.drop q.d)∧(A.own=true->FzOk fz cs.size∧(w0.X bl∨w0.w.heap.size<=bl)):=by
 unfold accS accK at hA
 obtain ⟨blk,hb,hA⟩:=oK_some.1 hA
 obtain ⟨cells,elem,own⟩:=blk
 simp only at hA
 split at hA
 ·cases hA
  obtain ⟨p,hp,hc⟩:=memOk_lst h hb
  have:=h.func _ _ _ hq hp;subst this
  rw[hbl] at hc
  obtain ⟨cs,fz,h1,h2,h3⟩:=hc
  exact .inr ⟨cs,elem,fz,h1,h2,fun ho=>⟨(h3 ho).1,(h3 ho).2.1⟩⟩
 ·rename_i i j sz
  obtain ⟨s,hs,hA⟩:=segK_some.1 hA
  obtain ⟨hc,hA⟩:=cond_some.1 hA
  simp only[Bool.and_eq_true,Nat.blt_eq] at hc
  have hsz:=nbeq.1 hc.2
  cases hA
  obtain ⟨p,q',bl',hp,hq',hpa,hqa,hd,_⟩:∃p q b',R i p∧R b q∧p.a=some b'∧q.a=some b'∧q.d=p.d+j*sz∧own=false:=h.mem b _ hb
  have:=h.func _ _ _ hq hq';subst this
  rw[hbl] at hqa;cases hqa
  obtain ⟨p0,cs,fz,_,_,k1,_,k2,k3,k4,k5,k6⟩:=seg_cells h hs hp hpa (by omega)
  refine .inr ⟨cs,s.elem,fz,k3,LP_plain (nrmK_pl _ _) ?_,k6⟩
  rw[nrmK_len]
  have e1:cs.toList.drop q.d=(cs.toList.drop p.d).drop (j*s.ks.length):=by rw[List.drop_drop,hd,hsz]
  have e2:=congrArg (fun l=>(List.drop (j*s.ks.length) l).take s.ks.length) k4
  rw[List.drop_take,List.take_take,Nat.min_eq_left (by
   rw[<-Nat.sub_mul]
   exact Nat.le_mul_of_pos_left _ (by omega)),rowL_drop s.ks s.f j s.cnt s.start (by omega),show s.cnt - j=(s.cnt - j - 1)+1 from by omega,rowL,List.take_left' (nrmK_len _ _)] at e2
  rw[e1];exact e2
 ·obtain ⟨s,hs,hA⟩:=segK_some.1 hA
  cases hA
  by_cases h0:s.cnt=0
  ·exact .inl (by simp only;rw[h0];rfl)
  ·obtain ⟨p0,cs,fz,_,_,k1,_,k2,k3,k4,k5,k6⟩:=seg_cells h hs hq hbl h0
   refine .inr ⟨cs,s.elem,fz,k3,LP_plain (rowL_pl _ _ _ _) ?_,fun ho=>by simp at ho⟩
   rw[rowL_len];exact k4
theorem MRel.alloc (h:MRel w0 R fm w) {id:Nat} (hid:fm id=none) (hsm:id<1000000) {c:Cells} {cs:Array Value} {e:TypeId} {cap:Nat} {own:Bool} (hv:∀i k sz,c≠.elt i k sz) (hv2:∀i l k sz,c≠.tail i l k sz) (hv3:∀ks n es g,c≠.fam ks n es g) (hl:LP R c.list cs.toList) (hroom:roomOk id c ⟨some w.heap.size,0,cap⟩ cs.size) (hv4:∀s pos,c≠.itr s pos:=by intro _ _ h;cases h) :
  MRel w0 (fun i p=>R i p∨(i=id∧p=⟨some w.heap.size,0,cap⟩)) (upd fm id ⟨c,e,own⟩) (w.alloc (.cells cs e)):=by
 have hR:∀p,¬R id p:=fun p hp=>by have:=h.dom id p hp (by omega);rw[hid] at this;simp at this
 have hsz:=h.below.size
 refine⟨h.below.trans ⟨rfl,rfl,rfl,by simp,fun k hk=>Below.heap_alloc _ _ _ hk⟩,?_,?_,?_,?_,?_,?_,?_⟩
 ·rintro i p p' (h1 | ⟨rfl,rfl⟩) (h2 | ⟨h3,rfl⟩)
  ·exact h.func _ _ _ h1 h2
  ·subst h3;exact absurd h1 (hR _)
  ·exact absurd h2 (hR _)
  ·rfl
 ·rintro i j p q b (h1 | ⟨rfl,rfl⟩) (h2 | ⟨rfl,rfl⟩) ha hb hne blk hblk hown blk' hblk'
  ·by_cases e1:id=i
   ·subst e1;exact absurd h1 (hR _)
   ·by_cases e2:id=j
    ·subst e2;exact absurd h2 (hR _)
    ·simp only[upd_ne _ _ e1] at hblk
     simp only[upd_ne _ _ e2] at hblk'
     exact h.inj _ _ _ _ _ h1 h2 ha hb hne blk hblk hown blk' hblk'
  ·have:=h.lt h1 ha;simp only[Option.some.injEq] at hb;omega
  ·have:=h.lt h2 hb;simp only[Option.some.injEq] at ha;omega
  ·exact absurd rfl hne
 ·intro i blk hi
  by_cases e1:id=i
  ·subst e1
   simp only[upd_same,Option.some.injEq] at hi
   subst hi
   have hc:ContOk w0 (fun i p=>R i p∨(i=id∧p=⟨some w.heap.size,0,cap⟩)) (w.alloc (.cells cs e)) id ⟨c,e,own⟩:=by
    refine⟨⟨some w.heap.size,0,cap⟩,.inr ⟨rfl,rfl⟩,cs,(0,0),?_,?_,fun _=>⟨.zero,.inr hsz,hroom⟩⟩
    ·show(w.heap.push _)[w.heap.size]?=_
     simp
    ·exact LP_mono (fun _ _=>.inl) (by simpa using hl)
   unfold MemOk
   split
   ·rename_i i k sz hc2;exact absurd hc2 (hv i k sz)
   ·rename_i i l k sz hc2;exact absurd hc2 (hv2 i l k sz)
   ·rename_i hc2;exact absurd hc2 (hv3 _ _ _ _)
   ·rename_i hc2;exact absurd hc2 (hv4 _ _)
   ·exact hc
  ·simp only[upd_ne _ _ e1] at hi
   have hm:=h.mem i blk hi
   unfold MemOk at hm ⊢
   split at hm
   ·obtain ⟨p,q,b,k1,k2,k3⟩:=hm;exact⟨p,q,b,.inl k1,.inl k2,k3⟩
   ·obtain ⟨p,q,k1,k2,k3⟩:=hm;exact⟨p,q,.inl k1,.inl k2,k3⟩
   ·exact hm.mono (fun _ _=>.inl) (fun b hb=>Below.heap_alloc _ _ _ (h.frz_lt hb)) (fun _ p b hp hb=>Below.heap_alloc _ _ _ (h.lt hp hb))
   ·exact hm.mono (fun _ _=>.inl) (fun b hp=>Below.heap_alloc _ _ _ (h.lt hp rfl))
   ·obtain ⟨p,k1,k2⟩:=hm
    refine⟨p,.inl k1,?_⟩
    cases hpa:p.a with
    | none=>rw[hpa] at k2;exact k2
    | some b =>
     rw[hpa] at k2
     obtain ⟨cs',fz,k3,k4,k5⟩:=k2
     refine⟨cs',fz,?_,LP_mono (fun _ _=>.inl) k4,k5⟩
     rw[Below.heap_alloc _ _ _ (h.lt k1 hpa)];exact k3
 ·rintro i p (h1 | ⟨rfl,rfl⟩) hvb
  ·by_cases e1:id=i
   ·subst e1;simp[upd_same]
   ·simp only[upd_ne _ _ e1];exact h.dom _ _ h1 hvb
  ·simp[upd_same]
 ·rintro i p (h1 | ⟨rfl,rfl⟩) hge hvb
  ·exact h.anc _ _ h1 hge hvb
  ·omega
 ·rintro i p b (h1 | ⟨rfl,rfl⟩) hb
  ·refine(h.there _ _ _ h1 hb).mono (fun s pos hs=>?_) (Below.heap_alloc _ _ _ (h.lt h1 hb))
   by_cases e1:id=i
   ·subst e1;exact absurd h1 (hR _)
   ·rw[upd_ne _ _ e1]
  ·simp only[Option.some.injEq] at hb
   subst hb
   refine .inl ⟨cs,e,(0,0),?_⟩
   show(w.heap.push _)[w.heap.size]?=_
   simp
 ·rintro i p (h1 | ⟨rfl,rfl⟩) hge
  ·obtain ⟨h2,h3⟩:=h.fro i p h1 hge
   refine⟨h2,?_⟩
   rintro j q (h4 | ⟨rfl,rfl⟩) hq blk hblk
   ·by_cases e1:id=j
    ·subst e1;exact absurd h4 (hR _)
    ·rw[upd_ne _ _ e1] at hblk;exact h3 j q h4 hq blk hblk
   ·rw[h2] at hq
    have:=h.lt h1 (b:=i - 1000000000) (by rw[h2])
    simp only[Option.some.injEq] at hq;omega
  ·omega
theorem MRel.world (h:MRel w0 R fm w) {w':World} (hb:Below w.heap.size w w'):MRel w0 R fm w':=by
 refine⟨h.below.trans hb,h.func,h.inj,?_,h.dom,h.anc,fun i p b h1 h2=>(h.there i p b h1 h2).mono (fun _ _ _=>rfl) (hb.block b (h.lt h1 h2)),h.fro⟩
 intro i blk hi
 have hm:=h.mem i blk hi
 unfold MemOk at hm ⊢
 split at hm
 ·exact hm
 ·exact hm
 ·exact hm.mono (fun _ _ h=>h) (fun b hb2=>hb.block b (h.frz_lt hb2)) (fun _ p b hp hpa=>hb.block b (h.lt hp hpa))
 ·exact hm.mono (fun _ _ h=>h) (fun b hp=>hb.block b (h.lt hp rfl))
 ·obtain ⟨p,k1,k2⟩:=hm
  refine⟨p,k1,?_⟩
  cases hpa:p.a with
  | none=>rw[hpa] at k2;exact k2
  | some b =>
   rw[hpa] at k2
   obtain ⟨cs',fz,k3,k4,k5⟩:=k2
   exact⟨cs',fz,by rw[hb.block b (h.lt k1 hpa)];exact k3,k4,k5⟩
theorem MRel.ownX (h:MRel w0 R fm w) {i:Nat} {p:Pl} {b:Nat} {blk:Blk} (hp:R i p) (hpa:p.a=some b) (hi:fm i=some blk) (ho:blk.own=true):w0.X b∨w0.w.heap.size<=b:=by
 have hm:=h.mem i blk hi
 unfold MemOk at hm
 split at hm
 ·obtain ⟨_,_,_,_,_,_,_,_,hf⟩:=hm;rw[hf] at ho;simp at ho
 ·obtain ⟨_,_,_,_,_,hf⟩:=hm;rw[hf] at ho;simp at ho
 ·obtain ⟨p',k1,k2⟩:=hm
  have:=h.func _ _ _ hp k1;subst this
  rw[hpa] at k2
  obtain ⟨cs',fz,k3,k4,k5,k6⟩:=k2
  exact(k6 ho).2.1
 ·obtain ⟨b2,k1,k2,k3,_⟩:=hm
  have:=h.func _ _ _ hp k1;subst this
  simp only[Option.some.injEq] at hpa
  subst hpa
  exact .inr k3
 ·obtain ⟨p',k1,k2⟩:=hm
  have:=h.func _ _ _ hp k1;subst this
  rw[hpa] at k2
  obtain ⟨cs',fz,k3,k4,k5⟩:=k2
  exact(k5 ho).2.1
theorem MRel.view (h:MRel w0 R fm w) {id:Nat} (hid:fm id=none) (hsm:id<1000000) {blk:Blk} {q:Pl} (hw:weak blk∨q.a=none∨(blk.own=false∧∀b,q.a=some b->(¬w0.X b∧b<w0.w.heap.size)∨Frz R b)) (hth:∀b,q.a=some b->∃cs e fz,w.heap[b]?=some (.cells cs e fz))
  (hm:∀R':Nat->Pl->Prop,(∀i p,R i p->R' i p)->R' id q->MemOk w0 R' w id blk) :
  MRel w0 (fun i p=>R i p∨(i=id∧p=q)) (upd fm id blk) w:=by
 have hR:∀p,¬R id p:=fun p hp=>by have:=h.dom id p hp (by omega);rw[hid] at this;simp at this
 refine⟨h.below,?_,?_,?_,?_,?_,?_,?_⟩
 ·rintro i p p' (h1 | ⟨rfl,rfl⟩) (h2 | ⟨h3,rfl⟩)
  ·exact h.func _ _ _ h1 h2
  ·subst h3;exact absurd h1 (hR _)
  ·exact absurd h2 (hR _)
  ·rfl
 ·rintro i j p p2 b (h1 | ⟨rfl,rfl⟩) (h2 | ⟨rfl,rfl⟩) ha hb hne blk1 hblk hown blk' hblk'
  ·by_cases e1:id=i
   ·subst e1;exact absurd h1 (hR _)
   ·by_cases e2:id=j
    ·subst e2;exact absurd h2 (hR _)
    ·simp only[upd_ne _ _ e1] at hblk
     simp only[upd_ne _ _ e2] at hblk'
     exact h.inj _ _ _ _ _ h1 h2 ha hb hne blk1 hblk hown blk' hblk'
  ·simp only[upd_same,Option.some.injEq] at hblk'
   subst hblk'
   rcases hw with hw | hw | hw
   ·exact hw
   ·rw[hw] at hb;simp at hb
   ·have hk:=hw.2 b hb
    rw[upd_ne _ _ (Ne.symm hne)] at hblk
    rcases hk with hk | hk
    ·rcases h.ownX h1 ha hblk hown with h9 | h9
     ·exact absurd h9 hk.1
     ·omega
    ·rw[h.frz_own hk h1 ha hblk] at hown;simp at hown
  ·simp only[upd_same,Option.some.injEq] at hblk
   subst hblk
   rcases hw with hw | hw | hw
   ·rw[hw.1] at hown;simp at hown
   ·rw[hw] at ha;simp at ha
   ·rw[hw.1] at hown;simp at hown
  ·exact absurd rfl hne
 ·intro i blk1 hi
  by_cases e1:id=i
  ·subst e1
   simp only[upd_same,Option.some.injEq] at hi
   subst hi
   exact hm _ (fun _ _=>.inl) (.inr ⟨rfl,rfl⟩)
  ·simp only[upd_ne _ _ e1] at hi
   have hm:=h.mem i blk1 hi
   unfold MemOk at hm ⊢
   split at hm
   ·obtain ⟨p,q,b,k1,k2,k3⟩:=hm;exact⟨p,q,b,.inl k1,.inl k2,k3⟩
   ·obtain ⟨p,q,k1,k2,k3⟩:=hm;exact⟨p,q,.inl k1,.inl k2,k3⟩
   ·exact hm.mono (fun _ _=>.inl) (fun _ _=>rfl) (fun _ _ _ _ _=>rfl)
   ·exact hm.mono (fun _ _=>.inl) (fun _ _=>rfl)
   ·obtain ⟨p,k1,k2⟩:=hm
    refine⟨p,.inl k1,?_⟩
    cases hpa:p.a with
    | none=>rw[hpa] at k2;exact k2
    | some b =>
     rw[hpa] at k2
     obtain ⟨cs',fz,k3,k4,k5⟩:=k2
     exact⟨cs',fz,k3,LP_mono (fun _ _=>.inl) k4,k5⟩
 ·rintro i p (h1 | ⟨rfl,rfl⟩) hvb
  ·by_cases e1:id=i
   ·subst e1;simp[upd_same]
   ·simp only[upd_ne _ _ e1];exact h.dom _ _ h1 hvb
  ·simp[upd_same]
 ·rintro i p (h1 | ⟨rfl,rfl⟩) hge hvb
  ·exact h.anc _ _ h1 hge hvb
  ·omega
 ·rintro i p b (h1 | ⟨rfl,rfl⟩) hb
  ·refine(h.there _ _ _ h1 hb).mono (fun s pos hs=>?_) rfl
   by_cases e1:id=i
   ·subst e1;exact absurd h1 (hR _)
   ·rw[upd_ne _ _ e1]
  ·exact .inl (hth b hb)
 ·rintro i p (h1 | ⟨rfl,rfl⟩) hge
  ·obtain ⟨h2,h3⟩:=h.fro i p h1 hge
   refine⟨h2,?_⟩
   rintro j q2 (h4 | ⟨rfl,rfl⟩) hq blk2 hblk
   ·by_cases e1:id=j
    ·subst e1;exact absurd h4 (hR _)
    ·rw[upd_ne _ _ e1] at hblk;exact h3 j q2 h4 hq blk2 hblk
   ·rw[upd_same] at hblk
    cases hblk
    rcases hw with hw | hw | hw
    ·exact hw.1
    ·rw[hw,h2] at hq;simp at hq
    ·exact hw.1
  ·omega
def setBlk (w:World) (b:Nat) (o:Obj):World:={ w with heap:=w.heap.setIfInBounds b o }
theorem setBlk_twice (w:World) (b:Nat) (o o':Obj):setBlk (setBlk w b o) b o'=setBlk w b o':=by
 simp[setBlk,Array.setIfInBounds_setIfInBounds]
theorem setBlk_same {w:World} {b:Nat} {o:Obj} (h:b<w.heap.size):(setBlk w b o).heap[b]?=some o:=by simp[setBlk,h]
theorem MRel.write (h:MRel w0 R fm w) {i b:Nat} {blk:Blk} {p:Pl} (hi:fm i=some blk) (hp:R i p) (hpa:p.a=some b) (hown:blk.own=true) {cs0:Array Value} {fz fz':Nat×Nat} (hw:w.heap[b]?=some (.cells cs0 blk.elem fz)) (hge:w0.X b∨w0.w.heap.size<=b)
  {c:Cells} {cs:Array Value} (hv:∀i k sz,c≠.elt i k sz) (hv2:∀i l k sz,c≠.tail i l k sz) (hv3:∀ks n es g,c≠.fam ks n es g) (hl:LP R c.list (cs.toList.drop p.d)) (hroom:roomOk i c p cs.size) (hfz:FzOk fz' cs.size) (hv4:∀s pos,c≠.itr s pos:=by intro _ _ h;cases h) :
  MRel w0 R (upd fm i ⟨c,blk.elem,true⟩) (setBlk w b (.cells cs blk.elem fz')):=by
 have hlt:=heap_lt hw
 refine⟨⟨h.below.os,h.below.tape,h.below.output,by simpa [setBlk] using h.below.size,fun k hk hx=>?_,h.below.glob⟩,h.func,?_,?_,?_,h.anc,fun i1 p1 b1 h1 h2=>by
  by_cases hne:b=b1
  ·subst hne;exact .inl ⟨cs,blk.elem,fz',setBlk_same hlt⟩
  ·refine(h.there i1 p1 b1 h1 h2).mono (fun _ _ _=>?_) (by simp only[setBlk];rw[Array.getElem?_setIfInBounds_ne hne])
   have e1:i≠i1:=by
    rintro rfl
    have:=h.func _ _ _ hp h1;subst this
    rw[hpa] at h2;exact hne (Option.some.inj h2)
   rw[upd_ne _ _ e1],fun i1 p1 h1 hge1=>by
  obtain ⟨h2,h3⟩:=h.fro i1 p1 h1 hge1
  refine⟨h2,fun j q hj hq blk1 hblk1=>?_⟩
  by_cases e1:i=j
  ·subst e1
   have:=h3 i q hj hq blk hi
   rw[this] at hown;simp at hown
  ·rw[upd_ne _ _ e1] at hblk1;exact h3 j q hj hq blk1 hblk1⟩
 ·have hkb:b≠k:=by
   rintro rfl
   rcases hge with h5 | h5
   ·exact hx h5
   ·omega
  simp only[setBlk];rw[Array.getElem?_setIfInBounds_ne hkb];exact h.below.block k hk hx
 ·intro i0 j0 p0 q0 b0 h5 h6 ha hb hne blk0 hblk0 hown0 blk1 hblk1
  by_cases e1:i=i0
  ·subst e1
   simp only[upd_ne _ _ hne] at hblk1
   have:=h.func _ _ _ hp h5;subst this
   exact h.inj _ _ _ _ _ h5 h6 ha hb hne blk hi hown blk1 hblk1
  ·simp only[upd_ne _ _ e1] at hblk0
   by_cases e2:i=j0
   ·subst e2
    have:=h.inj _ _ _ _ _ h5 h6 ha hb hne blk0 hblk0 hown0 blk hi
    rw[this.1] at hown;simp at hown
   ·simp only[upd_ne _ _ e2] at hblk1
    exact h.inj _ _ _ _ _ h5 h6 ha hb hne blk0 hblk0 hown0 blk1 hblk1
 ·intro j blk' hj
  by_cases e1:i=j
  ·subst e1
   simp only[upd_same,Option.some.injEq] at hj
   subst hj
   have hc:ContOk w0 R (setBlk w b (.cells cs blk.elem fz')) i ⟨c,blk.elem,true⟩:=by
    refine⟨p,hp,?_⟩
    rw[hpa]
    exact⟨cs,fz',setBlk_same hlt,hl,fun _=>⟨hfz,hge,hroom⟩⟩
   unfold MemOk
   split
   ·rename_i i k sz hc2;exact absurd hc2 (hv i k sz)
   ·rename_i i l k sz hc2;exact absurd hc2 (hv2 i l k sz)
   ·rename_i hc2;exact absurd hc2 (hv3 _ _ _ _)
   ·rename_i hc2;exact absurd hc2 (hv4 _ _)
   ·exact hc
  ·simp only[upd_ne _ _ e1] at hj
   have hm:=h.mem j blk' hj
   unfold MemOk at hm ⊢
   split at hm
   ·exact hm
   ·exact hm
   ·refine hm.mono (fun _ _ h=>h) (fun b2 hb2=>?_) (fun ho p2 b2 hp2 hpa2=>?_)
    ·have hne:b≠b2:=by
      rintro rfl
      rw[h.frz_own hb2 hp hpa hi] at hown;simp at hown
     simp only[setBlk];rw[Array.getElem?_setIfInBounds_ne hne]
    ·have hne:b≠b2:=by
      rintro rfl
      have:=(h.inj _ _ _ _ _ hp hp2 hpa hpa2 e1 blk hi hown blk' hj).1
      rw[ho] at this;simp at this
     simp only[setBlk];rw[Array.getElem?_setIfInBounds_ne hne]
   ·obtain ⟨b2,k1,k2,k3⟩:=hm
    have hne:b≠b2:=by rintro rfl;rw[hw] at k2;simp at k2
    exact⟨b2,k1,by simp only[setBlk];rw[Array.getElem?_setIfInBounds_ne hne];exact k2,k3⟩
   ·obtain ⟨q,k1,k2⟩:=hm
    refine⟨q,k1,?_⟩
    cases hqa:q.a with
    | none=>rw[hqa] at k2;exact k2
    | some b' =>
     rw[hqa] at k2
     obtain ⟨cs',fz2,k3,k4,k5⟩:=k2
     by_cases hne:b=b'
     ·subst hne
      have hwk:=h.inj _ _ _ _ _ hp k1 hpa hqa e1 blk hi hown blk' hj
      rw[hw] at k3
      simp only[Option.some.injEq,Obj.cells.injEq] at k3
      refine⟨cs,fz',by rw[<-k3.2.1];exact setBlk_same hlt,by rw[hwk.2];exact LP_nil,fun ho=>by rw[hwk.1] at ho;simp at ho⟩
     ·exact⟨cs',fz2,by simp only[setBlk];rw[Array.getElem?_setIfInBounds_ne hne];exact k3,k4,k5⟩
 ·intro j q hj hvb
  by_cases e1:i=j
  ·subst e1;simp[upd_same]
  ·simp only[upd_ne _ _ e1];exact h.dom _ _ hj hvb
theorem MRel.mark (h:MRel w0 R fm w) {i b:Nat} {blk:Blk} {p:Pl} (hi:fm i=some blk) (hp:R i p) (hpa:p.a=some b) (hown:blk.own=true) {cs:Array Value} {fz fz':Nat×Nat} (hw:w.heap[b]?=some (.cells cs blk.elem fz)) (hge:w0.X b∨w0.w.heap.size<=b)
  (hv:∀i k sz,blk.cells≠.elt i k sz) (hv2:∀i l k sz,blk.cells≠.tail i l k sz) (hv3:∀ks n es g,blk.cells≠.fam ks n es g):MRel w0 R (upd fm i ⟨blk.cells,blk.elem,false⟩) (setBlk w b (.cells cs blk.elem fz')):=by
 have hlt:=heap_lt hw
 refine⟨⟨h.below.os,h.below.tape,h.below.output,by simpa [setBlk] using h.below.size,fun k hk hx=>?_,h.below.glob⟩,h.func,?_,?_,?_,h.anc,fun i1 p1 b1 h1 h2=>by
  by_cases hne:b=b1
  ·subst hne;exact .inl ⟨cs,blk.elem,fz',setBlk_same hlt⟩
  ·refine(h.there i1 p1 b1 h1 h2).mono (fun _ _ _=>?_) (by simp only[setBlk];rw[Array.getElem?_setIfInBounds_ne hne])
   have e1:i≠i1:=by
    rintro rfl
    have:=h.func _ _ _ hp h1;subst this
    rw[hpa] at h2;exact hne (Option.some.inj h2)
   rw[upd_ne _ _ e1],fun i1 p1 h1 hge1=>by
  obtain ⟨h2,h3⟩:=h.fro i1 p1 h1 hge1
  refine⟨h2,fun j q hj hq blk1 hblk1=>?_⟩
  by_cases e1:i=j
  ·subst e1
   have:=h3 i q hj hq blk hi
   rw[this] at hown;simp at hown
  ·rw[upd_ne _ _ e1] at hblk1;exact h3 j q hj hq blk1 hblk1⟩
 ·have hkb:b≠k:=by
   rintro rfl
   rcases hge with h5 | h5
   ·exact hx h5
   ·omega
  simp only[setBlk];rw[Array.getElem?_setIfInBounds_ne hkb];exact h.below.block k hk hx
 ·intro i0 j0 p0 q0 b0 h5 h6 ha hb hne blk0 hblk0 hown0 blk1 hblk1
  by_cases e1:i=i0
  ·subst e1
   rw[upd_same] at hblk0
   rw[<-Option.some.inj hblk0] at hown0;simp at hown0
  ·rw[upd_ne _ _ e1] at hblk0
   by_cases e2:i=j0
   ·subst e2
    have:=h.inj _ _ _ _ _ h5 h6 ha hb hne blk0 hblk0 hown0 blk hi
    rw[this.1] at hown;simp at hown
   ·rw[upd_ne _ _ e2] at hblk1
    exact h.inj _ _ _ _ _ h5 h6 ha hb hne blk0 hblk0 hown0 blk1 hblk1
 ·intro j blk' hj
  by_cases e1:i=j
  ·subst e1
   rw[upd_same] at hj
   have hj:=(Option.some.inj hj).symm
   subst hj
   have hm:=h.mem i blk hi
   unfold MemOk at hm ⊢
   split at hm
   ·rename_i hc;exact absurd hc (hv _ _ _)
   ·rename_i hc;exact absurd hc (hv2 _ _ _ _)
   ·rename_i hc;exact absurd hc (hv3 _ _ _ _)
   ·obtain ⟨b2,k1,k2,k3⟩:=hm
    have:=h.func _ _ _ hp k1;subst this
    simp only[Option.some.injEq] at hpa
    subst hpa
    rw[hw] at k2;simp at k2
   ·obtain ⟨q,k1,k2⟩:=hm
    have:=h.func _ _ _ hp k1;subst this
    refine⟨p,hp,?_⟩
    rw[hpa] at k2 ⊢
    obtain ⟨cs',fz2,k3,k4,k5⟩:=k2
    rw[hw] at k3
    simp only[Option.some.injEq,Obj.cells.injEq] at k3
    obtain ⟨rfl,_,_⟩:=k3
    exact⟨cs,fz',setBlk_same hlt,k4,fun ho=>by simp at ho⟩
  ·rw[upd_ne _ _ e1] at hj
   have hm:=h.mem j blk' hj
   unfold MemOk at hm ⊢
   split at hm
   ·exact hm
   ·exact hm
   ·refine hm.mono (fun _ _ h=>h) (fun b2 hb2=>?_) (fun ho p2 b2 hp2 hpa2=>?_)
    ·have hne:b≠b2:=by
      rintro rfl
      rw[h.frz_own hb2 hp hpa hi] at hown;simp at hown
     simp only[setBlk];rw[Array.getElem?_setIfInBounds_ne hne]
    ·have hne:b≠b2:=by
      rintro rfl
      have:=(h.inj _ _ _ _ _ hp hp2 hpa hpa2 e1 blk hi hown blk' hj).1
      rw[ho] at this;simp at this
     simp only[setBlk];rw[Array.getElem?_setIfInBounds_ne hne]
   ·obtain ⟨b2,k1,k2,k3⟩:=hm
    have hne:b≠b2:=by rintro rfl;rw[hw] at k2;simp at k2
    exact⟨b2,k1,by simp only[setBlk];rw[Array.getElem?_setIfInBounds_ne hne];exact k2,k3⟩
   ·obtain ⟨q,k1,k2⟩:=hm
    refine⟨q,k1,?_⟩
    cases hqa:q.a with
    | none=>rw[hqa] at k2;exact k2
    | some b' =>
     rw[hqa] at k2
     obtain ⟨cs',fz2,k3,k4,k5⟩:=k2
     by_cases hne:b=b'
     ·subst hne
      have hwk:=h.inj _ _ _ _ _ hp k1 hpa hqa e1 blk hi hown blk' hj
      rw[hw] at k3
      simp only[Option.some.injEq,Obj.cells.injEq] at k3
      exact⟨cs,fz',by rw[<-k3.2.1];exact setBlk_same hlt,by rw[hwk.2];exact LP_nil,fun ho=>by rw[hwk.1] at ho;simp at ho⟩
     ·exact⟨cs',fz2,by simp only[setBlk];rw[Array.getElem?_setIfInBounds_ne hne];exact k3,k4,k5⟩
 ·intro j q hj hvb
  by_cases e1:i=j
  ·subst e1;simp[upd_same]
  ·rw[upd_ne _ _ e1];exact h.dom _ _ hj hvb
theorem MRel.forget (h:MRel w0 R fm w) {i:Nat} {blk:Blk} (hi:fm i=some blk) (hv:∀j k sz,blk.cells≠.elt j k sz) (hv2:∀j l k sz,blk.cells≠.tail j l k sz) (hv4:∀s pos,blk.cells≠.itr s pos:=by intro _ _ h;cases h):MRel w0 R (upd fm i ⟨.lst [],blk.elem,false⟩) w:=by
 refine⟨h.below,h.func,?_,?_,?_,h.anc,fun i1 p1 b1 h1 h2=>(h.there i1 p1 b1 h1 h2).mono (fun s pos hs=>by
  have e1:i≠i1:=by
   rintro rfl
   rw[hi] at hs
   have:=Option.some.inj hs
   exact hv4 s pos (by rw[this])
  rw[upd_ne _ _ e1]) rfl,fun i1 p1 h1 hge1=>by
  obtain ⟨h2,h3⟩:=h.fro i1 p1 h1 hge1
  refine⟨h2,fun j q hj hq blk1 hblk1=>?_⟩
  by_cases e1:i=j
  ·subst e1;rw[upd_same] at hblk1;cases hblk1;rfl
  ·rw[upd_ne _ _ e1] at hblk1;exact h3 j q hj hq blk1 hblk1⟩
 ·intro i0 j0 p0 q0 b0 h5 h6 ha hb hne blk0 hblk0 hown0 blk1 hblk1
  by_cases e1:i=i0
  ·subst e1
   simp only[upd_same,Option.some.injEq] at hblk0
   rw[<-hblk0] at hown0;simp at hown0
  ·simp only[upd_ne _ _ e1] at hblk0
   by_cases e2:i=j0
   ·subst e2
    simp only[upd_same,Option.some.injEq] at hblk1
    rw[<-hblk1];exact⟨rfl,rfl⟩
   ·simp only[upd_ne _ _ e2] at hblk1
    exact h.inj _ _ _ _ _ h5 h6 ha hb hne blk0 hblk0 hown0 blk1 hblk1
 ·intro j blk' hj
  by_cases e1:i=j
  ·subst e1
   simp only[upd_same,Option.some.injEq] at hj
   subst hj
   have hm:=h.mem i blk hi
   unfold MemOk at hm
   split at hm
   ·rename_i hc;exact absurd hc (hv _ _ _)
   ·rename_i hc;exact absurd hc (hv2 _ _ _ _)
   ·obtain ⟨p,k1,k2⟩:=hm
    refine⟨p,k1,?_⟩
    cases hpa:p.a with
    | none=>rfl
    | some b =>
     rw[hpa] at k2
     obtain ⟨cs',fz,k3,k4,k5⟩:=k2
     exact⟨cs',fz,k3,LP_nil,fun ho=>by simp at ho⟩
   ·rename_i hc;exact absurd hc (hv4 _ _)
   ·obtain ⟨p,k1,k2⟩:=hm
    refine⟨p,k1,?_⟩
    cases hpa:p.a with
    | none=>rfl
    | some b =>
     rw[hpa] at k2
     obtain ⟨cs',fz,k3,k4,k5⟩:=k2
     exact⟨cs',fz,k3,LP_nil,fun ho=>by simp at ho⟩
  ·simp only[upd_ne _ _ e1] at hj
   exact h.mem j blk' hj
 ·intro j q hj hvb
  by_cases e1:i=j
  ·subst e1;simp[upd_same]
  ·simp only[upd_ne _ _ e1];exact h.dom _ _ hj hvb
theorem MRel.rename (h:MRel w0 R fm w) {id:Nat} (hid:fm id=none) (hsm:id<1000000) {b:Nat} {e:TypeId} (hfree:∀j q blk',R j q->q.a=some b->fm j=some blk'->weak blk') (hnf:¬Frz R b)
  {c:Cells} {cs:Array Value} {fz:Nat×Nat} {q:Pl} (hqa:q.a=some b) (hw:w.heap[b]?=some (.cells cs e fz)) (hfz:FzOk fz cs.size) (hge:w0.X b∨w0.w.heap.size<=b) (hv:∀i k sz,c≠.elt i k sz) (hv2:∀i l k sz,c≠.tail i l k sz) (hv3:∀ks n es g,c≠.fam ks n es g)
  (hl:LP R c.list (cs.toList.drop q.d)) (hroom:roomOk id c q cs.size) (hv4:∀s pos,c≠.itr s pos:=by intro _ _ h;cases h):MRel w0 (fun i p=>R i p∨(i=id∧p=q)) (upd fm id ⟨c,e,true⟩) w:=by
 have hR:∀p,¬R id p:=fun p hp=>by have:=h.dom id p hp (by omega);rw[hid] at this;simp at this
 refine⟨h.below,?_,?_,?_,?_,?_,?_,?_⟩
 ·rintro i p p' (h1 | ⟨rfl,rfl⟩) (h2 | ⟨h3,rfl⟩)
  ·exact h.func _ _ _ h1 h2
  ·subst h3;exact absurd h1 (hR _)
  ·exact absurd h2 (hR _)
  ·rfl
 ·rintro i j p p2 b2 (h1 | ⟨rfl,rfl⟩) (h2 | ⟨rfl,rfl⟩) ha hb hne blk1 hblk hown blk' hblk'
  ·by_cases e1:id=i
   ·subst e1;exact absurd h1 (hR _)
   ·by_cases e2:id=j
    ·subst e2;exact absurd h2 (hR _)
    ·simp only[upd_ne _ _ e1] at hblk
     simp only[upd_ne _ _ e2] at hblk'
     exact h.inj _ _ _ _ _ h1 h2 ha hb hne blk1 hblk hown blk' hblk'
  ·rw[hqa] at hb;cases hb
   simp only[upd_ne _ _ (Ne.symm hne)] at hblk
   have:=hfree _ _ _ h1 ha hblk
   rw[this.1] at hown;simp at hown
  ·rw[hqa] at ha;cases ha
   simp only[upd_ne _ _ hne] at hblk'
   exact hfree _ _ _ h2 hb hblk'
  ·exact absurd rfl hne
 ·intro i blk1 hi
  by_cases e1:id=i
  ·subst e1
   simp only[upd_same,Option.some.injEq] at hi
   subst hi
   have hc:ContOk w0 (fun i p=>R i p∨(i=id∧p=q)) w id ⟨c,e,true⟩:=by
    refine⟨q,.inr ⟨rfl,rfl⟩,?_⟩
    rw[hqa]
    exact⟨cs,fz,hw,LP_mono (fun _ _=>.inl) hl,fun _=>⟨hfz,hge,hroom⟩⟩
   unfold MemOk
   split
   ·rename_i i k sz hc2;exact absurd hc2 (hv i k sz)
   ·rename_i i l k sz hc2;exact absurd hc2 (hv2 i l k sz)
   ·rename_i hc2;exact absurd hc2 (hv3 _ _ _ _)
   ·rename_i hc2;exact absurd hc2 (hv4 _ _)
   ·exact hc
  ·simp only[upd_ne _ _ e1] at hi
   have hm:=h.mem i blk1 hi
   unfold MemOk at hm ⊢
   split at hm
   ·obtain ⟨p,q,b,k1,k2,k3⟩:=hm;exact⟨p,q,b,.inl k1,.inl k2,k3⟩
   ·obtain ⟨p,q,k1,k2,k3⟩:=hm;exact⟨p,q,.inl k1,.inl k2,k3⟩
   ·exact hm.mono (fun _ _=>.inl) (fun _ _=>rfl) (fun _ _ _ _ _=>rfl)
   ·exact hm.mono (fun _ _=>.inl) (fun _ _=>rfl)
   ·obtain ⟨p,k1,k2⟩:=hm
    refine⟨p,.inl k1,?_⟩
    cases hpa2:p.a with
    | none=>rw[hpa2] at k2;exact k2
    | some b =>
     rw[hpa2] at k2
     obtain ⟨cs',fz,k3,k4,k5⟩:=k2
     exact⟨cs',fz,k3,LP_mono (fun _ _=>.inl) k4,k5⟩
 ·rintro i p (h1 | ⟨rfl,rfl⟩) hvb
  ·by_cases e1:id=i
   ·subst e1;simp[upd_same]
   ·simp only[upd_ne _ _ e1];exact h.dom _ _ h1 hvb
  ·simp[upd_same]
 ·rintro i p (h1 | ⟨rfl,rfl⟩) hge hvb
  ·exact h.anc _ _ h1 hge hvb
  ·omega
 ·rintro i p b2 (h1 | ⟨rfl,rfl⟩) hb
  ·refine(h.there _ _ _ h1 hb).mono (fun s pos hs=>?_) rfl
   by_cases e1:id=i
   ·subst e1;exact absurd h1 (hR _)
   ·rw[upd_ne _ _ e1]
  ·rw[hqa] at hb;cases hb;exact .inl ⟨cs,e,fz,hw⟩
 ·rintro i p (h1 | ⟨rfl,rfl⟩) hge2
  ·obtain ⟨h2,h3⟩:=h.fro i p h1 hge2
   refine⟨h2,?_⟩
   rintro j q2 (h4 | ⟨rfl,rfl⟩) hq blk2 hblk
   ·by_cases e1:id=j
    ·subst e1;exact absurd h4 (hR _)
    ·rw[upd_ne _ _ e1] at hblk;exact h3 j q2 h4 hq blk2 hblk
   ·rw[h2,hqa] at hq
    simp only[Option.some.injEq] at hq
    exfalso
    apply hnf
    have e:1000000000+b=i:=by omega
    show R (1000000000+b) ⟨some b,0,0⟩
    rw[e,hq,<-h2];exact h1
  ·omega
end
end Go.W

namespace Go.W
open Go.RowKit (Below)
theorem nrm1_fits {k:CK} {v:Value} (h:isCK k v=true):nrm1 k v=v:=by
 rcases isCK_inv h with⟨_,_,rfl,rfl⟩ | ⟨_,rfl,rfl⟩ | ⟨_,rfl,rfl⟩<;>rfl
theorem nrmK_fits:∀{ks:List CK} {l:List Value},fitsK ks l=true->nrmK ks l=l
 | [],[],_=>rfl
 | k::ks,v::l,h=>by
  simp only[fitsK,Bool.and_eq_true] at h
  simp only[nrmK,List.headD_cons,List.tail_cons,nrm1_fits h.1,nrmK_fits h.2]
 | [],_::_,h=>by simp[fitsK] at h
 | _::_,[],h=>by simp[fitsK] at h
theorem fits_nrm1 (k:CK) (v:Value):isCK k (nrm1 k v)=true:=by cases k<;>simp[nrm1,isCK]
theorem fits_nrmK:∀(ks:List CK) (l:List Value),fitsK ks (nrmK ks l)=true
 | [],_=>rfl
 | k::ks,l=>by simp only[nrmK,fitsK,fits_nrm1,fits_nrmK ks,Bool.and_self]
theorem nrmK_idem (ks:List CK) (l:List Value):nrmK ks (nrmK ks l)=nrmK ks l:=nrmK_fits (fits_nrmK ks l)
theorem rowL_split (ks:List CK) (f:Nat->List Value) {j n:Nat} (h:j<n):rowL ks f 0 n=rowL ks f 0 j++(nrmK ks (f j)++rowL ks f (j+1) (n - j - 1)):=by
 have:=rowL_append ks f j (n - j) 0
 rw[show j+(n - j)=n from by omega,show n - j=(n - j - 1)+1 from by omega,rowL,Nat.zero_add] at this
 exact this
theorem rowL_upd (ks:List CK) (f:Nat->List Value) {j n:Nat} (h:j<n) {l:List Value} (hl:fitsK ks l=true):rowL ks (updR f j l) 0 n=rowL ks f 0 j++(l++rowL ks f (j+1) (n - j - 1)):=by
 rw[rowL_split ks _ h]
 have e1:rowL ks (updR f j l) 0 j=rowL ks f 0 j:=rowL_congr ks j 0 (fun x h1 h2=>by unfold updR;rw[nbeq_ne (by omega)];rfl)
 have e2:rowL ks (updR f j l) (j+1) (n - j - 1)=rowL ks f (j+1) (n - j - 1):=rowL_congr ks _ _ (fun x h1 h2=>by unfold updR;rw[nbeq_ne (by omega)];rfl)
 have e3:nrmK ks (updR f j l j)=l:=by unfold updR;rw[Nat.beq_refl];exact nrmK_fits hl
 rw[e1,e2,e3]
theorem list_set3 {α:Type} (A E B v:List α) (off siz:Nat) (hs:off+siz<=E.length) (hv:v.length=siz) :
  (A++(E++B)).take (A.length+off)++v++(A++(E++B)).drop (A.length+off+siz)=A++((E.take off++v++E.drop (off+siz))++B):=by
 rw[List.take_append,List.take_of_length_le (by omega),show A.length+off - A.length=off from by omega,List.take_append,show off - E.length=0 from by omega,List.take_zero,List.append_nil,
  List.drop_append,List.drop_eq_nil_of_le (by omega),show A.length+off+siz - A.length=off+siz from by omega,List.drop_append,show off+siz - E.length=0 from by omega,List.drop_zero]
 simp[List.append_assoc]
theorem rowL_set (ks:List CK) (f:Nat->List Value) {j n:Nat} (h:j<n) {off siz:Nat} {v:List Value} (hs:off+siz<=ks.length) (hv:v.length=siz)
  (hf:fitsK ks ((nrmK ks (f j)).take off++v++(nrmK ks (f j)).drop (off+siz))=true) :
  (rowL ks f 0 n).take (j*ks.length+off)++v++(rowL ks f 0 n).drop (j*ks.length+off+siz)=rowL ks (updR f j ((nrmK ks (f j)).take off++v++(nrmK ks (f j)).drop (off+siz))) 0 n:=by
 rw[rowL_upd ks f h hf,rowL_split ks f h]
 have hA:(rowL ks f 0 j).length=j*ks.length:=rowL_len ks f j 0
 rw[<-hA]
 exact list_set3 _ _ _ _ off siz (by rw[nrmK_len];exact hs) hv
theorem setL_eq {cells:List Value} {off:Nat} {i:TInf} {v:Value} (hle:off+i.siz<=cells.length):setL cells off i v=cells.take off++v.cells.toList++cells.drop (off+i.siz):=by
 unfold setL
 split
 ·rename_i c hc
  rw[hc]
  cases hs:Nat.beq i.siz 1 with
  | false=>rfl
  | true =>
   have hs:=nbeq.1 hs
   rw[cond_true,hs,List.set_eq_take_append_cons_drop,if_pos (by omega)]
   simp
 ·rfl
theorem fitsR {ks:List CK}:∀(n:Nat) {l:List Value},fitsK (repK n ks) l=true->∀j,j<n->fitsK ks ((l.drop (j*ks.length)).take ks.length)=true
 | 0,_,_,j,h=>by omega
 | n+1,l,h,j,hj=>by
  obtain ⟨h1,h2⟩:=fitsK_app h
  cases j with
  | zero=>simpa using h1
  | succ j =>
   have:=fitsR n h2 j (by omega)
   rw[List.drop_drop] at this
   rw[show(j+1)*ks.length=ks.length+j*ks.length from by rw[Nat.add_mul,Nat.one_mul,Nat.add_comm]]
   exact this
theorem repK_len (ks:List CK):∀n,(repK n ks).length=n*ks.length
 | 0=>by simp[repK]
 | n+1=>by simp[repK,repK_len ks n,Nat.add_mul,Nat.add_comm]
theorem rowL_lst {ks:List CK} {l:List Value} {off n:Nat} (hf:fitsK (repK n ks) ((l.drop off).take (n*ks.length))=true):∀m,m<=n->rowL ks (lstF l off ks.length) 0 m=(l.drop off).take (m*ks.length):=by
 have hlen:n*ks.length<=(l.drop off).length:=by
  have:=fitsK_len hf
  rw[repK_len,List.length_take] at this
  omega
 intro m
 induction m with
 | zero=>intro _;simp[rowL]
 | succ m ih =>
  intro hm
  rw[rowL_append ks _ m 1 0,ih (by omega),rowL,rowL,List.append_nil,Nat.zero_add]
  have h1:=fitsR n hf m (by omega)
  rw[List.drop_take,List.take_take,Nat.min_eq_left (by rw[<-Nat.sub_mul];exact Nat.le_mul_of_pos_left _ (by omega)),List.drop_drop] at h1
  have e:nrmK ks (lstF l off ks.length m)=((l.drop off).drop (m*ks.length)).take ks.length:=by
   unfold lstF;rw[nrmK_fits h1,List.drop_drop]
  rw[e,Nat.add_mul,Nat.one_mul,List.take_add]
theorem rowL_str (s:ByteArray):∀(m lo:Nat),lo+m<=s.size->rowL [.i .u8] (strF s) lo m=((s.data.toList.drop lo).take m).map (fun b=>Value.int .u8 (b.toNat:Int))
 | 0,_,_=>by simp[rowL]
 | m+1,lo,h=>by
  have hlt:lo<s.data.toList.length:=by
   have:s.data.size=s.size:=rfl
   rw[Array.length_toList];omega
  rw[rowL,rowL_str s m (lo+1) (by omega),List.drop_eq_getElem_cons hlt,List.take_succ_cons,List.map_cons]
  simp only[nrmK,strF,List.headD_cons,nrm1,toI,List.singleton_append,List.getD_eq_getElem?_getD,List.getElem?_eq_getElem hlt,Option.getD_some]
theorem rowL_seg (s:Seg):∀(m lo:Nat),rowL s.ks (segF s) lo m=rowL s.ks s.f (s.start+lo) m
 | 0,_=>rfl
 | m+1,lo=>by rw[rowL,rowL,rowL_seg s m (lo+1)];unfold segF;rw[nrmK_idem];rfl
theorem rowL_app (ks:List CK) (m n:Nat) (f g:Nat->List Value):rowL ks (appF m f g) 0 (m+n)=rowL ks f 0 m++rowL ks g 0 n:=by
 rw[rowL_append,Nat.zero_add]
 congr 1
 ·exact rowL_congr ks m 0 (fun j h1 h2=>by unfold appF;rw[show Nat.blt j m=true from by rw[Nat.blt_eq];omega];rfl)
 ·have:=rowL_shift ks (appF m f g) m n 0
  rw[Nat.add_zero] at this
  rw[<-this]
  refine rowL_congr ks n 0 (fun j h1 h2=>?_)
  unfold appF
  rw[show Nat.blt (m+j) m=false from by rw[Bool.eq_false_iff,ne_eq,Nat.blt_eq];omega,cond_false,show m+j - m=j from by omega]
theorem rowL_cpy (ks:List CK) (f g:Nat->List Value) (s m n:Nat) (h:s+m<=n):rowL ks (cpyF f s m g) 0 n=(rowL ks f 0 n).take (s*ks.length)++rowL ks g 0 m++(rowL ks f 0 n).drop (s*ks.length+m*ks.length):=by
 rw[rowL_take ks f s n 0 (by omega),<-Nat.add_mul,rowL_drop ks f (s+m) n 0 h,Nat.zero_add]
 have e0:=rowL_append ks (cpyF f s m g) s (n - s) 0
 rw[show s+(n - s)=n from by omega,Nat.zero_add] at e0
 have e1:=rowL_append ks (cpyF f s m g) m (n - s - m) s
 rw[show m+(n - s - m)=n - s from by omega] at e1
 rw[e0,e1,<-List.append_assoc]
 congr 1
 ·congr 1
  ·exact rowL_congr ks s 0 (fun j h1 h2=>by unfold cpyF;rw[show Nat.ble s j=false from by rw[Bool.eq_false_iff,ne_eq,Nat.ble_eq];omega];rfl)
  ·have:=rowL_shift ks (cpyF f s m g) s m 0
   rw[Nat.add_zero] at this
   rw[<-this]
   refine rowL_congr ks m 0 (fun j h1 h2=>?_)
   unfold cpyF
   rw[show Nat.ble s (s+j)=true from by rw[Nat.ble_eq];omega,show Nat.blt (s+j) (s+m)=true from by rw[Nat.blt_eq];omega,Bool.and_self,cond_true,show s+j - s=j from by omega]
 ·rw[show n - s - m=n - (s+m) from by omega]
  exact rowL_congr ks _ _ (fun j h1 h2=>by unfold cpyF;rw[show Nat.blt j (s+m)=false from by rw[Bool.eq_false_iff,ne_eq,Nat.blt_eq];omega,Bool.and_false];rfl)
theorem addr_add (b off n:Nat):(⟨b,off,none⟩:Addr).add n=⟨b,off+n,none⟩:=by
 unfold Addr.add;split
 ·rename_i h;subst h;rfl
 ·rfl
theorem cell_at {w:World} {b:Nat} {cs:Array Value} {e:TypeId} {fz:Nat×Nat} (h:w.heap[b]?=some (.cells cs e fz)) (off:Nat):w.cell? ⟨b,off,none⟩=cs[off]?:=by
 simp[World.cell?,h]
theorem run_loadCells {P:Program} {w:World} {b:Nat} {cs:Array Value} {e:TypeId} {fz:Nat×Nat} (h:w.heap[b]?=some (.cells cs e fz)) (off:Nat) :
  ∀(n i:Nat) (acc:Array Value),off+i+n<=cs.size->(loadCellsFrom ⟨b,off,none⟩ i n acc).run P w=.ok (acc++((cs.toList.drop (off+i)).take n).toArray) w
 | 0,i,acc,_=>by simp[loadCellsFrom]
 | n+1,i,acc,hn=>by
  have hlt:off+i<cs.toList.length:=by simp;omega
  have hc:w.cell? ((⟨b,off,none⟩:Addr).add i)=some cs.toList[off+i]:=by
   rw[addr_add,cell_at h,<-Array.getElem?_toList,List.getElem?_eq_getElem hlt]
  simp only[loadCellsFrom,Sem.run_bind,run_load,hc,Result.andThen_ok]
  rw[run_loadCells h off n (i+1) _ (by omega),List.drop_eq_getElem_cons hlt]
  congr 1
  apply Array.ext'
  simp[Nat.add_assoc]
theorem run_loads {P:Program} {w:World} {b:Nat} {cs:Array Value} {e:TypeId} {fz:Nat×Nat} (h:w.heap[b]?=some (.cells cs e fz)) {off n:Nat} (hle:n<=(cs.toList.drop off).length) :
  (loadCells ⟨b,off,none⟩ n).run P w=.ok ((cs.toList.drop off).take n).toArray w:=by
 unfold loadCells
 rw[List.length_drop,Array.length_toList] at hle
 by_cases h0:n=0
 ·subst h0;simp[loadCellsFrom]
 ·rw[run_loadCells h off n 0 #[] (by omega)];simp
section
variable {P:Program} {GL:Glob} {w0:Wb GL} {R:Nat->Pl->Prop} {fm:Nat->Option Blk} {w:World}
theorem src_run (h:MRel w0 R fm w) {ks:List CK} {v v':Value} {q:Src} (hq:srcS fm ks v=some q) (hv:V2 R v v') :
  (∀w,(Builtin.lenOf v').run P w=.ok q.n w)∧(∀m,m<=q.n->(Builtin.firstCells ks.length m v').run P w=.ok (rowL ks q.g 0 m).toArray w):=by
 unfold srcS srcK at hq
 split at hq
 ·rename_i n c
  obtain ⟨h0,hq⟩:=cond_some.1 hq
  have h0:=nbeq.1 h0;subst h0
  cases hq
  have:=(V2_plain (R:=R) (v:=.slice none 0 c) rfl).1 hv;subst this
  refine⟨fun w=>by simp[Builtin.lenOf],fun m hm=>?_⟩
  have:m=0:=Nat.le_zero.1 hm
  subst this
  simp[Builtin.firstCells,rowL]
 ·rename_i b off n c
  obtain ⟨p,hp,hsl⟩:=V2_slice hv
  obtain ⟨blk,hb,hq⟩:=oK_some.1 hq
  obtain ⟨cells,elem,own⟩:=blk
  simp only at hq
  have hlen:∀w,(Builtin.lenOf v').run P w=.ok n w:=by
   intro w
   obtain ⟨a',c',rfl⟩:=SlOk_sl hsl
   simp[Builtin.lenOf]
  split at hq
  ·rename_i l
   obtain ⟨hc,hq⟩:=cond_some.1 hq
   simp only[Bool.and_eq_true] at hc
   have hle:=Nat.le_of_ble_eq_true hc.1
   cases hq
   refine⟨hlen,fun m hm=>?_⟩
   have hm:m<=n:=hm
   rw[rowL_lst hc.2 m hm]
   by_cases hn:n=0
   ·have:m=0:=by omega
    subst this
    obtain ⟨a',c',rfl⟩:=SlOk_sl hsl
    cases a'<;>simp[Builtin.firstCells,loadCells,loadCellsFrom]
   ·obtain ⟨bl,c',hpa,rfl⟩:=SlOk_some hsl hn
    obtain ⟨p',hp',hcont⟩:=memOk_lst h hb
    have:=h.func _ _ _ hp hp';subst this
    rw[hpa] at hcont
    obtain ⟨cs,fz,h1,h2,_⟩:=hcont
    have h2:LP R l (cs.toList.drop p.d):=h2
    have hml:m*ks.length<=n*ks.length:=Nat.mul_le_mul_right _ hm
    have hpart:=LP_part h2 (off:=off) (n:=m*ks.length) (by omega)
    have hpl:((l.drop off).take (m*ks.length)).all pl0=true:=by
     have:=fitsK_pl hc.2
     rw[List.all_eq_true] at this ⊢
     intro x hx
     refine this x ?_
     rw[show m*ks.length=min (m*ks.length) (n*ks.length) from (Nat.min_eq_left hml).symm,<-List.take_take] at hx
     exact List.mem_of_mem_take hx
    have heq:=(LR_plain (r:=V0 R) (pl:=pl0) (fun v v' hv=>V0_plain hv) hpl).1 hpart
    have hl2:=LP_le h2
    simp only[Builtin.firstCells]
    rw[run_loads h1 (by rw[List.length_drop] at hl2 ⊢;omega),<-List.drop_drop,heq]
  ·obtain ⟨A,hA,hq⟩:=accK_some.1 hq
   obtain ⟨hc,hq⟩:=cond_some.1 hq
   simp only[Bool.and_eq_true] at hc
   have hle:=Nat.le_of_ble_eq_true hc.1
   cases hq
   refine⟨hlen,fun m hm=>?_⟩
   have hm:m<=n:=hm
   rw[rowL_lst hc.2 m hm]
   by_cases hn:n=0
   ·have:m=0:=by omega
    subst this
    obtain ⟨a',c',rfl⟩:=SlOk_sl hsl
    cases a'<;>simp[Builtin.firstCells,loadCells,loadCellsFrom]
   ·obtain ⟨bl,c',hpa,rfl⟩:=SlOk_some hsl hn
    have hml:m*ks.length<=n*ks.length:=Nat.mul_le_mul_right _ hm
    have hpl:((A.cells.drop off).take (m*ks.length)).all pl0=true:=by
     have:=fitsK_pl hc.2
     rw[List.all_eq_true] at this ⊢
     intro x hx
     refine this x ?_
     rw[show m*ks.length=min (m*ks.length) (n*ks.length) from (Nat.min_eq_left hml).symm,<-List.take_take] at hx
     exact List.mem_of_mem_take hx
    rcases acc_ok h hA hp hpa with h0 | ⟨cs,e,fz,h1,h2,_⟩
    ·rw[h0] at hle
     have hk:ks.length=0:=by
      rcases Nat.eq_zero_or_pos ks.length with e0 | e0
      ·exact e0
      ·have h9:off+n*ks.length<=0:=hle
       have h8:0<n*ks.length:=Nat.mul_pos (by omega) e0
       omega
     rw[h0,hk]
     simp[Builtin.firstCells,loadCells,loadCellsFrom]
    ·have hpart:=LP_part h2 (off:=off) (n:=m*ks.length) (by omega)
     have heq:=(LR_plain (r:=V0 R) (pl:=pl0) (fun v v' hv=>V0_plain hv) hpl).1 hpart
     have hl2:=LP_le h2
     simp only[Builtin.firstCells]
     rw[run_loads h1 (by rw[List.length_drop] at hl2 ⊢;omega),<-List.drop_drop,heq]
  ·obtain ⟨s,hs,hq⟩:=segK_some.1 hq
   obtain ⟨hc,hq⟩:=cond_some.1 hq
   simp only[Bool.and_eq_true] at hc
   obtain ⟨⟨h0,hle⟩,hks⟩:=hc
   cases hq
   have h0:=nbeq.1 h0;subst h0
   have hle:=Nat.le_of_ble_eq_true hle
   have hks:=ksEq_eq hks;subst hks
   refine⟨hlen,fun m hm=>?_⟩
   have hm:m<=n:=hm
   rw[rowL_seg,Nat.add_zero]
   by_cases hn:n=0
   ·have:m=0:=by omega
    subst this
    obtain ⟨a',c',rfl⟩:=SlOk_sl hsl
    cases a'<;>simp[Builtin.firstCells,loadCells,loadCellsFrom,rowL]
   ·obtain ⟨bl,c',hpa,rfl⟩:=SlOk_some hsl hn
    obtain ⟨p0,cs,fz,_,_,_,_,_,k3,k4,k5,_⟩:=seg_cells h hs hp hpa (by omega)
    simp only[Builtin.firstCells,Nat.add_zero]
    have hml:m*s.ks.length<=s.cnt*s.ks.length:=Nat.mul_le_mul_right _ (by omega)
    rw[run_loads k3 (by omega)]
    have:=congrArg (List.take (m*s.ks.length)) k4
    rw[List.take_take,Nat.min_eq_left hml,rowL_take s.ks s.f m s.cnt s.start (by omega)] at this
    rw[this]
 ·rename_i s
  obtain ⟨hks,hq⟩:=cond_some.1 hq
  have hks:=ksEq_eq hks;subst hks
  cases hq
  have:=V2_string hv;subst this
  refine⟨fun w=>by simp[Builtin.lenOf],fun m hm=>?_⟩
  have hm:m<=s.size:=hm
  rw[rowL_str s m 0 (by omega)]
  simp only[Builtin.firstCells,Sem.run_pure]
  congr 1
  apply Array.ext'
  simp only[Array.toList_map,List.drop_zero]
  congr 1
  show(s.extract 0 m).data.toList=s.data.toList.take m
  rw[ByteArray.data_extract,Array.toList_extract]
  simp[List.extract]
 ·simp at hq
theorem seg_cell (h:MRel w0 R fm w) {b:Nat} {s:Seg} (hs:segS fm b=some s) {c:CK} (hc:s.ks=[c]) {q:Pl} (hq:R b q) {bl:Nat} (hbl:q.a=some bl) {off:Nat} (ho:off<s.cnt) :
  w.cell? ⟨bl,q.d+off,none⟩=some (nrm1 c ((s.f (s.start+off)).headD (.bool false))):=by
 obtain ⟨p0,cs,fz,_,_,_,_,_,k3,k4,k5,_⟩:=seg_cells h hs hq hbl (by omega)
 rw[hc] at k4 k5
 simp only[List.length_cons,List.length_nil,Nat.zero_add,Nat.mul_one] at k4 k5
 have e:=congrArg (fun l=>(List.drop off l).take 1) k4
 have e2:=rowL_drop [c] s.f off s.cnt s.start (by omega)
 simp only[List.length_cons,List.length_nil,Nat.zero_add,Nat.mul_one] at e2
 rw[e2,show s.cnt - off=(s.cnt - off - 1)+1 from by omega,rowL,nrmK,nrmK,List.drop_take,List.take_take,Nat.min_eq_left (by omega),List.drop_drop] at e
 have e3:((cs.toList.drop (q.d+off)).take 1)[0]?=some (nrm1 c ((s.f (s.start+off)).headD (.bool false))):=by rw[e];simp
 rw[cell_at k3,<-Array.getElem?_toList]
 simpa using e3
end
end Go.W

namespace Go.W
section
variable {P:Program} {T:Tab} {G:Sums} {GL:Glob} {w0:Wb GL} {w:World} {n:Nat} {R:Nat->Pl->Prop} {S:FS} {a:Act}
theorem load_run (hT:TabOk P T) {fm:Nat->Option Blk} (h:MRel w0 R fm w) {t b off:Nat} {p:Pl} {b':Nat} (hp:R b p) (hpa:p.a=some b') {r:Res} (hr:loadK T t fm b off some none=some r) :
  r.mem=[]∧∃v',(loadVar t ⟨b',p.d+off,none⟩).run P w=.ok v' w∧V2 R r.val v':=by
 unfold loadK at hr
 simp only[oK_some] at hr
 obtain ⟨blk,hb,i,hi,hr⟩:=hr
 have acc:accK fm b (fun A=>partK i A.cells off (fun v=>some (⟨v,[],A.rd⟩:Res)) none) none=some r->r.mem=[]∧∃v',(loadVar t ⟨b',p.d+off,none⟩).run P w=.ok v' w∧V2 R r.val v':=by
  intro hr
  obtain ⟨A,hA,hr⟩:=accK_some.1 hr
  have hok:=acc_ok h hA hp hpa
  have hr:=partK_old hr
  cases hg:isAggT i with
  | true =>
   simp only[hg,cond_true] at hr
   obtain ⟨h3,h4⟩:=cond_some.1 hr
   cases h4
   have hle:=Nat.le_of_ble_eq_true h3
   rcases hok with h0 | ⟨cs,e,fz,h1,h2,_⟩
   ·rw[h0] at hle ⊢
    have hz:i.siz=0:=by simp at hle;omega
    refine⟨rfl,.agg #[],?_,_,rfl,by simp[hz,LR]⟩
    simp[loadVar,run_agg hT hi,hg,run_size hT hi,loadCells,hz,loadCellsFrom]
   ·have hl2:=LP_le h2
    refine⟨rfl,.agg ((cs.toList.drop (p.d+off)).take i.siz).toArray,?_,_,rfl,?_⟩
    ·simp only[loadVar,Sem.run_bind,run_agg hT hi,Result.andThen_ok,hg,if_true,run_size hT hi]
     rw[run_loads h1 (by rw[List.length_drop] at hl2 ⊢;omega)];rfl
    ·have:=LP_part h2 hle
     rw[List.drop_drop] at this
     simpa using this
  | false =>
   simp only[hg,cond_false] at hr
   obtain ⟨v,h3,h4⟩:=oK_some.1 hr
   cases h4
   rcases hok with h0 | ⟨cs,e,fz,h1,h2,_⟩
   ·rw[h0] at h3;simp at h3
   ·obtain ⟨v',h5,h6⟩:=LP_get h2 h3
    refine⟨rfl,v',?_,V2_of_V0 h6⟩
    have hc:w.cell? ⟨b',p.d+off,none⟩=some v':=by
     rw[cell_at h1,<-Array.getElem?_toList]
     rw[List.getElem?_drop] at h5;exact h5
    simp[loadVar,run_agg hT hi,hg,hc]
 split at hr
 ·exact acc hr
 ·exact acc hr
 ·cases hg:isAggT i<;>simp only[hg,cond_true,cond_false] at hr
  ·obtain ⟨s,c,h1,h2,h3,h4⟩:=cellK_some.1 hr
   cases h4
   have hc:=seg_cell h h1 h2 hp hpa h3
   refine⟨rfl,_,?_,V2_of_V0 ((V0_plain (nrm1_pl _ _)).2 rfl)⟩
   simp[loadVar,run_agg hT hi,hg,hc]
  ·exact acc hr
theorem sound_load (hT:TabOk P T) (h:Rel w0 n R S a w) {o:Oper} {t:Nat} {x:Operand} (ho:o.op=.load t x) {r:Res} {b off:Nat} (hv:evF S.fs x=some (.pointer (some ⟨b,off,none⟩))) (hr:loadK T t S.fm b off some none=some r):PR P R a w o r:=by
 obtain ⟨p,b',hp,hpa,hev⟩:=V2_ptr (h.ev hv)
 obtain ⟨h1,v',h2,h3⟩:=load_run hT h.m hp hpa hr
 refine⟨h1,v',?_,h3⟩
 simp only[execOp,ho,hev,Instr.loadAt,Instr.sureAddr,Sem.run_bind,Sem.run_pure,Result.andThen_ok,h2]
theorem tl_ok (h:MRel w0 R S.fm w) {b l cnt sz b2 l2:Nat} {p q:Pl} (hp:R b p) (ht:tlS S.fm b l cnt sz=some (b2,l2)) (hq:cnt=0∨(q.a=p.a∧q.d=p.d+l*sz∧q.c+l<=p.c)) :
  ∃p2,R b2 p2∧(cnt=0∨(q.a=p2.a∧q.d=p2.d+l2*sz∧q.c+l2<=p2.c)):=by
 unfold tlS tlK at ht
 obtain ⟨blk,hb,ht⟩:=oK_some.1 ht
 obtain ⟨cells,elem,own⟩:=blk
 simp only at ht
 split at ht
 ·rename_i i l0 cnt0 sz0
  obtain ⟨hc,ht⟩:=cond_some.1 ht
  simp only[Bool.and_eq_true] at hc
  have e1:=nbeq.1 hc.1
  have e2:=Nat.le_of_ble_eq_true hc.2
  simp only[Option.some.injEq,Prod.mk.injEq] at ht
  obtain ⟨rfl,rfl⟩:=ht
  obtain ⟨p2,q2,k1,k2,k3,_⟩:∃p q,R i p∧R b q∧(cnt0=0∨(q.a=p.a∧q.d=p.d+l0*sz0∧q.c+l0<=p.c))∧own=false:=h.mem b _ hb
  have:=h.func _ _ _ hp k2;subst this
  refine⟨p2,k1,?_⟩
  rcases hq with hq | ⟨a1,a2,a5⟩
  ·exact .inl hq
  ·rcases k3 with k3 | ⟨a3,a4,a6⟩
   ·exact .inl (by omega)
   ·exact .inr ⟨a1.trans a3,by rw[a2,a4,e1,Nat.add_mul,Nat.add_assoc],by omega⟩
 ·simp only[Option.some.injEq,Prod.mk.injEq] at ht
  obtain ⟨rfl,rfl⟩:=ht
  exact⟨p,hp,hq⟩
theorem sound_indexAddr (hT:TabOk P T) (h:Rel w0 n R S a w) {o:Oper} {t:Nat} {x ix:Operand} (ho:o.op=.indexAddr t x ix) (hng:¬∃g,x=.global g) {id:Nat} {r:Res} (hr:opS T G id o.op (evF S.fs) S.fm=some r) :
  PR P R a w o r∨∃b k sz e q b' rd,S.fm id=none∧id<60000∧r=⟨.pointer (some ⟨id,0,none⟩),[(id,⟨.elt b k sz,e,false⟩)],rd⟩∧loose b=true∧R b q∧q.a=some b'∧(execOp a.eval o).run P w=.ok (.value (.pointer (some ⟨b',q.d+k*sz,none⟩))) w:=by
 rw[ho] at hr
 simp only[opS,opK] at hr
 rw[(glb_cases x).resolve_left hng] at hr
 simp only[oK_some,intK_some] at hr
 obtain ⟨vx,hx,vi,hvi,kd,m,rfl,i,hi,hr⟩:=hr
 have hm:=V2_int (h.ev hvi)
 obtain ⟨d,hd1,hd2,_⟩:=und_some hT hi
 obtain ⟨hst,⟨len,e,hu,h2⟩ | ⟨e,hu,h2⟩ | ⟨_,_,h2⟩ | ⟨_,h2⟩ | ⟨_,h2⟩⟩:=descK_some hr<;>first | (simp at h2;done) | skip
 all_goals have:=hd2 hst;subst this;rw[hu] at hd1
 ·simp only[ptrK_some,oK_some,cond_some] at h2
  obtain ⟨b,off,rfl,j,hj,hin,h3⟩:=h2
  cases h3
  obtain ⟨p,b',hp,hpa,hev⟩:=V2_ptr (h.ev hx)
  refine .inl (PR.mk (v':=.pointer (some ⟨b',p.d+(off+m.toNat*j.siz),none⟩)) ?_ ⟨p,b',hp,hpa,rfl⟩)
  have hin':0<=m∧m<(len:Int):=by simpa [inR] using hin
  simp[execOp,ho,hm,hev,Instr.indexAt,asIntOf,Instr.sureAddr,run_underlying hd1,hin',run_size hT hj,addr_add,Nat.add_assoc]
 ·simp only[sliceK_some,oK_some,cond_some] at h2
  obtain ⟨b,off,len,c,rfl,j,hj,hin,h3⟩:=h2
  have hin':0<=m∧m<(len:Int):=by simpa [inR] using hin
  obtain ⟨p,hp,hsl⟩:=V2_slice (h.ev hx)
  obtain ⟨b',c',hpa,hev⟩:=SlOk_some hsl (by omega)
  have hrun:(execOp a.eval o).run P w=.ok (.value (.pointer (some ⟨b',p.d+(off+m.toNat*j.siz),none⟩))) w:=by
   simp[execOp,ho,hm,hev,Instr.indexAt,asIntOf,run_underlying hd1,hin',run_size hT hj,addr_add,Nat.add_assoc]
  cases hlo:loose b with
  | false =>
   simp only[hlo,cond_false] at h3
   cases h3
   exact .inl (PR.mk (v':=.pointer (some ⟨b',p.d+(off+m.toNat*j.siz),none⟩)) hrun ⟨p,b',hp,hpa,rfl⟩)
  | true =>
   rw[hlo,cond_true] at h3
   have view:∀rd,(bif (S.fm id).isNone&&Nat.blt id 60000 then some (⟨.pointer (some ⟨id,0,none⟩),[(id,⟨.elt b m.toNat j.siz,e,false⟩)],rd⟩:Res) else none)=some r ->
     ∃b k sz e q b' rd,S.fm id=none∧id<60000∧r=⟨.pointer (some ⟨id,0,none⟩),[(id,⟨.elt b k sz,e,false⟩)],rd⟩∧loose b=true∧R b q∧q.a=some b'∧(execOp a.eval o).run P w=.ok (.value (.pointer (some ⟨b',q.d+k*sz,none⟩))) w:=by
    intro rd h3
    simp only[cond_some,Bool.and_eq_true,Nat.blt_eq] at h3
    obtain ⟨⟨h4,h5⟩,h6⟩:=h3
    obtain ⟨rfl,_,_⟩:=SlOk_loose hlo hsl
    refine⟨b,m.toNat,j.siz,e,p,b',rd,Option.isNone_iff_eq_none.1 h4,h5,(Option.some.inj h6).symm,hlo,hp,hpa,?_⟩
    rw[Nat.zero_add] at hrun;exact hrun
   cases hel:elSl T t with
   | false=>rw[hel,cond_false] at h3;exact .inr (view _ h3)
   | true =>
    rw[hel,cond_true] at h3
    cases hls:lstB S.fm b with
    | false=>rw[hls,cond_false] at h3;exact .inr (view _ h3)
    | true =>
     rw[hls,cond_true] at h3
     cases h3
     exact .inl ⟨rfl,_,hrun,⟨p,b',hp,hpa,rfl⟩⟩
theorem fields_at (hT:TabOk P T) {t:Nat} {i:TInf} (hi:look T t=some i) (hst:i.st=true) {m:Nat} {fl:Nat×Nat} (hf:i.flds[m]?=some fl) :
  ∃fs f,P.underlying t=some (.struct fs)∧fs[m]?=some f∧f.offset=fl.1∧f.type=fl.2:=by
 obtain ⟨d,hd1,_,hd2⟩:=und_some hT hi
 obtain ⟨fs,rfl,he⟩:=hd2 hst
 rw[<-he,List.getElem?_map] at hf
 obtain ⟨f,h1,h2⟩:=Option.map_eq_some_iff.1 hf
 exact⟨fs,f,hd1,by rw[<-Array.getElem?_toList];exact h1,by rw[<-h2],by rw[<-h2]⟩
theorem sound_fieldAddr (hT:TabOk P T) (h:Rel w0 n R S a w) {o:Oper} {t m:Nat} {x:Operand} (ho:o.op=.fieldAddr t x m) {id:Nat} {r:Res} (hr:opS T G id o.op (evF S.fs) S.fm=some r):PR P R a w o r:=by
 rw[ho] at hr
 simp only[opS,opK,oK_some,ptrK_some,cond_some,cond_none] at hr
 obtain ⟨vx,hx,b,off,rfl,i,hi,hst,fl,hf,j,hj,hz,hr⟩:=hr
 cases hr
 obtain ⟨p,b',hp,hpa,hev⟩:=V2_ptr (h.ev hx)
 obtain ⟨fs,f,h1,h2,h3,h4⟩:=fields_at hT hi hst hf
 refine PR.mk (v':=.pointer (some ⟨b',p.d+(off+fl.1),none⟩)) ?_ ⟨p,b',hp,hpa,rfl⟩
 have hs:(sizeOf f.type).run P w=.ok j.siz w:=by rw[h4];exact run_size hT hj w
 have hz':j.siz≠0:=fun e=>by rw[e] at hz;simp at hz
 simp[execOp,ho,hev,Instr.fieldAt,Instr.sureAddr,run_underlying h1,h2,fieldPlace,hs,hz',h3,addr_add,Nat.add_assoc]
theorem sound_field (hT:TabOk P T) (h:Rel w0 n R S a w) {o:Oper} {t m:Nat} {x:Operand} (ho:o.op=.field t x m) {id:Nat} {r:Res} (hr:opS T G id o.op (evF S.fs) S.fm=some r):PR P R a w o r:=by
 rw[ho] at hr
 simp only[opS,opK,oK_some,aggK_some,cond_some] at hr
 obtain ⟨vx,hx,cs,rfl,i,hi,hst,fl,hf,j,hj,hr⟩:=hr
 obtain ⟨cs',hev,hl⟩:=V2_agg (h.ev hx)
 obtain ⟨fs,f,h1,h2,h3,h4⟩:=fields_at hT hi hst hf
 obtain ⟨v,v',h5,h6,h7⟩:=part_run hT hj hl hr w
 cases h5
 refine PR.mk (v':=v') ?_ (V2_of_V1 h7)
 rw[<-h3,<-h4] at h6
 simp only[Array.toArray_toList] at h6
 simp[execOp,ho,hev,Instr.field,run_underlying h1,h2,asAgg,h6]
theorem sound_index (hT:TabOk P T) (h:Rel w0 n R S a w) {o:Oper} {t:Nat} {x ix:Operand} (ho:o.op=.index t x ix) {id:Nat} {r:Res} (hr:opS T G id o.op (evF S.fs) S.fm=some r):PR P R a w o r:=by
 rw[ho] at hr
 simp only[opS,opK,oK_some,intK_some] at hr
 obtain ⟨vx,hx,vi,hvi,kd,m,rfl,i,hi,hr⟩:=hr
 have hm:=V2_int (h.ev hvi)
 obtain ⟨d,hd1,hd2,_⟩:=und_some hT hi
 obtain ⟨hst,⟨len,e,hu,h2⟩ | ⟨_,_,h2⟩ | ⟨_,_,h2⟩ | ⟨_,h2⟩ | ⟨hu,h2⟩⟩:=descK_some hr<;>first | (simp at h2;done) | skip
 all_goals have:=hd2 hst;subst this;rw[hu] at hd1
 ·simp only[aggK_some,oK_some,cond_some] at h2
  obtain ⟨cs,rfl,j,hj,hin,h3⟩:=h2
  obtain ⟨cs',hev,hl⟩:=V2_agg (h.ev hx)
  obtain ⟨v,v',h5,h6,h7⟩:=part_run hT hj hl h3 w
  cases h5
  refine PR.mk (v':=v') ?_ (V2_of_V1 h7)
  have hin':0<=m∧m<(len:Int):=by simpa [inR] using hin
  simp only[Array.toArray_toList] at h6
  simp[execOp,ho,hm,hev,Instr.index,asIntOf,run_underlying hd1,hin',run_size hT hj,h6]
 ·simp only[strK_some,cond_some] at h2
  obtain ⟨s,rfl,hin,h3⟩:=h2
  cases h3
  have hev:=V2_string (h.ev hx)
  have hin':0<=m∧m<(s.size:Int):=by simpa [inR] using hin
  refine PR.mk (v':=.int .u8 ((s.data.toList.getD m.toNat 0).toNat:Int)) ?_ ((V2_plain rfl).2 rfl)
  have hlt:m.toNat<s.size:=by omega
  have hs:s[m.toNat]?=some (s.data.toList.getD m.toNat 0):=by
   have h1:m.toNat<s.data.size:=hlt
   rw[getElem?_pos s m.toNat hlt]
   congr 1
   simp only[List.getD_eq_getElem?_getD,Array.getElem?_toList]
   rw[Array.getElem?_eq_getElem h1]
   rfl
  simp[execOp,ho,hm,hev,Instr.index,asIntOf,run_underlying hd1,hin'.1,hs]
theorem sound_extract (h:Rel w0 n R S a w) {o:Oper} {m:Nat} {x:Operand} (ho:o.op=.extract x m) {id:Nat} {r:Res} (hr:opS T G id o.op (evF S.fs) S.fm=some r):PR P R a w o r:=by
 rw[ho] at hr
 simp only[opS,opK,oK_some,tupK_some,cond_some] at hr
 obtain ⟨vx,hx,cs,rfl,v,hv,_,hr⟩:=hr
 cases hr
 obtain ⟨cs',hev,hl⟩:=V2_tuple (h.ev hx)
 obtain ⟨v',h1,h2⟩:=LR_get hl hv
 refine PR.mk (v':=v') ?_ (V2_of_V1 h2)
 rw[Array.getElem?_toList] at h1
 simp[execOp,ho,hev,Instr.extract,h1]
theorem sound_pick (h:Rel w0 n R S a w) {o:Oper} {c x y:Operand} (ho:o.op=.pick c x y) {id:Nat} {r:Res} (hr:opS T G id o.op (evF S.fs) S.fm=some r):PR P R a w o r:=by
 rw[ho] at hr
 simp only[opS,opK,oK_some,boolK_some] at hr
 obtain ⟨vc,hc,b,rfl,hr⟩:=hr
 have hev:=V2_bool (h.ev hc)
 cases b with
 | true =>
  obtain ⟨v,hv,hr⟩:=oK_some.1 hr
  cases hr
  exact PR.mk (v':=a.eval x) (by simp[execOp,ho,hev,asBool]) (h.ev hv)
 | false =>
  obtain ⟨v,hv,hr⟩:=oK_some.1 hr
  cases hr
  exact PR.mk (v':=a.eval y) (by simp[execOp,ho,hev,asBool]) (h.ev hv)
theorem eqOpK_some {op:BinOp} {b:Bool} {k:Value->Option Res} {r:Res} (h:eqOpK op b k none=some r):(op=.eql∧k (.bool b)=some r)∨(op=.neq∧k (.bool (!b))=some r):=by
 cases op<;>simp[eqOpK] at h<;>simp[h]
theorem binK_some {op:BinOp} {t:Nat} {x y:Value} {k:Value->Option Res} {r:Res} (h:binK T op t x y k none=some r) :
  (∃kx m ky l,x=.int kx m∧y=.int ky l∧binI op kx m ky l k none=some r) ∨
  (∃b c,x=.bool b∧y=.bool c∧(oK (look T t) (fun i=>descK i (fun _ _=>none) (fun _=>none) (fun _=>none) (eqOpK op (b==c) k none) none none) none)=some r) ∨
  (∃xs ys,x=.agg xs∧y=.agg ys∧eqA T t xs.toList ys.toList (fun b=>eqOpK op b k none) none=some r) ∨
  (∃a b,x=.string a∧y=.string b∧op=.add∧a.size+b.size<=9223372036854775807∧k (.string (a++b))=some r) ∨
  (∃a b,x=.string a∧y=.string b∧eqOpK op (a==b) k none=some r)∨ifcK T op t x y k none=some r:=by
 unfold binK at h
 by_cases hi:ifcK T op t x y k none=some r
 ·exact .inr (.inr (.inr (.inr (.inr hi))))
 cases x<;>simp only[intK,boolK,aggK,strK] at h<;>first | (simp at h;done) | exact absurd h hi | skip
 case int kx m=>cases y<;>simp only at h<;>first | (simp at h;done) | exact .inl ⟨_,_,_,_,rfl,rfl,h⟩
 case bool b=>cases y<;>simp only at h<;>first | (simp at h;done) | exact .inr (.inl ⟨_,_,rfl,rfl,h⟩)
 case agg xs=>cases y<;>simp only at h<;>first | (simp at h;done) | exact .inr (.inr (.inl ⟨_,_,rfl,rfl,h⟩))
 case string a =>
  cases y<;>simp only at h<;>first | (simp at h;done) | skip
  rename_i b
  unfold addTx at h
  split at h
  ·obtain ⟨h1,h2⟩:=cond_some.1 h
   exact .inr (.inr (.inr (.inl ⟨a,b,rfl,rfl,rfl,Nat.le_of_ble_eq_true h1,h2⟩)))
  ·exact .inr (.inr (.inr (.inr (.inl ⟨a,b,rfl,rfl,h⟩))))
  ·exact .inr (.inr (.inr (.inr (.inl ⟨a,b,rfl,rfl,h⟩))))
  ·simp at h
theorem V2_iface {t:TypeId} {x v':Value} (h:V2 R (.iface t x) v'):∃x',v'=.iface t x'∧VI R x x':=h
theorem V2_nilIface {v':Value} (h:V2 R .nilIface v'):v'=.nilIface:=h
theorem V1_of_VI {v v':Value} (h:VI R v v'):V1 R v v':=by
 unfold VI at h
 unfold V1
 split at h
 ·obtain ⟨cs',rfl,hl⟩:=h;exact⟨cs',rfl,LR_mono (fun _ _=>V00_V0) hl⟩
 ·exact V00_V0 h
theorem V00_of_V0 {v v':Value} (h:V0 R v v') (hn:noIf v=true):V00 R v v':=by
 unfold V0 at h
 unfold V00
 split at h
 ·exact h
 ·exact h
 ·exact h
 ·exact h
 ·simp[noIf] at hn
 ·exact h
theorem LR_V00:∀{l l':List Value},LR (V0 R) l l'->l.all noIf=true->LR (V00 R) l l'
 | [],[],_,_=>trivial
 | _::_,_::_,h,hn=>by
  simp only[List.all_cons,Bool.and_eq_true] at hn
  exact⟨V00_of_V0 h.1 hn.1,LR_V00 h.2 hn.2⟩
 | [],_::_,h,_=>h.elim
 | _::_,[],h,_=>h.elim
theorem VI_of_V2 {v v':Value} (h:V2 R v v') (ht:notTup v=true) (hn:v.cells.toList.all noIf=true):VI R v v':=by
 unfold V2 at h
 split at h
 ·simp[notTup] at ht
 ·unfold V1 at h
  unfold VI
  split at h
  ·obtain ⟨cs',rfl,hl⟩:=h
   exact⟨cs',rfl,LR_V00 hl hn⟩
  ·rename_i hne
   refine V00_of_V0 h ?_
   have e1:v.cells=#[v]:=by unfold Value.cells;split<;>first | exact absurd rfl (hne _) | rfl
   rw[e1] at hn
   simpa using hn
theorem con_run (hT:TabOk P T) {t:Nat} {i:TInf} (h:look T t=some i) (hc:conT i=true):∃d,P.underlying t=some d∧∀ms,d≠.interface ms:=by
 obtain ⟨d,hd,h1,h2⟩:=und_some hT h
 refine⟨d,hd,?_⟩
 rintro ms rfl
 cases hs:i.st with
 | false =>
  have:=h1 hs
  unfold conT at hc
  rw[hs,<-this] at hc
  simp at hc
 | true=>obtain ⟨fs,e,_⟩:=h2 hs;cases e
theorem ifcK_some {op:BinOp} {t:Nat} {x y:Value} {k:Value->Option Res} {r:Res} (h:ifcK T op t x y k none=some r) :
  ∃b,((x=.nilIface∧y=.nilIface∧b=true)∨(x=.nilIface∧(∃u z,y=.iface u z)∧b=false)∨((∃u z,x=.iface u z)∧y=.nilIface∧b=false))∧∃i,look T t=some i∧anyT i=true∧eqOpK op b k none=some r:=by
 unfold ifcK ifcB at h
 split at h
 ·obtain ⟨i,hi,h⟩:=oK_some.1 h
  obtain ⟨h1,h2⟩:=cond_some.1 h
  exact⟨true,.inl ⟨rfl,rfl,rfl⟩,i,hi,h1,h2⟩
 ·obtain ⟨i,hi,h⟩:=oK_some.1 h
  obtain ⟨h1,h2⟩:=cond_some.1 h
  exact⟨false,.inr (.inl ⟨rfl,⟨_,_,rfl⟩,rfl⟩),i,hi,h1,h2⟩
 ·obtain ⟨i,hi,h⟩:=oK_some.1 h
  obtain ⟨h1,h2⟩:=cond_some.1 h
  exact⟨false,.inr (.inr ⟨⟨_,_,rfl⟩,rfl,rfl⟩),i,hi,h1,h2⟩
 ·cases h
theorem any_run (hT:TabOk P T) {t:Nat} {i:TInf} (h:look T t=some i) (hc:anyT i=true):P.underlying t=some (.interface #[]):=by
 obtain ⟨d,hd,h1,_⟩:=und_some hT h
 unfold anyT at hc
 cases hs:i.st with
 | true=>rw[hs] at hc;simp at hc
 | false =>
  have:=h1 hs
  rw[hs] at hc
  cases hu:i.und with
  | interface ms =>
   rw[hu] at hc this
   have:ms=#[]:=by simpa using hc
   subst this
   rw[hd];simp_all
  | _=>rw[hu] at hc;simp at hc
theorem eq_iface {t:Nat} {x y:Value} {b:Bool} (hu:P.underlying t=some (.interface #[])) (h:(x=.nilIface∧y=.nilIface∧b=true)∨(x=.nilIface∧(∃u z,y=.iface u z)∧b=false)∨((∃u z,x=.iface u z)∧y=.nilIface∧b=false)) (w:World) :
  (Op.equal t x y).run P w=.ok b w∧∀op o1 o2,(eqGuard op t o1 o2 x y).run P w=.ok () w:=by
 have e:∀d,(Op.equalIn (d+1) t x y).run P w=.ok b w:=by
  intro d
  rcases h with⟨rfl,rfl,rfl⟩ | ⟨rfl,⟨u,z,rfl⟩,rfl⟩ | ⟨⟨u,z,rfl⟩,rfl,rfl⟩<;>simp[Op.equalIn,run_underlying hu]
 refine⟨e 9999,fun op o1 o2=>?_⟩
 rcases h with⟨rfl,rfl,_⟩ | ⟨rfl,⟨u,z,rfl⟩,_⟩ | ⟨⟨u,z,rfl⟩,rfl,_⟩
 ·have e2:∀d,(Op.eqGuardIn (d+1) t .nilIface .nilIface).run P w=.ok false w:=by
   intro d;simp[Op.eqGuardIn,run_underlying hu]
  have e3:(Op.eqGuardIn Op.maxDepth t .nilIface .nilIface).run P w=.ok false w:=e2 9999
  cases op<;>simp[eqGuard,e3]<;>split<;>simp[e3]
 ·rw[eqGuard_nil_iface];rfl
 ·rw[eqGuard_at_iface];rfl
theorem sound_binOp (hT:TabOk P T) (h:Rel w0 n R S a w) {o:Oper} {op:BinOp} {t u:Nat} {x y:Operand} (ho:o.op=.binOp op t x y u) {id:Nat} {r:Res} (hr:opS T G id o.op (evF S.fs) S.fm=some r):PR P R a w o r:=by
 rw[ho] at hr
 simp only[opS,opK,oK_some] at hr
 obtain ⟨vx,hx,vy,hy,hr⟩:=hr
 rcases binK_some hr with⟨kx,m,ky,l,rfl,rfl,h1⟩ | ⟨b,c,rfl,rfl,h1⟩ | ⟨xs,ys,rfl,rfl,h1⟩ | ⟨b,c,rfl,rfl,rfl,h1,h2⟩ | ⟨b,c,rfl,rfl,h1⟩ | h1
 ·have e1:=V2_int (h.ev hx)
  have e2:=V2_int (h.ev hy)
  obtain ⟨v,h2,h3,h4⟩:=binI_run (P:=P) (R:=R) h1 t w
  cases h2
  exact PR.mk (v':=v) (by simp[execOp,ho,e1,e2,eqGuard_int,h3]) h4
 ·have e1:=V2_bool (h.ev hx)
  have e2:=V2_bool (h.ev hy)
  obtain ⟨i,hi,h2⟩:=oK_some.1 h1
  obtain ⟨d,hd1,hd2,_⟩:=und_some hT hi
  obtain ⟨hst,⟨_,_,_,h3⟩ | ⟨_,_,h3⟩ | ⟨_,_,h3⟩ | ⟨hu,h3⟩ | ⟨_,h3⟩⟩:=descK_some h2<;>first | (simp at h3;done) | skip
  have:=hd2 hst;subst this;rw[hu] at hd1
  have he:(Op.equal t (.bool b) (.bool c)).run P w=.ok (b==c) w:=run_equal_bool w t b c hd1
  rcases eqOpK_some h3 with⟨rfl,h4⟩ | ⟨rfl,h4⟩
  ·cases h4;exact PR.mk (v':=.bool (b==c)) (by simp[execOp,ho,e1,e2,eqGuard_bool,binOp,he]) ((V2_plain rfl).2 rfl)
  ·cases h4;exact PR.mk (v':=.bool (!(b==c))) (by simp[execOp,ho,e1,e2,eqGuard_bool,binOp,he]) ((V2_plain rfl).2 rfl)
 ·obtain ⟨xs',e1,l1⟩:=V2_agg (h.ev hx)
  obtain ⟨ys',e2,l2⟩:=V2_agg (h.ev hy)
  obtain ⟨b,h2,h3,h4,h5,h6⟩:=eqA_run hT h1 w
  have:=Array.toList_inj.1 ((LR_plain (r:=V0 R) (pl:=pl0) (fun v v' hv=>V0_plain hv) h5).1 l1);subst this
  have:=Array.toList_inj.1 ((LR_plain (r:=V0 R) (pl:=pl0) (fun v v' hv=>V0_plain hv) h6).1 l2);subst this
  rcases eqOpK_some h2 with⟨rfl,h7⟩ | ⟨rfl,h7⟩
  ·cases h7;exact PR.mk (v':=.bool b) (by simp[execOp,ho,e1,e2,eqGuard_agg h4,binOp,h3]) ((V2_plain rfl).2 rfl)
  ·cases h7;exact PR.mk (v':=.bool (!b)) (by simp[execOp,ho,e1,e2,eqGuard_agg h4,binOp,h3]) ((V2_plain rfl).2 rfl)
 ·have e1:=V2_string (h.ev hx)
  have e2:=V2_string (h.ev hy)
  cases h2
  have e3:(eqGuard BinOp.add t x y (.string b) (.string c)).run P w=.ok () w:=by simp[eqGuard]
  exact PR.mk (v':=.string (b++c)) (by simp[execOp,ho,e1,e2,e3,binOp_string_add,run_string_add_sum w b c h1]) ((V2_plain rfl).2 rfl)
 ·have e1:=V2_string (h.ev hx)
  have e2:=V2_string (h.ev hy)
  have eg:∀op',(eqGuard op' t x y (.string b) (.string c)).run P w=.ok () w:=fun op'=>by cases op'<;>simp[eqGuard]
  have eb:(b.toList==c.toList)=(b==c):=by
   rw[ByteArray.toList_eq,ByteArray.toList_eq]
   cases b with | mk x=>cases c with | mk y =>
   show(x.toList==y.toList)=(x==y)
   rw[Bool.eq_iff_iff];simp
  rcases eqOpK_some h1 with⟨rfl,h4⟩ | ⟨rfl,h4⟩
  ·cases h4;exact PR.mk (v':=.bool (b==c)) (by simp[execOp,ho,e1,e2,eg,binOp,Op.stringOp,eb]) ((V2_plain rfl).2 rfl)
  ·cases h4;exact PR.mk (v':=.bool (!(b==c))) (by simp[execOp,ho,e1,e2,eg,binOp,Op.stringOp,eb]) ((V2_plain rfl).2 rfl)
 ·obtain ⟨b,hxy,i,hi,ha,h2⟩:=ifcK_some h1
  have hu:=any_run hT hi ha
  have hxy':(a.eval x=.nilIface∧a.eval y=.nilIface∧b=true)∨(a.eval x=.nilIface∧(∃u z,a.eval y=.iface u z)∧b=false)∨((∃u z,a.eval x=.iface u z)∧a.eval y=.nilIface∧b=false):=by
   have ex:=h.ev hx
   have ey:=h.ev hy
   rcases hxy with⟨rfl,rfl,e⟩ | ⟨rfl,⟨u,z,rfl⟩,e⟩ | ⟨⟨u,z,rfl⟩,rfl,e⟩
   ·exact .inl ⟨V2_nilIface ex,V2_nilIface ey,e⟩
   ·obtain ⟨z',e2,_⟩:=V2_iface ey;exact .inr (.inl ⟨V2_nilIface ex,⟨_,_,e2⟩,e⟩)
   ·obtain ⟨z',e2,_⟩:=V2_iface ex;exact .inr (.inr ⟨⟨_,_,e2⟩,V2_nilIface ey,e⟩)
  obtain ⟨q1,q2⟩:=eq_iface hu hxy' w
  have fin:∀{X Y:Value},a.eval x=X->a.eval y=Y->(∀op',binOp op' t X Y=(match op' with | .eql=>do pure (.bool (<-Op.equal t X Y)) | .neq=>do pure (.bool (!(<-Op.equal t X Y))) | o'=>binOp o' t X Y))->PR P R a w o r:=by
   intro X Y e1 e2 hb
   rw[e1,e2] at q1 q2
   rcases eqOpK_some h2 with⟨rfl,h4⟩ | ⟨rfl,h4⟩
   ·cases h4;exact PR.mk (v':=.bool b) (by have:=hb .eql;simp only at this;simp[execOp,ho,e1,e2,q2,this,q1]) ((V2_plain rfl).2 rfl)
   ·cases h4;exact PR.mk (v':=.bool (!b)) (by have:=hb .neq;simp only at this;simp[execOp,ho,e1,e2,q2,this,q1]) ((V2_plain rfl).2 rfl)
  rcases hxy' with⟨e1,e2,_⟩ | ⟨e1,⟨_,_,e2⟩,_⟩ | ⟨⟨_,_,e1⟩,e2,_⟩
  ·exact fin e1 e2 fun op'=>by cases op'<;>rfl
  ·exact fin e1 e2 fun op'=>by cases op'<;>rfl
  ·exact fin e1 e2 fun op'=>by cases op'<;>rfl
theorem nsL_row (g:Nat->List Value):∀(n lo:Nat),rowL [.i .u8] g lo n=(nsL g lo n).map (Value.int .u8)
 | 0,_=>rfl
 | n+1,lo=>by
  show nrmK [.i .u8] (g lo)++rowL [.i .u8] g (lo+1) n=_
  rw[nsL_row g n (lo+1)];rfl
theorem nsL_rowR (g:Nat->List Value):∀(n lo:Nat),rowL [.i .i32] g lo n=(nsL g lo n).map (Value.int .i32)
 | 0,_=>rfl
 | n+1,lo=>by
  show nrmK [.i .i32] (g lo)++rowL [.i .i32] g (lo+1) n=_
  rw[nsL_rowR g n (lo+1)];rfl
theorem run_convert_runes_string {P:Program} (w:World) (src dst e:TypeId) (a:Option Addr) (l c:Nat)
  (hs:P.underlying src=some (.slice e)) (he:P.underlying e=some (.int .i32)) (hd:P.underlying dst=some .string) :
  (convert src dst (.slice a l c)).run P w=(Conv.runesToString (.slice a l c)).run P w:=by
 simp[convert,run_underlying hs,run_underlying hd,run_underlying he]
theorem run_forIn_runes {P:Program} {w:World} (f:Value->ByteArray->Sem (ForInStep ByteArray))
  (hf:∀(n:Int) (r:ByteArray),(f (.int .i32 n) r).run P w=.ok (.yield (r++Utf8.encode n)) w) :
  ∀(ns:List Int) (s:ByteArray),(forIn (ns.map (Value.int .i32)) s f).run P w=.ok (ns.foldl (fun r n=>r++Utf8.encode n) s) w:=by
 intro ns
 induction ns with
 | nil=>intro s;simp[Sem.run_pure]
 | cons n ns ih =>
  intro s
  simp only[List.map_cons,List.forIn_cons,Sem.run_bind,hf,Result.andThen,List.foldl_cons]
  exact ih _
theorem run_runesToString {P:Program} (w:World) (a:Addr) (len cap:Nat) (ns:List Int)
  (h:(loadCells a len).run P w=.ok (ns.map (Value.int .i32)).toArray w) :
  (Conv.runesToString (.slice (some a) len cap)).run P w=.ok (.string (ns.foldl (fun r n=>r++Utf8.encode n) ByteArray.empty)) w:=by
 unfold Conv.runesToString
 simp only[Sem.run_bind,h,Result.andThen,List.forIn_toArray]
 rw[run_forIn_runes _ (by intro n r;simp[Sem.run_pure])]
 simp[Sem.run_pure]
theorem nsL_len (g:Nat->List Value):∀(n lo:Nat),(nsL g lo n).length=n
 | 0,_=>rfl
 | n+1,lo=>by simp[nsL,nsL_len g n (lo+1)]
theorem sound_toArr (hT:TabOk P T) (h:Rel w0 n R S a w) {o:Oper} {t:Nat} {x:Operand} (ho:o.op=.sliceToArrayPointer t x) {id:Nat} {r:Res} (hr:opS T G id o.op (evF S.fs) S.fm=some r):PR P R a w o r:=by
 rw[ho] at hr
 simp only[opS,opK,oK_some] at hr
 obtain ⟨vx,hx,i,hi,hr⟩:=hr
 obtain ⟨d,hd1,hd2,_⟩:=und_some hT hi
 obtain ⟨hst,⟨m,e,hu,h2⟩ | ⟨_,_,h2⟩ | ⟨_,_,h2⟩ | ⟨_,h2⟩ | ⟨_,h2⟩⟩:=descK_some hr<;>first | (simp at h2;done) | skip
 have:=hd2 hst;subst this;rw[hu] at hd1
 simp only[sliceK_some,cond_some,Bool.and_eq_true,Bool.not_eq_true'] at h2
 obtain ⟨b,off,len,c,rfl,⟨h3,h4⟩,h5⟩:=h2
 cases h5
 have h3:=Nat.le_of_ble_eq_true h3
 have h4:m≠0:=fun e=>by rw[e] at h4;simp at h4
 obtain ⟨p,hp,hsl⟩:=V2_slice (h.ev hx)
 obtain ⟨b',c',hpa,hev⟩:=SlOk_some hsl (by omega)
 refine PR.mk (v':=.pointer (some ⟨b',p.d+off,none⟩)) ?_ ⟨p,b',hp,hpa,rfl⟩
 have h3':¬(len<m):=by omega
 simp[execOp,ho,hev,Instr.arrayAt,run_underlying hd1,h3']
theorem sound_unOp (h:Rel w0 n R S a w) {o:Oper} {op:UnOp} {t:Nat} {x:Operand} (ho:o.op=.unOp op t x) {id:Nat} {r:Res} (hr:opS T G id o.op (evF S.fs) S.fm=some r):PR P R a w o r:=by
 rw[ho] at hr
 simp only[opS,opK,oK_some] at hr
 obtain ⟨vx,hx,hr⟩:=hr
 have hev:=h.ev hx
 cases vx<;>simp only[unK,intK,boolK] at hr<;>first | (simp at hr;done) | skip
 ·have hev:=V2_bool hev
  cases op<;>simp only[unB] at hr<;>first | (simp at hr;done) | skip
  cases hr;exact PR.mk (v':=.bool _) (by simp[execOp,ho,hev,Op.unary]) ((V2_plain rfl).2 rfl)
 ·have hev:=V2_int hev
  cases op<;>simp only[unI] at hr<;>first | (simp at hr;done) | skip
  ·cases hr;exact PR.mk (v':=.int _ _) (by simp only[execOp,ho,hev,Op.unary,Op.intArith,Sem.run_bind,Sem.run_pure,Result.andThen_ok]) ((V2_plain rfl).2 rfl)
  ·cases hr;exact PR.mk (v':=.int _ _) (by simp only[execOp,ho,hev,Op.unary,Op.intBits,Sem.run_bind,Sem.run_pure,Result.andThen_ok]) ((V2_plain rfl).2 rfl)
theorem sound_convert (hT:TabOk P T) (h:Rel w0 n R S a w) {o:Oper} {s d:Nat} {x:Operand} (ho:o.op=.convert s d x) {id:Nat} {r:Res} (hr:opS T G id o.op (evF S.fs) S.fm=some r):PR P R a w o r∨(∃(v':Value) (w':World),(execOp a.eval o).run P w=.ok (.value v') w'∧V2 R r.val v'∧MRel w0 R (memF S.fm r.mem) w')∨∃sb i j,evF S.fs x=some (.string sb)∧look T s=some i∧look T d=some j∧cvtK T j sb id S.fm some none=some r:=by
 rw[ho] at hr
 simp only[opS,opK,oK_some] at hr
 obtain ⟨vx,hx,i,hi,j,hj,hr⟩:=hr
 by_cases hstr:∃sb,vx=.string sb
 case pos =>
  obtain ⟨sb,rfl⟩:=hstr
  simp only[intK,strK] at hr
  exact .inr (.inr ⟨sb,i,j,hx,hi,hj,hr⟩)
 by_cases hint:∃kd n,vx=.int kd n
 case neg =>
  have e0:intK vx (fun _ n=>descK j (fun _ _=>none) (fun _=>none) (fun kd=>some (val (.int kd (kd.wrap n)))) none (some (val (.string (Utf8.encode n)))) none) (strK vx (fun sb=>cvtK T j sb id S.fm some none) (bif isStrT j then cvrK T i vx S.fm some none else cvsK T s d j vx S.fm some none))=bif isStrT j then cvrK T i vx S.fm some none else cvsK T s d j vx S.fm some none:=by
   cases vx<;>first | rfl | exact absurd ⟨_,_,rfl⟩ hint | exact absurd ⟨_,rfl⟩ hstr
  rw[e0] at hr
  cases hst:isStrT j with
  | true =>
   rw[hst,cond_true] at hr
   obtain ⟨e,je,q,h1,h2,h3,hcase⟩:=cvr_iff.1 hr
   obtain ⟨d0,hd0,hd0',_⟩:=und_some hT hi
   have:=hd0' h1;subst this;rw[h2] at hd0
   obtain ⟨d1,hd1,hd1',_⟩:=und_some hT hj
   have hds:P.underlying d=some .string:=by
    unfold isStrT at hst
    split at hst
    ·rename_i hu
     have:=hd1' (by simpa using hst);subst this;rw[hd1,hu]
    ·simp at hst
   rcases hcase with⟨h4,h5,rfl⟩ | ⟨_,h4',h5,rfl⟩
   ·obtain ⟨d2,he1,he2,_⟩:=und_some hT h3
    have hu8:P.underlying e=some (.int .u8):=by
     unfold isU8T at h4
     split at h4
     ·rename_i hu
      have:=he2 (by simpa using h4);subst this;rw[he1,hu]
     ·simp at h4
    have hv:=h.ev hx
    obtain ⟨hlen,hfirst⟩:=src_run (P:=P) h.m h5 hv
    have hfirst:=hfirst q.n (Nat.le_refl _)
    obtain ⟨a0,m,c,hev⟩:∃a0 m c,a.eval x=.slice a0 m c:=by
     unfold srcS srcK at h5
     split at h5
     ·exact⟨_,_,_,(V2_plain rfl).1 hv⟩
     ·rename_i b off m c
      obtain ⟨p,hp,hsl⟩:=V2_slice hv
      cases hlo:loose b with
      | false=>obtain ⟨b',_,h6⟩:=SlOk_tight hlo hsl;exact⟨_,_,_,h6⟩
      | true =>
       obtain ⟨_,_,⟨b',_,h6⟩ | ⟨_,_,_,a0,h6⟩⟩:=SlOk_loose hlo hsl
       ·exact⟨_,_,_,h6⟩
       ·exact⟨_,_,_,h6⟩
     ·exact absurd ⟨_,rfl⟩ hstr
     ·simp at h5
    rw[hev] at hlen hfirst
    have hm:m=q.n:=by
     have:=hlen w
     simpa [Builtin.lenOf] using this
    subst hm
    left
    refine⟨rfl,.string (rowS q.n q.g),?_,(V2_plain rfl).2 rfl⟩
    cases a0 with
    | none =>
     have h0:rowL [.i .u8] q.g 0 q.n=[]:=by
      have:=hfirst
      simp[Builtin.firstCells] at this
      first | exact this | exact this.symm
     have h1:q.n=0:=by
      have:=congrArg List.length h0
      rw[rowL_len] at this
      simpa using this
     have h2:rowS q.n q.g=ByteArray.empty:=by rw[h1];rfl
     rw[h2]
     simp only[execOp,ho,hev,Sem.run_bind,run_convert_bytes_string w s d e none _ _ hd0 hu8 hds,Conv.bytesToString,Sem.run_pure,Result.andThen_ok]
    | some a0 =>
     have h1:(loadCells a0 q.n).run P w=.ok ((nsL q.g 0 q.n).map (Value.int .u8)).toArray w:=by
      rw[<-nsL_row]
      have:=hfirst
      simp only[Builtin.firstCells,List.length_cons,List.length_nil,Nat.zero_add,Nat.mul_one] at this
      exact this
     simp only[execOp,ho,hev,Sem.run_bind,run_convert_bytes_string w s d e (some a0) _ _ hd0 hu8 hds,run_bytesToString w a0 q.n c _ h1,Result.andThen_ok,Sem.run_pure,rowS]
   ·obtain ⟨d2,he1,he2,_⟩:=und_some hT h3
    have hu32:P.underlying e=some (.int .i32):=by
     unfold isI32T at h4'
     split at h4'
     ·rename_i hu
      have:=he2 (by simpa using h4');subst this;rw[he1,hu]
     ·simp at h4'
    have hv:=h.ev hx
    obtain ⟨hlen,hfirst⟩:=src_run (P:=P) h.m h5 hv
    have hfirst:=hfirst q.n (Nat.le_refl _)
    obtain ⟨a0,m,c,hev⟩:∃a0 m c,a.eval x=.slice a0 m c:=by
     unfold srcS srcK at h5
     split at h5
     ·exact⟨_,_,_,(V2_plain rfl).1 hv⟩
     ·rename_i b off m c
      obtain ⟨p,hp,hsl⟩:=V2_slice hv
      cases hlo:loose b with
      | false=>obtain ⟨b',_,h6⟩:=SlOk_tight hlo hsl;exact⟨_,_,_,h6⟩
      | true =>
       obtain ⟨_,_,⟨b',_,h6⟩ | ⟨_,_,_,a0,h6⟩⟩:=SlOk_loose hlo hsl
       ·exact⟨_,_,_,h6⟩
       ·exact⟨_,_,_,h6⟩
     ·exact absurd ⟨_,rfl⟩ hstr
     ·simp at h5
    rw[hev] at hlen hfirst
    have hm:m=q.n:=by
     have:=hlen w
     simpa [Builtin.lenOf] using this
    subst hm
    left
    refine⟨rfl,.string (rowRn q.n q.g),?_,(V2_plain rfl).2 rfl⟩
    cases a0 with
    | none =>
     have h0:rowL [.i .i32] q.g 0 q.n=[]:=by
      have:=hfirst
      simp[Builtin.firstCells] at this
      first | exact this | exact this.symm
     have h1:q.n=0:=by
      have:=congrArg List.length h0
      rw[rowL_len] at this
      simpa using this
     have h2:rowRn q.n q.g=ByteArray.empty:=by rw[h1];rfl
     rw[h2]
     simp only[execOp,ho,hev,Sem.run_bind,run_convert_runes_string w s d e none _ _ hd0 hu32 hds,Conv.runesToString,Sem.run_pure,Result.andThen_ok]
    | some a0 =>
     have h1:(loadCells a0 q.n).run P w=.ok ((nsL q.g 0 q.n).map (Value.int .i32)).toArray w:=by
      rw[<-nsL_rowR]
      have:=hfirst
      simp only[Builtin.firstCells,List.length_cons,List.length_nil,Nat.zero_add,Nat.mul_one] at this
      exact this
     simp only[execOp,ho,hev,Sem.run_bind,run_convert_runes_string w s d e (some a0) _ _ hd0 hu32 hds,run_runesToString w a0 q.n c _ h1,Result.andThen_ok,Sem.run_pure,rowRn]
  | false =>
  rw[hst,cond_false] at hr
  obtain ⟨b,off,n,c,e,je,blk,l,rfl,h2,h3,h4,rfl,h6,h7,h8,h9,h10,rfl⟩:=cvs_iff.1 hr
  obtain ⟨d1,hd1,hd2,_⟩:=und_some hT hj
  have:=hd2 h2;subst this;rw[h3] at hd1
  obtain ⟨d2,he1,he2,_⟩:=und_some hT h4
  have hu8:P.underlying e=some (.int .u8):=by
   unfold isU8T at h6
   split at h6
   ·rename_i hu
    have:=he2 (by simpa using h6);subst this;rw[he1,hu]
   ·simp at h6
  obtain ⟨p,hp,hsl⟩:=V2_slice (h.ev hx)
  obtain ⟨b',hpa,hev⟩:=SlOk_tight h10 hsl
  obtain ⟨cells,elem,own⟩:=blk
  simp only at h8 h9
  subst h8 h9
  obtain ⟨p',hp',hcont⟩:=memOk_lst h.m h7
  have:=h.m.func _ _ _ hp hp';subst this
  rw[hpa] at hcont
  obtain ⟨cs,⟨f1,f2⟩,k1,k2,k3⟩:=hcont
  obtain ⟨_,hge,_⟩:=k3 rfl
  right;left
  refine⟨_,setBlk w b' (.cells cs elem (if f1=f2 then (cs.size,cs.size+1) else (min f1 cs.size,max f2 (cs.size+1)))),?_,h.ev hx,h.m.mark (blk:=⟨.lst l,elem,true⟩) h7 hp hpa rfl k1 hge nofun nofun nofun⟩
  have hshape:w.shape? b'=some (elem,cs.size):=by unfold World.shape?;rw[k1]
  have hfr:w.freeze ⟨b',cs.size,none⟩ 1=setBlk w b' (.cells cs elem (if f1=f2 then (cs.size,cs.size+1) else (min f1 cs.size,max f2 (cs.size+1)))):=by
   unfold World.freeze setBlk
   rw[if_neg (by decide)]
   congr 1
   apply Array.ext
   ·simp
   ·intro q h1 h2
    rw[Array.getElem_modify,Array.getElem_setIfInBounds (by simpa using h1)]
    by_cases hq:b'=q
    ·subst hq
     have hk:w.heap[b']?=some (.cells cs elem (f1,f2)):=k1
     rw[Array.getElem?_eq_getElem (by simpa using h1)] at hk
     rw[if_pos rfl,if_pos rfl,Option.some.inj hk]
     simp only[beq_iff_eq]
    ·rw[if_neg hq,if_neg hq]
  simp[execOp,ho,hev,convert,run_underlying hd1,run_underlying hu8,markStringish,hshape]
  exact hfr
 obtain ⟨kx,m,rfl⟩:=hint
 simp only[intK] at hr
 left
 have hev:=V2_int (h.ev hx)
 obtain ⟨d1,hd1,_,_⟩:=und_some hT hi
 obtain ⟨d2,hd2,hd3,_⟩:=und_some hT hj
 obtain ⟨hst,⟨_,_,_,h3⟩ | ⟨_,_,h3⟩ | ⟨kd,hu,h3⟩ | ⟨_,h3⟩ | ⟨hu,h3⟩⟩:=descK_some hr<;>first | (simp at h3;done) | skip
 ·have:=hd3 hst;subst this;rw[hu] at hd2
  cases h3
  refine PR.mk (v':=.int kd (kd.wrap m)) ?_ ((V2_plain rfl).2 rfl)
  simp only[execOp,ho,hev,convert,Sem.run_bind,run_underlying hd1,run_underlying hd2,Result.andThen_ok]
  cases d1<;>simp[Conv.intToInt]
 ·have:=hd3 hst;subst this;rw[hu] at hd2
  cases h3
  refine PR.mk (v':=.string (Utf8.encode m)) ?_ ((V2_plain rfl).2 rfl)
  simp[execOp,ho,hev,convert,run_underlying hd1,run_underlying hd2,Conv.intToString]
end
end Go.W

namespace Go.W
section
variable {P:Program} {T:Tab} {G:Sums} {GL:Glob} {w0:Wb GL} {w:World} {n:Nat} {R:Nat->Pl->Prop} {S:FS} {a:Act}
theorem parts_run (h:Rel w0 n R S a w) {β:Type}:∀(ps:List (Nat×Operand)) {k:List (Nat×Value)->Option β} {r:β},partsK (evF S.fs) ps k none=some r ->
  ∃vs,k vs=some r∧vs.map (·.1)=ps.map (·.1)∧LR (V2 R) (vs.map (·.2)) (ps.map fun p=>a.eval p.2)
 | [],k,r,hr=>⟨[],hr,rfl,trivial⟩
 | p::ps,k,r,hr=>by
  simp only[partsK,oK_some] at hr
  obtain ⟨v,hv,hr⟩:=hr
  obtain ⟨vs,h1,h2,h3⟩:=parts_run h ps hr
  exact⟨(p.1,v)::vs,h1,by simp[h2],h.ev hv,h3⟩
theorem foldl_set (cs:List Value) (off:Nat):∀(l:List Value) (j:Nat) (acc:Array Value),acc.toList=cs->off+j+l.length<=cs.length ->
  ((l.zipIdx j).foldl (fun(A:Array Value) (q:Value×Nat)=>A.setIfInBounds (off+q.2) q.1) acc).toList=cs.take (off+j)++l++cs.drop (off+j+l.length)
 | [],j,acc,h,hl=>by simp[h]
 | v::l,j,acc,h,hl=>by
  simp only[List.length_cons] at hl
  simp only[List.zipIdx_cons,List.foldl_cons]
  rw[foldl_set (cs.set (off+j) v) off l (j+1) _ (by simp[h]) (by simp;omega)]
  have hlt:off+j<cs.length:=by omega
  rw[List.take_set,List.drop_set,if_pos (by omega)]
  rw[show off+(j+1)=(off+j)+1 from by omega,List.take_succ_eq_append_getElem hlt]
  rw[List.set_append_right _ _ (by simp only[List.length_take];omega)]
  simp only[List.length_take,List.append_assoc,List.length_cons]
  rw[show off+j - min (off+j) cs.length=0 from by omega]
  simp only[List.set_cons_zero,List.cons_append,List.nil_append]
  rw[show off+j+1+l.length=off+j+(l.length+1) from by omega]
theorem fill_run {place:Nat->Option (Nat×Nat)} {place':Nat->Option (Nat×Nat)} (hp:∀m q,place m=some q->place' m=some q) :
  ∀(vs:List (Nat×Value)) (us:List (Nat×Value)),vs.map (·.1)=us.map (·.1)->LR (V2 R) (vs.map (·.2)) (us.map (·.2)) ->
   ∀(cells:List Value) (cells':Array Value) {k:List Value->Option Res} {r:Res},LR (V0 R) cells cells'.toList->fillK place vs cells k none=some r ->
    ∃cs cs',k cs=some r∧Instr.fill place' cells' us=some cs'∧LR (V0 R) cs cs'.toList
 | [],[],_,_,cells,cells',k,r,hl,hk=>⟨cells,cells',hk,rfl,hl⟩
 | v::vs,u::us,h1,h2,cells,cells',k,r,hl,hk=>by
  simp only[List.map_cons,List.cons.injEq] at h1
  simp only[List.map_cons,LR] at h2
  simp only[fillK,oK_some,cond_some,Bool.and_eq_true] at hk
  obtain ⟨q,hq,⟨⟨ht,hs⟩,hle⟩,hk⟩:=hk
  have hs:=nbeq.1 hs
  have hle:=Nat.le_of_ble_eq_true hle
  have hc:=V2_cells h2.1 (notTup_ne ht)
  have hlen:=LR_len hc
  have hlen':=LR_len hl
  have hpl:place' u.1=some q:=by rw[<-h1.1];exact hp _ _ hq
  have e1:u.2.cells.size=q.2:=by rw[<-Array.length_toList,<-hlen,hs]
  have e2:cells'.size=cells.length:=by rw[<-Array.length_toList,<-hlen']
  obtain ⟨cs,cs',h3,h4,h5⟩:=fill_run hp vs us h1.2 h2.2 _ (u.2.cells.zipIdx.foldl (fun cs (c,j)=>cs.setIfInBounds (q.1+j) c) cells') (k:=k) (r:=r) (by
   rw[<-Array.foldl_toList,Array.toList_zipIdx,foldl_set cells'.toList q.1 u.2.cells.toList 0 cells' rfl (by simp[e1,e2];omega)]
   have hx:q.1+0+u.2.cells.toList.length=q.1+q.2:=by simp[e1]
   rw[hx]
   exact LR_append (LR_append (by simpa using LR_take q.1 hl) hc) (LR_drop _ hl)) hk
  refine⟨cs,cs',h3,?_,h5⟩
  unfold Instr.fill
  simp only[hpl,e1,ne_eq,not_true_eq_false,decide_false,Bool.false_or,decide_eq_true_eq]
  rw[if_neg (by rw[e2];omega)]
  exact h4
 | [],_::_,h1,_,_,_,_,_,_,_=>by simp at h1
 | _::_,[],h1,_,_,_,_,_,_,_=>by simp at h1
theorem run_zero (hT:TabOk P T) {t:Nat} {i:TInf} (h:look T t=some i) (w:World):(zeroValue t).run P w=.ok i.zer w:=by
 obtain ⟨inf,h1,_,h3,_⟩:=info_of hT h
 simp[zeroValue,run_typeInfo w h1,h3]
theorem plain_cells {v:Value} (h:pl1 v=true) (ht:notTup v=true):LR (V0 R) v.cells.toList v.cells.toList :=
 V2_cells ((V2_plain (by unfold pl2;split;· simp[notTup] at ht
                         ·exact h)).2 rfl) (notTup_ne ht)
theorem places_run (hT:TabOk P T) {i:TInf} {w:World}:∀(fs:List Field),(∀f∈fs,∃j,look T f.type=some j) ->
  (fs.mapM (fun f=>do pure (f.offset,<-sizeOf f.type)):Sem (List (Nat×Nat))).run P w=.ok (fs.map fun f=>(f.offset,P.cellsOf f.type)) w
 | [],_=>rfl
 | f::fs,h=>by
  obtain ⟨j,hj⟩:=h f (by simp)
  have ih:=places_run hT (i:=i) (w:=w) fs fun g hg=>h g (by simp[hg])
  simp only[List.mapM_cons,Sem.run_bind,run_size hT hj,Result.andThen_ok,Sem.run_pure,ih,List.map_cons,cellsOf_of hT hj]
theorem sound_makeI (hT:TabOk P T) (h:Rel w0 n R S a w) {o:Oper} {t:Nat} {x:Operand} (ho:o.op=.makeInterface t x) {id:Nat} {r:Res} (hr:opS T G id o.op (evF S.fs) S.fm=some r):PR P R a w o r:=by
 rw[ho] at hr
 simp only[opS,opK,oK_some,cond_some,Bool.and_eq_true] at hr
 obtain ⟨v,hv,i,hi,⟨⟨hc,ht⟩,hn⟩,hr⟩:=hr
 cases hr
 obtain ⟨d,hd,hne⟩:=con_run hT hi hc
 have hrun:(Instr.makeInterface t (a.eval x)).run P w=.ok (.iface t (a.eval x)) w:=by
  cases d<;>first | exact absurd rfl (hne _) | simp[Instr.makeInterface,run_underlying hd]
 exact PR.mk (v':=.iface t (a.eval x)) (by simp[execOp,ho,hrun]) (show V2 R (.iface t v) _ from ⟨_,rfl,VI_of_V2 (h.ev hv) ht hn⟩)
theorem sound_assert (hT:TabOk P T) (h:Rel w0 n R S a w) {o:Oper} {s t:Nat} {ok:Bool} {x:Operand} (ho:o.op=.typeAssert x s t ok) {id:Nat} {r:Res} (hr:opS T G id o.op (evF S.fs) S.fm=some r):PR P R a w o r:=by
 rw[ho] at hr
 simp only[opS,opK,asrtK,oK_some,cond_some] at hr
 obtain ⟨v,hv,i,hi,hc,hr⟩:=hr
 obtain ⟨d,hd,hne⟩:=con_run hT hi hc
 have hev:=h.ev hv
 have hz:∀(u:World),(zeroValue t).run P u=.ok i.zer u:=run_zero hT hi
 have run1:(Instr.typeAssert .nilIface s t true).run P w=.ok (.tuple #[i.zer,.bool false]) w:=by
  cases d<;>first | exact absurd rfl (hne _) | simp[Instr.typeAssert,run_underlying hd,hz]
 have run2:∀(t':TypeId) (u:Value),t'≠t->(Instr.typeAssert (.iface t' u) s t true).run P w=.ok (.tuple #[i.zer,.bool false]) w:=by
  intro t' u hne2
  cases d<;>first | exact absurd rfl (hne _) | simp[Instr.typeAssert,run_underlying hd,hz,hne2]
 have run3:∀(u:Value) (b:Bool),(Instr.typeAssert (.iface t u) s t b).run P w=.ok (bif b then .tuple #[u,.bool true] else u) w:=by
  intro u b
  cases d<;>first | exact absurd rfl (hne _) | (cases b<;>simp[Instr.typeAssert,run_underlying hd])
 have zer:notTup i.zer=true->pl1 i.zer=true->V2 R (.tuple #[i.zer,.bool false]) (.tuple #[i.zer,.bool false]):=fun h1 h2 =>
  ⟨_,rfl,(V1_plain h2).2 rfl,(V1_plain rfl).2 rfl,trivial⟩
 unfold ifcV at hr
 split at hr
 ·simp only[cond_some,Bool.and_eq_true] at hr
  obtain ⟨⟨⟨rfl,h1⟩,h2⟩,hr⟩:=hr
  cases hr
  have e:=V2_nilIface hev
  exact PR.mk (v':=.tuple #[i.zer,.bool false]) (by simp[execOp,ho,e,run1]) (zer h1 h2)
 ·rename_i t' u
  obtain ⟨u',e,hu⟩:=V2_iface hev
  have h9:=hr
  clear hr
  obtain ⟨hnt,hr⟩:=cond_some.1 h9
  clear h9
  cases hb:Nat.beq t' t with
  | true =>
   have:=nbeq.1 hb;subst this
   rw[hb,cond_true] at hr
   cases ok with
   | true =>
    cases hr
    exact PR.mk (v':=.tuple #[u',.bool true]) (by simp[execOp,ho,e,run3]) ⟨_,rfl,V1_of_VI hu,(V1_plain rfl).2 rfl,trivial⟩
   | false =>
    cases hr
    exact PR.mk (v':=u') (by simp[execOp,ho,e,run3]) (V2_of_V1 (V1_of_VI hu))
  | false =>
   rw[hb,cond_false] at hr
   simp only[cond_some,Bool.and_eq_true] at hr
   obtain ⟨⟨⟨rfl,h1⟩,h2⟩,hr⟩:=hr
   cases hr
   have hne2:t'≠t:=fun e=>by subst e;rw[Nat.beq_refl] at hb;cases hb
   exact PR.mk (v':=.tuple #[i.zer,.bool false]) (by simp[execOp,ho,e,run2 t' u' hne2]) (zer h1 h2)
 ·cases hr
theorem sound_build (hT:TabOk P T) (h:Rel w0 n R S a w) {o:Oper} {t:Nat} {ps:Array (Nat×Operand)} (ho:o.op=.build t ps) {id:Nat} {r:Res} (hr:opS T G id o.op (evF S.fs) S.fm=some r):PR P R a w o r:=by
 rw[ho] at hr
 simp only[opS,opK,oK_some] at hr
 obtain ⟨i,hi,hr⟩:=hr
 obtain ⟨vs,hr,h1,h2⟩:=parts_run h _ hr
 simp only[cond_some,Bool.and_eq_true] at hr
 obtain ⟨⟨ht,hp⟩,hr⟩:=hr
 have hz:=plain_cells (R:=R) hp ht
 have h1':vs.map (·.1)=(ps.toList.map fun p=>(p.1,a.eval p.2)).map (·.1):=by rw[h1];simp
 have h2':LR (V2 R) (vs.map (·.2)) ((ps.toList.map fun p=>(p.1,a.eval p.2)).map (·.2)):=by rw[List.map_map];exact h2
 have hparts:(ps.map fun(i,x)=>(i,a.eval x)).toList=ps.toList.map fun p=>(p.1,a.eval p.2):=by simp
 obtain ⟨d,hd1,hd2,hd3⟩:=und_some hT hi
 cases hst:i.st with
 | true =>
  simp only[hst,cond_true,cond_some] at hr
  obtain ⟨hall,hr⟩:=hr
  obtain ⟨fs,rfl,hfs⟩:=hd3 hst
  have hin:∀f∈fs.toList,∃j,look T f.type=some j:=by
   intro f hf
   have:=List.all_eq_true.1 hall (f.offset,f.type) (by rw[<-hfs];exact List.mem_map.2 ⟨f,hf,rfl⟩)
   exact Option.isSome_iff_exists.1 this
  obtain ⟨cs,cs',h3,h4,h5⟩:=fill_run (place':=((fs.map fun f=>(f.offset,P.cellsOf f.type))[·]?)) (by
   intro m q hq
   simp only[placeOf,<-hfs,List.getElem?_map,Option.bind_eq_some_iff,Option.map_eq_some_iff] at hq
   obtain ⟨fl,⟨f,hf,rfl⟩,j,hj,rfl⟩:=hq
   rw[Array.getElem?_toList] at hf
   simp only[Array.getElem?_map,hf,Option.map_some,cellsOf_of hT hj]) vs _ h1' h2' _ i.zer.cells hz hr
  cases h3
  refine PR.mk (v':=.agg cs') ?_ ⟨_,rfl,by simpa using h5⟩
  have hpl:(fs.mapM (fun f=>do pure (f.offset,<-sizeOf f.type)):Sem (Array (Nat×Nat))).run P w=.ok (fs.map fun f=>(f.offset,P.cellsOf f.type)) w:=by
   rw[Array.mapM_eq_mapM_toList]
   simp only[Sem.run_map,places_run hT (i:=i) fs.toList hin,Result.andThen_ok]
   congr 1
   apply Array.ext'
   simp
  simp only[execOp,ho,Instr.build,Sem.run_bind,run_zero hT hi,Result.andThen_ok,run_underlying hd1,hpl,hparts,h4,Sem.run_pure]
 | false =>
  simp only[hst,cond_false] at hr
  obtain ⟨_,⟨m,e,hu,h3⟩ | ⟨_,_,h3⟩ | ⟨_,_,h3⟩ | ⟨_,h3⟩ | ⟨_,h3⟩⟩:=descK_some hr<;>first | (simp at h3;done) | skip
  have:=hd2 hst;subst this;rw[hu] at hd1
  obtain ⟨j,hj,h3⟩:=oK_some.1 h3
  obtain ⟨cs,cs',h4,h5,h6⟩:=fill_run (place':=fun m=>some (m*j.siz,j.siz)) (fun _ _ h=>h) vs _ h1' h2' _ i.zer.cells hz h3
  cases h4
  refine PR.mk (v':=.agg cs') ?_ ⟨_,rfl,by simpa using h6⟩
  simp only[execOp,ho,Instr.build,Sem.run_bind,run_zero hT hi,Result.andThen_ok,run_underlying hd1,run_size hT hj,hparts,h5,Sem.run_pure]
theorem repL_len (z:List Value):∀n,(repL n z).length=n*z.length
 | 0=>by simp[repL]
 | n+1=>by simp[repL,repL_len z n,Nat.add_mul,Nat.add_comm]
theorem repL_get (z:List Value):∀(n i:Nat),i<n*z.length->(repL n z)[i]?=z[i % z.length]?
 | 0,i,h=>by simp at h
 | n+1,i,h=>by
  rw[Nat.add_mul,Nat.one_mul] at h
  unfold repL
  by_cases hi:i<z.length
  ·rw[List.getElem?_append_left hi,Nat.mod_eq_of_lt hi]
  ·rw[List.getElem?_append_right (by omega),repL_get z n (i - z.length) (by omega),Nat.mod_eq_sub_mod (a:=i) (by omega)]
theorem repL_range {z:Array Value} {n:Nat} (hz:z.size≠0):(Array.range (n*z.size)).map (z[· % z.size]!)=(repL n z.toList).toArray:=by
 apply Array.ext'
 apply List.ext_getElem?
 intro i
 by_cases hi:i<n*z.size
 ·rw[repL_get z.toList n i (by rw[Array.length_toList];exact hi)]
  have hlt:i % z.size<z.size:=Nat.mod_lt _ (by omega)
  simp[hi,hlt]
 ·rw[List.getElem?_eq_none (by simp;omega),List.getElem?_eq_none (by rw[List.toList_toArray,repL_len,Array.length_toList];omega)]
theorem LR_rep {z z':List Value} (h:LR (V0 R) z z'):∀n,LR (V0 R) (repL n z) (repL n z')
 | 0=>trivial
 | n+1=>LR_append h (LR_rep h n)
theorem opt_run (h:Rel w0 n R S a w) {β:Type} {x:Option Operand} {k:Option Value->Option β} {r:β} (hr:optK (evF S.fs) x k none=some r) :
  ∃v,k v=some r∧((x=none∧v=none)∨∃y u,x=some y∧v=some u∧V2 R u (a.eval y)):=by
 cases x with
 | none=>exact⟨none,hr,.inl ⟨rfl,rfl⟩⟩
 | some y =>
  simp only[optK,oK_some] at hr
  obtain ⟨v,hv,hr⟩:=hr
  exact⟨some v,hr,.inr ⟨y,v,rfl,rfl,h.ev hv⟩⟩
theorem zOpt_some {v:Value} (h:zOpt (some v)=true):∃kd,v=.int kd 0:=by
 cases v<;>simp[zOpt] at h
 subst h;exact⟨_,rfl⟩
theorem sound_slice (hT:TabOk P T) (h:Rel w0 n R S a w) {o:Oper} {t:Nat} {x:Operand} {lo hi mx:Option Operand} (ho:o.op=.slice t x lo hi mx) {id:Nat} {r:Res} (hr:opS T G id o.op (evF S.fs) S.fm=some r) :
  PR P R a w o r∨∃(b b2 L2 L H c sz:Nat) (e:TypeId) (p q:Pl),S.fm (nid id 0)=none∧id<60000∧r=⟨.slice (some ⟨nid id 0,0,none⟩) (H - L) (c - L),[(nid id 0,⟨.tail b2 L2 (H - L) sz,e,false⟩)],[nid id 0,b]⟩∧loose b=true∧R b p∧c - L<=q.c∧(∃p2,R b2 p2∧(H - L=0∨(q.a=p2.a∧q.d=p2.d+L2*sz∧q.c+L2<=p2.c)))∧q.a=p.a ∧
   ((∃b',q.a=some b'∧(execOp a.eval o).run P w=.ok (.value (.slice (some ⟨b',q.d,none⟩) (H - L) q.c)) w)∨(q.a=none∧H - L=0∧q.c=0∧∃a0,(execOp a.eval o).run P w=.ok (.value (.slice a0 0 0)) w)):=by
 rw[ho] at hr
 cases mx with
 | some m=>simp[opS,opK,noneK] at hr
 | none =>
  simp only[opS,opK,noneK,oK_some] at hr
  obtain ⟨vx,hx,hr⟩:=hr
  obtain ⟨l,hr,hl⟩:=opt_run h hr
  obtain ⟨u,hr,hu⟩:=opt_run h hr
  obtain ⟨i,hi',hr⟩:=oK_some.1 hr
  obtain ⟨d,hd1,hd2,_⟩:=und_some hT hi'
  obtain ⟨hst,⟨m,e,hue,h3⟩ | ⟨e,hue,h3⟩ | ⟨_,_,h3⟩ | ⟨_,h3⟩ | ⟨hue,h3⟩⟩:=descK_some hr<;>first | (simp at h3;done) | skip
  ·have:=hd2 hst;subst this;rw[hue] at hd1
   simp only[ptrK_some,oK_some] at h3
   obtain ⟨b,off,rfl,j,hj,h3⟩:=h3
   obtain ⟨p,b',hp,hpa,hev⟩:=V2_ptr (h.ev hx)
      -- the upper bound
   obtain ⟨H,hH,h4⟩:∃H,(match hi.map a.eval with
     | some v=>Instr.sliceBound v m (.sliceAlen)
     | none=>pure m).run P w=.ok H w∧lowK H l (fun l=>bif loose b then none else some (val (.slice (some ⟨b,bif Nat.beq m l then off else off+l*j.siz,none⟩) (H - l) (m - l)))) none=some r:=by
    rcases hu with⟨rfl,rfl⟩ | ⟨y,v,rfl,rfl,hv⟩
    ·exact⟨m,rfl,h3⟩
    ·simp only[highK,intK_some,cond_some,Bool.and_eq_true,decide_eq_true_eq] at h3
     obtain ⟨kd,q,rfl,hq,h3⟩:=h3
     have hev:=V2_int hv
     refine⟨q.toNat,?_,h3⟩
     simp[Instr.sliceBound,hev,asIntOf,hq]
   obtain ⟨L,hL,h5⟩:∃L,(match lo.map a.eval with
     | some v=>Instr.sliceBound v H (.sliceB)
     | none=>pure 0).run P w=.ok L w∧(bif loose b then none else some (val (.slice (some ⟨b,bif Nat.beq m L then off else off+L*j.siz,none⟩) (H - L) (m - L))))=some r:=by
    rcases hl with⟨rfl,rfl⟩ | ⟨y,v,rfl,rfl,hv⟩
    ·exact⟨0,rfl,h4⟩
    ·unfold lowK at h4
     simp only[intK_some] at h4
     obtain ⟨kd,q,rfl,h4⟩:=h4
     obtain ⟨hq,h4⟩:=cond_some.1 h4
     simp only[Bool.and_eq_true,decide_eq_true_eq] at hq
     have hev:=V2_int hv
     refine⟨q.toNat,?_,h4⟩
     simp[Instr.sliceBound,hev,asIntOf,hq]
   obtain ⟨hlo,h5⟩:=cond_none.1 h5
   cases h5
   left
   refine PR.mk (v':=.slice (some ⟨b',p.d+(bif Nat.beq m L then off else off+L*j.siz),none⟩) (H - L) (m - L)) ?_ ⟨p,hp,?_⟩
   ·have hbounds:(Instr.sliceBounds false m m (lo.map a.eval) (hi.map a.eval) none).run P w=.ok (L,H,m) w:=by
     unfold Instr.sliceBounds
     cases hhi:hi.map a.eval with
     | none =>
      rw[hhi] at hH
      cases hlo:lo.map a.eval with
      | none=>rw[hlo] at hL;simp at hH hL;simp[hH,hL]
      | some v=>rw[hlo] at hL;simp at hH;subst hH;simp at hL;simp[hL]
     | some v =>
      rw[hhi] at hH
      simp only at hH
      cases hlo:lo.map a.eval with
      | none=>rw[hlo] at hL;simp at hL;simp[hH,hL]
      | some v=>rw[hlo] at hL;simp at hL;simp[hL,hH]
    simp only[execOp,ho,hev,Instr.sliceAt,Sem.run_bind,run_underlying hd1,Result.andThen_ok,Instr.sureAddr,Sem.run_pure,Option.map_none,hbounds,run_size hT hj]
    congr 3
    by_cases hm:m=L
    ·subst hm;simp
    ·rw[if_neg hm,nbeq_ne hm];simp[addr_add,Nat.add_assoc]
   ·unfold SlOk
    rw[if_neg (by simp[hlo])]
    exact⟨b',hpa,rfl⟩
  ·have:=hd2 hst;subst this;rw[hue] at hd1
   have hs3:=slK_some.1 h3
   clear h3
   rcases hs3 with⟨n0,c0,rfl,h3⟩ | ⟨b,off,m,c,rfl,h3⟩
   ·obtain ⟨j,hj,h3⟩:=oK_some.1 h3
    have hz:=(cond_some.1 h3).1
    have hr0:=(cond_some.1 h3).2
    clear h3
    cases hr0
    simp only[Bool.and_eq_true] at hz
    obtain ⟨⟨⟨z1,z2⟩,z3⟩,z4⟩:=hz
    have z1:=nbeq.1 z1;subst z1
    have z2:=nbeq.1 z2;subst z2
    have hev:=(V2_plain (R:=R) (v:=.slice none 0 0) rfl).1 (h.ev hx)
    have hH:(match hi.map a.eval with
      | some v=>Instr.sliceBound v 0 (.sliceAcap)
      | none=>pure 0).run P w=.ok 0 w:=by
     rcases hu with⟨rfl,rfl⟩ | ⟨y,v,rfl,rfl,hv⟩
     ·rfl
     ·obtain ⟨kd,rfl⟩:=zOpt_some z4
      have hev2:=V2_int hv
      simp[Instr.sliceBound,hev2,asIntOf]
    have hL:(match lo.map a.eval with
      | some v=>Instr.sliceBound v 0 (.sliceB)
      | none=>pure 0).run P w=.ok 0 w:=by
     rcases hl with⟨rfl,rfl⟩ | ⟨y,v,rfl,rfl,hv⟩
     ·rfl
     ·obtain ⟨kd,rfl⟩:=zOpt_some z3
      have hev2:=V2_int hv
      simp[Instr.sliceBound,hev2,asIntOf]
    have hbounds:(Instr.sliceBounds true 0 0 (lo.map a.eval) (hi.map a.eval) none).run P w=.ok (0,0,0) w:=by
     unfold Instr.sliceBounds
     cases hhi:hi.map a.eval with
     | none =>
      cases hlo2:lo.map a.eval with
      | none=>simp
      | some v=>rw[hlo2] at hL;simp at hL;simp[hL]
     | some v =>
      rw[hhi] at hH
      simp only at hH
      cases hlo2:lo.map a.eval with
      | none=>simp[hH]
      | some v=>rw[hlo2] at hL;simp at hL;simp[hL,hH]
    have hrun:(execOp a.eval o).run P w=.ok (.value (.slice none 0 0)) w:=by
     have hsl:(Instr.slice t (.slice none 0 0) (lo.map a.eval) (hi.map a.eval) none).run P w=.ok (.slice none 0 0) w:=by
      unfold Instr.slice
      simp[Sem.run_bind,run_underlying hd1,Result.andThen_ok,hbounds,run_size hT hj]
     simp only[execOp,ho,hev,Instr.sliceAt,Sem.run_bind,run_underlying hd1,Result.andThen_ok,Option.map_none,hsl,Sem.run_pure]
    exact .inl (PR.mk (v':=.slice none 0 0) hrun ((V2_plain rfl).2 rfl))
   have hj3:=oK_some.1 h3
   clear h3
   obtain ⟨j,hj,h3⟩:=hj3
   obtain ⟨p,hp,hsl⟩:=V2_slice (h.ev hx)
   obtain ⟨a',c',hev,hle,htight,hloose⟩:∃a' c',a.eval x=.slice a' m c'∧c<=c'∧(loose b=false->c'=c∧∃b',p.a=some b'∧a'=some ⟨b',p.d+off,none⟩)∧(loose b=true->(∃b',p.a=some b'∧a'=some ⟨b',p.d,none⟩∧c'=p.c)∨(p.a=none∧m=0∧c'=0)):=by
    cases hlo:loose b with
    | false =>
     obtain ⟨b',h1,h2⟩:=SlOk_tight hlo hsl
     exact⟨_,_,h2,Nat.le_refl _,fun _=>⟨rfl,b',h1,rfl⟩,fun h=>by simp at h⟩
    | true =>
     obtain ⟨_,k2,⟨b',k3,k4⟩ | ⟨k3,k4,k5,k6⟩⟩:=SlOk_loose hlo hsl
     ·exact⟨_,_,k4,k2,fun h=>by simp at h,fun _=>.inl ⟨b',k3,rfl,rfl⟩⟩
     ·subst k4;obtain ⟨a0,k6⟩:=k6;exact⟨_,_,k6,by omega,fun h=>by simp at h,fun _=>.inr ⟨k3,rfl,rfl⟩⟩
   obtain ⟨H,hH,h4⟩:∃H,(match hi.map a.eval with
     | some v=>Instr.sliceBound v c' (.sliceAcap)
     | none=>pure m).run P w=.ok H w∧lowK H l (fun l=>bif Nat.ble H c then
     (bif loose b then (bif Nat.blt id 60000&&(S.fm (nid id 0)).isNone then tlK S.fm b l (H - l) j.siz (fun b2 l2 rd=>some ⟨.slice (some ⟨nid id 0,0,none⟩) (H - l) (c - l),[(nid id 0,⟨.tail b2 l2 (H - l) j.siz,e,false⟩)],nid id 0::rd⟩) none else none)
      else some (val (.slice (some ⟨b,bif Nat.beq c l then off else off+l*j.siz,none⟩) (H - l) (c - l)))) else none) none=some r:=by
    rcases hu with⟨rfl,rfl⟩ | ⟨y,v,rfl,rfl,hv⟩
    ·exact⟨m,rfl,h3⟩
    ·unfold highK at h3
     simp only[intK_some] at h3
     obtain ⟨kd,q,rfl,h3⟩:=h3
     obtain ⟨hq,h3⟩:=cond_some.1 h3
     simp only[Bool.and_eq_true,decide_eq_true_eq] at hq
     have hev:=V2_int hv
     refine⟨q.toNat,?_,h3⟩
     have hq2:0<=q∧q<=(c':Int):=by omega
     simp[Instr.sliceBound,hev,asIntOf,hq2]
   obtain ⟨L,hL,hLH,h5⟩:∃L,(match lo.map a.eval with
     | some v=>Instr.sliceBound v H (.sliceB)
     | none=>pure 0).run P w=.ok L w∧L<=H∧(bif Nat.ble H c then
     (bif loose b then (bif Nat.blt id 60000&&(S.fm (nid id 0)).isNone then tlK S.fm b L (H - L) j.siz (fun b2 l2 rd=>some ⟨.slice (some ⟨nid id 0,0,none⟩) (H - L) (c - L),[(nid id 0,⟨.tail b2 l2 (H - L) j.siz,e,false⟩)],nid id 0::rd⟩) none else none)
      else some (val (.slice (some ⟨b,bif Nat.beq c L then off else off+L*j.siz,none⟩) (H - L) (c - L)))) else none)=some r:=by
    rcases hl with⟨rfl,rfl⟩ | ⟨y,v,rfl,rfl,hv⟩
    ·exact⟨0,rfl,Nat.zero_le _,h4⟩
    ·unfold lowK at h4
     simp only[intK_some] at h4
     obtain ⟨kd,q,rfl,h4⟩:=h4
     obtain ⟨hq,h4⟩:=cond_some.1 h4
     simp only[Bool.and_eq_true,decide_eq_true_eq] at hq
     have hev:=V2_int hv
     refine⟨q.toNat,?_,by omega,h4⟩
     simp[Instr.sliceBound,hev,asIntOf,hq]
   obtain ⟨hHc,h5⟩:=cond_some.1 h5
   have hHc:=Nat.le_of_ble_eq_true hHc
   have hbounds:(Instr.sliceBounds true m c' (lo.map a.eval) (hi.map a.eval) none).run P w=.ok (L,H,c') w:=by
    unfold Instr.sliceBounds
    cases hhi:hi.map a.eval with
    | none =>
     rw[hhi] at hH
     cases hlo2:lo.map a.eval with
     | none=>rw[hlo2] at hL;simp at hH hL;simp[hH,hL]
     | some v=>rw[hlo2] at hL;simp at hH;subst hH;simp at hL;simp[hL]
    | some v =>
     rw[hhi] at hH
     simp only at hH
     cases hlo2:lo.map a.eval with
     | none=>rw[hlo2] at hL;simp at hL;simp[hH,hL]
     | some v=>rw[hlo2] at hL;simp at hL;simp[hL,hH]
   have hrun:(execOp a.eval o).run P w=.ok (.value (.slice (if c'=L then a' else a'.map (·.add (L*j.siz))) (H - L) (c' - L))) w:=by
    have hsl:(Instr.slice t (.slice a' m c') (lo.map a.eval) (hi.map a.eval) none).run P w=.ok (.slice (if c'=L then a' else a'.map (·.add (L*j.siz))) (H - L) (c' - L)) w:=by
     unfold Instr.slice
     simp only[Sem.run_bind,run_underlying hd1,Result.andThen_ok,hbounds,run_size hT hj,Sem.run_pure]
    simp only[execOp,ho,hev,Instr.sliceAt,Sem.run_bind,run_underlying hd1,Result.andThen_ok,Option.map_none,hsl,Sem.run_pure]
   cases hlo:loose b with
   | false =>
    rw[hlo,cond_false] at h5
    cases h5
    obtain ⟨rfl,b',hpa,rfl⟩:=htight hlo
    left
    refine PR.mk (v':=.slice (some ⟨b',p.d+(bif Nat.beq c' L then off else off+L*j.siz),none⟩) (H - L) (c' - L)) ?_ ⟨p,hp,?_⟩
    ·rw[hrun]
     congr 3
     by_cases hm:c'=L
     ·rw[if_pos hm,nbeq.2 hm];rfl
     ·rw[if_neg hm,nbeq_ne hm];simp[addr_add,Nat.add_assoc]
    ·unfold SlOk
     rw[if_neg (by simp[hlo])]
     exact⟨b',hpa,rfl⟩
   | true =>
    rw[hlo,cond_true] at h5
    obtain ⟨h6,h5⟩:=cond_some.1 h5
    simp only[Bool.and_eq_true,Nat.blt_eq] at h6
    obtain ⟨b2,l2,htl,h5⟩:=tlK_some.1 h5
    right
    rcases hloose hlo with⟨b',hpa,rfl,rfl⟩ | ⟨hpa,rfl,rfl⟩
    ·refine⟨b,b2,l2,L,H,c,j.siz,e,p,⟨p.a,if p.c=L then p.d else p.d+L*j.siz,p.c - L⟩,Option.isNone_iff_eq_none.1 h6.2,h6.1,(Option.some.inj h5).symm,hlo,hp,by simp only;omega,tl_ok h.m hp htl ?_,rfl,.inl ⟨b',hpa,?_⟩⟩
     ·by_cases hm:p.c=L
      ·left;omega
      ·right;exact⟨rfl,by simp only;rw[if_neg hm],by simp only;omega⟩
     ·rw[hrun]
      congr 3
      by_cases hm:p.c=L
      ·simp only[if_pos hm]
      ·simp only[if_neg hm,Option.map_some,addr_add]
    ·refine⟨b,b2,l2,L,H,c,j.siz,e,p,⟨none,0,0⟩,Option.isNone_iff_eq_none.1 h6.2,h6.1,(Option.some.inj h5).symm,hlo,hp,by simp only;omega,tl_ok h.m hp htl (.inl (by omega)),hpa.symm,.inr ⟨rfl,by omega,rfl,(if 0=L then a' else a'.map (·.add (L*j.siz))),?_⟩⟩
     rw[hrun,show H - L=0 from by omega,Nat.zero_sub]
  ·have:=hd2 hst;subst this;rw[hue] at hd1
   obtain ⟨s,rfl,h3⟩:=strK_some.1 h3
   have hev:=V2_string (h.ev hx)
   obtain ⟨H,hH,h4⟩:∃H,(match hi.map a.eval with
     | some v=>Instr.sliceBound v s.size (.sliceAlen)
     | none=>pure s.size).run P w=.ok H w∧lowK H l (fun l=>some (val (.string (s.extract l H)))) none=some r:=by
    rcases hu with⟨rfl,rfl⟩ | ⟨y,v,rfl,rfl,hv⟩
    ·exact⟨s.size,rfl,h3⟩
    ·replace h3:highK s.size s.size (some v) (fun h=>lowK h l (fun l=>some (val (.string (s.extract l h)))) none) none=some r:=h3
     simp only[highK,intK_some,cond_some,Bool.and_eq_true,decide_eq_true_eq] at h3
     obtain ⟨kd,q,rfl,hq,h3⟩:=h3
     have hev:=V2_int hv
     refine⟨q.toNat,?_,h3⟩
     simp[Instr.sliceBound,hev,asIntOf,hq]
   obtain ⟨L,hL,h5⟩:∃L,(match lo.map a.eval with
     | some v=>Instr.sliceBound v H (.sliceB)
     | none=>pure 0).run P w=.ok L w∧some (val (.string (s.extract L H)))=some r:=by
    rcases hl with⟨rfl,rfl⟩ | ⟨y,v,rfl,rfl,hv⟩
    ·exact⟨0,rfl,h4⟩
    ·unfold lowK at h4
     simp only[intK_some] at h4
     obtain ⟨kd,q,rfl,h4⟩:=h4
     obtain ⟨hq,h4⟩:=cond_some.1 h4
     simp only[Bool.and_eq_true,decide_eq_true_eq] at hq
     have hev:=V2_int hv
     refine⟨q.toNat,?_,h4⟩
     simp[Instr.sliceBound,hev,asIntOf,hq]
   cases h5
   left
   refine PR.mk (v':=.string (s.extract L H)) ?_ ((V2_plain rfl).2 rfl)
   have hbounds:(Instr.sliceBounds false s.size s.size (lo.map a.eval) (hi.map a.eval) none).run P w=.ok (L,H,s.size) w:=by
    unfold Instr.sliceBounds
    cases hhi:hi.map a.eval with
    | none =>
     rw[hhi] at hH
     cases hlo:lo.map a.eval with
     | none=>rw[hlo] at hL;simp at hH hL;simp[hH,hL]
     | some v=>rw[hlo] at hL;simp at hH;subst hH;simp at hL;simp[hL]
    | some v =>
     rw[hhi] at hH
     simp only at hH
     cases hlo:lo.map a.eval with
     | none=>rw[hlo] at hL;simp at hL;simp[hH,hL]
     | some v=>rw[hlo] at hL;simp at hL;simp[hL,hH]
   have hsl:(Instr.slice t (.string s) (lo.map a.eval) (hi.map a.eval) none).run P w=.ok (.string (s.extract L H)) w:=by
    unfold Instr.slice
    simp[Sem.run_bind,run_underlying hd1,Result.andThen_ok,hbounds]
   simp only[execOp,ho,hev,Instr.sliceAt,Sem.run_bind,run_underlying hd1,Result.andThen_ok,Option.map_none,hsl,Sem.run_pure]
theorem sound_quiet (hT:TabOk P T) (h:Rel w0 n R S a w) {o:Oper} {id:Nat} {r:Res} (hr:opS T G id o.op (evF S.fs) S.fm=some r)
  (h1:∀t,o.op≠.alloc t) (h2:∀t x,o.op≠.box t x) (h3:∀t x y,o.op≠.store t x y) (h4:∀c,o.op≠.call c) (h5:∀t l ps,o.op≠.buildSlice t l ps) (h6:∀t x i,o.op≠.indexAddr t x i) (h7:∀t x a b c,o.op≠.slice t x a b c) (h8:∀t l c,o.op≠.makeSlice t l c) (h9:∀s d x,o.op≠.convert s d x) (h10:∀t x,o.op≠.load t x) (h11:∀t x,o.op≠.range t x) (h12:∀x b,o.op≠.next x b):PR P R a w o r:=by
 cases ho:o.op with
 | alloc t=>exact absurd ho (h1 t)
 | box t x=>exact absurd ho (h2 t x)
 | store t x y=>exact absurd ho (h3 t x y)
 | call c=>exact absurd ho (h4 c)
 | buildSlice t l ps=>exact absurd ho (h5 t l ps)
 | indexAddr t x ix=>exact absurd ho (h6 t x ix)
 | slice t x lo hi mx=>exact absurd ho (h7 t x lo hi mx)
 | range t x=>exact absurd ho (h11 t x)
 | next x b=>exact absurd ho (h12 x b)
 | makeSlice t l c=>exact absurd ho (h8 t l c)
 | sliceToArrayPointer t x=>exact sound_toArr hT h ho hr
 | move x =>
  rw[ho] at hr;simp only[opS,opK,oK_some] at hr
  obtain ⟨v,hv,hr⟩:=hr;cases hr
  exact PR.mk (v':=a.eval x) (by simp[execOp,ho]) (h.ev hv)
 | nilCheck x =>
  rw[ho] at hr;simp only[opS,opK,oK_some,ptrK_some] at hr
  obtain ⟨v,hv,b,off,rfl,hr⟩:=hr;cases hr
  obtain ⟨p,b',hp,hpa,hev⟩:=V2_ptr (h.ev hv)
  exact PR.mk (v':=a.eval x) (by simp[execOp,ho,hev]) (h.ev hv)
 | assign x =>
  rw[ho] at hr;simp only[opS,opK,oK_some] at hr
  obtain ⟨v,hv,hr⟩:=hr;cases hr
  exact PR.mk (v':=a.eval x) (by simp[execOp,ho]) (h.ev hv)
 | pick c x y=>exact sound_pick h ho hr
 | load t x=>exact absurd ho (h10 t x)
 | fieldAddr t x m=>exact sound_fieldAddr hT h ho hr
 | field t x m=>exact sound_field hT h ho hr
 | index t x ix=>exact sound_index hT h ho hr
 | extract x m=>exact sound_extract h ho hr
 | binOp op t x y u=>exact sound_binOp hT h ho hr
 | unOp op t x=>exact sound_unOp h ho hr
 | convert s d x=>exact absurd ho (h9 s d x)
 | build t ps=>exact sound_build hT h ho hr
 | makeInterface t x=>exact sound_makeI hT h ho hr
 | typeAssert x s t ok=>exact sound_assert hT h ho hr
 | _=>rw[ho] at hr;simp[opS,opK] at hr
end
end Go.W

namespace Go.W
open Go.RowKit (Below)
section
variable {P:Program} {T:Tab} {G:Sums} {GL:Glob} {w0:Wb GL} {w:World} {n:Nat} {R:Nat->Pl->Prop} {S:FS} {a:Act}
theorem Rel.put (h:Rel w0 n R S a w) {d:Option Nat} (hd:∀t,d=some t->t<n) {v v':Value} (hv:V2 R v v'):Rel w0 n R ⟨putF S.fs d v,S.fm⟩ (a.put d v') w:=by
 cases d with
 | none=>exact h
 | some t =>
  have ht:=hd t rfl
  refine⟨h.defers,by simpa [Act.put] using h.size,?_,h.m⟩
  intro u x hx
  simp only[putF] at hx
  simp only[Act.put]
  by_cases hu:t=u
  ·subst hu
   rw[upd_same] at hx
   cases hx
   exact⟨v',by simp[h.size,ht],hv⟩
  ·rw[upd_ne _ _ hu] at hx
   obtain ⟨x',h1,h2⟩:=h.slot u x hx
   exact⟨x',by rw[Array.getElem?_setIfInBounds_ne hu];exact h1,h2⟩
theorem Rel.remem (h:Rel w0 n R S a w) {R':Nat->Pl->Prop} (hR:∀i p,R i p->R' i p) {fm':Nat->Option Blk} {w':World} (hm:MRel w0 R' fm' w'):Rel w0 n R' ⟨S.fs,fm'⟩ a w' :=
 ⟨h.defers,h.size,fun t v hv=>by obtain ⟨v',h1,h2⟩:=h.slot t v hv;exact⟨v',h1,V2_mono hR h2⟩,hm⟩
theorem Rel.world (h:Rel w0 n R S a w) {w':World} (hb:Below w.heap.size w w'):Rel w0 n R S a w':=⟨h.defers,h.size,h.slot,h.m.world hb⟩
theorem setCell_blk {w:World} {b:Nat} {cs:Array Value} {e:TypeId} {fz:Nat×Nat} (h:w.heap[b]?=some (.cells cs e fz)) (off:Nat) (v:Value) :
  w.setCell ⟨b,off,none⟩ v=setBlk w b (.cells (cs.setIfInBounds off v) e fz):=by
 have hlt:b<w.heap.size:=by
  rcases Nat.lt_or_ge b w.heap.size with hlt | hge
  ·exact hlt
  ·rw[Array.getElem?_eq_none hge] at h;simp at h
 unfold World.setCell setBlk
 congr 1
 apply Array.ext
 ·simp
 ·intro i h1 h2
  simp only[Array.getElem_modify]
  by_cases hi:b=i
  ·subst hi
   rw[Array.getElem?_eq_getElem hlt] at h
   have hh:=Option.some.inj h
   simp[hh]
  ·rw[if_neg hi,Array.getElem_setIfInBounds_ne (h:=hi)]
theorem run_storeCells {e:TypeId} {b off:Nat} {fz:Nat×Nat}:∀(vs:List Value) (j:Nat) (w:World) (cs:Array Value),w.heap[b]?=some (.cells cs e fz)->off+j+vs.length<=cs.size->FzOk fz cs.size ->
  (∀v∈vs,(∀x,v≠.agg x)∧(∀x,v≠.tuple x)) ->
  (storeCells ⟨b,off,none⟩ vs j).run P w=.ok () (setBlk w b (.cells (cs.toList.take (off+j)++vs++cs.toList.drop (off+j+vs.length)).toArray e fz))
 | [],j,w,cs,h,hl,hfz,hv=>by
  have hlt:b<w.heap.size:=by
   rcases Nat.lt_or_ge b w.heap.size with hlt | hge
   ·exact hlt
   ·rw[Array.getElem?_eq_none hge] at h;simp at h
  have:setBlk w b (.cells cs e fz)=w:=by
   unfold setBlk
   have:w.heap.setIfInBounds b (.cells cs e fz)=w.heap:=by
    apply Array.ext
    ·simp
    ·intro i h1 h2
     by_cases hi:b=i
     ·subst hi;rw[Array.getElem?_eq_getElem hlt] at h;simp[Option.some.inj h]
     ·rw[Array.getElem_setIfInBounds_ne (h:=hi)]
   rw[this]
  simp[storeCells,this]
 | v::vs,j,w,cs,h,hl,hfz,hv=>by
  simp only[List.length_cons] at hl
  have hlt:b<w.heap.size:=by
   rcases Nat.lt_or_ge b w.heap.size with hlt | hge
   ·exact hlt
   ·rw[Array.getElem?_eq_none hge] at h;simp at h
  have hlc:off+j<cs.toList.length:=by simp;omega
  have hc:w.cell? ⟨b,off+j,none⟩=some cs.toList[off+j]:=by
   rw[cell_at h,<-Array.getElem?_toList,List.getElem?_eq_getElem hlc]
  have hf:w.frozen? ⟨b,off+j,none⟩=false:=by
   obtain ⟨f1,f2⟩:=fz
   simp only[World.frozen?,h]
   exact hfz.free (by omega)
  have h1:=(hv v (by simp)).1
  have h2:=(hv v (by simp)).2
  have hst:(store (⟨b,off+j,none⟩:Addr) v).run P w=.ok () (w.setCell ⟨b,off+j,none⟩ v):=by
   unfold store
   cases v<;>first | exact absurd rfl (h1 _) | exact absurd rfl (h2 _) | simp[Sem.run,hc,hf]
  simp only[storeCells,Sem.run_bind,addr_add,hst,Result.andThen_ok]
  rw[setCell_blk h,run_storeCells vs (j+1) _ (cs.setIfInBounds (off+j) v) (setBlk_same hlt) (by simp;omega) (hfz.of (by simp)) (fun u hu=>hv u (by simp[hu])),setBlk_twice]
  congr 4
  simp only[Array.toList_setIfInBounds]
  rw[List.drop_set,if_pos (by omega),show off+(j+1)=(off+j)+1 from by omega,List.take_set,List.take_succ_eq_append_getElem hlc,
   List.set_append_right _ _ (by simp only[List.length_take];omega)]
  simp only[List.length_take,List.append_assoc,List.length_cons]
  rw[show off+j - min (off+j) cs.toList.length=0 from by omega]
  simp only[List.set_cons_zero,List.cons_append,List.nil_append]
  rw[show off+j+1+vs.length=off+j+(vs.length+1) from by omega]
theorem LR_one {l l':List Value} (h:LR (V0 R) l l'):∀v∈l',(∀x,v≠.agg x)∧(∀x,v≠.tuple x):=by
 induction l generalizing l' with
 | nil=>cases l' with
  | nil=>simp
  | cons _ _=>exact h.elim
 | cons a l ih=>cases l' with
  | nil=>exact h.elim
  | cons b l' =>
   intro v hv
   rcases List.mem_cons.1 hv with rfl | hv
   ·exact V0_one h.1
   ·exact ih h.2 v hv
theorem evs_run (h:Rel w0 n R S a w) {β:Type}:∀(xs:List Operand) {k:List Value->Option β} {r:β},evsK (evF S.fs) xs k none=some r ->
  ∃vs,k vs=some r∧LR (V2 R) vs (xs.map a.eval)
 | [],k,r,hr=>⟨[],hr,trivial⟩
 | x::xs,k,r,hr=>by
  simp only[evsK,oK_some] at hr
  obtain ⟨v,hv,hr⟩:=hr
  obtain ⟨vs,h1,h2⟩:=evs_run h xs hr
  exact⟨v::vs,h1,h.ev hv,h2⟩
theorem V2_undef:V2 R undef undef:=⟨_,rfl,trivial⟩
theorem list_drop_set {α:Type} (l v:List α) (d o s:Nat) (h:d+o<=l.length):(l.take (d+o)++v++l.drop (d+o+s)).drop d=(l.drop d).take o++v++(l.drop d).drop (o+s):=by
 rw[List.append_assoc,List.drop_append,List.drop_take,List.length_take,show d+o - d=o from by omega,show d - min (d+o) l.length=0 from by omega,List.drop_zero,List.drop_drop,List.append_assoc,Nat.add_assoc]
theorem size_set {α:Type} (l v:List α) (o s:Nat) (hv:v.length=s) (h:o+s<=l.length):(l.take o++v++l.drop (o+s)).length=l.length:=by
 simp only[List.length_append,List.length_take,List.length_drop];omega
theorem write_row {fm:Nat->Option Blk} (h:MRel w0 R fm w) {i:Nat} {ks:List CK} {m:Nat} {f:Nat->List Value} {e:TypeId} (hi:fm i=some ⟨.row ks m f,e,true⟩) {p:Pl} (hp:R i p) {b:Nat} (hb:p.a=some b)
  {cs:Array Value} {fz:Nat×Nat} (hw:w.heap[b]?=some (.cells cs e fz)) {j off siz:Nat} {v v':List Value} (hj:j<m) (hs:off+siz<=ks.length) (hv:v.length=siz) (hvv:LR (V0 R) v v')
  (hf:fitsK ks ((nrmK ks (f j)).take off++v++(nrmK ks (f j)).drop (off+siz))=true) (hge:w0.X b∨w0.w.heap.size<=b) :
  MRel w0 R (upd fm i ⟨.row ks m (updR f j ((nrmK ks (f j)).take off++v++(nrmK ks (f j)).drop (off+siz))),e,true⟩)
   (setBlk w b (.cells (cs.toList.take (p.d+(j*ks.length+off))++v'++cs.toList.drop (p.d+(j*ks.length+off)+siz)).toArray e fz)):=by
 obtain ⟨p',hp',hc⟩:=memOk_row h hi
 have:=h.func _ _ _ hp hp';subst this
 rw[hb] at hc
 obtain ⟨cs',fz',h1,h2,h3⟩:=hc
 rw[hw] at h1
 simp only[Option.some.injEq,Obj.cells.injEq] at h1
 obtain ⟨rfl,_,rfl⟩:=h1
 have h2:LP R (rowL ks f 0 m) (cs.toList.drop p.d):=h2
 have hl:=LP_le h2
 rw[rowL_len,List.length_drop] at hl
 have hjl:j*ks.length+ks.length<=m*ks.length:=by
  have:=Nat.mul_le_mul_right ks.length (show j+1<=m by omega)
  rwa [Nat.add_mul,Nat.one_mul] at this
 have hv':v'.length=siz:=by rw[<-LR_len hvv,hv]
 have hset:=LP_set h2 hvv (off:=j*ks.length+off) (by rw[rowL_len,hv];omega)
 rw[hv,rowL_set ks f hj hs hv hf] at hset
 have hlt:ks.length=0∨p.d+(j*ks.length+off)<=cs.toList.length:=by omega
 have hns:(cs.toList.take (p.d+(j*ks.length+off))++v'++cs.toList.drop (p.d+(j*ks.length+off)+siz)).toArray.size=cs.size:=by
  rw[List.size_toArray]
  by_cases h0:siz=0
  ·subst h0
   have e1:v'=[]:=List.length_eq_zero_iff.1 hv'
   rw[e1,List.append_nil,Nat.add_zero,List.take_append_drop,Array.length_toList]
  ·rw[size_set _ _ _ _ hv' (by omega),Array.length_toList]
 refine h.write hi hp hb rfl hw hge nofun nofun nofun ?_ ?_ ((h3 rfl).1.of hns)
 ·show LP R (rowL ks _ 0 m) _
  rcases hlt with h0 | hlt
  ·have:(rowL ks (updR f j ((nrmK ks (f j)).take off++v++(nrmK ks (f j)).drop (off+siz))) 0 m)=[]:=List.length_eq_zero_iff.1 (by rw[rowL_len,h0,Nat.mul_zero])
   rw[this];exact LP_nil
  ·rw[List.toList_toArray,list_drop_set _ _ _ _ _ hlt]
   exact hset
 ·show loose i=true->_
  intro hlo hc0
  have hroom:=(h3 rfl).2.2 hlo hc0
  rw[hns];exact hroom
theorem nid_lt {id k:Nat} (h:id<60000) (hk:k<8):nid id k<1000000:=by unfold nid;omega
theorem nid_loose {id k:Nat} (h:id<60000) (hk:k<8):loose (nid id k)=true:=by
 unfold loose nid
 rw[show Nat.ble 500000 (500000+(8*id+k))=true from by rw[Nat.ble_eq];omega,show Nat.blt (500000+(8*id+k)) 1000000=true from by rw[Nat.blt_eq];omega];rfl
theorem ksOk_parts {j:TInf} (h:ksOk j=true):j.eqk≠[]∧j.eqk.length=j.siz∧j.byt≠0∧j.zer.cells.size=j.siz:=by
 unfold ksOk at h
 simp only[Bool.and_eq_true,Bool.not_eq_true'] at h
 obtain ⟨⟨⟨h1,h2⟩,h3⟩,h4⟩:=h
 refine⟨fun e=>by rw[e] at h1;simp at h1,nbeq.1 h2,fun e=>by rw[e] at h3;simp at h3,?_⟩
 rw[<-Array.length_toList];exact nbeq.1 h4
theorem szOk_le {n byt:Nat} (h:szOk n byt=true):n*byt<=140737488355328:=Nat.le_of_ble_eq_true h
theorem slice_V2 {id m c:Nat} {q:Pl} {v':Value} (hid:loose id=true) (hR:R id q) (hc:c<=q.c) (hv:match q.a with
  | some b=>v'=.slice (some ⟨b,q.d,none⟩) m q.c
  | none=>m=0∧q.c=0∧Emp v'):V2 R (.slice (some ⟨id,0,none⟩) m c) v':=by
 refine⟨q,hR,?_⟩
 unfold SlOk
 rw[if_pos hid]
 exact⟨rfl,rfl,hc,hv⟩
theorem run_append_in {t ty e:TypeId} {ats:Array TypeId} {u:TypeId} {i:TypeInfo} (ht:P.underlying t=some (.slice e)) (h0:ats[0]?=some t) (h1:ats[1]?=some u) (hu:∃d,P.underlying u=some d∧∀k,d≠.int k) (hi:P.info? e=some i)
  {base:Option Addr} {m c q:Nat} {x:Value} {news:Array Value} (hlen:(Builtin.lenOf x).run P w=.ok q w) (hf:(Builtin.firstCells i.size q x).run P w=.ok news w) (hle:m+q<=c) :
  (Builtin.append_ ats ty #[.slice base m c,x]).run P w=(match base with
   | some a=>((storeCells (a.add (m*i.size)) news.toList).run P w).andThen fun _ w'=>.ok (.slice base (m+q) c) w'
   | none=>.ok (.slice none (m+q) c) w):=by
 obtain ⟨d,hd,hne⟩:=hu
 unfold Builtin.append_
 simp only[h0,h1,List.getElem?_toArray,List.getElem?_cons_zero,List.getElem?_cons_succ,Sem.run_bind,run_underlying ht,run_underlying hd,Result.andThen_ok,sizeOf,run_typeInfo w hi,Sem.run_pure,Bool.false_eq_true,if_false,hlen,hle,if_true,hf,Bool.not_false]
 cases base with
 | none=>rfl
 | some a=>simp only[Sem.run_bind,Sem.run_pure]
theorem run_append_new {t ty e:TypeId} {ats:Array TypeId} {u:TypeId} {i:TypeInfo} {z:Value} (ht:P.underlying t=some (.slice e)) (h0:ats[0]?=some t) (h1:ats[1]?=some u) (hu:∃d,P.underlying u=some d∧∀k,d≠.int k) (hi:P.info? e=some i) (hz:i.zero=some z)
  {base:Option Addr} {m c q:Nat} {x:Value} {olds news:List Value} (hlen:(Builtin.lenOf x).run P w=.ok q w) (hf:(Builtin.firstCells i.size q x).run P w.drew=.ok news.toArray w.drew) (hfo:(Builtin.firstCells i.size m (.slice base m c)).run P w.drew=.ok olds.toArray w.drew)
  (hg:c<m+q) (hb:i.bytes≠0) (hsz:(m+q)*i.bytes<=140737488355328) :
  (Builtin.append_ ats ty #[.slice base m c,x]).run P w=.ok (.slice (some ⟨w.heap.size,0,none⟩) (m+q) (grownCap w (m+q) c e))
   (w.drew.alloc (.cells (olds.toArray++news.toArray++Builtin.zeroCells z.cells (grownCap w (m+q) c e - (m+q))) e)):=by
 obtain ⟨d,hd,hne⟩:=hu
 have hn:¬(m+q<=c):=by omega
 have hle:m+q<=140737488355328:=Nat.le_trans (Nat.le_mul_of_pos_right _ (by omega)) hsz
 have h48:¬(Builtin.nextslicecap (m+q) c*i.bytes > 2^48):=by
  have:=growslice_fits (bytes:=i.bytes) hg hsz
  omega
 have h63:¬(((m+q:Nat):Int) > IntKind.i64.max∧(False∨i.bytes=0)):=by
  rintro ⟨_,h⟩;exact hb (h.resolve_left id)
 unfold Builtin.append_
 simp only[h0,h1,List.getElem?_toArray,List.getElem?_cons_zero,List.getElem?_cons_succ,Sem.run_bind,run_underlying ht,run_underlying hd,Result.andThen_ok,sizeOf,run_typeInfo w hi,Sem.run_pure,Bool.false_eq_true,if_false,hlen,hn,Bool.not_false,if_true]
 simp[hb,h48,Question.forced,typeInfo,zeroValue,hi,hz,hf,hfo,newRow,grownCap,askRoom]
 congr 2
 apply Array.ext'
 simp[List.append_assoc]
theorem grown_le (w:World) (need old:Nat) (e:TypeId):need<=grownCap w need old e:=by
 unfold grownCap Question.cut
 exact Nat.le_add_right _ _
end
end Go.W

namespace Go.W
open Go.RowKit (Below)
section
variable {P:Program} {T:Tab} {G:Sums} {GL:Glob} {w0:Wb GL} {w:World} {n:Nat} {R:Nat->Pl->Prop} {S:FS} {a:Act}
theorem sound_store (hT:TabOk P T) (h:Rel w0 n R S a w) {o:Oper} {t:Nat} {x y:Operand} (ho:o.op=.store t x y) {id:Nat} {r:Res} (hr:opS T G id o.op (evF S.fs) S.fm=some r) :
  r.val=undef∧∃w',(execOp a.eval o).run P w=.ok .skip w'∧MRel w0 R (memF S.fm r.mem) w':=by
 rw[ho] at hr
 simp only[opS,opK,oK_some,ptrK_some] at hr
 obtain ⟨va,hva,v,hv,b,off,rfl,hr⟩:=hr
 obtain ⟨q,bl,hq,hqa,hev⟩:=V2_ptr (h.ev hva)
 unfold storeK at hr
 simp only[oK_some] at hr
 obtain ⟨blk,hb,i,hi,hr⟩:=hr
 have hv2:=h.ev hv
  -- the run, of a block whose cells are known
 have run:∀(cs:Array Value) (e:TypeId) (fz:Nat×Nat),FzOk fz cs.size->w.heap[bl]?=some (.cells cs e fz)->(a.eval y).cells.size=i.siz->q.d+off+i.siz<=cs.size->(∀u∈(a.eval y).cells.toList,(∀x,u≠.agg x)∧(∀x,u≠.tuple x)) ->
   (execOp a.eval o).run P w=.ok .skip (setBlk w bl (.cells (cs.toList.take (q.d+off)++(a.eval y).cells.toList++cs.toList.drop (q.d+off+i.siz)).toArray e fz)):=by
  intro cs e fz hfz h1 hsz hle hone
  simp only[execOp,ho,hev,Instr.storeAt,Instr.sureAddr,storeVar,Sem.run_bind,Sem.run_pure,Result.andThen_ok,run_size hT hi,hsz,ne_eq,not_true_eq_false,if_false]
  rw[run_storeCells _ 0 w cs h1 (by simp[hsz];omega) hfz hone]
  simp[hsz]
 obtain ⟨cells,elem,own⟩:=blk
 simp only at hr
 split at hr
 ·-- a row of cells
  rename_i ks m f
  cases hag:isAggT i with
  | true =>
   rw[hag,cond_true] at hr
   obtain ⟨hc,hr2⟩:=cond_some.1 hr
   clear hr
   simp only[Bool.and_eq_true,Bool.not_eq_true'] at hc
   obtain ⟨⟨⟨⟨⟨hown,hlo⟩,hoff⟩,hsz0⟩,ht⟩,hlen⟩:=hc
   have hoff:=nbeq.1 hoff
   have hsz0:=nbeq.1 hsz0
   have hlen:=nbeq.1 hlen
   subst hown hoff
   have hr2:=(Option.some.inj hr2).symm
   subst hr2
   refine⟨rfl,?_⟩
   have hcl:=V2_cells hv2 (notTup_ne ht)
   have l1:=LR_len hcl
   have hsz:(a.eval y).cells.size=i.siz:=by rw[<-Array.length_toList,<-l1,hlen]
   obtain ⟨cs,fz,k1,k2,k3,k4⟩:=row_cells h.m hb hq hqa
   obtain ⟨hfz,hge,_⟩:=k4 rfl
   have ecs:cs.toList.length=cs.size:=Array.length_toList
   rw[List.length_drop,ecs,<-hsz0] at k3
   by_cases h0:i.siz=0
   ·have e0:(a.eval y).cells.toList=[]:=List.length_eq_zero_iff.1 (by rw[Array.length_toList,hsz,h0])
    have e1:v.cells.toList=[]:=List.length_eq_zero_iff.1 (by rw[hlen,h0])
    refine⟨w,?_,?_⟩
    ·simp only[execOp,ho,hev,Instr.storeAt,Instr.sureAddr,storeVar,Sem.run_bind,Sem.run_pure,Result.andThen_ok,run_size hT hi,hsz,ne_eq,not_true_eq_false,if_false]
     rw[e0];rfl
    ·have hw:=h.m.write (c:=.lst []) (cs:=cs) hb hq hqa rfl k1 hge nofun nofun nofun LP_nil (fun e=>by rw[hlo] at e;simp at e) hfz
     have hself:setBlk w bl (.cells cs elem fz)=w:=by
      unfold setBlk
      have:w.heap.setIfInBounds bl (.cells cs elem fz)=w.heap:=by
       apply Array.ext
       ·simp
       ·intro q h1 h2
        rw[Array.getElem_setIfInBounds (by simpa using h1)]
        by_cases hq2:bl=q
        ·subst hq2
         rw[Array.getElem?_eq_getElem h2] at k1
         rw[if_pos rfl,Option.some.inj k1]
        ·rw[if_neg hq2]
      rw[this]
     simp only at hw
     rw[hself] at hw
     show MRel w0 R (upd S.fm b _) w
     rw[e1];exact hw
   ·refine⟨_,run cs elem fz hfz k1 hsz (by omega) (LR_one hcl),?_⟩
    refine h.m.write hb hq hqa rfl k1 hge nofun nofun nofun ?_ (fun e=>by rw[hlo] at e;simp at e) (hfz.of (by
     rw[List.size_toArray,size_set _ _ _ _ (by rw[Array.length_toList,hsz]) (by omega),Array.length_toList]))
    have hd0:q.d<=cs.toList.length:=by rw[ecs];omega
    rw[List.toList_toArray,Nat.add_zero,List.append_assoc,List.drop_append,List.drop_of_length_le (by rw[List.length_take];omega),List.nil_append,List.length_take,Nat.min_eq_left hd0,Nat.sub_self,List.drop_zero]
    show LR (V0 R) v.cells.toList (List.take v.cells.toList.length _)
    rw[hlen,List.take_left' (by rw[Array.length_toList,hsz])]
    exact hcl
  | false =>
  rw[hag,cond_false] at hr
  obtain ⟨s,c,h1,h2,h3,h4⟩:=cellK_some.1 hr
  obtain ⟨hc,h4⟩:=cond_some.1 h4
  simp only[Bool.and_eq_true] at hc
  obtain ⟨⟨hown,hck⟩,hs1⟩:=hc
  have hs1:=nbeq.1 hs1
  have hs:s=⟨b,0,m,ks,m,f,elem,own,[b]⟩:=by
   unfold segS segK at h1
   rw[hb] at h1
   exact(Option.some.inj h1).symm
  subst hs
  simp only at h2 h3 hown
  subst h2 hown
  have h4:=(Option.some.inj h4).symm;subst h4
  refine⟨rfl,?_⟩
  have hv3:a.eval y=v:=by
   rcases isCK_inv hck with⟨_,_,_,rfl⟩ | ⟨_,_,rfl⟩ | ⟨_,_,rfl⟩<;>exact(V2_plain (R:=R) rfl).1 hv2
  have hcells:v.cells.toList=[v]:=by
   rcases isCK_inv hck with⟨_,_,_,rfl⟩ | ⟨_,_,rfl⟩ | ⟨_,_,rfl⟩<;>rfl
  obtain ⟨cs,fz,k1,k2,k3,k4⟩:=row_cells h.m hb hq hqa
  obtain ⟨hfz,hge,_⟩:=k4 rfl
  have ecs:cs.toList.length=cs.size:=Array.length_toList
  rw[List.length_drop,ecs] at k3
  simp only[List.length_cons,List.length_nil,Nat.zero_add,Nat.mul_one] at k3
  have hsz:(a.eval y).cells.size=i.siz:=by rw[hv3,<-Array.length_toList,hcells,hs1];rfl
  have hpl:pl0 v=true:=by rcases isCK_inv hck with⟨_,_,_,rfl⟩ | ⟨_,_,rfl⟩ | ⟨_,_,rfl⟩<;>rfl
  refine⟨_,run cs elem fz hfz k1 hsz (by omega) ?_,?_⟩
  ·rw[hv3,hcells]
   intro u hu
   have:u=v:=by simpa using hu
   subst this
   exact V0_one ((V0_plain (R:=R) hpl).2 rfl)
  ·have:=write_row h.m hb hq hqa k1 (j:=off) (off:=0) (siz:=1) (v:=[v]) (v':=[v]) h3 (by simp) rfl ⟨(V0_plain (R:=R) hpl).2 rfl,trivial⟩ (by
    simp only[nrmK,List.take_zero,List.nil_append,Nat.zero_add,List.drop_succ_cons,List.drop_nil,List.append_nil,fitsK,hck,Bool.and_self]) hge
   simp only[nrmK,List.take_zero,List.nil_append,Nat.zero_add,List.drop_succ_cons,List.drop_nil,List.append_nil,List.length_cons,List.length_nil,Nat.mul_one,Nat.add_zero] at this
   rw[hv3,hcells,hs1]
   simp only[memF,Nat.zero_add]
   exact this
 ·-- what stands at the number
  rename_i hnr
  obtain ⟨A,hA,hr⟩:=accK_some.1 hr
  obtain ⟨hc,hr⟩:=cond_some.1 hr
  simp only[Bool.and_eq_true] at hc
  obtain ⟨⟨⟨⟨hown,ht⟩,hlen0⟩,hle0⟩,hok⟩:=hc
  have hlen:=nbeq.1 hlen0
  have hle:=Nat.le_of_ble_eq_true hle0
  clear hlen0 hle0
  cases hr
  refine⟨rfl,?_⟩
  have hcl:=V2_cells hv2 (notTup_ne ht)
  have l1:=LR_len hcl
  have hsz:(a.eval y).cells.size=i.siz:=by rw[<-Array.length_toList,<-l1,hlen]
  rw[setL_eq hle] at hok ⊢
  unfold accS accK at hA
  rw[hb] at hA
  simp only[oK] at hA
  split at hA
  ·rename_i l
   have hA:=(Option.some.inj hA).symm;subst hA
   simp only at hown hle
   subst hown
   obtain ⟨p,hp,hcont⟩:=memOk_lst h.m hb
   have:=h.m.func _ _ _ hq hp;subst this
   rw[hqa] at hcont
   obtain ⟨cs,fz,k1,k2,k3⟩:=hcont
   obtain ⟨hfz,hge,hroom⟩:=k3 rfl
   have k2:LP R l (cs.toList.drop q.d):=k2
   have hl2:=LP_le k2
   rw[List.length_drop] at hl2
   have hpos:i.siz=0∨q.d+off+i.siz<=cs.toList.length:=by omega
   rcases hpos with h0 | hpos
   ·-- nothing is written
    have e0:(a.eval y).cells.toList=[]:=List.length_eq_zero_iff.1 (by rw[Array.length_toList,hsz,h0])
    have e1:v.cells.toList=[]:=List.length_eq_zero_iff.1 (by rw[hlen,h0])
    refine⟨w,?_,?_⟩
    ·simp only[execOp,ho,hev,Instr.storeAt,Instr.sureAddr,storeVar,Sem.run_bind,Sem.run_pure,Result.andThen_ok,run_size hT hi,hsz,ne_eq,not_true_eq_false,if_false]
     rw[e0];rfl
    ·have:upd S.fm b ⟨.lst (l.take off++v.cells.toList++l.drop (off+i.siz)),elem,true⟩=S.fm:=by
      rw[e1,List.append_nil,h0,Nat.add_zero,List.take_append_drop]
      exact upd_idem _ hb
     show MRel w0 R (upd S.fm b _) w
     rw[this];exact h.m
   ·refine⟨_,run cs elem fz hfz k1 hsz (by rw[Array.length_toList] at hpos;exact hpos) (LR_one hcl),?_⟩
    have hset:=LP_set k2 hcl (off:=off) (by rw[hlen];exact hle)
    rw[hlen] at hset
    refine h.m.write hb hq hqa rfl k1 hge nofun nofun nofun ?_ (fun e hc=>by
     have h1:q.d+q.c<=cs.size:=hroom e hc
     rw[List.size_toArray,List.length_append,List.length_append,List.length_take,List.length_drop,Array.length_toList,Array.length_toList,hsz]
     rw[Array.length_toList] at hpos
     omega) (hfz.of (by
     rw[List.size_toArray,size_set _ _ _ _ (by rw[Array.length_toList,hsz]) (by omega),Array.length_toList]))
    rw[List.toList_toArray,list_drop_set _ _ _ _ _ (by omega)]
    exact hset
  ·rename_i i0 j sz
   obtain ⟨s,hs,hA⟩:=segK_some.1 hA
   obtain ⟨hc,hA⟩:=cond_some.1 hA
   simp only[Bool.and_eq_true,Nat.blt_eq] at hc
   have hA:=(Option.some.inj hA).symm;subst hA
   simp only at hown hle hok
   have hssz:=nbeq.1 hc.2
   obtain ⟨p,q',bl',hp,hq',hpa,hqa',hd,_⟩:∃p q b',R i0 p∧R b q∧p.a=some b'∧q.a=some b'∧q.d=p.d+j*sz∧own=false:=h.m.mem b _ hb
   have:=h.m.func _ _ _ hq hq';subst this
   rw[hqa] at hqa';cases hqa'
   obtain ⟨p0,cs,fz,g1,g2,g3,g4,g5,k1,k4,k5,k6⟩:=seg_cells h.m hs hp hpa (by omega)
   obtain ⟨hfz,hge⟩:=k6 hown
   rw[hown] at g4
   rw[nrmK_len] at hle
   have hdd:q.d=p0.d+(s.start+j)*s.ks.length:=by rw[hd,g3,<-hssz,Nat.add_mul,Nat.add_assoc]
   have hjl:(s.start+j)*s.ks.length+s.ks.length<=s.n*s.ks.length:=by
    have:=Nat.mul_le_mul_right s.ks.length (show s.start+j+1<=s.n by omega)
    rwa [Nat.add_mul,Nat.one_mul] at this
   obtain ⟨cs',fz',r1,r2,r3,_⟩:=row_cells h.m g4 g1 g2
   rw[k1] at r1
   simp only[Option.some.injEq,Obj.cells.injEq] at r1
   obtain ⟨rfl,_,_⟩:=r1
   have ecs:cs.toList.length=cs.size:=Array.length_toList
   rw[List.length_drop,ecs] at r3
   by_cases h0:i.siz=0
   ·have e0:(a.eval y).cells.toList=[]:=List.length_eq_zero_iff.1 (by rw[Array.length_toList,hsz,h0])
    refine⟨w,?_,?_⟩
    ·simp only[execOp,ho,hev,Instr.storeAt,Instr.sureAddr,storeVar,Sem.run_bind,Sem.run_pure,Result.andThen_ok,run_size hT hi,hsz,ne_eq,not_true_eq_false,if_false]
     rw[e0];rfl
    ·have:=write_row h.m g4 g1 g2 k1 (j:=s.start+j) (off:=off) (siz:=i.siz) (v:=v.cells.toList) (v':=(a.eval y).cells.toList) (by omega) hle hlen hcl hok hge
     have e2:setBlk w bl (.cells (cs.toList.take (p0.d+((s.start+j)*s.ks.length+off))++(a.eval y).cells.toList++cs.toList.drop (p0.d+((s.start+j)*s.ks.length+off)+i.siz)).toArray s.elem fz)=w:=by
      rw[e0,List.append_nil,h0,Nat.add_zero,List.take_append_drop]
      have hlt:=heap_lt k1
      unfold setBlk
      have:w.heap.setIfInBounds bl (.cells cs.toList.toArray s.elem fz)=w.heap:=by
       apply Array.ext
       ·simp
       ·intro x h1 h2
        by_cases hx:bl=x
        ·subst hx;rw[Array.getElem?_eq_getElem hlt] at k1;simp[Option.some.inj k1]
        ·rw[Array.getElem_setIfInBounds_ne (h:=hx)]
      rw[this]
     rw[e2] at this
     show MRel w0 R (upd S.fm s.base _) w
     rw[hown];exact this
   ·refine⟨_,run cs s.elem fz hfz k1 hsz (by omega) (LR_one hcl),?_⟩
    have:=write_row h.m g4 g1 g2 k1 (j:=s.start+j) (off:=off) (siz:=i.siz) (v:=v.cells.toList) (v':=(a.eval y).cells.toList) (by omega) hle hlen hcl hok hge
    rw[show p0.d+((s.start+j)*s.ks.length+off)=q.d+off from by rw[hdd];omega] at this
    show MRel w0 R (upd S.fm s.base _) _
    rw[hown];exact this
  ·obtain ⟨s,hs,hA⟩:=segK_some.1 hA
   have hA:=(Option.some.inj hA).symm;subst hA
   simp at hown
end
end Go.W

namespace Go.W
open Go.RowKit (Below)
section
variable {P:Program} {T:Tab} {G:Sums} {GL:Glob} {w0:Wb GL} {w:World} {n:Nat} {R:Nat->Pl->Prop} {S:FS} {a:Act}
theorem two_args {c:Call} {s x:Value} (hl:LR (V2 R) [s,x] (c.args.toList.map a.eval)):∃s' x',c.args.map a.eval=#[s',x']∧V2 R s s'∧V2 R x x':=by
 obtain ⟨x0,x1,hxs⟩:∃x0 x1,c.args.toList=[x0,x1]:=by
  have:=LR_len hl
  simp at this
  match hx:c.args.toList with
  | [x0,x1]=>exact⟨x0,x1,rfl⟩
  | []=>rw[<-Array.length_toList,hx] at this;simp at this
  | [_]=>rw[<-Array.length_toList,hx] at this;simp at this
  | _::_::_::_=>rw[<-Array.length_toList,hx] at this;simp at this
 rw[hxs] at hl
 simp only[List.map_cons,List.map_nil,LR,and_true] at hl
 exact⟨a.eval x0,a.eval x1,by apply Array.ext';simp[hxs],hl.1,hl.2⟩
theorem row_one (ks:List CK) (g:Nat->List Value) (m lo:Nat):∀v∈rowL ks g lo m,(∀x,v≠.agg x)∧(∀x,v≠.tuple x):=by
 intro v hv
 have:=List.all_eq_true.1 (rowL_pl ks g m lo) v hv
 exact V0_one (R:=fun _ _=>True) ((V0_plain this).2 rfl)
theorem LR_row (ks:List CK) (g:Nat->List Value) (m lo:Nat):LR (V0 R) (rowL ks g lo m) (rowL ks g lo m):=(LR_plain (r:=V0 R) (pl:=pl0) (fun _ _ hv=>V0_plain hv) (rowL_pl ks g m lo)).2 rfl
theorem sound_copy (hT:TabOk P T) (h:Rel w0 n R S a w) {c:Call} {d s:Value} {t:Nat} {l:List Nat} (hts:c.argTypes.toList=t::l) (hl:LR (V2 R) [d,s] (c.args.toList.map a.eval)) {r:Res} (hr:copyK T t d s S.fm some none=some r) (ty:TypeId) :
  ∃m w',r.val=.int .i64 ((m:Nat):Int)∧(Builtin.copy_ c.argTypes ty (c.args.map a.eval)).run P w=.ok (.int .i64 ((m:Nat):Int)) w'∧MRel w0 R (memF S.fm r.mem) w':=by
 unfold copyK at hr
 simp only[sliceK_some] at hr
 obtain ⟨b,off,m,c1,rfl,hr⟩:=hr
 obtain ⟨i,e,j,k1,k2,k3,k4,k5,hr⟩:=elemK_some.1 hr
 obtain ⟨dd,hd1,hd2,_⟩:=und_some hT k1
 have:=hd2 k2;subst this;rw[k3] at hd1
 obtain ⟨q,hq,hr⟩:=srcK_some.1 hr
 obtain ⟨hke,hkl,_⟩:=ksOk_parts k5
 obtain ⟨d',s',hargs,hvd,hvs⟩:=two_args hl
 obtain ⟨hlen,hfirst⟩:=src_run (P:=P) h.m hq hvs
 obtain ⟨p,hp,hsl⟩:=V2_slice hvd
 obtain ⟨a',c',hd'⟩:=SlOk_sl hsl
 have hat:c.argTypes[0]?=some t:=by rw[<-Array.getElem?_toList,hts];rfl
 have hf:=hfirst (min q.n m) (Nat.min_le_left _ _)
 rw[hkl] at hf
 have hrun:∀w',(match a' with
   | some ad=>(storeCells ad (rowL j.eqk q.g 0 (min q.n m))).run P w
   | none=>.ok () w)=.ok () w'->(Builtin.copy_ c.argTypes ty (c.args.map a.eval)).run P w=.ok (.int .i64 ((min q.n m:Nat):Int)) w':=by
  intro w' hst
  unfold Builtin.copy_
  simp only[hargs,hat,hd',List.getElem?_toArray,List.getElem?_cons_zero,List.getElem?_cons_succ,Sem.run_bind,run_underlying hd1,Result.andThen_ok,hlen,run_size hT k4,Nat.min_def] at hf ⊢
  rw[hf]
  cases a' with
  | none =>
   simp only[Result.ok.injEq,true_and] at hst
   subst hst
   rfl
  | some ad =>
   simp only[Nat.min_def] at hst
   simp only[Sem.run_bind,Sem.run_pure,Result.andThen_ok,hst]
   rfl
 obtain ⟨blk,hb,hr⟩:=oK_some.1 hr
 obtain ⟨cells,elem,own⟩:=blk
 simp only at hr
 have hml:(rowL j.eqk q.g 0 (min q.n m)).length=min q.n m*j.siz:=by rw[rowL_len,hkl]
 split at hr
 ·rename_i ls
  obtain ⟨hc,hr⟩:=cond_some.1 hr
  simp only[Bool.and_eq_true] at hc
  obtain ⟨hown,hle⟩:=hc
  cases hr
  have hle:=Nat.le_of_ble_eq_true hle
  subst hown
  obtain ⟨p',hp',hcont⟩:=memOk_lst h.m hb
  have:=h.m.func _ _ _ hp hp';subst this
  by_cases h0:min q.n m=0
  ·-- nothing is copied
   refine⟨min q.n m,w,rfl,hrun w ?_,?_⟩
   ·rw[h0];cases a'<;>rfl
   ·show MRel w0 R (upd S.fm b _) w
    rw[h0,Nat.zero_mul,Nat.add_zero]
    have:upd S.fm b ⟨.lst (ls.take off++rowL j.eqk q.g 0 0++ls.drop off),elem,true⟩=S.fm:=by
     rw[show rowL j.eqk q.g 0 0=[] from rfl,List.append_nil,List.take_append_drop]
     exact upd_idem _ hb
    rw[this];exact h.m
  ·obtain ⟨bl,c2,hpa,hsl2⟩:=SlOk_some hsl (by omega)
   rw[hd'] at hsl2
   simp only[Value.slice.injEq,true_and] at hsl2
   obtain ⟨rfl,rfl⟩:=hsl2
   rw[hpa] at hcont
   obtain ⟨cs,fz,g1,g2,g3⟩:=hcont
   obtain ⟨hfz,hge,hroom⟩:=g3 rfl
   have g2:LP R ls (cs.toList.drop p.d):=g2
   have hl2:=LP_le g2
   rw[List.length_drop] at hl2
   have ecs:cs.toList.length=cs.size:=Array.length_toList
   have hsp:0<min q.n m*j.siz:=by
    have:0<j.eqk.length:=List.length_pos_iff.2 hke
    rw[hkl] at this
    exact Nat.mul_pos (by omega) this
   refine⟨min q.n m,_,rfl,hrun _ (run_storeCells _ 0 w cs g1 (by rw[hml];omega) hfz (row_one _ _ _ _)),?_⟩
   rw[hml]
   have hset:=LP_set g2 (LR_row (R:=R) j.eqk q.g (min q.n m) 0) (off:=off) (by rw[hml];exact hle)
   rw[hml] at hset
   refine h.m.write hb hp hpa rfl g1 hge nofun nofun nofun ?_ (fun e hc=>by
    have h1:p.d+p.c<=cs.size:=hroom e hc
    rw[List.size_toArray,List.length_append,List.length_append,List.length_take,List.length_drop,hml]
    omega) (hfz.of (by rw[List.size_toArray,Nat.add_zero,size_set _ _ _ _ hml (by omega),ecs]))
   rw[List.toList_toArray,Nat.add_zero,list_drop_set _ _ _ _ _ (by omega)]
   exact hset
 ·obtain ⟨s0,hs,hr⟩:=segK_some.1 hr
  obtain ⟨hc,hr⟩:=cond_some.1 hr
  simp only[Bool.and_eq_true] at hc
  obtain ⟨⟨⟨hown,hoff⟩,hle⟩,hks⟩:=hc
  have hoff:=nbeq.1 hoff
  have hle:=Nat.le_of_ble_eq_true hle
  have hks:=ksEq_eq hks
  cases hr
  subst hoff
  by_cases h0:min q.n m=0
  ·refine⟨min q.n m,w,rfl,hrun w ?_,?_⟩
   ·rw[h0];cases a'<;>rfl
   ·obtain ⟨p0,hp0,hbase,_,_⟩:=seg_ok h.m hs hp
    rw[hown] at hbase
    show MRel w0 R (upd S.fm s0.base _) w
    rw[h0]
        -- the same elements
    have e:rowL s0.ks (cpyF s0.f s0.start 0 q.g) 0 s0.n=rowL s0.ks s0.f 0 s0.n:=rowL_congr _ _ _ (fun x _ _=>by
     unfold cpyF
     cases hx:(Nat.ble s0.start x&&Nat.blt x (s0.start+0)) with
     | false=>rfl
     | true =>
      simp only[Bool.and_eq_true,Nat.ble_eq,Nat.blt_eq] at hx
      omega)
    obtain ⟨p1,hp1,hcont⟩:=memOk_row h.m hbase
    refine⟨h.m.below,h.m.func,?_,?_,?_,h.m.anc,fun i1 p1 b1 h1 h2=>(h.m.there i1 p1 b1 h1 h2).mono (fun s pos hs=>by
     have e1:s0.base≠i1:=by
      rintro rfl
      rw[hbase] at hs;cases hs
     rw[upd_ne _ _ e1]) rfl,fun i1 p1 h1 hge1=>by
     obtain ⟨h2,h3⟩:=h.m.fro i1 p1 h1 hge1
     refine⟨h2,fun j1 q1 hj1 hq1 blk1 hblk1=>?_⟩
     by_cases e1:s0.base=j1
     ·subst e1;have:=h3 _ _ hj1 hq1 _ hbase;simp at this
     ·rw[upd_ne _ _ e1] at hblk1;exact h3 _ _ hj1 hq1 _ hblk1⟩
    ·intro i0 j0 p2 q2 b2 h5 h6 ha hb2 hne blk0 hblk0 hown0 blk1 hblk1
     by_cases e1:s0.base=i0
     ·subst e1
      simp only[upd_ne _ _ hne] at hblk1
      exact h.m.inj _ _ _ _ _ h5 h6 ha hb2 hne _ hbase rfl blk1 hblk1
     ·simp only[upd_ne _ _ e1] at hblk0
      by_cases e2:s0.base=j0
      ·subst e2
       have:=(h.m.inj _ _ _ _ _ h5 h6 ha hb2 hne blk0 hblk0 hown0 _ hbase).1
       simp at this
      ·simp only[upd_ne _ _ e2] at hblk1
       exact h.m.inj _ _ _ _ _ h5 h6 ha hb2 hne blk0 hblk0 hown0 blk1 hblk1
    ·intro j0 blk0 hblk0
     by_cases e1:s0.base=j0
     ·subst e1
      simp only[upd_same,Option.some.injEq] at hblk0
      subst hblk0
      refine⟨p1,hp1,?_⟩
      cases hpa:p1.a with
      | none =>
       rw[hpa] at hcont
       have hcont:rowL s0.ks s0.f 0 s0.n=[]:=hcont
       show rowL s0.ks _ 0 s0.n=[]
       rw[e];exact hcont
      | some bl =>
       rw[hpa] at hcont
       obtain ⟨cs,fz,g1,g2,g3⟩:=hcont
       refine⟨cs,fz,g1,?_,g3⟩
       show LP R (rowL s0.ks _ 0 s0.n) _
       rw[e];exact g2
     ·simp only[upd_ne _ _ e1] at hblk0
      exact h.m.mem _ _ hblk0
    ·intro j0 p2 hj hvb
     by_cases e1:s0.base=j0
     ·subst e1;simp[upd_same]
     ·simp only[upd_ne _ _ e1];exact h.m.dom _ _ hj hvb
  ·obtain ⟨bl,c2,hpa,hsl2⟩:=SlOk_some hsl (by omega)
   rw[hd'] at hsl2
   simp only[Value.slice.injEq,true_and] at hsl2
   obtain ⟨rfl,rfl⟩:=hsl2
   obtain ⟨p0,cs,fz,g1,g2,g3,g4,g5,g6,g7,g8,g9⟩:=seg_cells h.m hs hp hpa (by omega)
   obtain ⟨hfz,hge⟩:=g9 hown
   rw[hown] at g4
   obtain ⟨cs',fz',r1,r2,r3,r4⟩:=row_cells h.m g4 g1 g2
   rw[g6] at r1
   simp only[Option.some.injEq,Obj.cells.injEq] at r1
   obtain ⟨rfl,_,_⟩:=r1
   have ecs:cs.toList.length=cs.size:=Array.length_toList
   rw[List.length_drop] at r3 g8
   have hmm:min q.n m*j.siz<=s0.cnt*s0.ks.length:=by
    rw[hks,hkl]
    exact Nat.mul_le_mul_right _ (by omega)
   have hsp:0<min q.n m*j.siz:=by
    have:0<j.eqk.length:=List.length_pos_iff.2 hke
    rw[hkl] at this
    exact Nat.mul_pos (by omega) this
   refine⟨min q.n m,_,rfl,hrun _ (run_storeCells _ 0 w cs g6 (by rw[hml];omega) hfz (row_one _ _ _ _)),?_⟩
   rw[hml]
   have g10:LP R (rowL s0.ks s0.f 0 s0.n) (cs.toList.drop p0.d):=LP_plain (rowL_pl _ _ _ _) (by rw[rowL_len];exact r2)
   have hsn:s0.start*s0.ks.length+min q.n m*j.siz<=s0.n*s0.ks.length:=by
    have:=Nat.mul_le_mul_right s0.ks.length (show s0.start+s0.cnt<=s0.n by omega)
    rw[Nat.add_mul] at this
    omega
   have hset:=LP_set g10 (LR_row (R:=R) j.eqk q.g (min q.n m) 0) (off:=s0.start*s0.ks.length) (by rw[hml,rowL_len];exact hsn)
   rw[hml] at hset
   have hcp:=rowL_cpy s0.ks s0.f q.g s0.start (min q.n m) s0.n (by omega)
   rw[hks,hkl] at hcp
   rw[hks,hkl,<-hcp,<-hks] at hset
   refine h.m.write g4 g1 g2 rfl g6 hge nofun nofun nofun ?_ ?_ (hfz.of (by rw[List.size_toArray,Nat.add_zero,size_set _ _ _ _ hml (by omega),ecs]))
   ·show LP R (rowL s0.ks _ 0 s0.n) _
    rw[List.toList_toArray,Nat.add_zero,g3,list_drop_set _ _ _ _ _ (by omega),hks,hkl,<-hks]
    exact hset
   ·show loose s0.base=true->_
    intro hlo hc0
    have:=(r4 rfl).2.2 hlo hc0
    rw[List.size_toArray,Nat.add_zero,size_set _ _ _ _ hml (by omega),ecs];exact this
end
end Go.W

namespace Go.W
open Go.RowKit (Below)
section
variable {P:Program} {T:Tab} {G:Sums} {GL:Glob} {w0:Wb GL} {w:World} {n:Nat} {R:Nat->Pl->Prop} {S:FS} {a:Act}
theorem upd_upd {α:Type} (f:Nat->Option α) (t:Nat) (v u:α):upd (upd f t v) t u=upd f t u:=by
 funext s
 by_cases h:t=s
 ·subst h;rw[upd_same,upd_same]
 ·rw[upd_ne _ _ h,upd_ne _ _ h,upd_ne _ _ h]
theorem srcS_lst {mm:Nat->Option Blk} {b off m c:Nat} {l:List Value} {e:TypeId} {own:Bool} {ks:List CK} (hb:mm b=some ⟨.lst l,e,own⟩) (hle:off+m*ks.length<=l.length) (hf:fitsK (repK m ks) ((l.drop off).take (m*ks.length))=true) :
  srcS mm ks (.slice (some ⟨b,off,none⟩) m c)=some ⟨m,lstF l off ks.length,[b]⟩:=by
 have e1:Nat.ble (off+m*ks.length) l.length=true:=by rw[Nat.ble_eq];exact hle
 simp only[srcS,srcK,hb,oK,e1,hf,Bool.and_self,cond_true]
theorem srcS_row {mm:Nat->Option Blk} {b m n c:Nat} {f:Nat->List Value} {e:TypeId} {own:Bool} {ks:List CK} (hb:mm b=some ⟨.row ks n f,e,own⟩) (hle:m<=n) :
  srcS mm ks (.slice (some ⟨b,0,none⟩) m c)=some ⟨m,segF ⟨b,0,n,ks,n,f,e,own,[b]⟩,[b]⟩:=by
 have e1:Nat.ble m n=true:=by rw[Nat.ble_eq];exact hle
 have e2:Nat.beq 0 0=true:=rfl
 simp only[srcS,srcK,segK,hb,oK,e1,e2,ksEq_refl,Bool.and_self,cond_true]
theorem zeroCells_size (z:Array Value) (k:Nat):(Builtin.zeroCells z k).size=k*z.size:=by simp[Builtin.zeroCells]
theorem append_newP {fm:Nat->Option Blk} (h:MRel w0 R fm w) {id:Nat} (hid:fm (nid id 0)=none) (hlt:id<60000) {ks:List CK} {tot C:Nat} {f:Nat->List Value} {e:TypeId} {olds news:List Value} {z:Array Value} (hf:rowL ks f 0 tot=olds++news) (hC:tot<=C) (hz:z.size=ks.length) :
  ∃R':Nat->Pl->Prop,(∃p,R' (nid id 0) p∧p.a=some w.heap.size)∧(∀i p,R i p->R' i p)∧V2 R' (.slice (some ⟨nid id 0,0,none⟩) tot tot) (.slice (some ⟨w.heap.size,0,none⟩) tot C) ∧
   MRel w0 R' (upd fm (nid id 0) ⟨.row ks tot f,e,true⟩) (w.drew.alloc (.cells (olds.toArray++news.toArray++Builtin.zeroCells z (C - tot)) e)):=by
 have hm:=h.world (w':=w.drew) (Below.refl w.heap.size w).drew
 have hlen:(olds++news).length=tot*ks.length:=by rw[<-hf,rowL_len]
 refine⟨_,⟨_,.inr ⟨rfl,rfl⟩,rfl⟩,fun _ _=>.inl,?_,hm.alloc hid (nid_lt hlt (by omega)) (cap:=C) nofun nofun nofun ?_ ?_⟩
 ·exact slice_V2 (nid_loose hlt (by omega)) (.inr ⟨rfl,rfl⟩) hC rfl
 ·show LP R (rowL ks f 0 tot) _
  refine LP_plain (rowL_pl _ _ _ _) ?_
  rw[hf,List.length_append]
  simp only[Array.toList_append,List.append_assoc]
  rw[<-List.append_assoc,List.take_left' (by rw[List.length_append])]
 ·show loose (nid id 0)=true->_
  intro _ _
  simp only[Array.size_append,List.size_toArray,zeroCells_size,hz]
  rw[List.length_append] at hlen
  show 0+C*ks.length<=_
  rw[hlen,Nat.zero_add,<-Nat.add_mul,show tot+(C - tot)=C from by omega]
  exact Nat.le_refl _
theorem append_new {fm:Nat->Option Blk} (h:MRel w0 R fm w) {id:Nat} (hid:fm (nid id 0)=none) (hlt:id<60000) {ks:List CK} {tot C:Nat} {f:Nat->List Value} {e:TypeId} {olds news:List Value} {z:Array Value} (hf:rowL ks f 0 tot=olds++news) (hC:tot<=C) (hz:z.size=ks.length) :
  ∃R':Nat->Pl->Prop,(∀i p,R i p->R' i p)∧V2 R' (.slice (some ⟨nid id 0,0,none⟩) tot tot) (.slice (some ⟨w.heap.size,0,none⟩) tot C) ∧
   MRel w0 R' (upd fm (nid id 0) ⟨.row ks tot f,e,true⟩) (w.drew.alloc (.cells (olds.toArray++news.toArray++Builtin.zeroCells z (C - tot)) e)):=by
 obtain ⟨R',_,h1⟩:=append_newP h hid hlt (e:=e) hf hC hz
 exact⟨R',h1⟩
theorem forget_free {fm:Nat->Option Blk} (h:MRel w0 R fm w) {b bl:Nat} {blk:Blk} {p:Pl} (hb:fm b=some blk) (hown:blk.own=true) (hp:R b p) (hpa:p.a=some bl) (e:TypeId) :
  ∀j q blk',R j q->q.a=some bl->upd fm b ⟨.lst [],e,false⟩ j=some blk'->weak blk':=by
 intro j q blk' hq hqa hj
 by_cases e1:b=j
 ·subst e1
  rw[upd_same] at hj
  cases hj;exact⟨rfl,rfl⟩
 ·rw[upd_ne _ _ e1] at hj
  exact h.inj _ _ _ _ _ hp hq hpa hqa e1 blk hb hown blk' hj
theorem sound_append (hT:TabOk P T) (h:Rel w0 n R S a w) {c:Call} {s x:Value} {t:Nat} {l:List Nat} (hts:c.argTypes.toList=t::l) (happ:appT T c.argTypes.toList=true) (hl:LR (V2 R) [s,x] (c.args.toList.map a.eval)) {id:Nat} {r:Res} (hr:appendK T t s x id S.fm some none=some r) (ty:TypeId) :
  ∃(R':Nat->Pl->Prop) (v':Value) (w':World),(∀i p,R i p->R' i p)∧(Builtin.append_ c.argTypes ty (c.args.map a.eval)).run P w=.ok v' w'∧V2 R' r.val v'∧MRel w0 R' (memF S.fm r.mem) w':=by
 unfold appendK at hr
 obtain ⟨i,e,j,k1,k2,k3,k4,k5,hr⟩:=elemK_some.1 hr
 obtain ⟨dd,hd1,hd2,_⟩:=und_some hT k1
 have:=hd2 k2;subst this;rw[k3] at hd1
 obtain ⟨hke,hkl,hkb,hkz⟩:=ksOk_parts k5
 obtain ⟨inf,hinf,hsz,hzer,hbyt⟩:=info_of hT k4
 obtain ⟨hc,hr⟩:=cond_some.1 hr
 simp only[Bool.and_eq_true,Nat.blt_eq] at hc
 obtain ⟨hlt,hnone⟩:=hc
 have hnone:=Option.isNone_iff_eq_none.1 hnone
 obtain ⟨q,hq,hr⟩:=srcK_some.1 hr
 obtain ⟨s',x',hargs,hvs,hvx⟩:=two_args hl
 obtain ⟨hlen,hfirst⟩:=src_run (P:=P) h.m hq hvx
 have hmd:=h.m.world (w':=w.drew) (Below.refl w.heap.size w).drew
 obtain ⟨_,hfirstd⟩:=src_run (P:=P) hmd hq hvx
  -- the two types
 obtain ⟨u,hl2,hu⟩:∃u,l=[u]∧∃d,P.underlying u=some d∧∀k,d≠.int k:=by
  rw[hts] at happ
  unfold appT at happ
  split at happ
  ·rename_i u0 u heq
   simp only[List.cons.injEq] at heq
   refine⟨u,heq.2,?_⟩
   cases hlk:look T u with
   | none=>rw[hlk] at happ;simp[oK] at happ
   | some i2 =>
    rw[hlk] at happ
    obtain ⟨d,e1,e2,e3⟩:=und_some hT hlk
    refine⟨d,e1,fun k hk=>?_⟩
    simp only[oK,descK] at happ
    cases hst:i2.st with
    | true=>obtain ⟨fs,e4,_⟩:=e3 hst;rw[e4] at hk;cases hk
    | false =>
     have e4:=e2 hst
     rw[hst,cond_false] at happ
     rw[<-e4,hk] at happ
     simp at happ
  ·simp at happ
 subst hl2
 have h0:c.argTypes[0]?=some t:=by rw[<-Array.getElem?_toList,hts];rfl
 have h1:c.argTypes[1]?=some u:=by rw[<-Array.getElem?_toList,hts];rfl
 have hf0:=hfirst q.n (Nat.le_refl _)
 have hfd:=hfirstd q.n (Nat.le_refl _)
 rw[hkl,<-hsz] at hf0 hfd
 rw[hargs]
 have hks:inf.size=j.eqk.length:=by rw[hsz,hkl]
  -- nil
 have nilCase:∀(a0:Option Addr) (fm:Nat->Option Blk) (f:Nat->List Value),MRel w0 R fm w->fm (nid id 0)=none->rowL j.eqk f 0 q.n=rowL j.eqk q.g 0 q.n->szOk q.n j.byt=true ->
   ∃(R':Nat->Pl->Prop) (v':Value) (w':World),(∀i p,R i p->R' i p)∧(Builtin.append_ c.argTypes ty #[.slice a0 0 0,x']).run P w=.ok v' w'∧V2 R' (.slice (some ⟨nid id 0,0,none⟩) q.n q.n) v'∧MRel w0 R' (upd fm (nid id 0) ⟨.row j.eqk q.n f,e,true⟩) w':=by
  intro a0 fm f hm hid hrow hso
  by_cases hq0:q.n=0
  ·have hrun0:=run_append_in (ty:=ty) hd1 h0 h1 hu hinf (base:=a0) (m:=0) (c:=0) (hlen w) hf0 (by omega)
   have hrun:(Builtin.append_ c.argTypes ty #[.slice a0 0 0,x']).run P w=.ok (.slice a0 0 0) w:=by
    rw[hrun0,hq0]
    cases a0 with
    | none=>rfl
    | some ad=>simp[rowL,storeCells]
   refine⟨_,_,_,fun _ _=>.inl,hrun,?_,hm.view (q:=⟨none,0,0⟩) hid (nid_lt hlt (by omega)) (.inr (.inl rfl)) nofun ?_⟩
   ·exact slice_V2 (nid_loose hlt (by omega)) (.inr ⟨rfl,rfl⟩) (by rw[hq0];exact Nat.le_refl _) ⟨hq0,rfl,a0,rfl⟩
   ·intro R' _ hR
    refine⟨⟨none,0,0⟩,hR,?_⟩
    show rowL j.eqk f 0 q.n=[]
    rw[hq0];rfl
  ·have hrun:=run_append_new (ty:=ty) hd1 h0 h1 hu hinf hzer (base:=a0) (m:=0) (c:=0) (olds:=[]) (hlen w) hfd (by cases a0<;>simp[Builtin.firstCells,loadCells,loadCellsFrom]) (by omega) (by rw[hbyt];exact hkb) (by rw[hbyt,Nat.zero_add];exact szOk_le hso)
   rw[Nat.zero_add] at hrun
   obtain ⟨R',h5,h6,h7⟩:=append_new hm hid hlt (e:=e) (C:=grownCap w q.n 0 e) (olds:=[]) (news:=rowL j.eqk q.g 0 q.n) (z:=j.zer.cells) (f:=f) (tot:=q.n) (by rw[hrow];rfl) (grown_le _ _ _ _) (by rw[hkz,hkl])
   exact⟨R',_,_,h5,hrun,h6,h7⟩
 rcases slK_some.1 hr with⟨m,cc,rfl,hr⟩ | ⟨b,off,m,cc,rfl,hr⟩
 ·obtain ⟨hc,hr⟩:=cond_some.1 hr
  simp only[Bool.and_eq_true] at hc
  obtain ⟨⟨e1,e2⟩,hso⟩:=hc
  cases hr
  have e1:=nbeq.1 e1
  have e2:=nbeq.1 e2
  subst e1 e2
  have:=(V2_plain (R:=R) (v:=.slice none 0 0) rfl).1 hvs;subst this
  exact nilCase none S.fm q.g h.m hnone rfl hso
 ·obtain ⟨hso,hr⟩:=cond_some.1 hr
  obtain ⟨blk,hb,hr⟩:=oK_some.1 hr
  obtain ⟨cells,elem,own⟩:=blk
  simp only at hr
  have hbn:b≠nid id 0:=fun e=>by rw[e,hnone] at hb;simp at hb
  obtain ⟨p,hp,hsl⟩:=V2_slice hvs
  split at hr
  ·-- a literal's own row
   rename_i ls
   obtain ⟨hc,hr⟩:=cond_some.1 hr
   simp only[Bool.and_eq_true,Bool.not_eq_true'] at hc
   obtain ⟨⟨⟨⟨⟨hlo,hown⟩,hcm⟩,hel⟩,hle⟩,hfit⟩:=hc
   cases hr
   have hcm:=nbeq.1 hcm
   have hel:elem=e:=nbeq.1 hel
   have hle:=Nat.le_of_ble_eq_true hle
   subst hcm hown hel
   obtain ⟨bl,hpa,rfl⟩:=SlOk_tight hlo hsl
   have hsrc:srcS S.fm j.eqk (.slice (some ⟨b,off,none⟩) cc cc)=some ⟨cc,lstF ls off j.eqk.length,[b]⟩:=by
    exact srcS_lst hb (by rw[hkl];exact hle) (by rw[hkl];exact hfit)
   obtain ⟨_,holdd⟩:=src_run (P:=P) hmd hsrc hvs
   have hdead:upd S.fm b ⟨.lst [],elem,false⟩ (nid id 0)=none:=by rw[upd_ne _ _ hbn];exact hnone
   have hmf:=h.m.forget hb nofun nofun
   have hrow:=rowL_app j.eqk cc q.n (lstF ls off j.siz) q.g
   show ∃R' v' w',_∧_∧_∧MRel w0 R' (upd (upd S.fm b ⟨.lst [],elem,false⟩) (nid id 0) _) w'
   by_cases hq0:q.n=0
   ·have hrun:=run_append_in (ty:=ty) hd1 h0 h1 hu hinf (base:=some ⟨bl,p.d+off,none⟩) (m:=cc) (c:=cc) (hlen w) hf0 (by omega)
    simp only[hq0,rowL,storeCells,Sem.run_pure,Result.andThen_ok] at hrun
    obtain ⟨p',hp',hcont⟩:=memOk_lst h.m hb
    have:=h.m.func _ _ _ hp hp';subst this
    rw[hpa] at hcont
    obtain ⟨cs,fz,g1,g2,g3⟩:=hcont
    obtain ⟨hfz,hge,_⟩:=g3 rfl
    have g2:LP R ls (cs.toList.drop p.d):=g2
    have hl2:=LP_le g2
    rw[List.length_drop] at hl2
    have ecs:cs.toList.length=cs.size:=Array.length_toList
    refine⟨_,_,_,fun _ _=>.inl,hrun,?_,hmf.rename (q:=⟨some bl,p.d+off,cc⟩) hdead (nid_lt hlt (by omega)) (forget_free h.m hb rfl hp hpa elem) (fun hf=>by have:=h.m.frz_own hf hp hpa hb;simp at this) rfl g1 hfz hge nofun nofun nofun ?_ ?_⟩
    ·exact slice_V2 (nid_loose hlt (by omega)) (.inr ⟨rfl,rfl⟩) (by rw[hq0];exact Nat.le_refl _) (by rw[hq0])
    ·show LP R (rowL j.eqk _ 0 (cc+q.n)) _
     rw[hrow,hq0]
     have e5:=rowL_lst (ks:=j.eqk) (l:=ls) (off:=off) (n:=cc) (by rw[hkl];exact hfit) cc (Nat.le_refl _)
     rw[hkl] at e5
     show LP R (rowL j.eqk (lstF ls off j.siz) 0 cc++[]) _
     rw[List.append_nil,e5]
     have e6:=LP_part g2 (off:=off) (n:=cc*j.siz) hle
     unfold LP
     rw[<-List.drop_drop,List.length_take,List.length_drop,Nat.min_eq_left (by omega)]
     exact e6
    ·show loose (nid id 0)=true->_
     intro _ hc0
     have:0<j.eqk.length:=List.length_pos_iff.2 hke
     have:0<cc*j.siz:=Nat.mul_pos (by simp only at hc0;omega) (by omega)
     show p.d+off+cc*j.eqk.length<=cs.size
     rw[hkl];omega
   ·have hrun:=run_append_new (ty:=ty) hd1 h0 h1 hu hinf hzer (base:=some ⟨bl,p.d+off,none⟩) (m:=cc) (c:=cc) (hlen w) hfd (by rw[hsz,<-hkl];exact holdd cc (Nat.le_refl _)) (by omega) (by rw[hbyt];exact hkb) (by rw[hbyt];exact szOk_le hso)
    obtain ⟨R',h5,h6,h7⟩:=append_new hmf hdead hlt (e:=elem) (C:=grownCap w (cc+q.n) cc elem) (z:=j.zer.cells) (tot:=cc+q.n) (f:=appF cc (lstF ls off j.siz) q.g) (by rw[hrow,<-hkl]) (grown_le _ _ _ _) (by rw[hkz,hkl])
    exact⟨R',_,_,h5,hrun,h6,h7⟩
  ·-- a row that was made so
   rename_i ks n0 f
   cases hlo:loose b with
   | false =>
        -- no room behind it
    rw[hlo,cond_false] at hr
    obtain ⟨hc,hr⟩:=cond_some.1 hr
    simp only[Bool.and_eq_true,Nat.blt_eq] at hc
    obtain ⟨⟨⟨hoff,hmn⟩,hgr⟩,hkk⟩:=hc
    cases hr
    have hoff:=nbeq.1 hoff
    have hmn:=nbeq.1 hmn
    have hkk:=ksEq_eq hkk
    subst hmn hkk hoff
    obtain ⟨bl,hpa,rfl⟩:=SlOk_tight hlo hsl
    have hsrc:srcS S.fm j.eqk (.slice (some ⟨b,0,none⟩) m cc)=some ⟨m,segF ⟨b,0,m,j.eqk,m,f,elem,own,[b]⟩,[b]⟩:=by
     exact srcS_row hb (Nat.le_refl _)
    obtain ⟨_,holdd⟩:=src_run (P:=P) hmd hsrc hvs
    have ho:=holdd m (Nat.le_refl _)
    have e7:rowL j.eqk (segF ⟨b,0,m,j.eqk,m,f,elem,own,[b]⟩) 0 m=rowL j.eqk f 0 m:=by
     have:=rowL_seg ⟨b,0,m,j.eqk,m,f,elem,own,[b]⟩ m 0
     simpa using this
    simp only[e7] at ho
    have hrow:=rowL_app j.eqk m q.n f q.g
    have hrun:=run_append_new (ty:=ty) hd1 h0 h1 hu hinf hzer (base:=some ⟨bl,p.d+0,none⟩) (m:=m) (c:=cc) (olds:=rowL j.eqk f 0 m) (hlen w) hfd (by rw[hks];exact ho) (by omega) (by rw[hbyt];exact hkb) (by rw[hbyt];exact szOk_le hso)
    obtain ⟨R',h5,h6,h7⟩:=append_new h.m hnone hlt (e:=e) (C:=grownCap w (m+q.n) cc e) (z:=j.zer.cells) (tot:=m+q.n) (f:=appF m f q.g) hrow (grown_le _ _ _ _) (by rw[hkz,hkl])
    exact⟨R',_,_,h5,hrun,h6,h7⟩
   | true =>
   rw[hlo,cond_true] at hr
   obtain ⟨hc,hr⟩:=cond_some.1 hr
   simp only[Bool.and_eq_true] at hc
   obtain ⟨⟨⟨⟨hown,hoff⟩,hmn⟩,hel⟩,hkk⟩:=hc
   cases hbb:Nat.ble 1500000 b with
   | true =>
        -- there is room behind it
    rw[hbb,cond_true] at hr
    obtain ⟨hc,hr⟩:=cond_some.1 hr
    simp only[Bool.and_eq_true,Nat.blt_eq] at hc
    obtain ⟨⟨hin,hm0⟩,hq0⟩:=hc
    have hin:=Nat.le_of_ble_eq_true hin
    cases hr
    have hoff:=nbeq.1 hoff
    have hmn:=nbeq.1 hmn
    have hel:elem=e:=nbeq.1 hel
    have hkk:=ksEq_eq hkk
    subst hmn hown hel hkk hoff
    have hrow:=rowL_app j.eqk m q.n f q.g
    obtain ⟨_,hcc,⟨bl,hpa,rfl⟩ | ⟨_,hm1,_,_⟩⟩:=SlOk_loose hlo hsl
    ·obtain ⟨cs,fz,g1,g2,g3,g4⟩:=row_cells h.m hb hp hpa
     obtain ⟨hfz,hge,hroom⟩:=g4 rfl
     have hroom:=hroom hlo (by omega)
     have ecs:cs.toList.length=cs.size:=Array.length_toList
     rw[List.length_drop,ecs] at g3
     have hrun:=run_append_in (ty:=ty) hd1 h0 h1 hu hinf (base:=some ⟨bl,p.d,none⟩) (m:=m) (c:=p.c) (hlen w) hf0 (by omega)
     have hlenN:(rowL j.eqk q.g 0 q.n).length=q.n*j.eqk.length:=rowL_len _ _ _ _
     have hfits:m*j.eqk.length+q.n*j.eqk.length<=p.c*j.eqk.length:=by rw[<-Nat.add_mul];exact Nat.mul_le_mul_right _ (by omega)
     have hst:=run_storeCells (P:=P) (e:=elem) (b:=bl) (off:=p.d+m*j.eqk.length) (rowL j.eqk q.g 0 q.n) 0 w cs g1 (by rw[hlenN];omega) hfz (row_one _ _ _ _)
     simp only[Nat.add_zero,hlenN] at hst
     simp only[addr_add,hks,hst,Result.andThen_ok] at hrun
     have hD:(cs.toList.take (p.d+m*j.eqk.length)++rowL j.eqk q.g 0 q.n++cs.toList.drop (p.d+m*j.eqk.length+q.n*j.eqk.length)).drop p.d=rowL j.eqk (appF m f q.g) 0 (m+q.n)++(cs.toList.drop p.d).drop (m*j.eqk.length+q.n*j.eqk.length):=by
      rw[list_drop_set _ _ _ _ _ (by omega),hrow,g2]
     have hLP:LP R (rowL j.eqk (appF m f q.g) 0 (m+q.n)) ((cs.toList.take (p.d+m*j.eqk.length)++rowL j.eqk q.g 0 q.n++cs.toList.drop (p.d+m*j.eqk.length+q.n*j.eqk.length)).toArray.toList.drop p.d):=by
      rw[List.toList_toArray,hD]
      exact LP_plain (rowL_pl _ _ _ _) (List.take_left' rfl)
     have hsize:(cs.toList.take (p.d+m*j.eqk.length)++rowL j.eqk q.g 0 q.n++cs.toList.drop (p.d+m*j.eqk.length+q.n*j.eqk.length)).toArray.size=cs.size:=by
      rw[List.size_toArray,size_set _ _ _ _ hlenN (by omega),ecs]
     have hw:=h.m.write hb hp hpa rfl g1 hge (c:=.row j.eqk (m+q.n) (appF m f q.g)) nofun nofun nofun hLP (by rw[hsize];exact fun _ hc0=>(show p.d+p.c*j.eqk.length<=cs.size from hroom)) (hfz.of hsize)
     exact⟨R,_,_,fun _ _ h=>h,hrun,slice_V2 hlo hp hcc (by rw[hpa]),hw⟩
    ·omega
   | false =>
   rw[hbb,cond_false] at hr
   cases hr
   have hoff:=nbeq.1 hoff
   have hmn:=nbeq.1 hmn
   have hel:elem=e:=nbeq.1 hel
   have hkk:=ksEq_eq hkk
   subst hmn hown hel hkk hoff
   have hdead:upd S.fm b ⟨.lst [],elem,false⟩ (nid id 0)=none:=by rw[upd_ne _ _ hbn];exact hnone
   have hmf:=h.m.forget hb nofun nofun
   have hrow:=rowL_app j.eqk m q.n f q.g
   show ∃R' v' w',_∧_∧_∧MRel w0 R' (upd (upd S.fm b ⟨.lst [],elem,false⟩) (nid id 0) _) w'
   obtain ⟨_,hcc,⟨bl,hpa,rfl⟩ | ⟨hpa,hm0,hc0,a0,rfl⟩⟩:=SlOk_loose hlo hsl
   ·obtain ⟨cs,fz,g1,g2,g3,g4⟩:=row_cells h.m hb hp hpa
    obtain ⟨hfz,hge,hroom⟩:=g4 rfl
    have hroom:=hroom hlo
    have ecs:cs.toList.length=cs.size:=Array.length_toList
    rw[List.length_drop,ecs] at g3
    by_cases hin:m+q.n<=p.c
    ·have hrun:=run_append_in (ty:=ty) hd1 h0 h1 hu hinf (base:=some ⟨bl,p.d,none⟩) (m:=m) (c:=p.c) (hlen w) hf0 hin
     by_cases hq0:q.n=0
     ·simp only[hq0,rowL,storeCells,Sem.run_pure,Result.andThen_ok] at hrun
      refine⟨_,_,_,fun _ _=>.inl,hrun,?_,hmf.rename (q:=p) hdead (nid_lt hlt (by omega)) (forget_free h.m hb rfl hp hpa elem) (fun hf=>by have:=h.m.frz_own hf hp hpa hb;simp at this) hpa g1 hfz hge nofun nofun nofun ?_ ?_⟩
      ·exact slice_V2 (nid_loose hlt (by omega)) (.inr ⟨rfl,rfl⟩) hin (by rw[hpa,hq0])
      ·show LP R (rowL j.eqk _ 0 (m+q.n)) _
       rw[hrow,hq0]
       show LP R (rowL j.eqk f 0 m++[]) _
       rw[List.append_nil]
       exact LP_plain (rowL_pl _ _ _ _) (by rw[rowL_len];exact g2)
      ·show loose (nid id 0)=true->_
       intro _ hc0;exact hroom hc0
     ·have hroom:=hroom (by omega)
      have hlenN:(rowL j.eqk q.g 0 q.n).length=q.n*j.eqk.length:=rowL_len _ _ _ _
      have hfits:m*j.eqk.length+q.n*j.eqk.length<=p.c*j.eqk.length:=by rw[<-Nat.add_mul];exact Nat.mul_le_mul_right _ hin
      have hst:=run_storeCells (P:=P) (e:=elem) (b:=bl) (off:=p.d+m*j.eqk.length) (rowL j.eqk q.g 0 q.n) 0 w cs g1 (by rw[hlenN];omega) hfz (row_one _ _ _ _)
      simp only[Nat.add_zero,hlenN] at hst
      simp only[addr_add,hks,hst,Result.andThen_ok] at hrun
      have hD:(cs.toList.take (p.d+m*j.eqk.length)++rowL j.eqk q.g 0 q.n++cs.toList.drop (p.d+m*j.eqk.length+q.n*j.eqk.length)).drop p.d=rowL j.eqk (appF m f q.g) 0 (m+q.n)++(cs.toList.drop p.d).drop (m*j.eqk.length+q.n*j.eqk.length):=by
       rw[list_drop_set _ _ _ _ _ (by omega),hrow,g2]
      have hLP:LP R (rowL j.eqk (appF m f q.g) 0 (m+q.n)) ((cs.toList.take (p.d+m*j.eqk.length)++rowL j.eqk q.g 0 q.n++cs.toList.drop (p.d+m*j.eqk.length+q.n*j.eqk.length)).toArray.toList.drop p.d):=by
       rw[List.toList_toArray,hD]
       exact LP_plain (rowL_pl _ _ _ _) (List.take_left' rfl)
      have hsize:(cs.toList.take (p.d+m*j.eqk.length)++rowL j.eqk q.g 0 q.n++cs.toList.drop (p.d+m*j.eqk.length+q.n*j.eqk.length)).toArray.size=cs.size:=by
       rw[List.size_toArray,size_set _ _ _ _ hlenN (by omega),ecs]
      have hw:=h.m.write hb hp hpa rfl g1 hge (c:=.row j.eqk (m+q.n) (appF m f q.g)) nofun nofun nofun hLP (by rw[hsize];exact fun _ hc0=>(show p.d+p.c*j.eqk.length<=cs.size from hroom)) (hfz.of hsize)
      have hw2:=hw.forget (i:=b) (blk:=⟨.row j.eqk (m+q.n) (appF m f q.g),elem,true⟩) (upd_same _ _ _) nofun nofun
      rw[upd_upd] at hw2
      refine⟨_,_,_,fun _ _=>.inl,hrun,?_,hw2.rename (q:=p) hdead (nid_lt hlt (by omega)) (forget_free h.m hb rfl hp hpa elem) (fun hf=>by have:=h.m.frz_own hf hp hpa hb;simp at this) hpa (setBlk_same (heap_lt g1)) (hfz.of hsize) hge nofun nofun nofun hLP ?_⟩
      ·exact slice_V2 (nid_loose hlt (by omega)) (.inr ⟨rfl,rfl⟩) hin (by rw[hpa])
      ·show loose (nid id 0)=true->_
       intro _ _;rw[hsize];exact hroom
    ·have hsrc:srcS S.fm j.eqk (.slice (some ⟨b,0,none⟩) m cc)=some ⟨m,segF ⟨b,0,m,j.eqk,m,f,elem,true,[b]⟩,[b]⟩:=by
      exact srcS_row hb (Nat.le_refl _)
     obtain ⟨_,holdd⟩:=src_run (P:=P) hmd hsrc hvs
     have ho:=holdd m (Nat.le_refl _)
     have e7:rowL j.eqk (segF ⟨b,0,m,j.eqk,m,f,elem,true,[b]⟩) 0 m=rowL j.eqk f 0 m:=by
      have:=rowL_seg ⟨b,0,m,j.eqk,m,f,elem,true,[b]⟩ m 0
      simpa using this
     simp only[e7] at ho
     have hrun:=run_append_new (ty:=ty) hd1 h0 h1 hu hinf hzer (base:=some ⟨bl,p.d,none⟩) (m:=m) (c:=p.c) (olds:=rowL j.eqk f 0 m) (hlen w) hfd (by rw[hks];exact ho) (by omega) (by rw[hbyt];exact hkb) (by rw[hbyt];exact szOk_le hso)
     obtain ⟨R',h5,h6,h7⟩:=append_new hmf hdead hlt (e:=elem) (C:=grownCap w (m+q.n) p.c elem) (z:=j.zer.cells) (tot:=m+q.n) (f:=appF m f q.g) hrow (grown_le _ _ _ _) (by rw[hkz,hkl])
     exact⟨R',_,_,h5,hrun,h6,h7⟩
   ·subst hm0
    have:=nilCase a0 (upd S.fm b ⟨.lst [],elem,false⟩) (appF 0 f q.g) hmf hdead (by
     have:=rowL_app j.eqk 0 q.n f q.g
     rw[Nat.zero_add] at this
     exact this) (by rw[Nat.zero_add] at hso;exact hso)
    simp only[Nat.zero_add]
    exact this
  ·simp at hr
end
end Go.W
