/-
  Several texts in one: W13 Tab M1 M2 La M3 M4 M4b Lb M5 Lc M7 Ld M6 M9 M10 Le Lg M11 M12 N1 N2 N3 M13 M14 Lr.
-/
import Derived.Test.YtckbmhegopjnmaaGreatZc
import Derived.Test.YtckbmhegopjnmaaGreatChecked
import Derived.KernelRfl
import Derived.Laws.MathBits
import Derived.Laws.Externs
import Derived.ProofKit
import Derived.OpenShut
namespace Go.W
open Go.RowKit (Below)
def veq00:Value->Value->Bool
 | .int k x,.int k' y=>decide (k=k')&&decide (x=y)
 | .bool a,.bool b=>decide (a=b)
 | .pointer a,.pointer b=>decide (a=b)
 | .slice a n c,.slice b m d=>decide (a=b)&&Nat.beq n m&&Nat.beq c d
 | .string s,.string t=>decide (s=t)
 | _,_=>false
def leq (q:Value->Value->Bool):List Value->List Value->Bool
 | [],[]=>true
 | a::l,b::m=>q a b&&leq q l m
 | _,_=>false
def veqI:Value->Value->Bool
 | .agg xs,.agg ys=>leq veq00 xs.toList ys.toList
 | v,u=>veq00 v u
def veq0:Value->Value->Bool
 | .int k x,.int k' y=>decide (k=k')&&decide (x=y)
 | .bool a,.bool b=>decide (a=b)
 | .pointer a,.pointer b=>decide (a=b)
 | .slice a n c,.slice b m d=>decide (a=b)&&Nat.beq n m&&Nat.beq c d
 | .string s,.string t=>decide (s=t)
 | .iface t x,.iface t' y=>Nat.beq t t'&&veqI x y
 | .nilIface,.nilIface=>true
 | _,_=>false
def veq1:Value->Value->Bool
 | .agg xs,.agg ys=>leq veq0 xs.toList ys.toList
 | v,u=>veq0 v u
def slotsEq:List (Nat×Value)->List (Nat×Value)->Bool
 | [],[]=>true
 | a::l,b::m=>Nat.beq a.1 b.1&&veq1 a.2 b.2&&slotsEq l m
 | _,_=>false
noncomputable def rowEq (ks:List CK) (n:Nat) (f g:Nat->List Value):Bool:=@decide (∀j,j<n->nrmK ks (f j)=nrmK ks (g j)) (Classical.propDecidable _)
noncomputable def lstEq (l m:List Value):Bool:=@decide (l=m) (Classical.propDecidable _)
noncomputable def famEq (ks:List CK) (n:Nat) (es es':Nat->TypeId) (g g':Nat->Nat×(Nat->List Value)):Bool:=@decide (∀j,j<n->es j=es' j∧(g j).1=(g' j).1∧∀x,x<(g j).1->nrmK ks ((g j).2 x)=nrmK ks ((g' j).2 x)) (Classical.propDecidable _)
noncomputable def txtEq (s t:ByteArray):Bool:=@decide (s=t) (Classical.propDecidable _)
noncomputable def cellsEq (i:Nat):Cells->Cells->Bool
 | .lst l,.lst m=>leq veq0 l m
 | .row ks n f,.row ks' n' g=>ksEq ks ks'&&Nat.beq n n'&&rowEq ks n f g
 | .lst l,.row ks n f=>!(loose i)&&lstEq l (rowL ks f 0 n)
 | .row ks n f,.lst l=>!(loose i)&&lstEq (rowL ks f 0 n) l
 | .elt a k sz,.elt b k' sz'=>Nat.beq a b&&Nat.beq k k'&&Nat.beq sz sz'
 | .tail a l c sz,.tail b l' c' sz'=>Nat.beq a b&&Nat.beq l l'&&Nat.beq c c'&&Nat.beq sz sz'
 | .fam ks n es g,.fam ks' n' es' g'=>ksEq ks ks'&&Nat.beq n n'&&famEq ks n es es' g g'
 | .itr s p,.itr s' p'=>txtEq s s'&&Nat.beq p p'
 | _,_=>false
noncomputable def memEq:List (Nat×Blk)->List (Nat×Blk)->Bool
 | [],[]=>true
 | a::l,b::m=>Nat.beq a.1 b.1&&cellsEq a.1 a.2.cells b.2.cells&&Nat.beq a.2.elem b.2.elem&&decide (a.2.own=b.2.own)&&memEq l m
 | _,_=>false
noncomputable def stEq (s t:St):Bool:=slotsEq s.slots t.slots&&memEq s.mem t.mem&&Nat.beq s.next t.next
theorem veq00_eq {a b:Value}(h:veq00 a b=true):a=b:=by
 unfold veq00 at h
 split at h<;>simp_all
theorem leq_eq {q:Value->Value->Bool}(hq:∀a b,q a b=true->a=b):∀{l m:List Value},leq q l m=true->l=m
 | [],[],_=>rfl
 | a::l,b::m,h=>by
  simp only[leq,Bool.and_eq_true]at h
  rw[hq a b h.1,leq_eq hq h.2]
 | [],_::_,h=>by simp[leq]at h
 | _::_,[],h=>by simp[leq]at h
theorem veqI_eq {a b:Value}(h:veqI a b=true):a=b:=by
 unfold veqI at h
 split at h
 ·rename_i xs ys
  congr 1
  exact Array.toList_inj.1 (leq_eq (fun _ _=>veq00_eq) h)
 ·exact veq00_eq h
theorem veq0_eq {a b:Value}(h:veq0 a b=true):a=b:=by
 unfold veq0 at h
 split at h
 case h_6=>
  simp only[Bool.and_eq_true]at h
  rw[nbeq.1 h.1,veqI_eq h.2]
 all_goals simp_all
theorem veq1_eq {a b:Value}(h:veq1 a b=true):a=b:=by
 unfold veq1 at h
 split at h
 ·rename_i xs ys
  congr 1
  exact Array.toList_inj.1 (leq_eq (fun _ _=>veq0_eq) h)
 ·exact veq0_eq h
theorem slotsEq_eq:∀{l m:List (Nat×Value)},slotsEq l m=true->l=m
 | [],[],_=>rfl
 | (a,x)::l,(b,y)::m,h=>by
  simp only[slotsEq,Bool.and_eq_true]at h
  rw[nbeq.1 h.1.1,veq1_eq h.1.2,slotsEq_eq h.2]
 | [],_::_,h=>by simp[slotsEq]at h
 | _::_,[],h=>by simp[slotsEq]at h
def CellsEqv (i:Nat) (c c':Cells):Prop:=c'=c∨(∃ks n es es' g g',c=.fam ks n es g∧c'=.fam ks n es' g'∧∀j,j<n->es j=es' j∧(g j).1=(g' j).1∧∀x,x<(g j).1->nrmK ks ((g j).2 x)=nrmK ks ((g' j).2 x))∨((∀ks n es g,c≠.fam ks n es g)∧(∀ks n es g,c'≠.fam ks n es g)∧(∀a k sz,c≠.elt a k sz)∧(∀a l k sz,c≠.tail a l k sz)∧(∀a k sz,c'≠.elt a k sz)∧(∀a l k sz,c'≠.tail a l k sz)∧(∀s pos,c≠.itr s pos)∧(∀s pos,c'≠.itr s pos)∧c'.list=c.list∧∀p size,roomOk i c p size->roomOk i c' p size)
theorem cellsEq_eqv {i:Nat}{c c':Cells}(h:cellsEq i c c'=true):CellsEqv i c c':=by
 unfold cellsEq at h
 split at h
 ·left;rw[leq_eq (fun _ _=>veq0_eq) h]
 ·rename_i ks n f ks' n' g
  simp only[Bool.and_eq_true]at h
  obtain ⟨⟨h1,h2⟩,h3⟩:=h
  have h1:=ksEq_eq h1;subst h1
  have h2:=nbeq.1 h2;subst h2
  have h3:∀j,j<n->nrmK ks (f j)=nrmK ks (g j):=@of_decide_eq_true _ (Classical.propDecidable _) h3
  refine .inr (.inr ⟨nofun,nofun,nofun,nofun,nofun,nofun,nofun,nofun,?_,fun _ _ h=>h⟩)
  exact rowL_congr ks n 0 (fun j _ hj=>(h3 j (by omega)).symm)
 ·rename_i l ks n f
  simp only[Bool.and_eq_true,Bool.not_eq_true']at h
  have h2:l=rowL ks f 0 n:=@of_decide_eq_true _ (Classical.propDecidable _) h.2
  refine .inr (.inr ⟨nofun,nofun,nofun,nofun,nofun,nofun,nofun,nofun,h2.symm,fun p size _=>?_⟩)
  show loose i=true->_
  rw[h.1];intro e;simp at e
 ·rename_i ks n f l
  simp only[Bool.and_eq_true,Bool.not_eq_true']at h
  have h2:rowL ks f 0 n=l:=@of_decide_eq_true _ (Classical.propDecidable _) h.2
  exact .inr (.inr ⟨nofun,nofun,nofun,nofun,nofun,nofun,nofun,nofun,h2.symm,fun p size _=>by show loose i=true->_;rw[h.1];intro e;simp at e⟩)
 ·simp only[Bool.and_eq_true]at h
  left;rw[nbeq.1 h.1.1,nbeq.1 h.1.2,nbeq.1 h.2]
 ·simp only[Bool.and_eq_true]at h
  left;rw[nbeq.1 h.1.1.1,nbeq.1 h.1.1.2,nbeq.1 h.1.2,nbeq.1 h.2]
 ·rename_i ks n es g ks' n' es' g'
  simp only[Bool.and_eq_true]at h
  obtain ⟨⟨h1,h2⟩,h3⟩:=h
  have h1:=ksEq_eq h1;subst h1
  have h2:=nbeq.1 h2;subst h2
  exact .inr (.inl ⟨ks,n,es,es',g,g',rfl,rfl,@of_decide_eq_true _ (Classical.propDecidable _) h3⟩)
 ·rename_i s p s' p'
  simp only[Bool.and_eq_true]at h
  have h1:s=s':=@of_decide_eq_true _ (Classical.propDecidable _) h.1
  left;rw[h1,nbeq.1 h.2]
 ·simp at h
theorem memEq_eqv:∀{l m:List (Nat×Blk)},memEq l m=true->∀i,(look l i=none∧look m i=none)∨∃b b',look l i=some b∧look m i=some b'∧b'.elem=b.elem∧b'.own=b.own∧CellsEqv i b.cells b'.cells
 | [],[],_,i=>.inl ⟨rfl,rfl⟩
 | (x,b)::l,(y,b')::m,h,i=>by
  simp only[memEq,Bool.and_eq_true,decide_eq_true_eq]at h
  obtain ⟨⟨⟨⟨h1,h2⟩,h3⟩,h4⟩,h5⟩:=h
  have h1:=nbeq.1 h1;subst h1
  rw[look_cons,look_cons]
  by_cases hi:x=i
  ·subst hi
   rw[upd_same,upd_same]
   exact .inr ⟨b,b',rfl,rfl,(nbeq.1 h3).symm,h4.symm,cellsEq_eqv h2⟩
  ·rw[upd_ne _ _ hi,upd_ne _ _ hi]
   exact memEq_eqv h5 i
 | [],_::_,h,_=>by simp[memEq]at h
 | _::_,[],h,_=>by simp[memEq]at h
theorem Rel.eqv {GL:Glob}{w0:Wb GL}{n:Nat}{R:Nat->Pl->Prop}{s t:St}{a:Act}{w:World}(he:stEq s t=true) (h:Rel w0 n R s.f a w):Rel w0 n R t.f a w:=by
 obtain ⟨sl,me,nx⟩:=s
 obtain ⟨sl',me',nx'⟩:=t
 simp only[stEq,Bool.and_eq_true]at he
 obtain ⟨⟨h1,h2⟩,_⟩:=he
 have h1:=slotsEq_eq h1
 subst h1
 have hm:=memEq_eqv h2
 refine⟨h.defers,h.size,h.slot,h.m.below,h.m.func,?_,?_,?_,h.m.anc,fun i1 p1 b1 h3 h4=>(h.m.there i1 p1 b1 h3 h4).mono (fun s pos hs=>by
  have hs:look me i1=some ⟨.itr s pos,0,true⟩:=hs
  show look me' i1=look me i1
  rcases hm i1 with⟨e,_⟩|⟨c,c',k1,k2,k3,k4,k5⟩
  ·rw[e]at hs;simp at hs
  ·rw[k1]at hs;cases hs
   rw[k1,k2]
   obtain ⟨cells',elem',own'⟩:=c'
   simp only at k3 k4 k5
   subst k3 k4
   rcases k5 with e|⟨_,_,_,_,_,_,e,_⟩|⟨_,_,_,_,_,_,e,_⟩
   ·rw[e]
   ·cases e
   ·exact absurd rfl (e s pos)) rfl,fun i1 p1 h1 hge1=>by
  obtain ⟨h2,h3⟩:=h.m.fro i1 p1 h1 hge1
  refine⟨h2,fun j q hj hq blk1 hblk1=>?_⟩
  have hblk1:look me' j=some blk1:=hblk1
  rcases hm j with⟨_,e⟩|⟨c,c',k1,k2,k3,k4,_⟩
  ·rw[e]at hblk1;simp at hblk1
  ·rw[k2]at hblk1;cases hblk1
   rw[k4];exact h3 j q hj hq c k1⟩
 ·intro i j p q b r1 r2 ha hb hne blk hblk hown blk' hblk'
  have hblk:look me' i=some blk:=hblk
  have hblk':look me' j=some blk':=hblk'
  rcases hm i with⟨_,e⟩|⟨c,c',k1,k2,k3,k4,_⟩
  ·rw[e]at hblk;simp at hblk
  ·rw[k2]at hblk;cases hblk
   rcases hm j with⟨_,e⟩|⟨d,d',l1,l2,l3,l4,l5⟩
   ·rw[e]at hblk';simp at hblk'
   ·rw[l2]at hblk';cases hblk'
    have:=h.m.inj i j p q b r1 r2 ha hb hne c k1 (by rw[<-k4];exact hown) d l1
    refine⟨by rw[l4];exact this.1,?_⟩
    rcases l5 with e|⟨_,_,_,_,_,_,_,e,_⟩|⟨_,_,_,_,_,_,_,_,e,_⟩
    ·rw[e];exact this.2
    ·rw[e];rfl
    ·rw[e];exact this.2
 ·intro i blk hblk
  have hblk:look me' i=some blk:=hblk
  rcases hm i with⟨_,e⟩|⟨c,c',k1,k2,k3,k4,k5⟩
  ·rw[e]at hblk;simp at hblk
  ·rw[k2]at hblk;cases hblk
   have hmo:=h.m.mem i c k1
   obtain ⟨cells,elem,own⟩:=c
   obtain ⟨cells',elem',own'⟩:=blk
   simp only at k3 k4 k5
   subst k3 k4
   rcases k5 with e|⟨ks,m,es,es',g,g',rfl,rfl,e⟩|⟨f1,f2,e1,e2,e3,e4,g1,g2,e5,e6⟩
   ·subst e;exact hmo
   ·obtain ⟨p,m1,m2⟩:FamOk w0 R w i elem' own' ks m es g:=hmo
    refine⟨p,m1,?_⟩
    cases hpa:p.a with
    | none=>rw[hpa]at m2;exact m2
    | some b=>
     rw[hpa]at m2
     obtain ⟨cs,fz,n1,n2,n3⟩:=m2
     refine⟨cs,fz,n1,fun j hj=>?_,n3.1,fun ho=>⟨(n3.2 ho).1,(n3.2 ho).2.1,(n3.2 ho).2.2.1,fun j hj v hv=>by rw[<-(e j hj).2.1];exact(n3.2 ho).2.2.2 j hj v hv⟩⟩
     obtain ⟨v,n5,n6⟩:=n2 j hj
     obtain ⟨d1,d2,d3⟩:=e j hj
     refine⟨v,n5,?_⟩
     rw[<-d1,<-d2]
     rcases n6 with n6|⟨b2,d,c,cs2,fz2,o1,o2,o3,o4,o5⟩
     ·exact .inl n6
     ·exact .inr ⟨b2,d,c,cs2,fz2,o1,o2,o3,o4,by rw[o5];exact rowL_congr ks _ 0 (fun x _ hx=>d3 x (by omega))⟩
   ·have hco:ContOk w0 R w i ⟨cells,elem',own'⟩:=by
     unfold MemOk at hmo
     split at hmo
     ·rename_i hc;exact absurd hc (e1 _ _ _)
     ·rename_i hc;exact absurd hc (e2 _ _ _ _)
     ·rename_i hc;exact absurd hc (f1 _ _ _ _)
     ·rename_i hc;exact absurd hc (g1 _ _)
     ·exact hmo
    unfold MemOk
    split
    ·rename_i hc;exact absurd hc (e3 _ _ _)
    ·rename_i hc;exact absurd hc (e4 _ _ _ _)
    ·rename_i hc;exact absurd hc (f2 _ _ _ _)
    ·rename_i hc;exact absurd hc (g2 _ _)
    ·obtain ⟨p,m1,m2⟩:=hco
     refine⟨p,m1,?_⟩
     cases hpa:p.a with
     | none=>rw[hpa]at m2;show cells'.list=[];rw[e5];exact m2
     | some b=>
      rw[hpa]at m2
      obtain ⟨cs,fz,n1,n2,n3⟩:=m2
      refine⟨cs,fz,n1,?_,fun ho=>⟨(n3 ho).1,(n3 ho).2.1,e6 _ _ (n3 ho).2.2⟩⟩
      show LP R cells'.list _
      rw[e5];exact n2
 ·intro i p hp hvb
  have:=h.m.dom i p hp hvb
  show(look me' i).isSome=true
  rcases hm i with⟨e,_⟩|⟨c,c',k1,k2,_⟩
  ·have this:(look me i).isSome=true:=this
   rw[e]at this;simp at this
  ·rw[k2];rfl
def vok00:Value->Bool
 | .int _ _=>true
 | .bool _=>true
 | .pointer _=>true
 | .slice _ _ _=>true
 | .string _=>true
 | _=>false
def vokI:Value->Bool
 | .agg xs=>xs.toList.all vok00
 | v=>vok00 v
def vok0:Value->Bool
 | .int _ _=>true
 | .bool _=>true
 | .pointer _=>true
 | .slice _ _ _=>true
 | .string _=>true
 | .iface _ x=>vokI x
 | .nilIface=>true
 | _=>false
def vok1:Value->Bool
 | .agg xs=>xs.toList.all vok0
 | v=>vok0 v
def vokC:Cells->Bool
 | .lst l=>l.all vok0
 | _=>true
def stOk (s:St):Bool:=s.slots.all (fun p=>vok1 p.2)&&s.mem.all (fun p=>vokC p.2.cells)
theorem veq00_refl {a:Value}(h:vok00 a=true):veq00 a a=true:=by
 unfold vok00 at h
 split at h<;>simp_all [veq00]
theorem leq_refl {q:Value->Value->Bool}{p:Value->Bool}(hq:∀a,p a=true->q a a=true):∀{l:List Value},l.all p=true->leq q l l=true
 | [],_=>rfl
 | a::l,h=>by
  simp only[List.all_cons,Bool.and_eq_true]at h
  simp only[leq,hq a h.1,leq_refl hq h.2,Bool.and_self]
theorem veqI_refl {a:Value}(h:vokI a=true):veqI a a=true:=by
 unfold vokI at h
 split at h
 ·exact leq_refl (fun _=>veq00_refl) h
 ·rename_i hne
  unfold veqI
  split
  ·exact absurd rfl (hne _)
  ·exact veq00_refl h
theorem veq0_refl {a:Value}(h:vok0 a=true):veq0 a a=true:=by
 unfold vok0 at h
 split at h
 case h_6=>simp only[veq0,Nat.beq_refl,veqI_refl h,Bool.and_self]
 all_goals simp_all [veq0]
theorem veq1_refl {a:Value}(h:vok1 a=true):veq1 a a=true:=by
 unfold vok1 at h
 split at h
 ·exact leq_refl (fun _=>veq0_refl) h
 ·rename_i hne
  unfold veq1
  split
  ·exact absurd rfl (hne _)
  ·exact veq0_refl h
theorem slotsEq_refl:∀{l:List (Nat×Value)},l.all (fun p=>vok1 p.2)=true->slotsEq l l=true
 | [],_=>rfl
 | (a,x)::l,h=>by
  simp only[List.all_cons,Bool.and_eq_true]at h
  simp only[slotsEq,Nat.beq_refl,veq1_refl h.1,slotsEq_refl h.2,Bool.and_self]
theorem cellsEq_refl {i:Nat}{c:Cells}(h:vokC c=true):cellsEq i c c=true:=by
 cases c with
 | lst l=>exact leq_refl (fun _=>veq0_refl) h
 | row ks n f=>
  have:rowEq ks n f f=true:=@decide_eq_true _ (Classical.propDecidable _) (fun _ _=>rfl)
  simp only[cellsEq,ksEq_refl,Nat.beq_refl,this,Bool.and_self]
 | elt a k sz=>simp only[cellsEq,Nat.beq_refl,Bool.and_self]
 | tail a l k sz=>simp only[cellsEq,Nat.beq_refl,Bool.and_self]
 | fam ks n es g=>
  have:famEq ks n es es g g=true:=@decide_eq_true _ (Classical.propDecidable _) (fun _ _=>⟨rfl,rfl,fun _ _=>rfl⟩)
  simp only[cellsEq,ksEq_refl,Nat.beq_refl,this,Bool.and_self]
 | itr s p=>
  have:txtEq s s=true:=@decide_eq_true _ (Classical.propDecidable _) rfl
  simp only[cellsEq,Nat.beq_refl,this,Bool.and_self]
theorem memEq_refl:∀{l:List (Nat×Blk)},l.all (fun p=>vokC p.2.cells)=true->memEq l l=true
 | [],_=>rfl
 | (a,⟨c,e,o⟩)::l,h=>by
  simp only[List.all_cons,Bool.and_eq_true]at h
  have h5:=cellsEq_refl (i:=a) h.1
  simp only[memEq,Nat.beq_refl,h5,memEq_refl h.2,Bool.and_self,decide_true]
theorem stEq_refl {s:St}(h:stOk s=true):stEq s s=true:=by
 simp only[stOk,Bool.and_eq_true]at h
 simp only[stEq,slotsEq_refl h.1,memEq_refl h.2,Nat.beq_refl,Bool.and_self]
theorem cellsEq_rr {i:Nat}{ks:List CK}{n:Nat}{f g:Nat->List Value}(h:∀j,j<n->nrmK ks (f j)=nrmK ks (g j)):cellsEq i (.row ks n f) (.row ks n g)=true:=by
 have:rowEq ks n f g=true:=@decide_eq_true _ (Classical.propDecidable _) h
 simp only[cellsEq,ksEq_refl,Nat.beq_refl,this,Bool.and_self]
theorem memEq_cons {a:Nat}{c c':Cells}{e:TypeId}{o:Bool}{l m:List (Nat×Blk)}(h:cellsEq a c c'=true) (h2:memEq l m=true):memEq ((a,⟨c,e,o⟩)::l) ((a,⟨c',e,o⟩)::m)=true:=by
 simp only[memEq,Nat.beq_refl,h,h2,Bool.and_self,decide_true]
theorem stEq_mk {sl:List (Nat×Value)}{m m':List (Nat×Blk)}{nx:Nat}(h1:sl.all (fun p=>vok1 p.2)=true) (h2:memEq m m'=true):stEq ⟨sl,m,nx⟩ ⟨sl,m',nx⟩=true:=by
 simp only[stEq,slotsEq_refl h1,h2,Nat.beq_refl,Bool.and_self]
noncomputable def atSt (ts:List Nat) (is:Ren) (nx:Nat) (s0:St) (e:Exit) (sf:St) (s:St):List (Bool×Exit×St):=
 oK (restS ts is nx s) (fun s1=>[(stEq s1 s0,e,sf)]) []
theorem atSt_ok {P:Program} [Laid P] {n:Nat}{body:Code}{ts:List Nat}{is:Ren}{nx:Nat}{s0:St}{e:Exit}{sf:St}
  (h:∀(w0:Wb (lay P)) (R:Nat->Pl->Prop) (a:Act) (w:World),Rel w0 n R s0.f a w->(Code.loop body).wp P (fun e' a' w'=>e'=e∧∃R',Rel w0 n R' sf.f a' w') a w):LoopOk P n body (atSt ts is nx s0 e sf):=by
 intro w0 R s a w hrel e' s' hp
 unfold atSt at hp
 cases hr:restS ts is nx s with
 | none=>rw[hr]at hp;simp[oK,pickL]at hp
 | some s1=>
  rw[hr]at hp
  simp only[oK,pickL,cond_some]at hp
  obtain ⟨h1,h2⟩:=hp
  cases h2
  obtain ⟨R',hr'⟩:=Rel.rest hr hrel
  exact h w0 R' a w (hr'.eqv h1)
theorem oneL {P:Program} [Laid P] {n:Nat}{c:Code}{p:List Nat}{F:St->List (Bool×Exit×St)}(h:LoopOk P n (loopAt p c) F):∀q F',lookP [(p,F)] q=some F'->LoopOk P n (loopAt q c) F':=by
 intro q F' hq
 simp only[lookP]at hq
 cases he:nlEq p q with
 | false=>rw[he]at hq;simp at hq
 | true=>rw[he]at hq;simp at hq;subst hq;rw[<-nlEq_iff he];exact h
theorem consL {P:Program} [Laid P] {n:Nat}{c:Code}{p:List Nat}{F:St->List (Bool×Exit×St)}{L:List (List Nat×(St->List (Bool×Exit×St)))}(h:LoopOk P n (loopAt p c) F)
  (hL:∀q F',lookP L q=some F'->LoopOk P n (loopAt q c) F'):∀q F',lookP ((p,F)::L) q=some F'->LoopOk P n (loopAt q c) F':=by
 intro q F' hq
 simp only[lookP]at hq
 cases he:nlEq p q with
 | false=>rw[he]at hq;exact hL q F' hq
 | true=>rw[he]at hq;simp at hq;subst hq;rw[<-nlEq_iff he];exact h
def ptr (b:Nat):Value:=.pointer (some ⟨b,0,none⟩)
end Go.W

namespace Go.Proofs.YtckbmhegopjnmaaGreat
set_option maxRecDepth 100000
open Go.W
theorem tt2:TOk Tryz.prog 2 ⟨.int .i64,1,.int .i64 0,false,[],[.i .i64],8⟩:=tok_eq (by kernel_rfl) (by kernel_rfl) (by kernel_rfl) (by kernel_rfl)
theorem tt3:TOk Tryz.prog 3 ⟨.int .i64,1,.int .i64 0,false,[],[.i .i64],8⟩:=tok_eq (by kernel_rfl) (by kernel_rfl) (by kernel_rfl) (by kernel_rfl)
theorem tt4:TOk Tryz.prog 4 ⟨.bool,1,.bool false,false,[],[.b],1⟩:=tok_eq (by kernel_rfl) (by kernel_rfl) (by kernel_rfl) (by kernel_rfl)
theorem tt5:TOk Tryz.prog 5 ⟨.int .u8,1,.int .u8 0,false,[],[.i .u8],1⟩:=tok_eq (by kernel_rfl) (by kernel_rfl) (by kernel_rfl) (by kernel_rfl)
theorem tt9:TOk Tryz.prog 9 ⟨.string,1,.string ⟨#[]⟩,false,[],[.s],16⟩:=tok_eq (by kernel_rfl) (by kernel_rfl) (by kernel_rfl) (by kernel_rfl)
theorem tt12:TOk Tryz.prog 12 ⟨.int .u64,1,.int .u64 0,false,[],[.i .u64],8⟩:=tok_eq (by kernel_rfl) (by kernel_rfl) (by kernel_rfl) (by kernel_rfl)
theorem tt20:TOk Tryz.prog 20 ⟨.interface #[],1,.nilIface,false,[],[],16⟩:=tok_plain (by kernel_rfl) (by kernel_rfl)
theorem tt21:TOk Tryz.prog 21 ⟨.int .i32,1,.int .i32 0,false,[],[.i .i32],4⟩:=tok_eq (by kernel_rfl) (by kernel_rfl) (by kernel_rfl) (by kernel_rfl)
theorem tt22:TOk Tryz.prog 22 ⟨.int .u64,1,.int .u64 0,false,[],[.i .u64],8⟩:=tok_eq (by kernel_rfl) (by kernel_rfl) (by kernel_rfl) (by kernel_rfl)
theorem tt23:TOk Tryz.prog 23 ⟨.array 4 22,4,.agg #[.int .u64 0,.int .u64 0,.int .u64 0,.int .u64 0],false,[],[.i .u64,.i .u64,.i .u64,.i .u64],32⟩:=tok_eq (by kernel_rfl) (by kernel_rfl) (by kernel_rfl) (by kernel_rfl)
theorem tt24:TOk Tryz.prog 24 ⟨.array 4 22,4,.agg #[.int .u64 0,.int .u64 0,.int .u64 0,.int .u64 0],false,[],[.i .u64,.i .u64,.i .u64,.i .u64],32⟩:=tok_eq (by kernel_rfl) (by kernel_rfl) (by kernel_rfl) (by kernel_rfl)
theorem tt25:TOk Tryz.prog 25 ⟨.bool,9,.agg #[.bool false,.int .u64 0,.int .u64 0,.int .u64 0,.int .u64 0,.int .u64 0,.int .u64 0,.int .u64 0,.int .u64 0],true,[(0,4),(1,24),(5,24)],[.b,.i .u64,.i .u64,.i .u64,.i .u64,.i .u64,.i .u64,.i .u64,.i .u64],72⟩:=tok_structE (by kernel_rfl) (by kernel_rfl) (by kernel_rfl) (by kernel_rfl)
theorem tt26:TOk Tryz.prog 26 ⟨.bool,9,.agg #[.bool false,.int .u64 0,.int .u64 0,.int .u64 0,.int .u64 0,.int .u64 0,.int .u64 0,.int .u64 0,.int .u64 0],true,[(0,4),(1,24),(5,24)],[.b,.i .u64,.i .u64,.i .u64,.i .u64,.i .u64,.i .u64,.i .u64,.i .u64],72⟩:=tok_structE (by kernel_rfl) (by kernel_rfl) (by kernel_rfl) (by kernel_rfl)
theorem tt27:TOk Tryz.prog 27 ⟨.slice 64,1,.slice none 0 0,false,[],[],24⟩:=tok_plain (by kernel_rfl) (by kernel_rfl)
theorem tt28:TOk Tryz.prog 28 ⟨.slice 26,1,.slice none 0 0,false,[],[],24⟩:=tok_plain (by kernel_rfl) (by kernel_rfl)
theorem tt29:TOk Tryz.prog 29 ⟨.bool,8,.agg #[.int .u64 0,.int .u64 0,.int .u64 0,.int .u64 0,.int .u64 0,.int .u64 0,.int .u64 0,.int .u64 0],true,[(0,24),(4,24)],[.i .u64,.i .u64,.i .u64,.i .u64,.i .u64,.i .u64,.i .u64,.i .u64],64⟩:=tok_structE (by kernel_rfl) (by kernel_rfl) (by kernel_rfl) (by kernel_rfl)
theorem tt30:TOk Tryz.prog 30 ⟨.bool,8,.agg #[.int .u64 0,.int .u64 0,.int .u64 0,.int .u64 0,.int .u64 0,.int .u64 0,.int .u64 0,.int .u64 0],true,[(0,24),(4,24)],[.i .u64,.i .u64,.i .u64,.i .u64,.i .u64,.i .u64,.i .u64,.i .u64],64⟩:=tok_structE (by kernel_rfl) (by kernel_rfl) (by kernel_rfl) (by kernel_rfl)
theorem tt31:TOk Tryz.prog 31 ⟨.bool,22,.agg #[.int .i64 0,.bool false,.int .u64 0,.int .u64 0,.int .u64 0,.int .u64 0,.int .u64 0,.int .u64 0,.int .u64 0,.int .u64 0,.string ⟨#[]⟩,.slice none 0 0,.slice none 0 0,.int .i64 0,.int .u64 0,.int .u64 0,.int .u64 0,.int .u64 0,.int .u64 0,.int .u64 0,.int .u64 0,.int .u64 0],true,[(0,3),(1,26),(10,9),(11,27),(12,28),(13,3),(14,30)],[],216⟩:=tok_struct (by kernel_rfl) (by kernel_rfl)
theorem tt32:TOk Tryz.prog 32 ⟨.bool,22,.agg #[.int .i64 0,.bool false,.int .u64 0,.int .u64 0,.int .u64 0,.int .u64 0,.int .u64 0,.int .u64 0,.int .u64 0,.int .u64 0,.string ⟨#[]⟩,.slice none 0 0,.slice none 0 0,.int .i64 0,.int .u64 0,.int .u64 0,.int .u64 0,.int .u64 0,.int .u64 0,.int .u64 0,.int .u64 0,.int .u64 0],true,[(0,3),(1,26),(10,9),(11,27),(12,28),(13,3),(14,30)],[],216⟩:=tok_struct (by kernel_rfl) (by kernel_rfl)
theorem tt35:TOk Tryz.prog 35 ⟨.int .i64,1,.int .i64 0,false,[],[.i .i64],8⟩:=tok_eq (by kernel_rfl) (by kernel_rfl) (by kernel_rfl) (by kernel_rfl)
theorem tt37:TOk Tryz.prog 37 ⟨.slice 5,1,.slice none 0 0,false,[],[],24⟩:=tok_plain (by kernel_rfl) (by kernel_rfl)
theorem tt64:TOk Tryz.prog 64 ⟨.array 32 5,32,.agg #[.int .u8 0,.int .u8 0,.int .u8 0,.int .u8 0,.int .u8 0,.int .u8 0,.int .u8 0,.int .u8 0,.int .u8 0,.int .u8 0,.int .u8 0,.int .u8 0,.int .u8 0,.int .u8 0,.int .u8 0,.int .u8 0,.int .u8 0,.int .u8 0,.int .u8 0,.int .u8 0,.int .u8 0,.int .u8 0,.int .u8 0,.int .u8 0,.int .u8 0,.int .u8 0,.int .u8 0,.int .u8 0,.int .u8 0,.int .u8 0,.int .u8 0,.int .u8 0],false,[],[.i .u8,.i .u8,.i .u8,.i .u8,.i .u8,.i .u8,.i .u8,.i .u8,.i .u8,.i .u8,.i .u8,.i .u8,.i .u8,.i .u8,.i .u8,.i .u8,.i .u8,.i .u8,.i .u8,.i .u8,.i .u8,.i .u8,.i .u8,.i .u8,.i .u8,.i .u8,.i .u8,.i .u8,.i .u8,.i .u8,.i .u8,.i .u8],32⟩:=tok_eq (by kernel_rfl) (by kernel_rfl) (by kernel_rfl) (by kernel_rfl)
theorem tt68:TOk Tryz.prog 68 ⟨.bool,3,.agg #[.slice none 0 0,.int .i64 0,.bool false],true,[(0,37),(1,3),(2,4)],[],40⟩:=tok_struct (by kernel_rfl) (by kernel_rfl)
theorem tt69:TOk Tryz.prog 69 ⟨.bool,3,.agg #[.slice none 0 0,.int .i64 0,.bool false],true,[(0,37),(1,3),(2,4)],[],40⟩:=tok_struct (by kernel_rfl) (by kernel_rfl)
theorem tt73:TOk Tryz.prog 73 ⟨.bool,3,.agg #[.slice none 0 0,.int .i64 0,.bool false],true,[(0,37),(1,3),(2,4)],[],40⟩:=tok_struct (by kernel_rfl) (by kernel_rfl)
theorem tt74:TOk Tryz.prog 74 ⟨.bool,3,.agg #[.slice none 0 0,.int .i64 0,.bool false],true,[(0,37),(1,3),(2,4)],[],40⟩:=tok_struct (by kernel_rfl) (by kernel_rfl)
theorem tt77:TOk Tryz.prog 77 ⟨.int .u64,1,.int .u64 0,false,[],[.i .u64],8⟩:=tok_eq (by kernel_rfl) (by kernel_rfl) (by kernel_rfl) (by kernel_rfl)
theorem tt84:TOk Tryz.prog 84 ⟨.bool,10,.agg #[.bool false,.int .u64 0,.int .u64 0,.int .u64 0,.int .u64 0,.int .u64 0,.int .u64 0,.int .u64 0,.int .u64 0,.string ⟨#[]⟩],true,[(0,26),(9,9)],[.b,.i .u64,.i .u64,.i .u64,.i .u64,.i .u64,.i .u64,.i .u64,.i .u64,.s],88⟩:=tok_structE (by kernel_rfl) (by kernel_rfl) (by kernel_rfl) (by kernel_rfl)
theorem tt85:TOk Tryz.prog 85 ⟨.bool,10,.agg #[.bool false,.int .u64 0,.int .u64 0,.int .u64 0,.int .u64 0,.int .u64 0,.int .u64 0,.int .u64 0,.int .u64 0,.string ⟨#[]⟩],true,[(0,26),(9,9)],[.b,.i .u64,.i .u64,.i .u64,.i .u64,.i .u64,.i .u64,.i .u64,.i .u64,.s],88⟩:=tok_structE (by kernel_rfl) (by kernel_rfl) (by kernel_rfl) (by kernel_rfl)
theorem tt87:TOk Tryz.prog 87 ⟨.bool,2,.agg #[.slice none 0 0,.slice none 0 0],true,[(0,27),(1,28)],[],48⟩:=tok_struct (by kernel_rfl) (by kernel_rfl)
theorem tt88:TOk Tryz.prog 88 ⟨.bool,2,.agg #[.slice none 0 0,.slice none 0 0],true,[(0,27),(1,28)],[],48⟩:=tok_struct (by kernel_rfl) (by kernel_rfl)
theorem tt89:TOk Tryz.prog 89 ⟨.bool,17,.agg #[.bool false,.int .u64 0,.int .u64 0,.int .u64 0,.int .u64 0,.int .u64 0,.int .u64 0,.int .u64 0,.int .u64 0,.int .u64 0,.int .u64 0,.int .u64 0,.int .u64 0,.int .u64 0,.int .u64 0,.int .u64 0,.int .u64 0],true,[(0,26),(9,30)],[.b,.i .u64,.i .u64,.i .u64,.i .u64,.i .u64,.i .u64,.i .u64,.i .u64,.i .u64,.i .u64,.i .u64,.i .u64,.i .u64,.i .u64,.i .u64,.i .u64],136⟩:=tok_structE (by kernel_rfl) (by kernel_rfl) (by kernel_rfl) (by kernel_rfl)
theorem tt90:TOk Tryz.prog 90 ⟨.bool,17,.agg #[.bool false,.int .u64 0,.int .u64 0,.int .u64 0,.int .u64 0,.int .u64 0,.int .u64 0,.int .u64 0,.int .u64 0,.int .u64 0,.int .u64 0,.int .u64 0,.int .u64 0,.int .u64 0,.int .u64 0,.int .u64 0,.int .u64 0],true,[(0,26),(9,30)],[.b,.i .u64,.i .u64,.i .u64,.i .u64,.i .u64,.i .u64,.i .u64,.i .u64,.i .u64,.i .u64,.i .u64,.i .u64,.i .u64,.i .u64,.i .u64,.i .u64],136⟩:=tok_structE (by kernel_rfl) (by kernel_rfl) (by kernel_rfl) (by kernel_rfl)
theorem tt91:TOk Tryz.prog 91 ⟨.bool,18,.agg #[.int .i64 0,.bool false,.int .u64 0,.int .u64 0,.int .u64 0,.int .u64 0,.int .u64 0,.int .u64 0,.int .u64 0,.int .u64 0,.int .u64 0,.int .u64 0,.int .u64 0,.int .u64 0,.int .u64 0,.int .u64 0,.int .u64 0,.int .u64 0],true,[(0,3),(1,90)],[.i .i64,.b,.i .u64,.i .u64,.i .u64,.i .u64,.i .u64,.i .u64,.i .u64,.i .u64,.i .u64,.i .u64,.i .u64,.i .u64,.i .u64,.i .u64,.i .u64,.i .u64],144⟩:=tok_structE (by kernel_rfl) (by kernel_rfl) (by kernel_rfl) (by kernel_rfl)
theorem tt92:TOk Tryz.prog 92 ⟨.bool,18,.agg #[.int .i64 0,.bool false,.int .u64 0,.int .u64 0,.int .u64 0,.int .u64 0,.int .u64 0,.int .u64 0,.int .u64 0,.int .u64 0,.int .u64 0,.int .u64 0,.int .u64 0,.int .u64 0,.int .u64 0,.int .u64 0,.int .u64 0,.int .u64 0],true,[(0,3),(1,90)],[.i .i64,.b,.i .u64,.i .u64,.i .u64,.i .u64,.i .u64,.i .u64,.i .u64,.i .u64,.i .u64,.i .u64,.i .u64,.i .u64,.i .u64,.i .u64,.i .u64,.i .u64],144⟩:=tok_structE (by kernel_rfl) (by kernel_rfl) (by kernel_rfl) (by kernel_rfl)
theorem tt94:TOk Tryz.prog 94 ⟨.bool,17,.agg #[.bool false,.int .u64 0,.int .u64 0,.int .u64 0,.int .u64 0,.int .u64 0,.int .u64 0,.int .u64 0,.int .u64 0,.int .u64 0,.int .u64 0,.int .u64 0,.int .u64 0,.int .u64 0,.int .u64 0,.int .u64 0,.int .u64 0],true,[(0,90)],[.b,.i .u64,.i .u64,.i .u64,.i .u64,.i .u64,.i .u64,.i .u64,.i .u64,.i .u64,.i .u64,.i .u64,.i .u64,.i .u64,.i .u64,.i .u64,.i .u64],136⟩:=tok_structE (by kernel_rfl) (by kernel_rfl) (by kernel_rfl) (by kernel_rfl)
theorem tt95:TOk Tryz.prog 95 ⟨.bool,17,.agg #[.bool false,.int .u64 0,.int .u64 0,.int .u64 0,.int .u64 0,.int .u64 0,.int .u64 0,.int .u64 0,.int .u64 0,.int .u64 0,.int .u64 0,.int .u64 0,.int .u64 0,.int .u64 0,.int .u64 0,.int .u64 0,.int .u64 0],true,[(0,90)],[.b,.i .u64,.i .u64,.i .u64,.i .u64,.i .u64,.i .u64,.i .u64,.i .u64,.i .u64,.i .u64,.i .u64,.i .u64,.i .u64,.i .u64,.i .u64,.i .u64],136⟩:=tok_structE (by kernel_rfl) (by kernel_rfl) (by kernel_rfl) (by kernel_rfl)
theorem tt96:TOk Tryz.prog 96 ⟨.bool,0,.agg #[],true,[],[],0⟩:=tok_struct (by kernel_rfl) (by kernel_rfl)
theorem tt97:TOk Tryz.prog 97 ⟨.bool,0,.agg #[],true,[],[],0⟩:=tok_struct (by kernel_rfl) (by kernel_rfl)
theorem tt128:TOk Tryz.prog 128 ⟨.slice 21,1,.slice none 0 0,false,[],[],24⟩:=tok_plain (by kernel_rfl) (by kernel_rfl)
theorem tt148:TOk Tryz.prog 148 ⟨.array 8 22,8,.agg #[.int .u64 0,.int .u64 0,.int .u64 0,.int .u64 0,.int .u64 0,.int .u64 0,.int .u64 0,.int .u64 0],false,[],[.i .u64,.i .u64,.i .u64,.i .u64,.i .u64,.i .u64,.i .u64,.i .u64],64⟩:=tok_eq (by kernel_rfl) (by kernel_rfl) (by kernel_rfl) (by kernel_rfl)
theorem tt160:TOk Tryz.prog 160 ⟨.int .u32,1,.int .u32 0,false,[],[.i .u32],4⟩:=tok_eq (by kernel_rfl) (by kernel_rfl) (by kernel_rfl) (by kernel_rfl)
def tab:Tab:=[(2,⟨.int .i64,1,.int .i64 0,false,[],[.i .i64],8⟩),
 (3,⟨.int .i64,1,.int .i64 0,false,[],[.i .i64],8⟩),
 (4,⟨.bool,1,.bool false,false,[],[.b],1⟩),
 (5,⟨.int .u8,1,.int .u8 0,false,[],[.i .u8],1⟩),
 (9,⟨.string,1,.string ⟨#[]⟩,false,[],[.s],16⟩),
 (12,⟨.int .u64,1,.int .u64 0,false,[],[.i .u64],8⟩),
 (20,⟨.interface #[],1,.nilIface,false,[],[],16⟩),
 (21,⟨.int .i32,1,.int .i32 0,false,[],[.i .i32],4⟩),
 (22,⟨.int .u64,1,.int .u64 0,false,[],[.i .u64],8⟩),
 (23,⟨.array 4 22,4,.agg #[.int .u64 0,.int .u64 0,.int .u64 0,.int .u64 0],false,[],[.i .u64,.i .u64,.i .u64,.i .u64],32⟩),
 (24,⟨.array 4 22,4,.agg #[.int .u64 0,.int .u64 0,.int .u64 0,.int .u64 0],false,[],[.i .u64,.i .u64,.i .u64,.i .u64],32⟩),
 (25,⟨.bool,9,.agg #[.bool false,.int .u64 0,.int .u64 0,.int .u64 0,.int .u64 0,.int .u64 0,.int .u64 0,.int .u64 0,.int .u64 0],true,[(0,4),(1,24),(5,24)],[.b,.i .u64,.i .u64,.i .u64,.i .u64,.i .u64,.i .u64,.i .u64,.i .u64],72⟩),
 (26,⟨.bool,9,.agg #[.bool false,.int .u64 0,.int .u64 0,.int .u64 0,.int .u64 0,.int .u64 0,.int .u64 0,.int .u64 0,.int .u64 0],true,[(0,4),(1,24),(5,24)],[.b,.i .u64,.i .u64,.i .u64,.i .u64,.i .u64,.i .u64,.i .u64,.i .u64],72⟩),
 (27,⟨.slice 64,1,.slice none 0 0,false,[],[],24⟩),
 (28,⟨.slice 26,1,.slice none 0 0,false,[],[],24⟩),
 (29,⟨.bool,8,.agg #[.int .u64 0,.int .u64 0,.int .u64 0,.int .u64 0,.int .u64 0,.int .u64 0,.int .u64 0,.int .u64 0],true,[(0,24),(4,24)],[.i .u64,.i .u64,.i .u64,.i .u64,.i .u64,.i .u64,.i .u64,.i .u64],64⟩),
 (30,⟨.bool,8,.agg #[.int .u64 0,.int .u64 0,.int .u64 0,.int .u64 0,.int .u64 0,.int .u64 0,.int .u64 0,.int .u64 0],true,[(0,24),(4,24)],[.i .u64,.i .u64,.i .u64,.i .u64,.i .u64,.i .u64,.i .u64,.i .u64],64⟩),
 (31,⟨.bool,22,.agg #[.int .i64 0,.bool false,.int .u64 0,.int .u64 0,.int .u64 0,.int .u64 0,.int .u64 0,.int .u64 0,.int .u64 0,.int .u64 0,.string ⟨#[]⟩,.slice none 0 0,.slice none 0 0,.int .i64 0,.int .u64 0,.int .u64 0,.int .u64 0,.int .u64 0,.int .u64 0,.int .u64 0,.int .u64 0,.int .u64 0],true,[(0,3),(1,26),(10,9),(11,27),(12,28),(13,3),(14,30)],[],216⟩),
 (32,⟨.bool,22,.agg #[.int .i64 0,.bool false,.int .u64 0,.int .u64 0,.int .u64 0,.int .u64 0,.int .u64 0,.int .u64 0,.int .u64 0,.int .u64 0,.string ⟨#[]⟩,.slice none 0 0,.slice none 0 0,.int .i64 0,.int .u64 0,.int .u64 0,.int .u64 0,.int .u64 0,.int .u64 0,.int .u64 0,.int .u64 0,.int .u64 0],true,[(0,3),(1,26),(10,9),(11,27),(12,28),(13,3),(14,30)],[],216⟩),
 (35,⟨.int .i64,1,.int .i64 0,false,[],[.i .i64],8⟩),
 (37,⟨.slice 5,1,.slice none 0 0,false,[],[],24⟩),
 (64,⟨.array 32 5,32,.agg #[.int .u8 0,.int .u8 0,.int .u8 0,.int .u8 0,.int .u8 0,.int .u8 0,.int .u8 0,.int .u8 0,.int .u8 0,.int .u8 0,.int .u8 0,.int .u8 0,.int .u8 0,.int .u8 0,.int .u8 0,.int .u8 0,.int .u8 0,.int .u8 0,.int .u8 0,.int .u8 0,.int .u8 0,.int .u8 0,.int .u8 0,.int .u8 0,.int .u8 0,.int .u8 0,.int .u8 0,.int .u8 0,.int .u8 0,.int .u8 0,.int .u8 0,.int .u8 0],false,[],[.i .u8,.i .u8,.i .u8,.i .u8,.i .u8,.i .u8,.i .u8,.i .u8,.i .u8,.i .u8,.i .u8,.i .u8,.i .u8,.i .u8,.i .u8,.i .u8,.i .u8,.i .u8,.i .u8,.i .u8,.i .u8,.i .u8,.i .u8,.i .u8,.i .u8,.i .u8,.i .u8,.i .u8,.i .u8,.i .u8,.i .u8,.i .u8],32⟩),
 (68,⟨.bool,3,.agg #[.slice none 0 0,.int .i64 0,.bool false],true,[(0,37),(1,3),(2,4)],[],40⟩),
 (69,⟨.bool,3,.agg #[.slice none 0 0,.int .i64 0,.bool false],true,[(0,37),(1,3),(2,4)],[],40⟩),
 (73,⟨.bool,3,.agg #[.slice none 0 0,.int .i64 0,.bool false],true,[(0,37),(1,3),(2,4)],[],40⟩),
 (74,⟨.bool,3,.agg #[.slice none 0 0,.int .i64 0,.bool false],true,[(0,37),(1,3),(2,4)],[],40⟩),
 (77,⟨.int .u64,1,.int .u64 0,false,[],[.i .u64],8⟩),
 (84,⟨.bool,10,.agg #[.bool false,.int .u64 0,.int .u64 0,.int .u64 0,.int .u64 0,.int .u64 0,.int .u64 0,.int .u64 0,.int .u64 0,.string ⟨#[]⟩],true,[(0,26),(9,9)],[.b,.i .u64,.i .u64,.i .u64,.i .u64,.i .u64,.i .u64,.i .u64,.i .u64,.s],88⟩),
 (85,⟨.bool,10,.agg #[.bool false,.int .u64 0,.int .u64 0,.int .u64 0,.int .u64 0,.int .u64 0,.int .u64 0,.int .u64 0,.int .u64 0,.string ⟨#[]⟩],true,[(0,26),(9,9)],[.b,.i .u64,.i .u64,.i .u64,.i .u64,.i .u64,.i .u64,.i .u64,.i .u64,.s],88⟩),
 (87,⟨.bool,2,.agg #[.slice none 0 0,.slice none 0 0],true,[(0,27),(1,28)],[],48⟩),
 (88,⟨.bool,2,.agg #[.slice none 0 0,.slice none 0 0],true,[(0,27),(1,28)],[],48⟩),
 (89,⟨.bool,17,.agg #[.bool false,.int .u64 0,.int .u64 0,.int .u64 0,.int .u64 0,.int .u64 0,.int .u64 0,.int .u64 0,.int .u64 0,.int .u64 0,.int .u64 0,.int .u64 0,.int .u64 0,.int .u64 0,.int .u64 0,.int .u64 0,.int .u64 0],true,[(0,26),(9,30)],[.b,.i .u64,.i .u64,.i .u64,.i .u64,.i .u64,.i .u64,.i .u64,.i .u64,.i .u64,.i .u64,.i .u64,.i .u64,.i .u64,.i .u64,.i .u64,.i .u64],136⟩),
 (90,⟨.bool,17,.agg #[.bool false,.int .u64 0,.int .u64 0,.int .u64 0,.int .u64 0,.int .u64 0,.int .u64 0,.int .u64 0,.int .u64 0,.int .u64 0,.int .u64 0,.int .u64 0,.int .u64 0,.int .u64 0,.int .u64 0,.int .u64 0,.int .u64 0],true,[(0,26),(9,30)],[.b,.i .u64,.i .u64,.i .u64,.i .u64,.i .u64,.i .u64,.i .u64,.i .u64,.i .u64,.i .u64,.i .u64,.i .u64,.i .u64,.i .u64,.i .u64,.i .u64],136⟩),
 (91,⟨.bool,18,.agg #[.int .i64 0,.bool false,.int .u64 0,.int .u64 0,.int .u64 0,.int .u64 0,.int .u64 0,.int .u64 0,.int .u64 0,.int .u64 0,.int .u64 0,.int .u64 0,.int .u64 0,.int .u64 0,.int .u64 0,.int .u64 0,.int .u64 0,.int .u64 0],true,[(0,3),(1,90)],[.i .i64,.b,.i .u64,.i .u64,.i .u64,.i .u64,.i .u64,.i .u64,.i .u64,.i .u64,.i .u64,.i .u64,.i .u64,.i .u64,.i .u64,.i .u64,.i .u64,.i .u64],144⟩),
 (92,⟨.bool,18,.agg #[.int .i64 0,.bool false,.int .u64 0,.int .u64 0,.int .u64 0,.int .u64 0,.int .u64 0,.int .u64 0,.int .u64 0,.int .u64 0,.int .u64 0,.int .u64 0,.int .u64 0,.int .u64 0,.int .u64 0,.int .u64 0,.int .u64 0,.int .u64 0],true,[(0,3),(1,90)],[.i .i64,.b,.i .u64,.i .u64,.i .u64,.i .u64,.i .u64,.i .u64,.i .u64,.i .u64,.i .u64,.i .u64,.i .u64,.i .u64,.i .u64,.i .u64,.i .u64,.i .u64],144⟩),
 (94,⟨.bool,17,.agg #[.bool false,.int .u64 0,.int .u64 0,.int .u64 0,.int .u64 0,.int .u64 0,.int .u64 0,.int .u64 0,.int .u64 0,.int .u64 0,.int .u64 0,.int .u64 0,.int .u64 0,.int .u64 0,.int .u64 0,.int .u64 0,.int .u64 0],true,[(0,90)],[.b,.i .u64,.i .u64,.i .u64,.i .u64,.i .u64,.i .u64,.i .u64,.i .u64,.i .u64,.i .u64,.i .u64,.i .u64,.i .u64,.i .u64,.i .u64,.i .u64],136⟩),
 (95,⟨.bool,17,.agg #[.bool false,.int .u64 0,.int .u64 0,.int .u64 0,.int .u64 0,.int .u64 0,.int .u64 0,.int .u64 0,.int .u64 0,.int .u64 0,.int .u64 0,.int .u64 0,.int .u64 0,.int .u64 0,.int .u64 0,.int .u64 0,.int .u64 0],true,[(0,90)],[.b,.i .u64,.i .u64,.i .u64,.i .u64,.i .u64,.i .u64,.i .u64,.i .u64,.i .u64,.i .u64,.i .u64,.i .u64,.i .u64,.i .u64,.i .u64,.i .u64],136⟩),
 (96,⟨.bool,0,.agg #[],true,[],[],0⟩),
 (97,⟨.bool,0,.agg #[],true,[],[],0⟩),
 (128,⟨.slice 21,1,.slice none 0 0,false,[],[],24⟩),
 (148,⟨.array 8 22,8,.agg #[.int .u64 0,.int .u64 0,.int .u64 0,.int .u64 0,.int .u64 0,.int .u64 0,.int .u64 0,.int .u64 0],false,[],[.i .u64,.i .u64,.i .u64,.i .u64,.i .u64,.i .u64,.i .u64,.i .u64],64⟩),
 (160,⟨.int .u32,1,.int .u32 0,false,[],[.i .u32],4⟩)]
theorem tabOk:TabOk Tryz.prog tab:=(tab_cons tt2 (tab_cons tt3 (tab_cons tt4 (tab_cons tt5 (tab_cons tt9 (tab_cons tt12 (tab_cons tt20 (tab_cons tt21 (tab_cons tt22 (tab_cons tt23 (tab_cons tt24 (tab_cons tt25 (tab_cons tt26 (tab_cons tt27 (tab_cons tt28 (tab_cons tt29 (tab_cons tt30 (tab_cons tt31 (tab_cons tt32 (tab_cons tt35 (tab_cons tt37 (tab_cons tt64 (tab_cons tt68 (tab_cons tt69 (tab_cons tt73 (tab_cons tt74 (tab_cons tt77 (tab_cons tt84 (tab_cons tt85 (tab_cons tt87 (tab_cons tt88 (tab_cons tt89 (tab_cons tt90 (tab_cons tt91 (tab_cons tt92 (tab_cons tt94 (tab_cons tt95 (tab_cons tt96 (tab_cons tt97 (tab_cons tt128 (tab_cons tt148 (tab_cons tt160 tab_nil))))))))))))))))))))))))))))))))))))))))))
instance laidRows:Laid Tryz.prog:=⟨[]⟩
theorem mixed:Tryz.prog.follows .mixedOrders=true:=by kernel_rfl
def bodyOf (f:Func):Code:=
 match f.body with
 | some c=>c
 | none=>.skip
theorem noL {P:Program} [Laid P] {n:Nat}{c:Code}:∀p F,lookP ([]:List (List Nat×(St->List (Bool×Exit×St)))) p=some F->LoopOk P n (loopAt p c) F:=by
 intro p F h;simp[lookP]at h
theorem noneL2 {C:Code}{n:Nat}{p:List Nat}:∀q F,lookP [(p,fun _:St=>([]:List (Bool×Exit×St)))] q=some F->LoopOk Tryz.prog n (loopAt q C) F:=by
 refine oneL ?_
 intro w0 R s a w hrel e' s' hp
 simp[pickL]at hp
end Go.Proofs.YtckbmhegopjnmaaGreat

namespace Go.W
def dig:Nat->Nat->Nat
 | X,0=>X%18446744073709551616
 | X,i+1=>dig (X / 18446744073709551616) i
def u64 (x:Nat):Value:=.int .u64 (x:Int)
def i64 (x:Int):Value:=.int .i64 x
def numd (a b c d:Nat):Value:=.agg #[u64 a,u64 b,u64 c,u64 d]
def num (X:Nat):Value:=numd (dig X 0) (dig X 1) (dig X 2) (dig X 3)
def hor (a b c d:Nat):Nat:=a+18446744073709551616*(b+18446744073709551616*(c+18446744073709551616*d))
def intN:Value->Nat
 | .int _ x=>x.toNat
 | _=>0
def limbs:List Value->Nat
 | []=>0
 | v::r=>intN v+18446744073709551616*limbs r
def unnum (v:Value):Nat:=limbs v.cells.toList
def isU64:Value->Bool
 | .int .u64 x=>decide (0<=x)&&Nat.ble x.toNat 18446744073709551615
 | _=>false
def isNums (n:Nat) (v:Value):Bool:=aggK v (fun l=>Nat.beq l.length n&&l.all isU64) false
def isNum (v:Value):Bool:=isNums 4 v
theorem dig_lt (X i:Nat):dig X i<18446744073709551616:=by
 induction i generalizing X with
 | zero=>exact Nat.mod_lt _ (by decide)
 | succ i ih=>exact ih _
theorem dig_cons {a q:Nat}(h:a<18446744073709551616):dig (a+18446744073709551616*q) 0=a∧∀i,dig (a+18446744073709551616*q) (i+1)=dig q i:=by
 constructor
 ·show(a+18446744073709551616*q)%_=a
  omega
 ·intro i
  show dig ((a+18446744073709551616*q) / _) i=_
  rw[show(a+18446744073709551616*q) / 18446744073709551616=q from by omega]
theorem num_hor {a b c d:Nat}(ha:a<18446744073709551616) (hb:b<18446744073709551616) (hc:c<18446744073709551616) (hd:d<18446744073709551616) (e:Nat):
  num (hor a b c (d+18446744073709551616*e))=numd a b c d:=by
 unfold num hor
 rw[(dig_cons ha).1,(dig_cons ha).2,(dig_cons ha).2,(dig_cons ha).2,(dig_cons hb).1,(dig_cons hb).2,(dig_cons hb).2,(dig_cons hc).1,(dig_cons hc).2,(dig_cons hd).1]
theorem hor_dig {X:Nat}(h:X<2^256):X=hor (dig X 0) (dig X 1) (dig X 2) (dig X 3):=by
 unfold hor dig dig dig dig
 omega
theorem hor_lt {a b c d:Nat}(ha:a<18446744073709551616) (hb:b<18446744073709551616) (hc:c<18446744073709551616) (hd:d<18446744073709551616):hor a b c d<2^256:=by
 unfold hor;omega
theorem digits {X:Nat}(h:X<2^256):∃a b c d,a<18446744073709551616∧b<18446744073709551616∧c<18446744073709551616∧d<18446744073709551616∧X=hor a b c d∧num X=numd a b c d:=
 ⟨_,_,_,_,dig_lt X 0,dig_lt X 1,dig_lt X 2,dig_lt X 3,hor_dig h,rfl⟩
theorem unnum_numd (a b c d:Nat):unnum (numd a b c d)=hor a b c d:=rfl
theorem num_mod (X:Nat):num (X%2^256)=num X:=by
 unfold num
 congr 1<;>unfold dig<;>(try unfold dig)<;>(try unfold dig)<;>(try unfold dig)<;>omega
theorem num_add_mul (X e:Nat):num (X+2^256*e)=num X:=by
 rw[<-num_mod,Nat.add_mul_mod_self_left,num_mod]
theorem unnum_num (X:Nat):unnum (num X)=X%2^256:=by
 rw[<-num_mod]
 have h:X%2^256<2^256:=Nat.mod_lt _ (by decide)
 exact(hor_dig h).symm
theorem isU64_u64 {x:Nat}(h:x<18446744073709551616):isU64 (u64 x)=true:=by
 show(decide ((0:Int)<=(x:Int))&&Nat.ble x 18446744073709551615)=true
 rw[Bool.and_eq_true,Nat.ble_eq]
 exact⟨decide_eq_true (Int.natCast_nonneg x),by omega⟩
theorem isNums_of {n:Nat}(l:List Value) (hl:l.length=n) (h:l.all isU64=true):isNums n (.agg l.toArray)=true:=by
 subst hl
 unfold isNums aggK
 simp only[h,Nat.beq_refl,Bool.and_true]
theorem isNum_numd {a b c d:Nat}(ha:a<18446744073709551616) (hb:b<18446744073709551616) (hc:c<18446744073709551616) (hd:d<18446744073709551616):isNum (numd a b c d)=true:=by
 refine isNums_of [u64 a,u64 b,u64 c,u64 d] rfl ?_
 rw[List.all_cons,List.all_cons,List.all_cons,List.all_cons,isU64_u64 ha,isU64_u64 hb,isU64_u64 hc,isU64_u64 hd]
 rfl
theorem isNum_num (X:Nat):isNum (num X)=true:=isNum_numd (dig_lt _ _) (dig_lt _ _) (dig_lt _ _) (dig_lt _ _)
theorem isU64_some {v:Value}(h:isU64 v=true):∃x,x<18446744073709551616∧v=u64 x:=by
 unfold isU64 at h
 split at h
 ·rename_i x
  simp only[Bool.and_eq_true,decide_eq_true_eq,Nat.ble_eq]at h
  exact⟨x.toNat,by omega,by simp[u64];omega⟩
 ·simp at h
theorem isNums_some {n:Nat}{v:Value}(h:isNums n v=true):∃l:List Value,v=.agg l.toArray∧l.length=n∧l.all isU64=true:=by
 unfold isNums aggK at h
 split at h
 ·rename_i cs
  simp only[Bool.and_eq_true]at h
  exact⟨cs.toList,by simp,nbeq.1 h.1,h.2⟩
 ·simp at h
theorem isNum_some {v:Value}(h:isNum v=true):∃X,X<2^256∧v=num X:=by
 obtain ⟨l,rfl,hl,ha⟩:=isNums_some h
 match l,hl,ha with
 | [x0,x1,x2,x3],_,ha=>
  simp only[List.all_cons,List.all_nil,Bool.and_true,Bool.and_eq_true]at ha
  obtain ⟨a,h0,rfl⟩:=isU64_some ha.1
  obtain ⟨b,h1,rfl⟩:=isU64_some ha.2.1
  obtain ⟨c,h2,rfl⟩:=isU64_some ha.2.2.1
  obtain ⟨d,h3,rfl⟩:=isU64_some ha.2.2.2
  refine⟨hor a b c d,hor_lt h0 h1 h2 h3,?_⟩
  have:=num_hor h0 h1 h2 h3 0
  rw[Nat.mul_zero,Nat.add_zero]at this
  rw[this];rfl
theorem eqL_u64 (a b:Nat) (xs ys:List Value):eqL (u64 a::xs) (u64 b::ys)=(decide (a=b)&&eqL xs ys):=by
 show(((a:Int)==(b:Int))&&eqL xs ys)=_
 congr 1
 rw[Bool.eq_iff_iff,beq_iff_eq,decide_eq_true_eq]
 omega
theorem dig_eq {X Y:Nat}:(X%2^256=Y%2^256)↔(dig X 0=dig Y 0∧dig X 1=dig Y 1∧dig X 2=dig Y 2∧dig X 3=dig Y 3):=by
 constructor
 ·intro h
  have e:num X=num Y:=by rw[<-num_mod X,<-num_mod Y,h]
  simp[num,numd,u64]at e
  omega
 ·rintro ⟨h0,h1,h2,h3⟩
  have e:num X=num Y:=by unfold num;rw[h0,h1,h2,h3]
  have:=congrArg unnum e
  rwa [unnum_num,unnum_num]at this
theorem eq_num (X Y:Nat):eqL (num X).cells.toList (num Y).cells.toList=decide (X%2^256=Y%2^256):=by
 show eqL [u64 _,u64 _,u64 _,u64 _] [u64 _,u64 _,u64 _,u64 _]=_
 simp only[eqL_u64,eqL,Bool.and_true]
 rw[Bool.eq_iff_iff]
 simp only[decide_eq_true_eq,Bool.and_eq_true,dig_eq]
def s64 (x y c:Nat):Nat:=(x+y+c)%18446744073709551616
def c64 (x y c:Nat):Nat:=(x+y+c) / 18446744073709551616
def d64 (x y b:Nat):Nat:=(x+18446744073709551616-y-b)%18446744073709551616
def b64 (x y b:Nat):Nat:=if x<y+b then 1 else 0
def Add64F:List Value->Option (Bool×Value)
 | [.int _ x,.int _ y,.int _ c]=>some (Nat.ble c.toNat 1,.tuple #[u64 (s64 x.toNat y.toNat c.toNat),u64 (c64 x.toNat y.toNat c.toNat)])
 | _=>none
def Sub64F:List Value->Option (Bool×Value)
 | [.int _ x,.int _ y,.int _ c]=>some (Nat.ble c.toNat 1,.tuple #[u64 (d64 x.toNat y.toNat c.toNat),u64 (b64 x.toNat y.toNat c.toNat)])
 | _=>none
def req {α:Type}(b:Bool) (k:Option α):Option α:=bif b then k else none
theorem req_true {α:Type}{b:Bool}{k:Option α}(h:b=true):req b k=k:=by subst h;rfl
end Go.W

namespace Go.W
theorem arg2 {f:Value->Value->Value}{args:List Value}{v:Value}(h:(match args with | [x,y]=>some (isNum x&&isNum y,f x y)|_=>none)=some (true,v)):
  ∃X Y,X<2^256∧Y<2^256∧args=[num X,num Y]∧v=f (num X) (num Y):=by
 split at h
 ·rename_i x y
  simp only[Option.some.injEq,Prod.mk.injEq,Bool.and_eq_true]at h
  obtain ⟨X,hX,rfl⟩:=isNum_some h.1.1
  obtain ⟨Y,hY,rfl⟩:=isNum_some h.1.2
  exact⟨X,Y,hX,hY,rfl,h.2.symm⟩
 ·simp at h
theorem arg1 {f:Value->Value}{args:List Value}{v:Value}(h:(match args with | [x]=>some (isNum x,f x)|_=>none)=some (true,v)):
  ∃X,X<2^256∧args=[num X]∧v=f (num X):=by
 split at h
 ·rename_i x
  simp only[Option.some.injEq,Prod.mk.injEq]at h
  obtain ⟨X,hX,rfl⟩:=isNum_some h.1
  exact⟨X,hX,rfl,h.2.symm⟩
 ·simp at h
theorem unnum_lt {X:Nat}(h:X<2^256):unnum (num X)=X:=by rw[unnum_num,Nat.mod_eq_of_lt h]
theorem ble_true {a b:Nat}(h:a<=b):Nat.ble a b=true:=by rw[Nat.ble_eq];exact h
def addV (X Y:Nat):Value:=.tuple #[num (X+Y),u64 ((X+Y) / 2^256)]
def AddF:List Value->Option (Bool×Value)
 | [x,y]=>some (isNum x&&isNum y,addV (unnum x) (unnum y))
 | _=>none
def AddT (x0 x1 x2 x3 y0 y1 y2 y3:Nat):Option Value:=
 req (Nat.ble 0 1)<|req (Nat.ble (c64 x0 y0 0) 1)<|req (Nat.ble (c64 x1 y1 (c64 x0 y0 0)) 1)<|req (Nat.ble (c64 x2 y2 (c64 x1 y1 (c64 x0 y0 0))) 1) <|
  some (.tuple #[numd (s64 x0 y0 0) (s64 x1 y1 (c64 x0 y0 0)) (s64 x2 y2 (c64 x1 y1 (c64 x0 y0 0))) (s64 x3 y3 (c64 x2 y2 (c64 x1 y1 (c64 x0 y0 0)))),u64 (c64 x3 y3 (c64 x2 y2 (c64 x1 y1 (c64 x0 y0 0))))])
theorem sc64 (x y c:Nat):s64 x y c+18446744073709551616*c64 x y c=x+y+c:=Nat.mod_add_div _ _
theorem s64_lt (x y c:Nat):s64 x y c<18446744073709551616:=Nat.mod_lt _ (by decide)
theorem c64_le {x y c:Nat}(hx:x<18446744073709551616) (hy:y<18446744073709551616) (hc:c<=1):c64 x y c<=1:=by unfold c64;omega
theorem AddT_eq {x0 x1 x2 x3 y0 y1 y2 y3:Nat}(hx0:x0<18446744073709551616) (hx1:x1<18446744073709551616) (hx2:x2<18446744073709551616) (hx3:x3<18446744073709551616)
  (hy0:y0<18446744073709551616) (hy1:y1<18446744073709551616) (hy2:y2<18446744073709551616) (hy3:y3<18446744073709551616):
  AddT x0 x1 x2 x3 y0 y1 y2 y3=some (addV (hor x0 x1 x2 x3) (hor y0 y1 y2 y3)):=by
 unfold AddT
 have k0:=c64_le hx0 hy0 (Nat.zero_le 1)
 have k1:=c64_le hx1 hy1 k0
 have k2:=c64_le hx2 hy2 k1
 have k3:=c64_le hx3 hy3 k2
 have e0:=sc64 x0 y0 0
 have e1:=sc64 x1 y1 (c64 x0 y0 0)
 have e2:=sc64 x2 y2 (c64 x1 y1 (c64 x0 y0 0))
 have e3:=sc64 x3 y3 (c64 x2 y2 (c64 x1 y1 (c64 x0 y0 0)))
 have l0:=s64_lt x0 y0 0
 have l1:=s64_lt x1 y1 (c64 x0 y0 0)
 have l2:=s64_lt x2 y2 (c64 x1 y1 (c64 x0 y0 0))
 have l3:=s64_lt x3 y3 (c64 x2 y2 (c64 x1 y1 (c64 x0 y0 0)))
 rw[req_true (ble_true (by omega)),req_true (ble_true k0),req_true (ble_true k1),req_true (ble_true k2)]
 generalize s64 x3 y3 (c64 x2 y2 (c64 x1 y1 (c64 x0 y0 0)))=s3 at *
 generalize c64 x3 y3 (c64 x2 y2 (c64 x1 y1 (c64 x0 y0 0)))=c3 at *
 generalize s64 x2 y2 (c64 x1 y1 (c64 x0 y0 0))=s2 at *
 generalize c64 x2 y2 (c64 x1 y1 (c64 x0 y0 0))=c2 at *
 generalize s64 x1 y1 (c64 x0 y0 0)=s1 at *
 generalize c64 x1 y1 (c64 x0 y0 0)=c1 at *
 generalize s64 x0 y0 0=s0 at *
 generalize c64 x0 y0 0=c0 at *
 have hs:hor x0 x1 x2 x3+hor y0 y1 y2 y3=hor s0 s1 s2 (s3+18446744073709551616*c3):=by unfold hor;omega
 have hq:(hor x0 x1 x2 x3+hor y0 y1 y2 y3) / 2^256=c3:=by
  rw[hs];unfold hor;omega
 unfold addV
 rw[hq,hs,num_hor l0 l1 l2 l3]
def subV (X Y:Nat):Value:=.tuple #[num (2^256+X-Y),u64 (if X<Y then 1 else 0)]
def SubF:List Value->Option (Bool×Value)
 | [x,y]=>some (isNum x&&isNum y,subV (unnum x) (unnum y))
 | _=>none
def SubT (x0 x1 x2 x3 y0 y1 y2 y3:Nat):Option Value:=
 req (Nat.ble 0 1)<|req (Nat.ble (b64 x0 y0 0) 1)<|req (Nat.ble (b64 x1 y1 (b64 x0 y0 0)) 1)<|req (Nat.ble (b64 x2 y2 (b64 x1 y1 (b64 x0 y0 0))) 1) <|
  some (.tuple #[numd (d64 x0 y0 0) (d64 x1 y1 (b64 x0 y0 0)) (d64 x2 y2 (b64 x1 y1 (b64 x0 y0 0))) (d64 x3 y3 (b64 x2 y2 (b64 x1 y1 (b64 x0 y0 0)))),u64 (b64 x3 y3 (b64 x2 y2 (b64 x1 y1 (b64 x0 y0 0))))])
theorem db64 {x y b:Nat}(hx:x<18446744073709551616) (hy:y<18446744073709551616) (hb:b<=1):d64 x y b+y+b=x+18446744073709551616*b64 x y b∧d64 x y b<18446744073709551616∧b64 x y b<=1:=by
 unfold d64 b64
 split<;>omega
theorem SubT_eq {x0 x1 x2 x3 y0 y1 y2 y3:Nat}(hx0:x0<18446744073709551616) (hx1:x1<18446744073709551616) (hx2:x2<18446744073709551616) (hx3:x3<18446744073709551616)
  (hy0:y0<18446744073709551616) (hy1:y1<18446744073709551616) (hy2:y2<18446744073709551616) (hy3:y3<18446744073709551616):
  SubT x0 x1 x2 x3 y0 y1 y2 y3=some (subV (hor x0 x1 x2 x3) (hor y0 y1 y2 y3)):=by
 unfold SubT
 obtain ⟨e0,l0,k0⟩:=db64 hx0 hy0 (Nat.zero_le 1)
 obtain ⟨e1,l1,k1⟩:=db64 hx1 hy1 k0
 obtain ⟨e2,l2,k2⟩:=db64 hx2 hy2 k1
 obtain ⟨e3,l3,k3⟩:=db64 hx3 hy3 k2
 rw[req_true (ble_true (by omega)),req_true (ble_true k0),req_true (ble_true k1),req_true (ble_true k2)]
 generalize d64 x3 y3 (b64 x2 y2 (b64 x1 y1 (b64 x0 y0 0)))=s3 at *
 generalize b64 x3 y3 (b64 x2 y2 (b64 x1 y1 (b64 x0 y0 0)))=c3 at *
 generalize d64 x2 y2 (b64 x1 y1 (b64 x0 y0 0))=s2 at *
 generalize b64 x2 y2 (b64 x1 y1 (b64 x0 y0 0))=c2 at *
 generalize d64 x1 y1 (b64 x0 y0 0)=s1 at *
 generalize b64 x1 y1 (b64 x0 y0 0)=c1 at *
 generalize d64 x0 y0 0=s0 at *
 generalize b64 x0 y0 0=c0 at *
 have hX:=hor_lt hx0 hx1 hx2 hx3
 have hY:=hor_lt hy0 hy1 hy2 hy3
 have hS:=hor_lt l0 l1 l2 l3
 have hs:hor s0 s1 s2 s3+hor y0 y1 y2 y3=hor x0 x1 x2 x3+2^256*c3:=by unfold hor;omega
 have hn:=num_hor l0 l1 l2 l3 0
 rw[Nat.mul_zero,Nat.add_zero]at hn
 unfold subV
 by_cases hlt:hor x0 x1 x2 x3<hor y0 y1 y2 y3
 ·have:c3=1:=by omega
  subst this
  rw[if_pos hlt,show 2^256+hor x0 x1 x2 x3-hor y0 y1 y2 y3=hor s0 s1 s2 s3 from by omega,hn]
 ·have:c3=0:=by omega
  subst this
  rw[if_neg hlt,show 2^256+hor x0 x1 x2 x3-hor y0 y1 y2 y3=hor s0 s1 s2 s3+2^256*1 from by omega,num_add_mul,hn]
def cmpI (X Y:Nat):Int:=if X<Y then -1 else if Y<X then 1 else 0
def CmpF:List Value->Option (Bool×Value)
 | [x,y]=>some (isNum x&&isNum y,i64 (cmpI (unnum x) (unnum y)))
 | _=>none
def cmpD (a b:Nat) (k:Option Value):Option Value:=bif decide ((a:Int)<(b:Int)) then some (i64 (-1)) else bif decide ((a:Int) > (b:Int)) then some (i64 1) else k
def CmpT (x0 x1 x2 x3 y0 y1 y2 y3:Nat):Option Value:=cmpD x3 y3 (cmpD x2 y2 (cmpD x1 y1 (cmpD x0 y0 (some (i64 0)))))
theorem cmpD_lt {a b:Nat}(h:a<b) (k:Option Value):cmpD a b k=some (i64 (-1)):=by
 unfold cmpD;rw[decide_eq_true (by omega)];rfl
theorem cmpD_gt {a b:Nat}(h:b<a) (k:Option Value):cmpD a b k=some (i64 1):=by
 unfold cmpD;rw[decide_eq_false (by omega),decide_eq_true (by omega)];rfl
theorem cmpD_eq' (a:Nat) (k:Option Value):cmpD a a k=k:=by
 unfold cmpD;rw[decide_eq_false (by omega:¬((a:Int)<(a:Int)))];rfl
theorem CmpT_eq {x0 x1 x2 x3 y0 y1 y2 y3:Nat}(hx0:x0<18446744073709551616) (hx1:x1<18446744073709551616) (hx2:x2<18446744073709551616)
  (hy0:y0<18446744073709551616) (hy1:y1<18446744073709551616) (hy2:y2<18446744073709551616):
  CmpT x0 x1 x2 x3 y0 y1 y2 y3=some (i64 (cmpI (hor x0 x1 x2 x3) (hor y0 y1 y2 y3))):=by
 unfold CmpT cmpI hor
 rcases Nat.lt_trichotomy x3 y3 with h|rfl|h
 ·rw[cmpD_lt h,if_pos (by omega)]
 ·rw[cmpD_eq']
  rcases Nat.lt_trichotomy x2 y2 with h|rfl|h
  ·rw[cmpD_lt h,if_pos (by omega)]
  ·rw[cmpD_eq']
   rcases Nat.lt_trichotomy x1 y1 with h|rfl|h
   ·rw[cmpD_lt h,if_pos (by omega)]
   ·rw[cmpD_eq']
    rcases Nat.lt_trichotomy x0 y0 with h|rfl|h
    ·rw[cmpD_lt h,if_pos (by omega)]
    ·rw[cmpD_eq',if_neg (by omega),if_neg (by omega)]
    ·rw[cmpD_gt h,if_neg (by omega),if_pos (by omega)]
   ·rw[cmpD_gt h,if_neg (by omega),if_pos (by omega)]
  ·rw[cmpD_gt h,if_neg (by omega),if_pos (by omega)]
 ·rw[cmpD_gt h,if_neg (by omega),if_pos (by omega)]
end Go.W

namespace Go.Proofs.YtckbmhegopjnmaaGreat
set_option maxRecDepth 100000
open Go.W
open Go.RowKit (Below)
noncomputable def eAdd64:Array Value->Sem Value:=(Extern.find Tryz.f116).getD fun _=>pure undef
noncomputable def eSub64:Array Value->Sem Value:=(Extern.find Tryz.f86).getD fun _=>pure undef
theorem Add64_find:Extern.find Tryz.f116=some eAdd64:=by kernel_rfl
theorem Sub64_find:Extern.find Tryz.f86=some eSub64:=by kernel_rfl
theorem Add64_next:Extern.findNext Tryz.f116=none:=by kernel_rfl
theorem Sub64_next:Extern.findNext Tryz.f86=none:=by kernel_rfl
theorem run_eAdd64 {P:Program}(k1 k2 k3:IntKind) (x y:Int):∀(c:Int),c.toNat<=1->∀w,(eAdd64 #[.int k1 x,.int k2 y,.int k3 c]).run P w=.ok (.tuple #[u64 (s64 x.toNat y.toNat c.toNat),u64 (c64 x.toNat y.toNat c.toNat)]) w
 | .ofNat 0,_,_=>rfl
 | .ofNat 1,_,_=>rfl
 | .ofNat (n+2),h,_=>absurd h (by show ¬(n+2<=1);omega)
 | .negSucc n,_,_=>rfl
theorem run_eSub64 {P:Program}(k1 k2 k3:IntKind) (x y:Int):∀(c:Int),c.toNat<=1->∀w,(eSub64 #[.int k1 x,.int k2 y,.int k3 c]).run P w=.ok (.tuple #[u64 (d64 x.toNat y.toNat c.toNat),u64 (b64 x.toNat y.toNat c.toNat)]) w
 | .ofNat 0,_,_=>rfl
 | .ofNat 1,_,_=>rfl
 | .ofNat (n+2),h,_=>absurd h (by show ¬(n+2<=1);omega)
 | .negSucc n,_,_=>rfl
theorem Add64_sum:Sum Tryz.prog 116 Add64F:=by
 intro args v h hp w _
 unfold Add64F at h
 split at h
 ·rename_i k1 x k2 y k3 c
  simp only[Option.some.injEq,Prod.mk.injEq,Nat.ble_eq]at h
  have hc:=h.1
  rw[<-h.2]
  unfold Invokes
  rw[run_callFunc_extern Tryz.func116 (by kernel_rfl) (by kernel_rfl) Add64_next Add64_find]
  rw[run_eAdd64 k1 k2 k3 x y c hc]
  exact⟨rfl,Below.refl _ _⟩
 ·simp at h
theorem Sub64_sum:Sum Tryz.prog 86 Sub64F:=by
 intro args v h hp w _
 unfold Sub64F at h
 split at h
 ·rename_i k1 x k2 y k3 c
  simp only[Option.some.injEq,Prod.mk.injEq,Nat.ble_eq]at h
  have hc:=h.1
  rw[<-h.2]
  unfold Invokes
  rw[run_callFunc_extern Tryz.func86 (by kernel_rfl) (by kernel_rfl) Sub64_next Sub64_find]
  rw[run_eSub64 k1 k2 k3 x y c hc]
  exact⟨rfl,Below.refl _ _⟩
 ·simp at h
def AddC:Cfg:=⟨tab,[(116,Add64F)],26,[]⟩
theorem AddOk:CfgOk Tryz.prog AddC (bodyOf Tryz.f129):=⟨mixed,tabOk,sums_cons Add64_sum sums_nil,noL⟩
theorem Add_ev (x0 x1 x2 x3 y0 y1 y2 y3:Nat):fnS AddC 60 Tryz.f129 (bodyOf Tryz.f129) [numd x0 x1 x2 x3,numd y0 y1 y2 y3]=AddT x0 x1 x2 x3 y0 y1 y2 y3:=by kernel_rfl
theorem Add_sum:Sum Tryz.prog 129 AddF:=by
 refine sum_of AddOk Tryz.func129 (by kernel_rfl) (by kernel_rfl) rfl (fuel:=60) fun args v h _=>?_
 obtain ⟨X,Y,hX,hY,rfl,rfl⟩:=arg2 (f:=fun x y=>addV (unnum x) (unnum y)) h
 refine⟨by show 2<=Tryz.f129.ntmps;decide +kernel,?_,rfl⟩
 obtain ⟨x0,x1,x2,x3,h0,h1,h2,h3,e1,e2⟩:=digits hX
 obtain ⟨y0,y1,y2,y3,k0,k1,k2,k3,e3,e4⟩:=digits hY
 rw[unnum_lt hX,unnum_lt hY,e2,e4,Add_ev,AddT_eq h0 h1 h2 h3 k0 k1 k2 k3,e1,e3]
def SubC:Cfg:=⟨tab,[(86,Sub64F)],26,[]⟩
theorem SubOk:CfgOk Tryz.prog SubC (bodyOf Tryz.f124):=⟨mixed,tabOk,sums_cons Sub64_sum sums_nil,noL⟩
theorem Sub_ev (x0 x1 x2 x3 y0 y1 y2 y3:Nat):fnS SubC 60 Tryz.f124 (bodyOf Tryz.f124) [numd x0 x1 x2 x3,numd y0 y1 y2 y3]=SubT x0 x1 x2 x3 y0 y1 y2 y3:=by kernel_rfl
theorem Sub_sum:Sum Tryz.prog 124 SubF:=by
 refine sum_of SubOk Tryz.func124 (by kernel_rfl) (by kernel_rfl) rfl (fuel:=60) fun args v h _=>?_
 obtain ⟨X,Y,hX,hY,rfl,rfl⟩:=arg2 (f:=fun x y=>subV (unnum x) (unnum y)) h
 refine⟨by show 2<=Tryz.f124.ntmps;decide +kernel,?_,rfl⟩
 obtain ⟨x0,x1,x2,x3,h0,h1,h2,h3,e1,e2⟩:=digits hX
 obtain ⟨y0,y1,y2,y3,k0,k1,k2,k3,e3,e4⟩:=digits hY
 rw[unnum_lt hX,unnum_lt hY,e2,e4,Sub_ev,SubT_eq h0 h1 h2 h3 k0 k1 k2 k3,e1,e3]
def CmpC:Cfg:=⟨tab,[],24,[]⟩
theorem CmpOk:CfgOk Tryz.prog CmpC (bodyOf Tryz.f92):=⟨mixed,tabOk,sums_nil,noL⟩
theorem Cmp_ev (x0 x1 x2 x3 y0 y1 y2 y3:Nat):fnS CmpC 60 Tryz.f92 (bodyOf Tryz.f92) [numd x0 x1 x2 x3,numd y0 y1 y2 y3]=CmpT x0 x1 x2 x3 y0 y1 y2 y3:=by kernel_rfl
theorem Cmp_sum:Sum Tryz.prog 92 CmpF:=by
 refine sum_of CmpOk Tryz.func92 (by kernel_rfl) (by kernel_rfl) rfl (fuel:=60) fun args v h _=>?_
 obtain ⟨X,Y,hX,hY,rfl,rfl⟩:=arg2 (f:=fun x y=>i64 (cmpI (unnum x) (unnum y))) h
 refine⟨by show 2<=Tryz.f92.ntmps;decide +kernel,?_,rfl⟩
 obtain ⟨x0,x1,x2,x3,h0,h1,h2,h3,e1,e2⟩:=digits hX
 obtain ⟨y0,y1,y2,y3,k0,k1,k2,k3,e3,e4⟩:=digits hY
 rw[unnum_lt hX,unnum_lt hY,e2,e4,Cmp_ev,CmpT_eq h0 h1 h2 k0 k1 k2,e1,e3]
end Go.Proofs.YtckbmhegopjnmaaGreat

namespace Go.W
def iAdd (k:IntKind) (a b:Int):Int:=k.wrap (a+b)
def iMul (k:IntKind) (a b:Int):Int:=k.wrap (a*b)
def iShr (k:IntKind) (a n:Int):Int:=a.fdiv (2^(min n.toNat k.bits))
def iShl (k:IntKind) (a n:Int):Int:=k.wrap (a*2^(min n.toNat k.bits))
def iAnd (k:IntKind) (a b:Int):Int:=k.wrap ((BitVec.ofInt k.bits a &&& BitVec.ofInt k.bits b).toNat:Int)
def iOr (k:IntKind) (a b:Int):Int:=k.wrap ((BitVec.ofInt k.bits a ||| BitVec.ofInt k.bits b).toNat:Int)
theorem wrap_u64 (n:Int):IntKind.u64.wrap n=n%18446744073709551616:=by simp[IntKind.wrap,IntKind.bits,IntKind.signed]
theorem wrap_i64 {n:Int}(h:-9223372036854775808<=n∧n<9223372036854775808):IntKind.i64.wrap n=n:=by
 have e:IntKind.i64.wrap n=if n%18446744073709551616>=9223372036854775808 then n%18446744073709551616-18446744073709551616 else n%18446744073709551616:=by
  simp[IntKind.wrap,IntKind.bits,IntKind.signed]
 rw[e]
 split<;>omega
theorem iAdd_u (a b:Nat):iAdd .u64 a b=((a+b)%18446744073709551616:Nat):=by
 unfold iAdd;rw[wrap_u64];omega
theorem iShr_u (a n:Nat) (h:n<=64):iShr .u64 a n=(a / 2^n:Nat):=by
 unfold iShr
 have:min (n:Int).toNat IntKind.u64.bits=n:=by show min n 64=n;omega
 rw[this,Int.fdiv_eq_ediv_of_nonneg _ (Int.pow_nonneg (by decide))]
 have e:((2:Int)^n)=((2^n:Nat):Int):=by simp
 rw[e,<-Int.natCast_ediv]
theorem iAnd_u {a b:Nat}(ha:a<18446744073709551616) (hb:b<18446744073709551616):iAnd .u64 a b=(a &&& b:Nat):=by
 unfold iAnd
 rw[wrap_u64]
 have e1:(BitVec.ofInt IntKind.u64.bits (a:Int) &&& BitVec.ofInt IntKind.u64.bits (b:Int)).toNat=a &&& b:=by
  show(BitVec.ofInt 64 (a:Int) &&& BitVec.ofInt 64 (b:Int)).toNat=a &&& b
  rw[BitVec.toNat_and,BitVec.ofInt_natCast,BitVec.ofInt_natCast,BitVec.toNat_ofNat,BitVec.toNat_ofNat,Nat.mod_eq_of_lt (by simpa using ha),Nat.mod_eq_of_lt (by simpa using hb)]
 rw[e1]
 have:a &&& b<=a:=Nat.and_le_left
 omega
theorem iOr_u {a b:Nat}(ha:a<18446744073709551616) (hb:b<18446744073709551616):iOr .u64 a b=(a ||| b:Nat):=by
 unfold iOr
 rw[wrap_u64]
 have e1:(BitVec.ofInt IntKind.u64.bits (a:Int) ||| BitVec.ofInt IntKind.u64.bits (b:Int)).toNat=a ||| b:=by
  show(BitVec.ofInt 64 (a:Int) ||| BitVec.ofInt 64 (b:Int)).toNat=a ||| b
  rw[BitVec.toNat_or,BitVec.ofInt_natCast,BitVec.ofInt_natCast,BitVec.toNat_ofNat,BitVec.toNat_ofNat,Nat.mod_eq_of_lt (by simpa using ha),Nat.mod_eq_of_lt (by simpa using hb)]
 rw[e1]
 have:a ||| b<2^64:=Nat.or_lt_two_pow (by simpa using ha) (by simpa using hb)
 omega
theorem and_mask {a n:Nat}:a &&& (2^n-1)=a%2^n:=Nat.and_two_pow_sub_one_eq_mod a n
def mul64V (x y:Nat):Value:=.tuple #[u64 (x*y / 18446744073709551616),u64 (x*y%18446744073709551616)]
def Mul64F:List Value->Option (Bool×Value)
 | [x,y]=>some (isU64 x&&isU64 y,mul64V (intN x) (intN y))
 | _=>none
def m64lo (x:Int):Int:=iAnd .u64 x 4294967295
def m64hi (x:Int):Int:=iShr .u64 x 32
def m64t (x y:Int):Int:=iAdd .u64 (iMul .u64 (m64hi x) (m64lo y)) (m64hi (iMul .u64 (m64lo x) (m64lo y)))
def Mul64T (x y:Int):Option Value:=
 some (.tuple #[.int .u64 (iAdd .u64 (iAdd .u64 (iMul .u64 (m64hi x) (m64hi y)) (m64hi (m64t x y))) (m64hi (iAdd .u64 (m64lo (m64t x y)) (iMul .u64 (m64lo x) (m64hi y))))),.int .u64 (iMul .u64 x y)])
theorem m64lo_eq {x:Int}(h0:0<=x) (h:x<18446744073709551616):m64lo x=x%4294967296:=by
 obtain ⟨n,rfl⟩:=Int.eq_ofNat_of_zero_le h0
 unfold m64lo
 have:=iAnd_u (a:=n) (b:=4294967295) (by omega) (by omega)
 rw[show((4294967295:Nat):Int)=4294967295 from rfl]at this
 rw[this,show 4294967295=2^32-1 from rfl,and_mask]
 omega
theorem m64hi_eq {x:Int}(h0:0<=x):m64hi x=x / 4294967296:=by
 obtain ⟨n,rfl⟩:=Int.eq_ofNat_of_zero_le h0
 have:=iShr_u n 32 (by omega)
 rw[show((32:Nat):Int)=32 from rfl]at this
 unfold m64hi
 rw[this]
 omega
theorem Mul64T_eq {x y:Nat}(hx:x<18446744073709551616) (hy:y<18446744073709551616):Mul64T x y=some (mul64V x y):=by
 have e:=Go.mul64_arith x y (by omega) (by omega) (by omega) (by omega)
 have nn:∀z:Int,0<=z%18446744073709551616∧z%18446744073709551616<18446744073709551616:=fun z=>by omega
 unfold Mul64T m64t mul64V iAdd iMul
 simp only[wrap_u64]
 rw[m64hi_eq (x:=(x:Int)) (by omega),m64hi_eq (x:=(y:Int)) (by omega),m64lo_eq (x:=(x:Int)) (by omega) (by omega),m64lo_eq (x:=(y:Int)) (by omega) (by omega)]
 rw[m64hi_eq (nn _).1,m64hi_eq (nn _).1,m64hi_eq (nn _).1,m64lo_eq (nn _).1 (nn _).2]
 rw[e]
 have h2:((x:Int)*(y:Int)) / 18446744073709551616=((x*y / 18446744073709551616:Nat):Int):=by rw[<-Int.natCast_mul];omega
 have h3:((x:Int)*(y:Int))%18446744073709551616=((x*y%18446744073709551616:Nat):Int):=by rw[<-Int.natCast_mul];omega
 rw[h2,h3];rfl
def mulAddV (x y c d:Nat):Value:=.tuple #[u64 ((x*y+c+d)%18446744073709551616),u64 ((x*y+c+d) / 18446744073709551616)]
def mulAddF:List Value->Option (Bool×Value)
 | [x,y,c,d]=>some (isU64 x&&isU64 y&&isU64 c&&isU64 d,mulAddV (intN x) (intN y) (intN c) (intN d))
 | _=>none
def mulAddT (x y c d:Nat):Option Value:=
 let hi:=x*y / 18446744073709551616
 let lo:=x*y%18446744073709551616
 req (isU64 (u64 x)&&isU64 (u64 y))<|req (Nat.ble 0 1)<|req (Nat.ble 0 1) <|
  some (.tuple #[u64 (s64 (s64 lo c 0) d 0),.int .u64 (iAdd .u64 (iAdd .u64 (hi:Int) (c64 lo c 0:Int)) (c64 (s64 lo c 0) d 0:Int))])
theorem mul_le {x y:Nat}(hx:x<18446744073709551616) (hy:y<18446744073709551616):x*y<=18446744073709551615*18446744073709551615:=Nat.mul_le_mul (by omega) (by omega)
theorem mulAddT_eq {x y c d:Nat}(hx:x<18446744073709551616) (hy:y<18446744073709551616) (hc:c<18446744073709551616) (hd:d<18446744073709551616):mulAddT x y c d=some (mulAddV x y c d):=by
 unfold mulAddT
 simp only[isU64_u64 hx,isU64_u64 hy]
 rw[req_true (b:=true&&true) rfl,req_true (b:=Nat.ble 0 1) rfl,req_true (b:=Nat.ble 0 1) rfl]
 have h:=mul_le hx hy
 unfold mulAddV
 generalize x*y=p at *
 rw[iAdd_u,iAdd_u]
 have e1:s64 (s64 (p%18446744073709551616) c 0) d 0=(p+c+d)%18446744073709551616:=by unfold s64;omega
 have e2:((p / 18446744073709551616+c64 (p%18446744073709551616) c 0)%18446744073709551616+c64 (s64 (p%18446744073709551616) c 0) d 0)%18446744073709551616=(p+c+d) / 18446744073709551616:=by
  unfold s64 c64;omega
 rw[e1,e2];rfl
theorem argU2 {f:Value->Value->Value}{args:List Value}{v:Value}(h:(match args with | [x,y]=>some (isU64 x&&isU64 y,f x y)|_=>none)=some (true,v)):
  ∃x y,x<18446744073709551616∧y<18446744073709551616∧args=[u64 x,u64 y]∧v=f (u64 x) (u64 y):=by
 split at h
 ·simp only[Option.some.injEq,Prod.mk.injEq,Bool.and_eq_true]at h
  obtain ⟨x,hx,rfl⟩:=isU64_some h.1.1
  obtain ⟨y,hy,rfl⟩:=isU64_some h.1.2
  exact⟨x,y,hx,hy,rfl,h.2.symm⟩
 ·simp at h
theorem argU4 {f:Value->Value->Value->Value->Value}{args:List Value}{v:Value}(h:(match args with | [x,y,c,d]=>some (isU64 x&&isU64 y&&isU64 c&&isU64 d,f x y c d)|_=>none)=some (true,v)):
  ∃x y c d,x<18446744073709551616∧y<18446744073709551616∧c<18446744073709551616∧d<18446744073709551616∧args=[u64 x,u64 y,u64 c,u64 d]∧v=f (u64 x) (u64 y) (u64 c) (u64 d):=by
 split at h
 ·simp only[Option.some.injEq,Prod.mk.injEq,Bool.and_eq_true]at h
  obtain ⟨x,hx,rfl⟩:=isU64_some h.1.1.1.1
  obtain ⟨y,hy,rfl⟩:=isU64_some h.1.1.1.2
  obtain ⟨c,hc,rfl⟩:=isU64_some h.1.1.2
  obtain ⟨d,hd,rfl⟩:=isU64_some h.1.2
  exact⟨x,y,c,d,hx,hy,hc,hd,rfl,h.2.symm⟩
 ·simp at h
end Go.W

namespace Go.W
def numd8 (a b c d e f g h:Nat):Value:=.agg #[u64 a,u64 b,u64 c,u64 d,u64 e,u64 f,u64 g,u64 h]
def num8 (X:Nat):Value:=numd8 (dig X 0) (dig X 1) (dig X 2) (dig X 3) (dig X 4) (dig X 5) (dig X 6) (dig X 7)
def hor8 (a b c d e f g h:Nat):Nat:=hor a b c (d+18446744073709551616*(hor e f g h))
theorem num8_hor {a b c d e f g h:Nat}(ha:a<18446744073709551616) (hb:b<18446744073709551616) (hc:c<18446744073709551616) (hd:d<18446744073709551616)
  (he:e<18446744073709551616) (hf:f<18446744073709551616) (hg:g<18446744073709551616) (hh:h<18446744073709551616):num8 (hor8 a b c d e f g h)=numd8 a b c d e f g h:=by
 unfold num8 hor8 hor
 have h0:h=h+18446744073709551616*0:=by omega
 rw[(dig_cons ha).1,(dig_cons ha).2,(dig_cons ha).2,(dig_cons ha).2,(dig_cons ha).2,(dig_cons ha).2,(dig_cons ha).2,(dig_cons ha).2,
  (dig_cons hb).1,(dig_cons hb).2,(dig_cons hb).2,(dig_cons hb).2,(dig_cons hb).2,(dig_cons hb).2,(dig_cons hb).2,
  (dig_cons hc).1,(dig_cons hc).2,(dig_cons hc).2,(dig_cons hc).2,(dig_cons hc).2,(dig_cons hc).2,
  (dig_cons hd).1,(dig_cons hd).2,(dig_cons hd).2,(dig_cons hd).2,(dig_cons hd).2,
  (dig_cons he).1,(dig_cons he).2,(dig_cons he).2,(dig_cons he).2,(dig_cons hf).1,(dig_cons hf).2,(dig_cons hf).2,(dig_cons hg).1,(dig_cons hg).2]
 congr 1
 show h%_=h
 omega
theorem unnum_num8 {X:Nat}(h:X<13407807929942597099574024998205846127479365820592393377723561443721764030073546976801874298166903427690031858186486050853753882811946569946433649006084096):unnum (num8 X)=X:=by
 show hor8 (dig X 0) (dig X 1) (dig X 2) (dig X 3) (dig X 4) (dig X 5) (dig X 6) (dig X 7)=X
 have e1:X=hor (dig X 0) (dig X 1) (dig X 2) (dig X 3+18446744073709551616*(X / 18446744073709551616 / 18446744073709551616 / 18446744073709551616 / 18446744073709551616)):=by
  unfold hor dig dig dig dig;omega
 have e2:X / 18446744073709551616 / 18446744073709551616 / 18446744073709551616 / 18446744073709551616<2^256:=by
  rw[Nat.div_div_eq_div_mul,Nat.div_div_eq_div_mul,Nat.div_div_eq_div_mul]
  exact Nat.div_lt_of_lt_mul h
 have e3:=hor_dig e2
 unfold hor8
 rw[show hor (dig X 4) (dig X 5) (dig X 6) (dig X 7)=X / 18446744073709551616 / 18446744073709551616 / 18446744073709551616 / 18446744073709551616 from e3.symm]
 exact e1.symm
def maL (x y c d:Nat):Nat:=(x*y+c+d)%18446744073709551616
def maH (x y c d:Nat):Nat:=(x*y+c+d) / 18446744073709551616
def maP (x y c d:Nat):Bool:=isU64 (u64 x)&&isU64 (u64 y)&&isU64 (u64 c)&&isU64 (u64 d)
theorem maP_true {x y c d:Nat}(hx:x<18446744073709551616) (hy:y<18446744073709551616) (hc:c<18446744073709551616) (hd:d<18446744073709551616):maP x y c d=true:=by
 unfold maP;rw[isU64_u64 hx,isU64_u64 hy,isU64_u64 hc,isU64_u64 hd];rfl
theorem maL_lt (x y c d:Nat):maL x y c d<18446744073709551616:=Nat.mod_lt _ (by decide)
theorem maH_lt {x y c d:Nat}(hx:x<18446744073709551616) (hy:y<18446744073709551616) (hc:c<18446744073709551616) (hd:d<18446744073709551616):maH x y c d<18446744073709551616:=by
 have:=mul_le hx hy
 unfold maH;omega
theorem ma_eq (x y c d:Nat):maL x y c d+18446744073709551616*maH x y c d=x*y+c+d:=Nat.mod_add_div _ _
def rowT (d b0 b1 b2 b3 s0 s1 s2 s3:Nat) (k:Nat->Nat->Nat->Nat->Nat->Option Value):Option Value:=
 req (maP d b0 s0 0)<|req (maP d b1 s1 (maH d b0 s0 0))<|req (maP d b2 s2 (maH d b1 s1 (maH d b0 s0 0)))<|req (maP d b3 s3 (maH d b2 s2 (maH d b1 s1 (maH d b0 s0 0)))) <|
  k (maL d b0 s0 0) (maL d b1 s1 (maH d b0 s0 0)) (maL d b2 s2 (maH d b1 s1 (maH d b0 s0 0))) (maL d b3 s3 (maH d b2 s2 (maH d b1 s1 (maH d b0 s0 0)))) (maH d b3 s3 (maH d b2 s2 (maH d b1 s1 (maH d b0 s0 0))))
theorem rowT_eq {d b0 b1 b2 b3 s0 s1 s2 s3:Nat}(hd:d<18446744073709551616) (h0:b0<18446744073709551616) (h1:b1<18446744073709551616) (h2:b2<18446744073709551616) (h3:b3<18446744073709551616)
  (k0:s0<18446744073709551616) (k1:s1<18446744073709551616) (k2:s2<18446744073709551616) (k3:s3<18446744073709551616) (k:Nat->Nat->Nat->Nat->Nat->Option Value):
  ∃l0 l1 l2 l3 c,l0<18446744073709551616∧l1<18446744073709551616∧l2<18446744073709551616∧l3<18446744073709551616∧c<18446744073709551616∧
   rowT d b0 b1 b2 b3 s0 s1 s2 s3 k=k l0 l1 l2 l3 c∧hor l0 l1 l2 (l3+18446744073709551616*c)=hor s0 s1 s2 s3+d*hor b0 b1 b2 b3:=by
 have z:(0:Nat)<18446744073709551616:=by decide
 have c0:=maH_lt hd h0 k0 z
 have c1:=maH_lt hd h1 k1 c0
 have c2:=maH_lt hd h2 k2 c1
 have c3:=maH_lt hd h3 k3 c2
 refine⟨_,_,_,_,_,maL_lt d b0 s0 0,maL_lt d b1 s1 (maH d b0 s0 0),maL_lt d b2 s2 (maH d b1 s1 (maH d b0 s0 0)),maL_lt d b3 s3 (maH d b2 s2 (maH d b1 s1 (maH d b0 s0 0))),c3,?_,?_⟩
 ·unfold rowT
  rw[req_true (maP_true hd h0 k0 z),req_true (maP_true hd h1 k1 c0),req_true (maP_true hd h2 k2 c1),req_true (maP_true hd h3 k3 c2)]
 ·have e0:=ma_eq d b0 s0 0
  have e1:=ma_eq d b1 s1 (maH d b0 s0 0)
  have e2:=ma_eq d b2 s2 (maH d b1 s1 (maH d b0 s0 0))
  have e3:=ma_eq d b3 s3 (maH d b2 s2 (maH d b1 s1 (maH d b0 s0 0)))
  have ed:d*hor b0 b1 b2 b3=d*b0+18446744073709551616*(d*b1+18446744073709551616*(d*b2+18446744073709551616*(d*b3))):=by
   unfold hor;simp only[Nat.mul_add,Nat.mul_left_comm d]
  rw[ed]
  unfold hor
  generalize d*b0=p0 at *
  generalize d*b1=p1 at *
  generalize d*b2=p2 at *
  generalize d*b3=p3 at *
  omega
def bnd:Nat->Nat
 | 0=>115792089237316195423570985008687907853269984665640564039457584007913129639936
 | 1=>2135987035920910082395021706169552114602704522356652769947041607822219725780640550022962086936576
 | 2=>39402006196394479212279040100143613805079739270465446667948293404245721771497210611414266254884915640806627990306816
 | _=>726838724295606890549323807888004534353641360687318060281490199180639288113397923326191050713763565560762521606266177933534601628614656
def addRowV (S d b k:Nat):Value:=num8 (S+d*b*2^(64*k))
def addRowT (k:Nat) (s0 s1 s2 s3 s4 s5 s6 s7 d b0 b1 b2 b3:Nat):Option Value:=
 match k with
 | 0=>rowT d b0 b1 b2 b3 s0 s1 s2 s3 fun l0 l1 l2 l3 c=>some (numd8 l0 l1 l2 l3 c s5 s6 s7)
 | 1=>rowT d b0 b1 b2 b3 s1 s2 s3 s4 fun l0 l1 l2 l3 c=>some (numd8 s0 l0 l1 l2 l3 c s6 s7)
 | 2=>rowT d b0 b1 b2 b3 s2 s3 s4 s5 fun l0 l1 l2 l3 c=>some (numd8 s0 s1 l0 l1 l2 l3 c s7)
 | _=>rowT d b0 b1 b2 b3 s3 s4 s5 s6 fun l0 l1 l2 l3 c=>some (numd8 s0 s1 s2 l0 l1 l2 l3 c)
theorem addRowT_eq {k s0 s1 s2 s3 s4 s5 s6 s7 d b0 b1 b2 b3:Nat}(hk:k<=3) (k0:s0<18446744073709551616) (k1:s1<18446744073709551616) (k2:s2<18446744073709551616) (k3:s3<18446744073709551616)
  (k4:s4<18446744073709551616) (k5:s5<18446744073709551616) (k6:s6<18446744073709551616) (k7:s7<18446744073709551616) (hd:d<18446744073709551616)
  (h0:b0<18446744073709551616) (h1:b1<18446744073709551616) (h2:b2<18446744073709551616) (h3:b3<18446744073709551616) (hS:hor8 s0 s1 s2 s3 s4 s5 s6 s7<bnd k):
  addRowT k s0 s1 s2 s3 s4 s5 s6 s7 d b0 b1 b2 b3=some (addRowV (hor8 s0 s1 s2 s3 s4 s5 s6 s7) d (hor b0 b1 b2 b3) k):=by
 unfold addRowV
 match k,hk with
 | 0,_=>
  obtain ⟨l0,l1,l2,l3,c,m0,m1,m2,m3,m4,e,f⟩:=rowT_eq hd h0 h1 h2 h3 k0 k1 k2 k3 fun l0 l1 l2 l3 c=>some (numd8 l0 l1 l2 l3 c s5 s6 s7)
  have hz:s4=0∧s5=0∧s6=0∧s7=0:=by simp only[bnd,hor8,hor]at hS;omega
  obtain ⟨rfl,rfl,rfl,rfl⟩:=hz
  have hx:hor8 l0 l1 l2 l3 c 0 0 0=hor8 s0 s1 s2 s3 0 0 0 0+d*hor b0 b1 b2 b3*2^(64*0):=by
   generalize d*hor b0 b1 b2 b3=p at *
   simp only[hor8,hor]at f ⊢
   omega
  exact e.trans (congrArg some ((num8_hor m0 m1 m2 m3 m4 k5 k6 k7).symm.trans (congrArg num8 hx)))
 | 1,_=>
  obtain ⟨l0,l1,l2,l3,c,m0,m1,m2,m3,m4,e,f⟩:=rowT_eq hd h0 h1 h2 h3 k1 k2 k3 k4 fun l0 l1 l2 l3 c=>some (numd8 s0 l0 l1 l2 l3 c s6 s7)
  have hz:s5=0∧s6=0∧s7=0:=by simp only[bnd,hor8,hor]at hS;omega
  obtain ⟨rfl,rfl,rfl⟩:=hz
  have hx:hor8 s0 l0 l1 l2 l3 c 0 0=hor8 s0 s1 s2 s3 s4 0 0 0+d*hor b0 b1 b2 b3*2^(64*1):=by
   generalize d*hor b0 b1 b2 b3=p at *
   simp only[hor8,hor]at f ⊢
   omega
  exact e.trans (congrArg some ((num8_hor k0 m0 m1 m2 m3 m4 k6 k7).symm.trans (congrArg num8 hx)))
 | 2,_=>
  obtain ⟨l0,l1,l2,l3,c,m0,m1,m2,m3,m4,e,f⟩:=rowT_eq hd h0 h1 h2 h3 k2 k3 k4 k5 fun l0 l1 l2 l3 c=>some (numd8 s0 s1 l0 l1 l2 l3 c s7)
  have hz:s6=0∧s7=0:=by simp only[bnd,hor8,hor]at hS;omega
  obtain ⟨rfl,rfl⟩:=hz
  have hx:hor8 s0 s1 l0 l1 l2 l3 c 0=hor8 s0 s1 s2 s3 s4 s5 0 0+d*hor b0 b1 b2 b3*2^(64*2):=by
   generalize d*hor b0 b1 b2 b3=p at *
   simp only[hor8,hor]at f ⊢
   omega
  exact e.trans (congrArg some ((num8_hor k0 k1 m0 m1 m2 m3 m4 k7).symm.trans (congrArg num8 hx)))
 | 3,_=>
  obtain ⟨l0,l1,l2,l3,c,m0,m1,m2,m3,m4,e,f⟩:=rowT_eq hd h0 h1 h2 h3 k3 k4 k5 k6 fun l0 l1 l2 l3 c=>some (numd8 s0 s1 s2 l0 l1 l2 l3 c)
  have hz:s7=0:=by simp only[bnd,hor8,hor]at hS;omega
  obtain rfl:=hz
  have hx:hor8 s0 s1 s2 l0 l1 l2 l3 c=hor8 s0 s1 s2 s3 s4 s5 s6 0+d*hor b0 b1 b2 b3*2^(64*3):=by
   generalize d*hor b0 b1 b2 b3=p at *
   simp only[hor8,hor]at f ⊢
   omega
  exact e.trans (congrArg some ((num8_hor k0 k1 k2 m0 m1 m2 m3 m4).symm.trans (congrArg num8 hx)))
def mulV (X Y:Nat):Value:=.tuple #[num (X*Y),num (X*Y / 2^256)]
def MulF:List Value->Option (Bool×Value)
 | [x,y]=>some (isNum x&&isNum y,mulV (unnum x) (unnum y))
 | _=>none
theorem bnd_lt {S k:Nat}(hk:k<=3) (hS:S<bnd k):S<13407807929942597099574024998205846127479365820592393377723561443721764030073546976801874298166903427690031858186486050853753882811946569946433649006084096:=by
 match k,hk with
 | 0,_=>simp only[bnd]at hS;omega
 | 1,_=>simp only[bnd]at hS;omega
 | 2,_=>simp only[bnd]at hS;omega
 | 3,_=>simp only[bnd]at hS;omega
theorem row_le {d Y:Nat}(hY:Y<2^256) (hd:d<18446744073709551616):d*Y<=18446744073709551615*(2^256-1):=Nat.mul_le_mul (by omega) (by omega)
theorem div256 (X:Nat):X / 18446744073709551616 / 18446744073709551616 / 18446744073709551616 / 18446744073709551616=X / 2^256:=by
 rw[Nat.div_div_eq_div_mul,Nat.div_div_eq_div_mul,Nat.div_div_eq_div_mul]
end Go.W

namespace Go.W
def r5N (s0 s1 s2 s3 d:Nat) (b:Value):Nat:=hor s0 s1 s2 s3+d*unnum b
def r5V (T:Nat):Value:=.tuple #[u64 (dig T 0),u64 (dig T 1),u64 (dig T 2),u64 (dig T 3),u64 (dig T 4)]
def r5P (s0 s1 s2 s3 d b:Value):Bool:=isU64 s0&&isU64 s1&&isU64 s2&&isU64 s3&&isU64 d&&isNum b
def row5F:List Value->Option (Bool×Value)
 | [s0,s1,s2,s3,d,b]=>some (r5P s0 s1 s2 s3 d b,r5V (r5N (intN s0) (intN s1) (intN s2) (intN s3) (intN d) b))
 | _=>none
def row5T (s0 s1 s2 s3 d b0 b1 b2 b3:Nat):Option Value:=
 rowT d b0 b1 b2 b3 s0 s1 s2 s3 fun l0 l1 l2 l3 c=>some (.tuple #[u64 l0,u64 l1,u64 l2,u64 l3,u64 c])
theorem row5T_eq {d b0 b1 b2 b3 s0 s1 s2 s3:Nat}(hd:d<18446744073709551616) (h0:b0<18446744073709551616) (h1:b1<18446744073709551616) (h2:b2<18446744073709551616) (h3:b3<18446744073709551616)
  (k0:s0<18446744073709551616) (k1:s1<18446744073709551616) (k2:s2<18446744073709551616) (k3:s3<18446744073709551616):
  row5T s0 s1 s2 s3 d b0 b1 b2 b3=some (r5V (r5N s0 s1 s2 s3 d (numd b0 b1 b2 b3))):=by
 obtain ⟨l0,l1,l2,l3,c,m0,m1,m2,m3,m4,e,f⟩:=rowT_eq hd h0 h1 h2 h3 k0 k1 k2 k3 fun l0 l1 l2 l3 c=>some (.tuple #[u64 l0,u64 l1,u64 l2,u64 l3,u64 c])
 have hf:r5N s0 s1 s2 s3 d (numd b0 b1 b2 b3)=l0+18446744073709551616*(l1+18446744073709551616*(l2+18446744073709551616*(l3+18446744073709551616*c))):=by
  unfold r5N;rw[unnum_numd,<-f];rfl
 refine e.trans ?_
 unfold r5V
 rw[hf,(dig_cons m0).1,(dig_cons m0).2,(dig_cons m0).2,(dig_cons m0).2,(dig_cons m0).2,(dig_cons m1).1,(dig_cons m1).2,(dig_cons m1).2,(dig_cons m1).2,
  (dig_cons m2).1,(dig_cons m2).2,(dig_cons m2).2,(dig_cons m3).1,(dig_cons m3).2]
 have:dig c 0=c:=Nat.mod_eq_of_lt m4
 rw[this]
theorem r5P_some {s0 s1 s2 s3 d b:Value}(h:r5P s0 s1 s2 s3 d b=true):∃x0 x1 x2 x3 y Y,x0<18446744073709551616∧x1<18446744073709551616∧x2<18446744073709551616∧x3<18446744073709551616∧y<18446744073709551616∧Y<2^256∧
  s0=u64 x0∧s1=u64 x1∧s2=u64 x2∧s3=u64 x3∧d=u64 y∧b=num Y:=by
 simp only[r5P,Bool.and_eq_true]at h
 obtain ⟨⟨⟨⟨⟨h0,h1⟩,h2⟩,h3⟩,h4⟩,h5⟩:=h
 obtain ⟨x0,l0,rfl⟩:=isU64_some h0
 obtain ⟨x1,l1,rfl⟩:=isU64_some h1
 obtain ⟨x2,l2,rfl⟩:=isU64_some h2
 obtain ⟨x3,l3,rfl⟩:=isU64_some h3
 obtain ⟨y,l4,rfl⟩:=isU64_some h4
 obtain ⟨Y,l5,rfl⟩:=isNum_some h5
 exact⟨x0,x1,x2,x3,y,Y,l0,l1,l2,l3,l4,l5,rfl,rfl,rfl,rfl,rfl,rfl⟩
def mul5 (b:Value) (x0 x1 x2 x3:Nat):Option Value:=
 let r (T:Nat) (x:Nat) (k:Nat->Option Value):Option Value:=req (r5P (u64 (dig T 1)) (u64 (dig T 2)) (u64 (dig T 3)) (u64 (dig T 4)) (u64 x) b) (k (r5N (dig T 1) (dig T 2) (dig T 3) (dig T 4) x b))
 req (r5P (u64 0) (u64 0) (u64 0) (u64 0) (u64 x0) b) <|
 r (r5N 0 0 0 0 x0 b) x1 fun T2=>r T2 x2 fun T3=>r T3 x3 fun T4=>
  some (.tuple #[numd (dig (r5N 0 0 0 0 x0 b) 0) (dig T2 0) (dig T3 0) (dig T4 0),numd (dig T4 1) (dig T4 2) (dig T4 3) (dig T4 4)])
theorem r5P_dig {T x Y:Nat}(hx:x<18446744073709551616):r5P (u64 (dig T 1)) (u64 (dig T 2)) (u64 (dig T 3)) (u64 (dig T 4)) (u64 x) (num Y)=true:=by
 unfold r5P;rw[isU64_u64 (dig_lt _ _),isU64_u64 (dig_lt _ _),isU64_u64 (dig_lt _ _),isU64_u64 (dig_lt _ _),isU64_u64 hx,isNum_num];rfl
theorem r5N_dig {T x Y:Nat}(hY:Y<2^256) (hT:T / 18446744073709551616<2^256):r5N (dig T 1) (dig T 2) (dig T 3) (dig T 4) x (num Y)=T / 18446744073709551616+x*Y:=by
 unfold r5N
 rw[unnum_lt hY]
 exact congrArg (·+x*Y) (hor_dig hT).symm
theorem mul5_eq {x0 x1 x2 x3 Y:Nat}(h0:x0<18446744073709551616) (h1:x1<18446744073709551616) (h2:x2<18446744073709551616) (h3:x3<18446744073709551616) (hY:Y<2^256):
  mul5 (num Y) x0 x1 x2 x3=some (mulV (hor x0 x1 x2 x3) Y):=by
 have z:(0:Nat)<18446744073709551616:=by decide
 have p0:r5P (u64 0) (u64 0) (u64 0) (u64 0) (u64 x0) (num Y)=true:=by
  unfold r5P;rw[isU64_u64 z,isU64_u64 h0,isNum_num];rfl
 have e1:r5N 0 0 0 0 x0 (num Y)=x0*Y:=by unfold r5N hor;rw[unnum_lt hY];omega
 have q0:=row_le hY h0
 have q1:=row_le hY h1
 have q2:=row_le hY h2
 have q3:=row_le hY h3
 unfold mul5
 simp only[]
 have b1:x0*Y / 18446744073709551616<2^256:=by omega
 rw[req_true p0,e1,req_true (r5P_dig h1),r5N_dig hY b1]
 have b2:(x0*Y / 18446744073709551616+x1*Y) / 18446744073709551616<2^256:=by omega
 rw[req_true (r5P_dig h2),r5N_dig hY b2]
 have b3:((x0*Y / 18446744073709551616+x1*Y) / 18446744073709551616+x2*Y) / 18446744073709551616<2^256:=by omega
 rw[req_true (r5P_dig h3),r5N_dig hY b3]
 have hp:hor x0 x1 x2 x3*Y=x0*Y+18446744073709551616*(x1*Y+18446744073709551616*(x2*Y+18446744073709551616*(x3*Y))):=by
  unfold hor;simp only[Nat.add_mul,Nat.mul_assoc,Nat.mul_add]
 unfold mulV
 rw[hp]
 generalize x0*Y=a0 at *
 generalize x1*Y=a1 at *
 generalize x2*Y=a2 at *
 generalize x3*Y=a3 at *
 generalize hT2:a0 / 18446744073709551616+a1=T2 at *
 generalize hT3:T2 / 18446744073709551616+a2=T3 at *
 generalize hT4:T3 / 18446744073709551616+a3=T4 at *
 have hs:a0+18446744073709551616*(a1+18446744073709551616*(a2+18446744073709551616*a3))=hor (dig a0 0) (dig T2 0) (dig T3 0) (dig T4 0+18446744073709551616*(T4 / 18446744073709551616)):=by
  show _=hor (a0%18446744073709551616) (T2%18446744073709551616) (T3%18446744073709551616) (T4%18446744073709551616+18446744073709551616*(T4 / 18446744073709551616))
  unfold hor;omega
 have hd:(a0+18446744073709551616*(a1+18446744073709551616*(a2+18446744073709551616*a3))) / 2^256=T4 / 18446744073709551616:=by
  rw[<-div256];omega
 rw[hd,hs,num_hor (dig_lt _ _) (dig_lt _ _) (dig_lt _ _) (dig_lt _ _)]
 rfl
end Go.W

namespace Go.Proofs.YtckbmhegopjnmaaGreat
set_option maxRecDepth 100000
open Go.W
open Go.RowKit (Below)
def Mul64C:Cfg:=⟨tab,[],51,[]⟩
theorem Mul64Ok:CfgOk Tryz.prog Mul64C (bodyOf Tryz.f118):=⟨mixed,tabOk,sums_nil,noL⟩
theorem Mul64_ev (x y:Nat):fnS Mul64C 60 Tryz.f118 (bodyOf Tryz.f118) [u64 x,u64 y]=Mul64T x y:=by kernel_rfl
theorem Mul64_sum:Sum Tryz.prog 118 Mul64F:=by
 refine sum_of Mul64Ok Tryz.func118 (by kernel_rfl) (by kernel_rfl) rfl (fuel:=60) fun args v h _=>?_
 obtain ⟨x,y,hx,hy,rfl,rfl⟩:=argU2 (f:=fun x y=>mul64V (intN x) (intN y)) h
 refine⟨by show 2<=Tryz.f118.ntmps;decide +kernel,?_,rfl⟩
 rw[Mul64_ev,Mul64T_eq hx hy];rfl
def mulAddC:Cfg:=⟨tab,[(118,Mul64F),(116,Add64F)],36,[]⟩
theorem mulAddOk:CfgOk Tryz.prog mulAddC (bodyOf Tryz.f131):=⟨mixed,tabOk,sums_cons Mul64_sum (sums_cons Add64_sum sums_nil),noL⟩
theorem mulAdd_ev (x y c d:Nat):fnS mulAddC 60 Tryz.f131 (bodyOf Tryz.f131) [u64 x,u64 y,u64 c,u64 d]=mulAddT x y c d:=by kernel_rfl
theorem mulAdd_sum:Sum Tryz.prog 131 mulAddF:=by
 refine sum_of mulAddOk Tryz.func131 (by kernel_rfl) (by kernel_rfl) rfl (fuel:=60) fun args v h _=>?_
 obtain ⟨x,y,c,d,hx,hy,hc,hd,rfl,rfl⟩:=argU4 (f:=fun x y c d=>mulAddV (intN x) (intN y) (intN c) (intN d)) h
 refine⟨by show 4<=Tryz.f131.ntmps;decide +kernel,?_,rfl⟩
 rw[mulAdd_ev,mulAddT_eq hx hy hc hd];rfl
def addRowC:Cfg:=⟨tab,[(131,mulAddF)],58,[]⟩
theorem addRowOk:CfgOk Tryz.prog addRowC (bodyOf Tryz.f128):=⟨mixed,tabOk,sums_cons mulAdd_sum sums_nil,noL⟩
theorem addRow_ev (s0 s1 s2 s3 d b0 b1 b2 b3:Nat):fnS addRowC 60 Tryz.f128 (bodyOf Tryz.f128) [u64 s0,u64 s1,u64 s2,u64 s3,u64 d,numd b0 b1 b2 b3]=row5T s0 s1 s2 s3 d b0 b1 b2 b3:=by kernel_rfl
theorem addRow_sum:Sum Tryz.prog 128 row5F:=by
 refine sum_of addRowOk Tryz.func128 (by kernel_rfl) (by kernel_rfl) rfl (fuel:=60) fun args v h _=>?_
 unfold row5F at h
 split at h
 ·simp only[Option.some.injEq,Prod.mk.injEq]at h
  obtain ⟨h1,rfl⟩:=h
  obtain ⟨x0,x1,x2,x3,y,Y,l0,l1,l2,l3,l4,l5,rfl,rfl,rfl,rfl,rfl,rfl⟩:=r5P_some h1
  obtain ⟨y0,y1,y2,y3,m0,m1,m2,m3,e3,e4⟩:=digits l5
  refine⟨by show 6<=Tryz.f128.ntmps;decide +kernel,?_,rfl⟩
  rw[e4]
  exact(addRow_ev _ _ _ _ _ _ _ _ _).trans (row5T_eq l4 m0 m1 m2 m3 l0 l1 l2 l3)
 ·simp at h
def MulC:Cfg:=⟨tab,[(128,row5F)],76,[]⟩
theorem MulOk:CfgOk Tryz.prog MulC (bodyOf Tryz.f121):=⟨mixed,tabOk,sums_cons addRow_sum sums_nil,noL⟩
theorem Mul_ev (x0 x1 x2 x3 y0 y1 y2 y3:Nat):fnS MulC 60 Tryz.f121 (bodyOf Tryz.f121) [numd x0 x1 x2 x3,numd y0 y1 y2 y3]=mul5 (numd y0 y1 y2 y3) x0 x1 x2 x3:=by kernel_rfl
theorem Mul_sum:Sum Tryz.prog 121 MulF:=by
 refine sum_of MulOk Tryz.func121 (by kernel_rfl) (by kernel_rfl) rfl (fuel:=60) fun args v h _=>?_
 obtain ⟨X,Y,hX,hY,rfl,rfl⟩:=arg2 (f:=fun x y=>mulV (unnum x) (unnum y)) h
 obtain ⟨x0,x1,x2,x3,h0,h1,h2,h3,e1,e2⟩:=digits hX
 obtain ⟨y0,y1,y2,y3,k0,k1,k2,k3,e3,e4⟩:=digits hY
 refine⟨by show 2<=Tryz.f121.ntmps;decide +kernel,?_,rfl⟩
 have key:=mul5_eq h0 h1 h2 h3 hY
 rw[unnum_lt hX,unnum_lt hY,e2,e4]
 rw[e4,<-e1]at key
 exact(Mul_ev _ _ _ _ _ _ _ _).trans key
end Go.Proofs.YtckbmhegopjnmaaGreat

namespace Go.W
def bitN (X:Nat) (i:Nat):Nat:=X / 2^i%2
def bitI (X:Nat) (i:Int):Int:=if 0<=i∧i<=255 then (bitN X i.toNat:Int) else 0
def BitF:List Value->Option (Bool×Value)
 | [x,.int .i64 i]=>some (isNum x,i64 (bitI (unnum x) i))
 | _=>none
theorem digit_bit (a q r:Nat) (h:r<64):(a+18446744073709551616*q) / 2^r%2=a / 2^r%2:=by
 have e:18446744073709551616*q=2^r*(2*(2^(63-r)*q)):=by
  have:(18446744073709551616:Nat)=2^r*(2*2^(63-r)):=by
   rw[show(18446744073709551616:Nat)=2^64 from rfl,<-Nat.pow_succ',<-Nat.pow_add]
   congr 1;omega
  rw[this];simp only[Nat.mul_assoc]
 rw[e,Nat.add_mul_div_left _ _ (Nat.two_pow_pos r)]
 omega
theorem hor_bit {a b c d:Nat}(ha:a<18446744073709551616) (hb:b<18446744073709551616) (hc:c<18446744073709551616) (q r:Nat) (hr:r<64) (hq:q<4):
  bitN (hor a b c d) (64*q+r)=(match q with|0=>a|1=>b|2=>c|_=>d) / 2^r%2:=by
 unfold bitN
 rw[Nat.pow_add,<-Nat.div_div_eq_div_mul]
 match q,hq with
 | 0,_=>
  rw[show hor a b c d / 2^(64*0)=hor a b c d from by simp]
  exact digit_bit a _ r hr
 | 1,_=>
  rw[show hor a b c d / 2^(64*1)=b+18446744073709551616*(c+18446744073709551616*d) from by unfold hor;omega]
  exact digit_bit b _ r hr
 | 2,_=>
  rw[show hor a b c d / 2^(64*2)=c+18446744073709551616*d from by unfold hor;omega]
  exact digit_bit c _ r hr
 | 3,_=>
  rw[show hor a b c d / 2^(64*3)=d from by unfold hor;omega]
  rfl
theorem u64_bit {a r:Nat}(ha:a<18446744073709551616) (hr:r<64):IntKind.i64.wrap (iAnd .u64 (iShr .u64 (a:Int) (r:Int)) 1)=((a / 2^r%2:Nat):Int):=by
 rw[iShr_u a r (by omega)]
 have h1:a / 2^r<18446744073709551616:=Nat.lt_of_le_of_lt (Nat.div_le_self _ _) ha
 have:=iAnd_u (a:=a / 2^r) (b:=1) h1 (by omega)
 rw[show((1:Nat):Int)=1 from rfl]at this
 rw[this,Nat.and_one_is_mod,wrap_i64 (by omega)]
theorem bitI_nat {A n:Nat}(h:n<=255):bitI A (n:Int)=(bitN A n:Int):=by
 unfold bitI;rw[if_pos (by omega),Int.toNat_natCast]
end Go.W

namespace Go.Proofs.YtckbmhegopjnmaaGreat
set_option maxRecDepth 100000
open Go.W
open Go.RowKit (Below)
def bitOf (v:Value) (r:Int):Option Value:=
 binK tab .shr 22 v (.int .i64 r) (fun u=>binK tab .and 22 u (.int .u64 1) (fun z=>intK z (fun _ n=>some (i64 (IntKind.i64.wrap n))) none) none) none
def BitT (a0 a1 a2 a3:Nat) (i:Int):Option Value:=
 bif decide (i<0) then some (i64 0) else bif decide (i > 255) then some (i64 0) else
  bif inR (IntKind.i64.wrap (i.tdiv 64)) 4 then oK ([u64 a0,u64 a1,u64 a2,u64 a3][0+(IntKind.i64.wrap (i.tdiv 64)).toNat*1]?) (fun v=>bitOf v (i.tmod 64)) none else none
def BitC:Cfg:=⟨tab,[],20,[]⟩
theorem BitOk:CfgOk Tryz.prog BitC (bodyOf Tryz.f106):=⟨mixed,tabOk,sums_nil,noL⟩
theorem Bit_ev (a0 a1 a2 a3:Nat) (i:Int):fnS BitC 60 Tryz.f106 (bodyOf Tryz.f106) [numd a0 a1 a2 a3,i64 i]=BitT a0 a1 a2 a3 i:=by kernel_rfl
theorem bitOf_eq {a r:Nat}(ha:a<18446744073709551616) (hr:r<64):bitOf (u64 a) (r:Int)=some (i64 ((a / 2^r%2:Nat):Int)):=by
 rw[<-u64_bit ha hr]
 have hn:decide ((r:Int)<0)=false:=decide_eq_false (by omega)
 unfold bitOf u64
 simp only[binK,intK,binI,hn,cond_false,decide_true,cond_true]
 rfl
theorem BitT_eq {a b c d:Nat}(ha:a<18446744073709551616) (hb:b<18446744073709551616) (hc:c<18446744073709551616) (hd:d<18446744073709551616) (i:Int):BitT a b c d i=some (i64 (bitI (hor a b c d) i)):=by
 unfold BitT
 by_cases h0:i<0
 ·rw[decide_eq_true h0,cond_true]
  unfold bitI;rw[if_neg (by omega)]
 ·rw[decide_eq_false h0,cond_false]
  by_cases h1:i > 255
  ·rw[decide_eq_true h1,cond_true]
   unfold bitI;rw[if_neg (by omega)]
  ·rw[decide_eq_false h1,cond_false]
   obtain ⟨n,rfl⟩:=Int.eq_ofNat_of_zero_le (by omega:0<=i)
   have e1:(n:Int).tdiv 64=((n / 64:Nat):Int):=by rw[Int.tdiv_eq_ediv_of_nonneg (by omega)];omega
   have e2:(n:Int).tmod 64=((n%64:Nat):Int):=by rw[Int.tmod_eq_emod_of_nonneg (by omega)];omega
   have hq:n / 64<4:=by omega
   have hr:n%64<64:=Nat.mod_lt _ (by decide)
   rw[e1,e2,wrap_i64 (by omega)]
   have hin:inR ((n / 64:Nat):Int) 4=true:=by simp only[inR,Bool.and_eq_true,decide_eq_true_eq];omega
   rw[hin,cond_true,Int.toNat_natCast,bitI_nat (by omega),show n=64*(n / 64)+n%64 from by omega,hor_bit ha hb hc _ _ hr hq]
   rw[<-show n=64*(n / 64)+n%64 from by omega,Nat.zero_add,Nat.mul_one]
   generalize n / 64=q at hq
   match q,hq with
   | 0,_=>exact bitOf_eq ha hr
   | 1,_=>exact bitOf_eq hb hr
   | 2,_=>exact bitOf_eq hc hr
   | 3,_=>exact bitOf_eq hd hr
theorem Bit_sum:Sum Tryz.prog 106 BitF:=by
 refine sum_of BitOk Tryz.func106 (by kernel_rfl) (by kernel_rfl) rfl (fuel:=60) fun args v h _=>?_
 unfold BitF at h
 split at h
 ·simp only[Option.some.injEq,Prod.mk.injEq]at h
  obtain ⟨h1,rfl⟩:=h
  obtain ⟨X,hX,rfl⟩:=isNum_some h1
  refine⟨by show 2<=Tryz.f106.ntmps;decide +kernel,?_,rfl⟩
  obtain ⟨x0,x1,x2,x3,h0,h1,h2,h3,e1,e2⟩:=digits hX
  rw[unnum_lt hX,e2,e1]
  exact(Bit_ev _ _ _ _ _).trans (BitT_eq h0 h1 h2 h3 _)
 ·simp at h
end Go.Proofs.YtckbmhegopjnmaaGreat

namespace Go.W
def len8S:ByteArray:=⟨#[0,1,2,2,3,3,3,3,4,4,4,4,4,4,4,4,5,5,5,5,5,5,5,5,5,5,5,5,5,5,5,5,6,6,6,6,6,6,6,6,6,6,6,6,6,6,6,6,6,6,6,6,6,6,6,6,6,6,6,6,6,6,6,6,7,7,7,7,7,7,7,7,7,7,7,7,7,7,7,7,7,7,7,7,7,7,7,7,7,7,7,7,7,7,7,7,7,7,7,7,7,7,7,7,7,7,7,7,7,7,7,7,7,7,7,7,7,7,7,7,7,7,7,7,7,7,7,7,8,8,8,8,8,8,8,8,8,8,8,8,8,8,8,8,8,8,8,8,8,8,8,8,8,8,8,8,8,8,8,8,8,8,8,8,8,8,8,8,8,8,8,8,8,8,8,8,8,8,8,8,8,8,8,8,8,8,8,8,8,8,8,8,8,8,8,8,8,8,8,8,8,8,8,8,8,8,8,8,8,8,8,8,8,8,8,8,8,8,8,8,8,8,8,8,8,8,8,8,8,8,8,8,8,8,8,8,8,8,8,8,8,8,8,8,8,8,8,8,8,8,8,8,8,8,8,8]⟩
def Len64F:List Value->Option (Bool×Value)
 | [x]=>some (isU64 x,i64 (bitLen (intN x):Int))
 | _=>none
def l8 (x n:Int):Option Value:=
 bif inR (IntKind.u8.wrap x) len8S.size then some (i64 (iAdd .i64 n (IntKind.i64.wrap ((len8S.data.toList.getD (IntKind.u8.wrap x).toNat 0).toNat:Int)))) else none
def s8 (x n:Int):Option Value:=bif decide (x>=256) then l8 (iShr .u64 x 8) (iAdd .i64 n 8) else l8 x n
def s16 (x n:Int):Option Value:=bif decide (x>=65536) then s8 (iShr .u64 x 16) (iAdd .i64 n 16) else s8 x n
def Len64T (x:Int):Option Value:=bif decide (x>=4294967296) then s16 (iShr .u64 x 32) 32 else s16 x 0
theorem wrap_u8 (n:Int):IntKind.u8.wrap n=n%256:=by simp[IntKind.wrap,IntKind.bits,IntKind.signed]
theorem len8_all:∀j:Fin 256,(len8S.data.toList.getD j.val 0).toNat=bitLen j.val:=by decide +kernel
theorem bitLen_lt {x k:Nat}(h:x<2^k):bitLen x<=k:=by
 unfold bitLen
 split
 ·omega
 ·rename_i h0
  have:=(Nat.log2_lt h0).2 h
  omega
theorem l8_eq {x n:Nat}(hx:x<256) (hn:n<=1000):l8 x n=some (i64 ((n+bitLen x:Nat):Int)):=by
 have e1:IntKind.u8.wrap (x:Int)=(x:Int):=by rw[wrap_u8];omega
 have hs:len8S.size=256:=by decide +kernel
 have hb:=bitLen_lt (k:=8) (show x<2^8 from hx)
 unfold l8
 rw[e1,hs]
 have hin:inR (x:Int) 256=true:=by simp only[inR,Bool.and_eq_true,decide_eq_true_eq];omega
 rw[hin,cond_true,Int.toNat_natCast,len8_all ⟨x,hx⟩]
 unfold iAdd
 rw[wrap_i64 (n:=((bitLen x:Nat):Int)) (by omega),wrap_i64 (by omega),<-Int.natCast_add]
theorem iAdd_i {a b:Nat}(h:a+b<=100000):iAdd .i64 a b=((a+b:Nat):Int):=by
 unfold iAdd;rw[wrap_i64 (by omega)];omega
theorem s8_eq {x n:Nat}(hx:x<65536) (hn:n<=900):s8 x n=some (i64 ((n+bitLen x:Nat):Int)):=by
 unfold s8
 by_cases h:256<=x
 ·rw[decide_eq_true (by omega),cond_true]
  have e1:=iShr_u x 8 (by omega)
  rw[show((8:Nat):Int)=8 from rfl]at e1
  have e2:=iAdd_i (a:=n) (b:=8) (by omega)
  rw[show((8:Nat):Int)=8 from rfl]at e2
  rw[e1,e2,l8_eq (by omega) (by omega),bitLen_shift x 8 (by omega)]
  congr 3;omega
 ·rw[decide_eq_false (by omega),cond_false,l8_eq (by omega) (by omega)]
theorem s16_eq {x n:Nat}(hx:x<4294967296) (hn:n<=800):s16 x n=some (i64 ((n+bitLen x:Nat):Int)):=by
 unfold s16
 by_cases h:65536<=x
 ·rw[decide_eq_true (by omega),cond_true]
  have e1:=iShr_u x 16 (by omega)
  rw[show((16:Nat):Int)=16 from rfl]at e1
  have e2:=iAdd_i (a:=n) (b:=16) (by omega)
  rw[show((16:Nat):Int)=16 from rfl]at e2
  rw[e1,e2,s8_eq (by omega) (by omega),bitLen_shift x 16 (by omega)]
  congr 3;omega
 ·rw[decide_eq_false (by omega),cond_false,s8_eq (by omega) (by omega)]
theorem Len64T_eq {x:Nat}(hx:x<18446744073709551616):Len64T x=some (i64 (bitLen x:Int)):=by
 unfold Len64T
 by_cases h:4294967296<=x
 ·rw[decide_eq_true (by omega),cond_true]
  have e1:=iShr_u x 32 (by omega)
  rw[show((32:Nat):Int)=32 from rfl]at e1
  have e3:=s16_eq (x:=x / 2^32) (n:=32) (by omega) (by omega)
  rw[show((32:Nat):Int)=32 from rfl]at e3
  rw[e1,e3,bitLen_shift x 32 (by omega)]
 ·have e3:=s16_eq (x:=x) (n:=0) (by omega) (by omega)
  rw[show((0:Nat):Int)=0 from rfl]at e3
  rw[decide_eq_false (by omega),cond_false,e3,Nat.zero_add]
def LenF:List Value->Option (Bool×Value)
 | [x]=>some (isNum x,i64 (bitLen (unnum x):Int))
 | _=>none
def lenD (a:Nat) (q:Int) (k:Option Value):Option Value:=
 bif (a:Int) != 0 then req (isU64 (u64 a)) (some (i64 (iAdd .i64 (iMul .i64 64 q) (bitLen a:Int)))) else k
def LenT (a b c d:Nat):Option Value:=lenD d 3 (lenD c 2 (lenD b 1 (lenD a 0 (some (i64 0)))))
theorem lenD_zero (q:Int) (k:Option Value):lenD 0 q k=k:=rfl
theorem lenD_pos {a:Nat}(h:a≠0) (ha:a<18446744073709551616) (q:Nat) (hq:q<=3) (k:Option Value):lenD a (q:Int) k=some (i64 ((64*q+bitLen a:Nat):Int)):=by
 unfold lenD
 have:((a:Int) != 0)=true:=by rw[bne_iff_ne];omega
 have hb:=bitLen_lt (k:=64) (show a<2^64 from ha)
 rw[this,cond_true,isU64_u64 ha,req_true rfl]
 unfold iAdd iMul
 rw[wrap_i64 (n:=64*(q:Int)) (by omega),wrap_i64 (by omega)]
 congr 2
theorem bitLen_hi {a q k:Nat}(ha:a<2^k) (hq:q≠0):bitLen (a+2^k*q)=k+bitLen q:=by
 have hd:(a+2^k*q) / 2^k=q:=by rw[Nat.add_mul_div_left _ _ (Nat.two_pow_pos k),Nat.div_eq_of_lt ha,Nat.zero_add]
 rw[bitLen_shift _ k (by rw[hd];exact hq),hd]
theorem LenT_eq {a b c d:Nat}(ha:a<18446744073709551616) (hb:b<18446744073709551616) (hc:c<18446744073709551616) (hd:d<18446744073709551616):LenT a b c d=some (i64 (bitLen (hor a b c d):Int)):=by
 unfold LenT hor
 by_cases h3:d=0
 ·subst h3
  rw[lenD_zero]
  by_cases h2:c=0
  ·subst h2
   rw[lenD_zero]
   by_cases h1:b=0
   ·subst h1
    rw[lenD_zero]
    by_cases h0:a=0
    ·subst h0;rfl
    ·have:=lenD_pos h0 ha 0 (by omega) (some (i64 0))
     rw[show((0:Nat):Int)=0 from rfl]at this
     rw[this];simp
   ·have:=lenD_pos h1 hb 1 (by omega) (lenD a 0 (some (i64 0)))
    rw[show((1:Nat):Int)=1 from rfl]at this
    have e:=bitLen_hi (a:=a) (k:=64) (q:=b) ha h1
    rw[this,show a+18446744073709551616*(b+18446744073709551616*(0+18446744073709551616*0))=a+2^64*b from by omega,e]
  ·have:=lenD_pos h2 hc 2 (by omega) (lenD b 1 (lenD a 0 (some (i64 0))))
   rw[show((2:Nat):Int)=2 from rfl]at this
   have e:=bitLen_hi (a:=a+18446744073709551616*b) (k:=128) (q:=c) (by omega) h2
   rw[this,show a+18446744073709551616*(b+18446744073709551616*(c+18446744073709551616*0))=a+18446744073709551616*b+2^128*c from by omega,e]
 ·have:=lenD_pos h3 hd 3 (by omega) (lenD c 2 (lenD b 1 (lenD a 0 (some (i64 0)))))
  rw[show((3:Nat):Int)=3 from rfl]at this
  have e:=bitLen_hi (a:=a+18446744073709551616*(b+18446744073709551616*c)) (k:=192) (q:=d) (by omega) h3
  rw[this,show a+18446744073709551616*(b+18446744073709551616*(c+18446744073709551616*d))=a+18446744073709551616*(b+18446744073709551616*c)+2^192*d from by omega,e]
def u8 (x:Nat):Value:=.int .u8 (x:Int)
def isU8:Value->Bool
 | .int .u8 x=>decide (0<=x)&&Nat.ble x.toNat 255
 | _=>false
def isB32 (v:Value):Bool:=aggK v (fun l=>Nat.beq l.length 32&&l.all isU8) false
def bytesL:Nat->Nat->List Value
 | 0,_=>[]
 | n+1,X=>bytesL n (X / 256)++[u8 (X%256)]
def bytesV (X:Nat):Value:=.agg (bytesL 32 X).toArray
def unBy (l:List Value):Nat:=l.foldl (fun a v=>a*256+intN v) 0
def unbytes (v:Value):Nat:=unBy v.cells.toList
def BytesF:List Value->Option (Bool×Value)
 | [x]=>some (isNum x,bytesV (unnum x))
 | _=>none
def OfF:List Value->Option (Bool×Value)
 | [b]=>some (isB32 b,num (unbytes b))
 | _=>none
theorem bytesL_len:∀(n X:Nat),(bytesL n X).length=n
 | 0,_=>rfl
 | n+1,X=>by simp[bytesL,bytesL_len n]
theorem bytesL_u8:∀(n X:Nat),(bytesL n X).all isU8=true
 | 0,_=>rfl
 | n+1,X=>by
  simp only[bytesL,List.all_append,bytesL_u8 n,List.all_cons,List.all_nil,Bool.and_true,Bool.true_and]
  show(decide ((0:Int)<=((X%256:Nat):Int))&&Nat.ble (X%256) 255)=true
  rw[Bool.and_eq_true,Nat.ble_eq]
  exact⟨decide_eq_true (by omega),by omega⟩
theorem isB32_of {l:List Value}(hl:l.length=32) (h:l.all isU8=true):isB32 (.agg l.toArray)=true:=by
 unfold isB32 aggK
 simp only[h,hl,Bool.and_true]
 rfl
theorem isB32_bytesV (X:Nat):isB32 (bytesV X)=true:=isB32_of (bytesL_len 32 X) (bytesL_u8 32 X)
theorem unBy_bytesL:∀(n X acc:Nat),(bytesL n X).foldl (fun a v=>a*256+intN v) acc=acc*256^n+X%256^n
 | 0,X,acc=>by simp[bytesL,Nat.mod_one]
 | n+1,X,acc=>by
  simp only[bytesL,List.foldl_append,List.foldl_cons,List.foldl_nil,unBy_bytesL n (X / 256) acc]
  show(acc*256^n+X / 256%256^n)*256+X%256=_
  rw[Nat.pow_succ,Nat.mul_comm (256^n) 256,Nat.mod_mul,Nat.add_mul]
  have:acc*256^n*256=acc*(256*256^n):=by rw[Nat.mul_assoc,Nat.mul_comm (256^n)]
  rw[this];omega
theorem unbytes_agg (l:List Value):unbytes (.agg l.toArray)=unBy l:=by simp[unbytes,Value.cells]
theorem p256:(256:Nat)^32=2^256:=by decide
theorem unbytes_bytesV (X:Nat):unbytes (bytesV X)=X%2^256:=by
 unfold bytesV
 rw[unbytes_agg]
 unfold unBy
 rw[unBy_bytesL,Nat.zero_mul,Nat.zero_add,p256]
theorem isU8_some {v:Value}(h:isU8 v=true):∃x,x<256∧v=u8 x:=by
 unfold isU8 at h
 split at h
 ·rename_i x
  simp only[Bool.and_eq_true,decide_eq_true_eq,Nat.ble_eq]at h
  exact⟨x.toNat,by omega,by simp[u8];omega⟩
 ·simp at h
theorem bytesL_unByy:∀(l:List Value),l.all isU8=true->bytesL l.length (unBy l)=l:=by
 intro l
  -- from behind
 have key:∀(m:List Value),m.all isU8=true->bytesL m.reverse.length (unBy m.reverse)=m.reverse:=by
  intro m
  induction m with
  | nil=>intro _;rfl
  | cons v m ih=>
   intro h
   simp only[List.all_cons,Bool.and_eq_true]at h
   obtain ⟨x,hx,rfl⟩:=isU8_some h.1
   have ih:=ih h.2
   have e1:unBy (m.reverse++[u8 x])=unBy m.reverse*256+x:=by
    unfold unBy;rw[List.foldl_append];rfl
   rw[List.reverse_cons,List.length_append,e1]
   show bytesL m.reverse.length ((unBy m.reverse*256+x) / 256)++[u8 ((unBy m.reverse*256+x)%256)]=_
   rw[show(unBy m.reverse*256+x) / 256=unBy m.reverse from by omega,show(unBy m.reverse*256+x)%256=x from by omega,ih]
 intro h
 have:=key l.reverse (by rw[List.all_reverse];exact h)
 rwa [List.reverse_reverse]at this
theorem unBy_lt:∀(l:List Value),l.all isU8=true->unBy l<256^l.length:=by
 intro l h
 have e:=bytesL_unByy l h
 have:=unBy_bytesL l.length (unBy l) 0
 rw[Nat.zero_mul,Nat.zero_add,e]at this
 have hp:0<256^l.length:=Nat.pow_pos (by decide)
 have hm:=Nat.mod_lt (unBy l) hp
 rw[<-this]at hm
 exact hm
theorem isB32_some {v:Value}(h:isB32 v=true):∃X,X<2^256∧v=bytesV X∧unbytes v=X:=by
 unfold isB32 aggK at h
 split at h
 ·rename_i cs
  simp only[Bool.and_eq_true]at h
  have hl:=nbeq.1 h.1
  refine⟨unBy cs.toList,?_,?_,rfl⟩
  ·have:=unBy_lt cs.toList h.2
   rwa [hl,p256]at this
  ·have:=bytesL_unByy cs.toList h.2
   rw[hl]at this
   unfold bytesV
   rw[this]
 ·simp at h
theorem bytesL_split:∀(m n X:Nat),bytesL (n+m) X=bytesL n (X / 256^m)++bytesL m X
 | 0,n,X=>by simp[bytesL]
 | m+1,n,X=>by
  show bytesL (n+m) (X / 256)++[u8 (X%256)]=_
  rw[bytesL_split m n (X / 256),List.append_assoc,Nat.pow_succ,Nat.mul_comm,<-Nat.div_div_eq_div_mul]
  rfl
theorem bytesL_mod:∀(m X Q:Nat),bytesL m (X+256^m*Q)=bytesL m X
 | 0,_,_=>rfl
 | m+1,X,Q=>by
  show bytesL m ((X+256^(m+1)*Q) / 256)++[u8 ((X+256^(m+1)*Q)%256)]=_
  have e:256^(m+1)*Q=256*(256^m*Q):=by rw[Nat.pow_succ,Nat.mul_comm (256^m),Nat.mul_assoc]
  rw[e,Nat.add_mul_div_left _ _ (by decide),Nat.add_mul_mod_self_left,bytesL_mod m (X / 256) Q]
  rfl
theorem bytesL_hor {a b c d:Nat}(ha:a<18446744073709551616) (hb:b<18446744073709551616) (hc:c<18446744073709551616):bytesL 32 (hor a b c d)=bytesL 8 d++(bytesL 8 c++(bytesL 8 b++bytesL 8 a)):=by
 have p8:(256:Nat)^8=18446744073709551616:=by decide
 have s:∀n x q,x<18446744073709551616->bytesL (n+8) (x+18446744073709551616*q)=bytesL n q++bytesL 8 x:=by
  intro n x q hx
  have e2:=bytesL_mod 8 x q
  rw[p8]at e2
  rw[bytesL_split 8 n,p8,e2,show(x+18446744073709551616*q) / 18446744073709551616=q from by omega]
 unfold hor
 rw[show(32:Nat)=24+8 from rfl,s 24 a _ ha,show(24:Nat)=16+8 from rfl,s 16 b _ hb,show(16:Nat)=8+8 from rfl,s 8 c _ hc]
 simp only[List.append_assoc]
def by8 (a:Int) (s:Int):Value:=.int .u8 (IntKind.u8.wrap (iShr .u64 a s))
theorem by8_eq (a s:Nat) (hs:s<=64):by8 (a:Int) (s:Int)=u8 (a / 2^s%256):=by
 unfold by8 u8;rw[iShr_u a s hs,wrap_u8];congr 1
def dig8 (a:Int):List Value:=[by8 a 56,by8 a 48,by8 a 40,by8 a 32,by8 a 24,by8 a 16,by8 a 8,by8 a 0]
theorem dig8_eq (a:Nat):dig8 (a:Int)=bytesL 8 a:=by
 have e:bytesL 8 a=[u8 (a / 2^56%256),u8 (a / 2^48%256),u8 (a / 2^40%256),u8 (a / 2^32%256),u8 (a / 2^24%256),u8 (a / 2^16%256),u8 (a / 2^8%256),u8 (a / 2^0%256)]:=by
  simp only[bytesL,List.nil_append,List.cons_append,Nat.div_div_eq_div_mul,Nat.pow_zero,Nat.div_one]
 rw[e]
 unfold dig8
 rw[<-by8_eq a 56 (by omega),<-by8_eq a 48 (by omega),<-by8_eq a 40 (by omega),<-by8_eq a 32 (by omega),<-by8_eq a 24 (by omega),<-by8_eq a 16 (by omega),<-by8_eq a 8 (by omega),<-by8_eq a 0 (by omega)]
 rfl
def BytesT (a b c d:Nat):Option Value:=some (.agg (dig8 d++(dig8 c++(dig8 b++dig8 a))).toArray)
theorem BytesT_eq {a b c d:Nat}(ha:a<18446744073709551616) (hb:b<18446744073709551616) (hc:c<18446744073709551616):BytesT a b c d=some (bytesV (hor a b c d)):=by
 unfold BytesT bytesV
 rw[dig8_eq,dig8_eq,dig8_eq,dig8_eq,bytesL_hor ha hb hc]
def or8 (acc:Int) (x:Nat) (s:Int):Int:=iOr .u64 acc (iShl .u64 (IntKind.u64.wrap (x:Int)) s)
def of8 (x0 x1 x2 x3 x4 x5 x6 x7:Nat):Int:=or8 (or8 (or8 (or8 (or8 (or8 (or8 (or8 0 x0 56) x1 48) x2 40) x3 32) x4 24) x5 16) x6 8) x7 0
theorem or8_eq {A x s:Nat}(hs:s<=56) (hA:A*2^(s+8)<18446744073709551616) (hx:x<256):or8 ((A*2^(s+8):Nat):Int) x (s:Int)=(((A*256+x)*2^s:Nat):Int):=by
 unfold or8
 have hsm:x*2^s<2^(s+8):=by rw[Nat.pow_add,Nat.mul_comm];exact Nat.mul_lt_mul_of_pos_left (by omega) (Nat.two_pow_pos s)
 have hle:(2:Nat)^(s+8)<=18446744073709551616:=by rw[show(18446744073709551616:Nat)=2^64 from by decide];exact Nat.pow_le_pow_right (by decide) (by omega)
 have e1:IntKind.u64.wrap (x:Int)=(x:Int):=by rw[wrap_u64];omega
 have e2:iShl .u64 (x:Int) (s:Int)=((x*2^s:Nat):Int):=by
  unfold iShl
  have:min (s:Int).toNat IntKind.u64.bits=s:=by show min s 64=s;omega
  rw[this,wrap_u64]
  have e:((x:Int)*2^s)=((x*2^s:Nat):Int):=by simp
  rw[e];omega
 rw[e1,e2,iOr_u hA (by omega)]
 have:=Nat.shiftLeft_add_eq_or_of_lt (b:=x*2^s) (i:=s+8) hsm A
 rw[Nat.shiftLeft_eq]at this
 rw[<-this,Nat.pow_add,Nat.add_mul,Nat.mul_assoc,Nat.mul_comm 256]
theorem of8_eq {x0 x1 x2 x3 x4 x5 x6 x7:Nat}(h0:x0<256) (h1:x1<256) (h2:x2<256) (h3:x3<256) (h4:x4<256) (h5:x5<256) (h6:x6<256) (h7:x7<256):
  of8 x0 x1 x2 x3 x4 x5 x6 x7=((((((((((x0*256+x1)*256+x2)*256+x3)*256+x4)*256+x5)*256+x6)*256+x7):Nat):Int)):=by
 unfold of8
 have f0:=or8_eq (A:=0) (x:=x0) (s:=56) (by omega) (by rw[Nat.zero_mul];decide) h0
 rw[Nat.zero_mul,Nat.zero_add]at f0
 have f1:=or8_eq (A:=x0) (x:=x1) (s:=48) (by omega) (by omega) h1
 rw[show((48:Nat):Int)=48 from rfl,show 48+8=56 from rfl]at f1
 have f2:=or8_eq (A:=x0*256+x1) (x:=x2) (s:=40) (by omega) (by omega) h2
 rw[show((40:Nat):Int)=40 from rfl,show 40+8=48 from rfl]at f2
 have f3:=or8_eq (A:=(x0*256+x1)*256+x2) (x:=x3) (s:=32) (by omega) (by omega) h3
 rw[show((32:Nat):Int)=32 from rfl,show 32+8=40 from rfl]at f3
 have f4:=or8_eq (A:=((x0*256+x1)*256+x2)*256+x3) (x:=x4) (s:=24) (by omega) (by omega) h4
 rw[show((24:Nat):Int)=24 from rfl,show 24+8=32 from rfl]at f4
 have f5:=or8_eq (A:=(((x0*256+x1)*256+x2)*256+x3)*256+x4) (x:=x5) (s:=16) (by omega) (by omega) h5
 rw[show((16:Nat):Int)=16 from rfl,show 16+8=24 from rfl]at f5
 have f6:=or8_eq (A:=((((x0*256+x1)*256+x2)*256+x3)*256+x4)*256+x5) (x:=x6) (s:=8) (by omega) (by omega) h6
 rw[show((8:Nat):Int)=8 from rfl,show 8+8=16 from rfl]at f6
 have f7:=or8_eq (A:=(((((x0*256+x1)*256+x2)*256+x3)*256+x4)*256+x5)*256+x6) (x:=x7) (s:=0) (by omega) (by omega) h7
 rw[show((0:Nat):Int)=0 from rfl,show 0+8=8 from rfl,Nat.pow_zero,Nat.mul_one]at f7
 have f0':or8 0 x0 56=((x0*2^56:Nat):Int):=f0
 rw[f0',f1,f2,f3,f4,f5,f6,f7]
end Go.W

namespace Go.Proofs.YtckbmhegopjnmaaGreat
set_option maxRecDepth 100000
open Go.W
open Go.RowKit (Below)
def Len64C:Cfg:=⟨tab,[],25,[]⟩
theorem Len64Ok:CfgOk Tryz.prog Len64C (bodyOf Tryz.f127):=⟨mixed,tabOk,sums_nil,noL⟩
theorem Len64_ev (x:Nat):fnS Len64C 60 Tryz.f127 (bodyOf Tryz.f127) [u64 x]=Len64T x:=by kernel_rfl
theorem Len64_sum:Sum Tryz.prog 127 Len64F:=by
 refine sum_of Len64Ok Tryz.func127 (by kernel_rfl) (by kernel_rfl) rfl (fuel:=60) fun args v h _=>?_
 unfold Len64F at h
 split at h
 ·simp only[Option.some.injEq,Prod.mk.injEq]at h
  obtain ⟨h1,rfl⟩:=h
  obtain ⟨x,hx,rfl⟩:=isU64_some h1
  exact⟨by show 1<=Tryz.f127.ntmps;decide +kernel,(Len64_ev x).trans (Len64T_eq hx),rfl⟩
 ·simp at h
def LenC:Cfg:=⟨tab,[(127,Len64F)],19,[]⟩
theorem LenOk:CfgOk Tryz.prog LenC (bodyOf Tryz.f120):=⟨mixed,tabOk,sums_cons Len64_sum sums_nil,noL⟩
theorem Len_ev (a b c d:Nat):fnS LenC 60 Tryz.f120 (bodyOf Tryz.f120) [numd a b c d]=LenT a b c d:=by kernel_rfl
theorem Len_sum:Sum Tryz.prog 120 LenF:=by
 refine sum_of LenOk Tryz.func120 (by kernel_rfl) (by kernel_rfl) rfl (fuel:=60) fun args v h _=>?_
 obtain ⟨X,hX,rfl,rfl⟩:=arg1 (f:=fun x=>i64 (bitLen (unnum x):Int)) h
 refine⟨by show 1<=Tryz.f120.ntmps;decide +kernel,?_,rfl⟩
 obtain ⟨a,b,c,d,h0,h1,h2,h3,e1,e2⟩:=digits hX
 rw[unnum_lt hX,e2,Len_ev,LenT_eq h0 h1 h2 h3,e1]
def BytesC:Cfg:=⟨tab,[],24,[]⟩
theorem BytesOk:CfgOk Tryz.prog BytesC (bodyOf Tryz.f68):=⟨mixed,tabOk,sums_nil,noL⟩
theorem Bytes_ev (a b c d:Nat):fnS BytesC 100 Tryz.f68 (bodyOf Tryz.f68) [numd a b c d]=BytesT a b c d:=by kernel_rfl
theorem Bytes_sum:Sum Tryz.prog 68 BytesF:=by
 refine sum_of BytesOk Tryz.func68 (by kernel_rfl) (by kernel_rfl) rfl (fuel:=100) fun args v h _=>?_
 obtain ⟨X,hX,rfl,rfl⟩:=arg1 (f:=fun x=>bytesV (unnum x)) h
 refine⟨by show 1<=Tryz.f68.ntmps;decide +kernel,?_,by kernel_rfl⟩
 obtain ⟨a,b,c,d,h0,h1,h2,h3,e1,e2⟩:=digits hX
 rw[unnum_lt hX,e2,Bytes_ev,BytesT_eq h0 h1 h2,e1]
end Go.Proofs.YtckbmhegopjnmaaGreat

namespace Go.W
def aS (x y:Value):Value:=num (unnum x+unnum y)
def aC (x y:Value):Nat:=(unnum x+unnum y) / 2^256
def mL (x y:Value):Value:=num (unnum x*unnum y)
def mH (x y:Value):Value:=num (unnum x*unnum y / 2^256)
def one (c:Nat):Value:=.agg #[u64 c,u64 0,u64 0,u64 0]
def r2 {α:Type}(x y:Value) (k:Option α):Option α:=req (isNum x&&isNum y) k
def eqV (x y:Value):Bool:=eqL x.cells.toList y.cells.toList
def fls:Option Value:=some (.bool false)
theorem r2_num {α:Type}(X Y:Nat) (k:Option α):r2 (num X) (num Y) k=k:=by unfold r2;rw[isNum_num,isNum_num,req_true (b:=true&&true) rfl]
theorem aS_num (X Y:Nat):aS (num X) (num Y)=num (X+Y):=by
 unfold aS;rw[unnum_num,unnum_num,<-num_mod (X+Y),Nat.add_mod,num_mod]
theorem mL_num (X Y:Nat):mL (num X) (num Y)=num (X*Y):=by
 unfold mL;rw[unnum_num,unnum_num,<-num_mod (X*Y),Nat.mul_mod,num_mod]
theorem mH_num {X Y:Nat}(hX:X<2^256) (hY:Y<2^256):mH (num X) (num Y)=num (X*Y / 2^256):=by
 unfold mH;rw[unnum_lt hX,unnum_lt hY]
theorem aC_num (X Y:Nat):aC (num X) (num Y)=(X%2^256+Y%2^256) / 2^256:=by
 unfold aC;rw[unnum_num,unnum_num]
theorem one_num {c:Nat}(h:c<18446744073709551616):one c=num c:=by
 have:=num_hor h (show 0<18446744073709551616 by decide) (show 0<18446744073709551616 by decide) (show 0<18446744073709551616 by decide) 0
 rw[show hor c 0 0 (0+18446744073709551616*0)=c from by unfold hor;omega]at this
 rw[this];rfl
theorem aC_lt (X Y:Nat):aC (num X) (num Y)<18446744073709551616:=by
 rw[aC_num];omega
theorem eqV_num (X Y:Nat):eqV (num X) (num Y)=decide (X%2^256=Y%2^256):=eq_num X Y
end Go.W

namespace Go.W
def sD (x y:Value):Value:=num (2^256+unnum x-unnum y)
def sB (x y:Value):Nat:=if unnum x<unnum y then 1 else 0
def cI (x y:Value):Int:=cmpI (unnum x) (unnum y)
theorem cI_num {X Y:Nat}(hX:X<2^256) (hY:Y<2^256):cI (num X) (num Y)=cmpI X Y:=by unfold cI;rw[unnum_lt hX,unnum_lt hY]
theorem sB_num (X Y:Nat):sB (num X) (num Y)=if X%2^256<Y%2^256 then 1 else 0:=by unfold sB;rw[unnum_num,unnum_num]
theorem sD_num (X Y:Nat):sD (num X) (num Y)=num (2^256+X%2^256-Y%2^256):=by unfold sD;rw[unnum_num,unnum_num]
def r3 {α:Type}(x y z:Value) (k:Option α):Option α:=req (isNum x&&isNum y&&isNum z) k
end Go.W

namespace Go.W
def CmpRT (a b:Value):Option Value:=bif eqV a b then some (i64 0) else r2 a b<|bif ((sB a b:Nat):Int)==1 then some (i64 (-1)) else some (i64 1)
theorem CmpRT_eq {A B:Nat}(hA:A<2^256) (hB:B<2^256):CmpRT (num A) (num B)=some (i64 (cmpI A B)):=by
 unfold CmpRT
 rw[eqV_num,Nat.mod_eq_of_lt hA,Nat.mod_eq_of_lt hB,r2_num,sB_num,Nat.mod_eq_of_lt hA,Nat.mod_eq_of_lt hB]
 unfold cmpI
 rcases Nat.lt_trichotomy A B with h|rfl|h
 ·rw[decide_eq_false (by omega),if_pos h,if_pos h];rfl
 ·simp only[Nat.lt_irrefl,if_false,decide_true];rfl
 ·rw[decide_eq_false (by omega),if_neg (show ¬A<B by omega),if_neg (show ¬A<B by omega),if_pos h];rfl
def digL (X:Nat):List Value:=[u64 (dig X 0),u64 (dig X 1),u64 (dig X 2),u64 (dig X 3),u64 (dig X 4),u64 (dig X 5),u64 (dig X 6),u64 (dig X 7)]
def mstep {α:Type}(x y c:Nat) (d:Int) (k:Nat->Int->Option α):Option α:=
 req (isU64 (u64 x)&&isU64 (u64 y))<|req (Nat.ble 0 1)<|req (Nat.ble 0 1) <|
  k (s64 (s64 (x*y%18446744073709551616) c 0) d.toNat 0) (iAdd .u64 (iAdd .u64 ((x*y / 18446744073709551616:Nat):Int) (c64 (x*y%18446744073709551616) c 0:Int)) (c64 (s64 (x*y%18446744073709551616) c 0) d.toNat 0:Int))
theorem mstep_eq {α:Type}{x y c d:Nat}(hx:x<18446744073709551616) (hy:y<18446744073709551616) (hc:c<18446744073709551616) (hd:d<18446744073709551616) (k:Nat->Int->Option α):
  mstep x y c (d:Int) k=k (maL x y c d) ((maH x y c d:Nat):Int):=by
 unfold mstep
 rw[isU64_u64 hx,isU64_u64 hy,req_true (b:=true&&true) rfl,req_true (b:=Nat.ble 0 1) rfl,req_true (b:=Nat.ble 0 1) rfl,Int.toNat_natCast]
 have h:=mul_le hx hy
 unfold maL maH
 generalize x*y=p at *
 rw[iAdd_u,iAdd_u]
 have e1:s64 (s64 (p%18446744073709551616) c 0) d 0=(p+c+d)%18446744073709551616:=by unfold s64;omega
 have e2:((p / 18446744073709551616+c64 (p%18446744073709551616) c 0)%18446744073709551616+c64 (s64 (p%18446744073709551616) c 0) d 0)%18446744073709551616=(p+c+d) / 18446744073709551616:=by
  unfold s64 c64;omega
 rw[e1,e2]
def mrow {α:Type}(d b0 b1 b2 b3 s0 s1 s2 s3:Nat) (k:Nat->Nat->Nat->Nat->Int->Option α):Option α:=
 mstep d b0 s0 0 fun l0 h0=>mstep d b1 s1 h0 fun l1 h1=>mstep d b2 s2 h1 fun l2 h2=>mstep d b3 s3 h2 fun l3 h3=>k l0 l1 l2 l3 h3
def mrowL {α:Type}(j:Nat) (X d b0 b1 b2 b3:Nat) (k:List Value->Option α):Option α:=
 match j with
 | 0=>mrow d b0 b1 b2 b3 (dig X 0) (dig X 1) (dig X 2) (dig X 3) fun l0 l1 l2 l3 c=>k [u64 l0,u64 l1,u64 l2,u64 l3,.int .u64 c,u64 (dig X 5),u64 (dig X 6),u64 (dig X 7)]
 | 1=>mrow d b0 b1 b2 b3 (dig X 1) (dig X 2) (dig X 3) (dig X 4) fun l0 l1 l2 l3 c=>k [u64 (dig X 0),u64 l0,u64 l1,u64 l2,u64 l3,.int .u64 c,u64 (dig X 6),u64 (dig X 7)]
 | 2=>mrow d b0 b1 b2 b3 (dig X 2) (dig X 3) (dig X 4) (dig X 5) fun l0 l1 l2 l3 c=>k [u64 (dig X 0),u64 (dig X 1),u64 l0,u64 l1,u64 l2,u64 l3,.int .u64 c,u64 (dig X 7)]
 | _=>mrow d b0 b1 b2 b3 (dig X 3) (dig X 4) (dig X 5) (dig X 6) fun l0 l1 l2 l3 c=>k [u64 (dig X 0),u64 (dig X 1),u64 (dig X 2),u64 l0,u64 l1,u64 l2,u64 l3,.int .u64 c]
theorem mrow_eq {α:Type}{d b0 b1 b2 b3 s0 s1 s2 s3:Nat}(hd:d<18446744073709551616) (h0:b0<18446744073709551616) (h1:b1<18446744073709551616) (h2:b2<18446744073709551616) (h3:b3<18446744073709551616)
  (k0:s0<18446744073709551616) (k1:s1<18446744073709551616) (k2:s2<18446744073709551616) (k3:s3<18446744073709551616) (K:Nat->Nat->Nat->Nat->Int->Option α):
  ∃l0 l1 l2 l3 c,mrow d b0 b1 b2 b3 s0 s1 s2 s3 K=K l0 l1 l2 l3 ((c:Nat):Int)∧(∀k,rowT d b0 b1 b2 b3 s0 s1 s2 s3 k=k l0 l1 l2 l3 c):=by
 have z:(0:Nat)<18446744073709551616:=by decide
 have c0:=maH_lt hd h0 k0 z
 have c1:=maH_lt hd h1 k1 c0
 have c2:=maH_lt hd h2 k2 c1
 refine⟨maL d b0 s0 0,maL d b1 s1 (maH d b0 s0 0),maL d b2 s2 (maH d b1 s1 (maH d b0 s0 0)),maL d b3 s3 (maH d b2 s2 (maH d b1 s1 (maH d b0 s0 0))),maH d b3 s3 (maH d b2 s2 (maH d b1 s1 (maH d b0 s0 0))),?_,fun k=>?_⟩
 ·unfold mrow
  have e0:=mstep_eq (α:=α) hd h0 k0 z
  rw[show((0:Nat):Int)=0 from rfl]at e0
  rw[e0,mstep_eq hd h1 k1 c0,mstep_eq hd h2 k2 c1,mstep_eq hd h3 k3 c2]
 ·unfold rowT
  rw[req_true (maP_true hd h0 k0 z),req_true (maP_true hd h1 k1 c0),req_true (maP_true hd h2 k2 c1),req_true (maP_true hd h3 k3 c2)]
theorem num8_digL {l:List Value}{X:Nat}(h:some (Value.agg l.toArray)=some (num8 X)):l=digL X:=by
 simp only[Option.some.injEq,num8,numd8,Value.agg.injEq]at h
 have:=congrArg Array.toList h
 simpa [digL] using this
theorem mrowL_eq {α:Type}{j X d b0 b1 b2 b3:Nat}(hj:j<=3) (hX:X<bnd j) (hd:d<18446744073709551616) (h0:b0<18446744073709551616) (h1:b1<18446744073709551616) (h2:b2<18446744073709551616) (h3:b3<18446744073709551616)
  (K:List Value->Option α):mrowL j X d b0 b1 b2 b3 K=K (digL (X+d*hor b0 b1 b2 b3*2^(64*j))):=by
 have hS:hor8 (dig X 0) (dig X 1) (dig X 2) (dig X 3) (dig X 4) (dig X 5) (dig X 6) (dig X 7)=X:=by
  have:=unnum_num8 (bnd_lt hj hX)
  rwa [show unnum (num8 X)=hor8 (dig X 0) (dig X 1) (dig X 2) (dig X 3) (dig X 4) (dig X 5) (dig X 6) (dig X 7) from rfl]at this
 have key:=addRowT_eq hj (dig_lt X 0) (dig_lt X 1) (dig_lt X 2) (dig_lt X 3) (dig_lt X 4) (dig_lt X 5) (dig_lt X 6) (dig_lt X 7) hd h0 h1 h2 h3 (by rw[hS];exact hX)
 rw[hS]at key
 unfold addRowV at key
 match j,hj with
 | 0,_=>
  obtain ⟨l0,l1,l2,l3,c,e,f⟩:=mrow_eq hd h0 h1 h2 h3 (dig_lt X 0) (dig_lt X 1) (dig_lt X 2) (dig_lt X 3) fun l0 l1 l2 l3 c=>K [u64 l0,u64 l1,u64 l2,u64 l3,.int .u64 c,u64 (dig X 5),u64 (dig X 6),u64 (dig X 7)]
  rw[<-num8_digL (l:=[u64 l0,u64 l1,u64 l2,u64 l3,u64 c,u64 (dig X 5),u64 (dig X 6),u64 (dig X 7)]) ((f (fun l0 l1 l2 l3 c=>some (numd8 l0 l1 l2 l3 c (dig X 5) (dig X 6) (dig X 7)))).symm.trans key)];exact e
 | 1,_=>
  obtain ⟨l0,l1,l2,l3,c,e,f⟩:=mrow_eq hd h0 h1 h2 h3 (dig_lt X 1) (dig_lt X 2) (dig_lt X 3) (dig_lt X 4) fun l0 l1 l2 l3 c=>K [u64 (dig X 0),u64 l0,u64 l1,u64 l2,u64 l3,.int .u64 c,u64 (dig X 6),u64 (dig X 7)]
  rw[<-num8_digL (l:=[u64 (dig X 0),u64 l0,u64 l1,u64 l2,u64 l3,u64 c,u64 (dig X 6),u64 (dig X 7)]) ((f (fun l0 l1 l2 l3 c=>some (numd8 (dig X 0) l0 l1 l2 l3 c (dig X 6) (dig X 7)))).symm.trans key)];exact e
 | 2,_=>
  obtain ⟨l0,l1,l2,l3,c,e,f⟩:=mrow_eq hd h0 h1 h2 h3 (dig_lt X 2) (dig_lt X 3) (dig_lt X 4) (dig_lt X 5) fun l0 l1 l2 l3 c=>K [u64 (dig X 0),u64 (dig X 1),u64 l0,u64 l1,u64 l2,u64 l3,.int .u64 c,u64 (dig X 7)]
  rw[<-num8_digL (l:=[u64 (dig X 0),u64 (dig X 1),u64 l0,u64 l1,u64 l2,u64 l3,u64 c,u64 (dig X 7)]) ((f (fun l0 l1 l2 l3 c=>some (numd8 (dig X 0) (dig X 1) l0 l1 l2 l3 c (dig X 7)))).symm.trans key)];exact e
 | 3,_=>
  obtain ⟨l0,l1,l2,l3,c,e,f⟩:=mrow_eq hd h0 h1 h2 h3 (dig_lt X 3) (dig_lt X 4) (dig_lt X 5) (dig_lt X 6) fun l0 l1 l2 l3 c=>K [u64 (dig X 0),u64 (dig X 1),u64 (dig X 2),u64 l0,u64 l1,u64 l2,u64 l3,.int .u64 c]
  rw[<-num8_digL (l:=[u64 (dig X 0),u64 (dig X 1),u64 (dig X 2),u64 l0,u64 l1,u64 l2,u64 l3,u64 c]) ((f (fun l0 l1 l2 l3 c=>some (numd8 (dig X 0) (dig X 1) (dig X 2) l0 l1 l2 l3 c))).symm.trans key)];exact e
theorem mul_mrows {x0 x1 x2 x3 Y:Nat}(h0:x0<18446744073709551616) (h1:x1<18446744073709551616) (h2:x2<18446744073709551616) (h3:x3<18446744073709551616) (hY:Y<2^256):
  ∃X1 X2 X3 X4,0<bnd 0∧X1<bnd 1∧X2<bnd 2∧X3<bnd 3∧0+x0*Y*2^(64*0)=X1∧X1+x1*Y*2^(64*1)=X2∧X2+x2*Y*2^(64*2)=X3∧X3+x3*Y*2^(64*3)=X4∧
   Value.tuple #[numd (dig X4 0) (dig X4 1) (dig X4 2) (dig X4 3),numd (dig X4 4) (dig X4 5) (dig X4 6) (dig X4 7)]=mulV (hor x0 x1 x2 x3) Y:=by
 have r0:=row_le hY h0
 have r1:=row_le hY h1
 have r2:=row_le hY h2
 have r3:=row_le hY h3
 have z0:(0:Nat)<bnd 0:=by simp only[bnd];omega
 have p1:x0*Y<bnd 1:=by simp only[bnd];omega
 have p2:x0*Y+x1*Y*2^64<bnd 2:=by simp only[bnd];omega
 have p3:x0*Y+x1*Y*2^64+x2*Y*2^128<bnd 3:=by simp only[bnd];omega
 have hp:hor x0 x1 x2 x3*Y=x0*Y+x1*Y*2^64+x2*Y*2^128+x3*Y*2^192:=by
  unfold hor
  grind
 refine⟨_,_,_,_,z0,p1,p2,p3,by simp,rfl,rfl,rfl,?_⟩
 unfold mulV
 rw[hp,<-div256]
 rfl
end Go.W

namespace Go.Proofs.YtckbmhegopjnmaaGreat
set_option maxRecDepth 100000
open Go.W
open Go.RowKit (Below)
def AddRC:Cfg:=⟨tab,[(116,Add64F)],28,[]⟩
theorem AddROk:CfgOk Tryz.prog AddRC (bodyOf Tryz.f100):=⟨mixed,tabOk,sums_cons Add64_sum sums_nil,noL⟩
theorem AddR_ev (x0 x1 x2 x3 y0 y1 y2 y3:Nat):fnS AddRC 60 Tryz.f100 (bodyOf Tryz.f100) [numd x0 x1 x2 x3,numd y0 y1 y2 y3]=AddT x0 x1 x2 x3 y0 y1 y2 y3:=by kernel_rfl
theorem AddR_sum:Sum Tryz.prog 100 AddF:=by
 refine sum_of AddROk Tryz.func100 (by kernel_rfl) (by kernel_rfl) rfl (fuel:=60) fun args v h _=>?_
 obtain ⟨X,Y,hX,hY,rfl,rfl⟩:=arg2 (f:=fun x y=>addV (unnum x) (unnum y)) h
 refine⟨by show 2<=Tryz.f100.ntmps;decide +kernel,?_,rfl⟩
 obtain ⟨x0,x1,x2,x3,h0,h1,h2,h3,e1,e2⟩:=digits hX
 obtain ⟨y0,y1,y2,y3,k0,k1,k2,k3,e3,e4⟩:=digits hY
 rw[unnum_lt hX,unnum_lt hY,e2,e4,AddR_ev,AddT_eq h0 h1 h2 h3 k0 k1 k2 k3,e1,e3]
def SubRC:Cfg:=⟨tab,[(86,Sub64F)],28,[]⟩
theorem SubROk:CfgOk Tryz.prog SubRC (bodyOf Tryz.f64):=⟨mixed,tabOk,sums_cons Sub64_sum sums_nil,noL⟩
theorem SubR_ev (x0 x1 x2 x3 y0 y1 y2 y3:Nat):fnS SubRC 60 Tryz.f64 (bodyOf Tryz.f64) [numd x0 x1 x2 x3,numd y0 y1 y2 y3]=SubT x0 x1 x2 x3 y0 y1 y2 y3:=by kernel_rfl
theorem SubR_sum:Sum Tryz.prog 64 SubF:=by
 refine sum_of SubROk Tryz.func64 (by kernel_rfl) (by kernel_rfl) rfl (fuel:=60) fun args v h _=>?_
 obtain ⟨X,Y,hX,hY,rfl,rfl⟩:=arg2 (f:=fun x y=>subV (unnum x) (unnum y)) h
 refine⟨by show 2<=Tryz.f64.ntmps;decide +kernel,?_,rfl⟩
 obtain ⟨x0,x1,x2,x3,h0,h1,h2,h3,e1,e2⟩:=digits hX
 obtain ⟨y0,y1,y2,y3,k0,k1,k2,k3,e3,e4⟩:=digits hY
 rw[unnum_lt hX,unnum_lt hY,e2,e4,SubR_ev,SubT_eq h0 h1 h2 h3 k0 k1 k2 k3,e1,e3]
def CmpRC:Cfg:=⟨tab,[(64,SubF)],18,[]⟩
theorem CmpROk:CfgOk Tryz.prog CmpRC (bodyOf Tryz.f45):=⟨mixed,tabOk,sums_cons SubR_sum sums_nil,noL⟩
theorem CmpR_ev (A B:Nat):fnS CmpRC 60 Tryz.f45 (bodyOf Tryz.f45) [num A,num B]=CmpRT (num A) (num B):=by kernel_rfl
theorem CmpR_sum:Sum Tryz.prog 45 CmpF:=by
 refine sum_of CmpROk Tryz.func45 (by kernel_rfl) (by kernel_rfl) rfl (fuel:=60) fun args v h _=>?_
 obtain ⟨X,Y,hX,hY,rfl,rfl⟩:=arg2 (f:=fun x y=>i64 (cmpI (unnum x) (unnum y))) h
 refine⟨by show 2<=Tryz.f45.ntmps;decide +kernel,?_,rfl⟩
 rw[unnum_lt hX,unnum_lt hY,CmpR_ev,CmpRT_eq hX hY]
def bitOfR (v:Value) (r:Int):Option Value:=
 binK tab .shr 22 v (.int .u64 (IntKind.u64.wrap r)) (fun u=>binK tab .and 22 u (.int .u64 1) (fun z=>intK z (fun _ n=>some (i64 (IntKind.i64.wrap n))) none) none) none
def BitRT (a0 a1 a2 a3:Nat) (i:Int):Option Value:=
 bif decide (i<0) then some (i64 0) else bif decide (i > 255) then some (i64 0) else
  bif inR (IntKind.i64.wrap (i.tdiv 64)) 4 then oK ([u64 a0,u64 a1,u64 a2,u64 a3][0+(IntKind.i64.wrap (i.tdiv 64)).toNat*1]?) (fun v=>bitOfR v (i.tmod 64)) none else none
def BitRC:Cfg:=⟨tab,[],21,[]⟩
theorem BitROk:CfgOk Tryz.prog BitRC (bodyOf Tryz.f117):=⟨mixed,tabOk,sums_nil,noL⟩
theorem BitR_ev (a0 a1 a2 a3:Nat) (i:Int):fnS BitRC 60 Tryz.f117 (bodyOf Tryz.f117) [numd a0 a1 a2 a3,i64 i]=BitRT a0 a1 a2 a3 i:=by kernel_rfl
theorem bitOfR_eq {a r:Nat}(ha:a<18446744073709551616) (hr:r<64):bitOfR (u64 a) (r:Int)=some (i64 ((a / 2^r%2:Nat):Int)):=by
 rw[<-u64_bit ha hr]
 have e:IntKind.u64.wrap (r:Int)=(r:Int):=by rw[wrap_u64];omega
 have hn:decide ((r:Int)<0)=false:=decide_eq_false (by omega)
 unfold bitOfR u64
 rw[e]
 simp only[binK,intK,binI,hn,cond_false,decide_true,cond_true]
 rfl
theorem BitRT_eq {a b c d:Nat}(ha:a<18446744073709551616) (hb:b<18446744073709551616) (hc:c<18446744073709551616) (hd:d<18446744073709551616) (i:Int):BitRT a b c d i=some (i64 (bitI (hor a b c d) i)):=by
 unfold BitRT
 by_cases h0:i<0
 ·rw[decide_eq_true h0,cond_true]
  unfold bitI;rw[if_neg (by omega)]
 ·rw[decide_eq_false h0,cond_false]
  by_cases h1:i > 255
  ·rw[decide_eq_true h1,cond_true]
   unfold bitI;rw[if_neg (by omega)]
  ·rw[decide_eq_false h1,cond_false]
   obtain ⟨n,rfl⟩:=Int.eq_ofNat_of_zero_le (by omega:0<=i)
   have e1:(n:Int).tdiv 64=((n / 64:Nat):Int):=by rw[Int.tdiv_eq_ediv_of_nonneg (by omega)];omega
   have e2:(n:Int).tmod 64=((n%64:Nat):Int):=by rw[Int.tmod_eq_emod_of_nonneg (by omega)];omega
   have hq:n / 64<4:=by omega
   have hr:n%64<64:=Nat.mod_lt _ (by decide)
   rw[e1,e2,wrap_i64 (by omega)]
   have hin:inR ((n / 64:Nat):Int) 4=true:=by simp only[inR,Bool.and_eq_true,decide_eq_true_eq];omega
   rw[hin,cond_true,Int.toNat_natCast,bitI_nat (by omega),show n=64*(n / 64)+n%64 from by omega,hor_bit ha hb hc _ _ hr hq]
   rw[<-show n=64*(n / 64)+n%64 from by omega,Nat.zero_add,Nat.mul_one]
   generalize n / 64=q at hq
   match q,hq with
   | 0,_=>exact bitOfR_eq ha hr
   | 1,_=>exact bitOfR_eq hb hr
   | 2,_=>exact bitOfR_eq hc hr
   | 3,_=>exact bitOfR_eq hd hr
theorem BitR_sum:Sum Tryz.prog 117 BitF:=by
 refine sum_of BitROk Tryz.func117 (by kernel_rfl) (by kernel_rfl) rfl (fuel:=60) fun args v h _=>?_
 unfold BitF at h
 split at h
 ·simp only[Option.some.injEq,Prod.mk.injEq]at h
  obtain ⟨h1,rfl⟩:=h
  obtain ⟨X,hX,rfl⟩:=isNum_some h1
  refine⟨by show 2<=Tryz.f117.ntmps;decide +kernel,?_,rfl⟩
  obtain ⟨x0,x1,x2,x3,h0,h1,h2,h3,e1,e2⟩:=digits hX
  rw[unnum_lt hX,e2,e1]
  exact(BitR_ev _ _ _ _ _).trans (BitRT_eq h0 h1 h2 h3 _)
 ·simp at h
end Go.Proofs.YtckbmhegopjnmaaGreat

namespace Go.Proofs.YtckbmhegopjnmaaGreat
set_option maxRecDepth 100000
open Go.W
open Go.RowKit (Below)
def rmNt:List Nat:=[2,3,4,5,6,7]
def rmNi:List Nat:=[0,1,2,3,4]
def rmSt (x0 x1 x2 x3 y0 y1 y2 y3:Nat) (o:List Value) (k:Int):St:=
 ⟨[(2,ptr 0),(3,ptr 1),(4,ptr 2),(5,ptr 3),(6,ptr 4),(7,i64 k)],
  [(0,⟨[u64 x0,u64 x1,u64 x2,u64 x3],24,true⟩),(1,⟨[u64 y0,u64 y1,u64 y2,u64 y3],24,true⟩),(2,⟨[u64 0,u64 0,u64 0,u64 0],24,true⟩),(3,⟨[u64 0,u64 0,u64 0,u64 0],24,true⟩),
  (4,⟨o,148,true⟩)],6⟩
def rmC0:Cfg:=⟨tab,[(118,Mul64F),(116,Add64F)],81,[]⟩
theorem rmOk0:CfgOk Tryz.prog rmC0 (bodyOf Tryz.f104):=⟨mixed,tabOk,sums_cons Mul64_sum (sums_cons Add64_sum sums_nil),noL⟩
theorem rm_at:codeAt [1,1,0,1,0] (bodyOf Tryz.f104)=some (.loop (loopAt [1,1,0,1,0] (bodyOf Tryz.f104))):=by kernel_rfl
theorem rm_r0 (x0 x1 x2 x3 y0 y1 y2 y3 X:Nat):roundS rmC0 100 [1,1,0,1,0,0] (loopAt [1,1,0,1,0] (bodyOf Tryz.f104)) rmNt rmNi 6 rmNt rmNi 6 (rmSt x0 x1 x2 x3 y0 y1 y2 y3 (digL X) 0)=
  mrowL 0 X x0 y0 y1 y2 y3 (fun o=>some (.normal,rmSt x0 x1 x2 x3 y0 y1 y2 y3 o 1)):=by kernel_rfl
theorem rm_r1 (x0 x1 x2 x3 y0 y1 y2 y3 X:Nat):roundS rmC0 100 [1,1,0,1,0,0] (loopAt [1,1,0,1,0] (bodyOf Tryz.f104)) rmNt rmNi 6 rmNt rmNi 6 (rmSt x0 x1 x2 x3 y0 y1 y2 y3 (digL X) 1)=
  mrowL 1 X x1 y0 y1 y2 y3 (fun o=>some (.normal,rmSt x0 x1 x2 x3 y0 y1 y2 y3 o 2)):=by kernel_rfl
theorem rm_r2 (x0 x1 x2 x3 y0 y1 y2 y3 X:Nat):roundS rmC0 100 [1,1,0,1,0,0] (loopAt [1,1,0,1,0] (bodyOf Tryz.f104)) rmNt rmNi 6 rmNt rmNi 6 (rmSt x0 x1 x2 x3 y0 y1 y2 y3 (digL X) 2)=
  mrowL 2 X x2 y0 y1 y2 y3 (fun o=>some (.normal,rmSt x0 x1 x2 x3 y0 y1 y2 y3 o 3)):=by kernel_rfl
theorem rm_r3 (x0 x1 x2 x3 y0 y1 y2 y3 X:Nat):roundS rmC0 100 [1,1,0,1,0,0] (loopAt [1,1,0,1,0] (bodyOf Tryz.f104)) rmNt rmNi 6 rmNt rmNi 6 (rmSt x0 x1 x2 x3 y0 y1 y2 y3 (digL X) 3)=
  mrowL 3 X x3 y0 y1 y2 y3 (fun o=>some (.normal,rmSt x0 x1 x2 x3 y0 y1 y2 y3 o 4)):=by kernel_rfl
theorem rm_r4 (x0 x1 x2 x3 y0 y1 y2 y3 X:Nat):roundS rmC0 100 [1,1,0,1,0,0] (loopAt [1,1,0,1,0] (bodyOf Tryz.f104)) rmNt rmNi 6 rmNt rmNi 6 (rmSt x0 x1 x2 x3 y0 y1 y2 y3 (digL X) 4)=
  some (.exit 0,rmSt x0 x1 x2 x3 y0 y1 y2 y3 (digL X) 4):=by kernel_rfl
noncomputable def rmC (x0 x1 x2 x3 y0 y1 y2 y3 X:Nat):Cfg:=⟨tab,[],81,[([1,1,0,1,0],atSt rmNt rmNi 6 (rmSt x0 x1 x2 x3 y0 y1 y2 y3 (digL 0) 0) (.exit 0) (rmSt x0 x1 x2 x3 y0 y1 y2 y3 (digL X) 4))]⟩
theorem MulR_ev (x0 x1 x2 x3 y0 y1 y2 y3 X:Nat):fnS (rmC x0 x1 x2 x3 y0 y1 y2 y3 X) 60 Tryz.f104 (bodyOf Tryz.f104) [numd x0 x1 x2 x3,numd y0 y1 y2 y3]=
  req (stEq (rmSt x0 x1 x2 x3 y0 y1 y2 y3 (digL 0) 0) (rmSt x0 x1 x2 x3 y0 y1 y2 y3 (digL 0) 0)) (some (.tuple #[numd (dig X 0) (dig X 1) (dig X 2) (dig X 3),numd (dig X 4) (dig X 5) (dig X 6) (dig X 7)])):=by kernel_rfl
theorem MulR_sum:Sum Tryz.prog 104 MulF:=by
 intro args v h
 obtain ⟨X,Y,hX,hY,rfl,rfl⟩:=arg2 (f:=fun x y=>mulV (unnum x) (unnum y)) h
 obtain ⟨x0,x1,x2,x3,h0,h1,h2,h3,e1,e2⟩:=digits hX
 obtain ⟨y0,y1,y2,y3,k0,k1,k2,k3,e3,e4⟩:=digits hY
 obtain ⟨X1,X2,X3,X4,z0,z1,z2,z3,n0,n1,n2,n3,hv⟩:=mul_mrows h0 h1 h2 h3 hY
 rw[e3]at n0 n1 n2 n3
 have hL:LoopOk Tryz.prog 81 (loopAt [1,1,0,1,0] (bodyOf Tryz.f104)) (atSt rmNt rmNi 6 (rmSt x0 x1 x2 x3 y0 y1 y2 y3 (digL 0) 0) (.exit 0) (rmSt x0 x1 x2 x3 y0 y1 y2 y3 (digL X4) 4)):=by
  refine atSt_ok fun w0 R a w hrel=>?_
  refine loop_rounds (C:=rmC0) rmOk0 rm_at (m:=100) (nt:=rmNt) (ni:=rmNi) (et:=rmNt) (ei:=rmNi) (nx:=6) (ex:=6) (e:=.exit 0) (sf:=rmSt x0 x1 x2 x3 y0 y1 y2 y3 (digL X4) 4)
   (fun k=>match k with|0=>rmSt x0 x1 x2 x3 y0 y1 y2 y3 (digL 0) 0|1=>rmSt x0 x1 x2 x3 y0 y1 y2 y3 (digL X1) 1|2=>rmSt x0 x1 x2 x3 y0 y1 y2 y3 (digL X2) 2|3=>rmSt x0 x1 x2 x3 y0 y1 y2 y3 (digL X3) 3|_=>rmSt x0 x1 x2 x3 y0 y1 y2 y3 (digL X4) 4) 4 (by intro h;cases h) ?_ ?_ hrel
  ·intro k hk
   match k,hk with
   | 0,_=>exact(rm_r0 x0 x1 x2 x3 y0 y1 y2 y3 0).trans (by rw[mrowL_eq (by omega) z0 h0 k0 k1 k2 k3,n0];rfl)
   | 1,_=>exact(rm_r1 x0 x1 x2 x3 y0 y1 y2 y3 X1).trans (by rw[mrowL_eq (by omega) z1 h1 k0 k1 k2 k3,n1];rfl)
   | 2,_=>exact(rm_r2 x0 x1 x2 x3 y0 y1 y2 y3 X2).trans (by rw[mrowL_eq (by omega) z2 h2 k0 k1 k2 k3,n2];rfl)
   | 3,_=>exact(rm_r3 x0 x1 x2 x3 y0 y1 y2 y3 X3).trans (by rw[mrowL_eq (by omega) z3 h3 k0 k1 k2 k3,n3];rfl)
  ·exact rm_r4 x0 x1 x2 x3 y0 y1 y2 y3 X4
 have hOk:CfgOk Tryz.prog (rmC x0 x1 x2 x3 y0 y1 y2 y3 X4) (bodyOf Tryz.f104):=⟨mixed,tabOk,sums_nil,oneL hL⟩
 refine sum_at hOk Tryz.func104 (by kernel_rfl) (by kernel_rfl) rfl (fuel:=60) (by show 2<=Tryz.f104.ntmps;decide +kernel) ?_ rfl
 rw[unnum_lt hX,unnum_lt hY,e2,e4,MulR_ev,req_true (stEq_refl rfl),hv,e1]
end Go.Proofs.YtckbmhegopjnmaaGreat

namespace Go.W
open Go.RowKit (Below)
section
variable {P:Program}{H:Type}{enc:TypeId×Value->H}{W:World}{base b0:Nat}{sp:Nat->Bool}{held:Bool}{r:Reach}{t e:TypeId}{v:Value}{d:DataW H}{p:List MemPlace}
end
def OfT (a0 a1 a2 a3 a4 a5 a6 a7 b0 b1 b2 b3 b4 b5 b6 b7 c0 c1 c2 c3 c4 c5 c6 c7 d0 d1 d2 d3 d4 d5 d6 d7:Nat):Option Value:=
 some (.agg #[.int .u64 (of8 d0 d1 d2 d3 d4 d5 d6 d7),.int .u64 (of8 c0 c1 c2 c3 c4 c5 c6 c7),.int .u64 (of8 b0 b1 b2 b3 b4 b5 b6 b7),.int .u64 (of8 a0 a1 a2 a3 a4 a5 a6 a7)])
def by32 (a0 a1 a2 a3 a4 a5 a6 a7 b0 b1 b2 b3 b4 b5 b6 b7 c0 c1 c2 c3 c4 c5 c6 c7 d0 d1 d2 d3 d4 d5 d6 d7:Nat):Value:=
 .agg #[u8 a0,u8 a1,u8 a2,u8 a3,u8 a4,u8 a5,u8 a6,u8 a7,u8 b0,u8 b1,u8 b2,u8 b3,u8 b4,u8 b5,u8 b6,u8 b7,u8 c0,u8 c1,u8 c2,u8 c3,u8 c4,u8 c5,u8 c6,u8 c7,u8 d0,u8 d1,u8 d2,u8 d3,u8 d4,u8 d5,u8 d6,u8 d7]
theorem bytes8 (a:Nat):bytesL 8 a=[u8 (a / 2^56%256),u8 (a / 2^48%256),u8 (a / 2^40%256),u8 (a / 2^32%256),u8 (a / 2^24%256),u8 (a / 2^16%256),u8 (a / 2^8%256),u8 (a%256)]:=by
 simp only[bytesL,List.nil_append,List.cons_append,Nat.div_div_eq_div_mul]
theorem of8_dig {a:Nat}(h:a<18446744073709551616):of8 (a / 2^56%256) (a / 2^48%256) (a / 2^40%256) (a / 2^32%256) (a / 2^24%256) (a / 2^16%256) (a / 2^8%256) (a%256)=(a:Int):=by
 rw[of8_eq (Nat.mod_lt _ (by decide)) (Nat.mod_lt _ (by decide)) (Nat.mod_lt _ (by decide)) (Nat.mod_lt _ (by decide)) (Nat.mod_lt _ (by decide)) (Nat.mod_lt _ (by decide)) (Nat.mod_lt _ (by decide)) (Nat.mod_lt _ (by decide))]
 congr 1
 omega
theorem bytesV_by32 {a b c d:Nat}(ha:a<18446744073709551616) (hb:b<18446744073709551616) (hc:c<18446744073709551616):bytesV (hor a b c d)=
  by32 (d / 2^56%256) (d / 2^48%256) (d / 2^40%256) (d / 2^32%256) (d / 2^24%256) (d / 2^16%256) (d / 2^8%256) (d%256)
   (c / 2^56%256) (c / 2^48%256) (c / 2^40%256) (c / 2^32%256) (c / 2^24%256) (c / 2^16%256) (c / 2^8%256) (c%256)
   (b / 2^56%256) (b / 2^48%256) (b / 2^40%256) (b / 2^32%256) (b / 2^24%256) (b / 2^16%256) (b / 2^8%256) (b%256)
   (a / 2^56%256) (a / 2^48%256) (a / 2^40%256) (a / 2^32%256) (a / 2^24%256) (a / 2^16%256) (a / 2^8%256) (a%256):=by
 unfold bytesV by32
 rw[bytesL_hor ha hb hc,bytes8,bytes8,bytes8,bytes8]
 rfl
end Go.W

namespace Go.W
def pwI (k:Int):Int:=IntKind.i64.wrap (k.tdiv 64)
def pwR (k:Int):Int:=IntKind.u64.wrap (k.tmod 64)
def pwC (k:Int):List Value:=([u64 0,u64 0,u64 0,u64 0]:List Value).set (0+(pwI k).toNat*1) (.int .u64 (iShl .u64 1 (pwR k)))
def cells4 (X:Nat):List Value:=[u64 (dig X 0),u64 (dig X 1),u64 (dig X 2),u64 (dig X 3)]
end Go.W

namespace Go.W
def Prim (p:Nat):Prop:=1<p∧∀d,d ∣ p->d=1∨d=p
def powF:Nat->Nat->Nat->Nat->Nat
 | 0,_,_,m=>1%m
 | f+1,b,e,m=>bif Nat.beq (e%2) 1 then b*powF f (b*b%m) (e / 2) m%m else powF f (b*b%m) (e / 2) m
theorem powF_eq:∀(f b e m:Nat),e<2^f->powF f b e m=b^e%m
 | 0,b,e,m,h=>by
  have:e=0:=by simpa using h
  subst this;rfl
 | f+1,b,e,m,h=>by
  have he:e / 2<2^f:=by rw[Nat.pow_succ]at h;omega
  have ih:=powF_eq f (b*b%m) (e / 2) m he
  have hsq:(b*b%m)^(e / 2)%m=b^(2*(e / 2))%m:=by rw[<-Nat.pow_mod,Nat.pow_mul];congr 2;exact(Nat.pow_two b).symm
  unfold powF
  rw[ih,hsq]
  rcases Nat.mod_two_eq_zero_or_one e with h0|h1
  ·rw[h0]
   show b^(2*(e / 2))%m=_
   rw[show 2*(e / 2)=e from by omega]
  ·rw[h1]
   show b*(b^(2*(e / 2))%m)%m=_
   rw[Nat.mul_mod,Nat.mod_mod,<-Nat.mul_mod,<-Nat.pow_succ',show(2*(e / 2)).succ=e from by omega]
def triB:Nat->Nat->Bool
 | 0,_=>true
 | k+1,p=>(Nat.ble (k+1) 1||!(Nat.beq (p%(k+1)) 0))&&triB k p
theorem triB_at:∀(k p:Nat),triB k p=true->∀d,2<=d->d<=k->p%d≠0
 | 0,_,_,d,h1,h2=>by omega
 | k+1,p,h,d,h1,h2=>by
  simp only[triB,Bool.and_eq_true,Bool.or_eq_true,Nat.ble_eq,Bool.not_eq_true']at h
  rcases Nat.lt_or_ge d (k+1) with h3|h3
  ·exact triB_at k p h.2 d h1 (by omega)
  ·have:d=k+1:=by omega
   subst this
   rcases h.1 with h4|h4
   ·omega
   ·intro h5
    rw[h5]at h4
    simp at h4
theorem prim_tri {k p:Nat}(h1:1<p) (h:triB k p=true) (hk:p<(k+1)*(k+1)):Prim p:=by
 refine⟨h1,fun d hd=>?_⟩
 obtain ⟨e,rfl⟩:=hd
 have hd0:d≠0:=by rintro rfl;simp at h1
 have he0:e≠0:=by rintro rfl;simp at h1
 by_cases hd1:d=1
 ·exact .inl hd1
 ·right
  by_cases he1:e=1
  ·rw[he1,Nat.mul_one]
  ·exfalso
   rcases Nat.lt_or_ge k d with h3|h3
   ·rcases Nat.lt_or_ge k e with h4|h4
    ·have:=Nat.mul_le_mul (show k+1<=d by omega) (show k+1<=e by omega)
     omega
    ·exact triB_at k _ h e (by omega) h4 (Nat.mul_mod_left d e)
   ·exact triB_at k _ h d (by omega) h3 (Nat.mul_mod_right d e)
theorem pigeon:∀(n:Nat) (f:Nat->Nat),(∀i,i<n->f i<n)->(∀i j,i<j->j<n->f i≠f j)->∀y,y<n->∃i,i<n∧f i=y
 | 0,_,_,_,y,hy=>by omega
 | n+1,f,hf,hinj,y,hy=>by
    -- where the last one goes, the first ones are moved off it
  let g:Nat->Nat:=fun i=>if f i=n then f n else f i
  have hg:∀i,i<n->g i<n:=by
   intro i hi
   show(if f i=n then f n else f i)<n
   split
   ·rename_i h
    have h1:=hf n (by omega)
    have h2:=hinj i n hi (by omega)
    omega
   ·have:=hf i (by omega);omega
  have hginj:∀i j,i<j->j<n->g i≠g j:=by
   intro i j hij hj
   show(if f i=n then f n else f i)≠(if f j=n then f n else f j)
   have h1:=hinj i j hij (by omega)
   have h2:=hinj i n (by omega) (by omega)
   have h3:=hinj j n hj (by omega)
   split<;>split
   ·omega
   ·exact fun h=>h3 h.symm
   ·exact h2
   ·exact h1
  by_cases hy':y=f n
  ·exact⟨n,by omega,hy'.symm⟩
  ·by_cases hyn:y=n
   ·-- n is met: else all go below n,and f n too
    subst hyn
    have hfn:f y<y:=by have:=hf y (by omega);omega
    obtain ⟨i,hi,h⟩:=pigeon y g hg hginj (f y) hfn
    by_cases h1:f i=y
    ·exact⟨i,by omega,h1⟩
    ·exfalso
     have:g i=f i:=if_neg h1
     exact hinj i y hi (by omega) (by rw[<-this,h])
   ·obtain ⟨i,hi,h⟩:=pigeon n g hg hginj y (by omega)
    by_cases h1:f i=n
    ·exfalso
     have:g i=f n:=if_pos h1
     exact hy' (by rw[<-h,this])
    ·have:g i=f i:=if_neg h1
     exact⟨i,by omega,by rw[<-this,h]⟩
theorem pow_one_mul {g p e k:Nat}(h:g^e%p=1%p):g^(e*k)%p=1%p:=by
 rw[Nat.pow_mul,Nat.pow_mod,h,<-Nat.pow_mod,Nat.one_pow]
theorem pow_one_gcd {g p:Nat}(e f:Nat):g^e%p=1%p->g^f%p=1%p->g^(Nat.gcd e f)%p=1%p:=by
 induction e,f using Nat.gcd.induction with
 | H0 f=>intro _ h;rw[Nat.gcd_zero_left];exact h
 | H1 e f hpos ih=>
  intro h1 h2
  rw[Nat.gcd_rec]
  refine ih ?_ h1
  have h3:g^f=g^(f%e)*g^(e*(f / e)):=by rw[<-Nat.pow_add,Nat.mod_add_div]
  rw[h3,Nat.mul_mod,pow_one_mul h1,<-Nat.mul_mod,Nat.mul_one]at h2
  exact h2
def prodL:List Nat->Nat
 | []=>1
 | q::l=>q*prodL l
theorem prim_in {m:Nat}:∀(qs:List Nat),(∀q∈qs,Prim q)->1<m->m ∣ prodL qs->∃q∈qs,q ∣ m
 | [],_,h1,h=>by
  have:=Nat.le_of_dvd (by decide) h
  simp only[prodL]at this;omega
 | q::qs,hq,h1,h=>by
  have hp:=hq q (by simp)
  rcases hp.2 (Nat.gcd m q) (Nat.gcd_dvd_right m q) with hg|hg
  ·have:m ∣ prodL qs:=Nat.Coprime.dvd_of_dvd_mul_left hg h
   obtain ⟨r,hr,hd⟩:=prim_in qs (fun r hr=>hq r (by simp[hr])) h1 this
   exact⟨r,by simp[hr],hd⟩
  ·exact⟨q,by simp,by rw[<-hg];exact Nat.gcd_dvd_left m q⟩
def Gen (p g:Nat):Prop:=1<p∧g^(p-1)%p=1∧∀a,0<a->a<p->∃k,k<p-1∧g^k%p=a
theorem gen_of {p g:Nat}{qs:List Nat}(hp:1<p) (hqs:∀q∈qs,Prim q) (hprod:prodL qs=p-1) (h1:g^(p-1)%p=1) (h2:∀q∈qs,g^((p-1) / q)%p≠1):Gen p g:=by
 have h1p:1%p=1:=Nat.mod_eq_of_lt hp
 have hone:∀e,0<e->e<p-1->g^e%p≠1:=by
  intro e he0 he h
  have hf:=pow_one_gcd (g:=g) (p:=p) e (p-1) (by rw[h1p];exact h) (by rw[h1p];exact h1)
  rw[h1p]at hf
  obtain ⟨m,hm⟩:=Nat.gcd_dvd_right e (p-1)
  have hle:Nat.gcd e (p-1)<=e:=Nat.le_of_dvd he0 (Nat.gcd_dvd_left e (p-1))
  have hm1:1<m:=by
   rcases Nat.lt_or_ge 1 m with h3|h3
   ·exact h3
   ·exfalso
    have h4:Nat.gcd e (p-1)*m<=Nat.gcd e (p-1)*1:=Nat.mul_le_mul_left _ h3
    omega
  obtain ⟨q,hq,m',hm'⟩:=prim_in qs hqs hm1 (by rw[hprod];exact⟨Nat.gcd e (p-1),by rw[Nat.mul_comm];exact hm⟩)
  have hq1:=(hqs q hq).1
  have hdiv:(p-1) / q=Nat.gcd e (p-1)*m':=by
   have e1:p-1=q*(Nat.gcd e (p-1)*m'):=by
    have e2:Nat.gcd e (p-1)*(q*m')=q*(Nat.gcd e (p-1)*m'):=by rw[Nat.mul_left_comm]
    rw[<-hm']at e2
    exact hm.trans e2
   have e3:q*(Nat.gcd e (p-1)*m') / q=Nat.gcd e (p-1)*m':=Nat.mul_div_cancel_left _ (by omega)
   rw[<-e1]at e3
   exact e3
  apply h2 q hq
  rw[hdiv]
  have:=pow_one_mul (k:=m') (show g^Nat.gcd e (p-1)%p=1%p by rw[hf,h1p])
  rw[this,h1p]
 have hnz:∀i,i<p-1->g^i%p≠0:=by
  intro i hi h
  have e1:g^(p-1)=g^i*g^(p-1-i):=by rw[<-Nat.pow_add];congr 1;omega
  rw[e1,Nat.mul_mod,h,Nat.zero_mul,Nat.zero_mod]at h1
  omega
 refine⟨hp,h1,?_⟩
 have hpig:=pigeon (p-1) (fun i=>g^i%p-1)
  (fun i hi=>by have:=hnz i hi;have:=Nat.mod_lt (g^i) (show 0<p by omega);omega)
  (fun i j hij hj=>by
   intro h
   have hi0:=hnz i (by omega)
   have hj0:=hnz j hj
   have he:g^i%p=g^j%p:=by
    have h':g^i%p-1=g^j%p-1:=h
    omega
   refine hone (j-i) (by omega) (by omega) ?_
   have e1:g^(j-i)*g^(p-1)=g^j*g^(p-1-i):=by rw[<-Nat.pow_add,<-Nat.pow_add];congr 1;omega
   have e2:g^i*g^(p-1-i)=g^(p-1):=by rw[<-Nat.pow_add];congr 1;omega
   have e3:g^(j-i)%p=g^(j-i)*g^(p-1)%p:=by rw[Nat.mul_mod,h1,Nat.mul_one,Nat.mod_mod]
   rw[e3,e1,Nat.mul_mod,<-he,<-Nat.mul_mod,e2,h1])
 intro a ha0 hap
 obtain ⟨k,hk,h⟩:=hpig (a-1) (by omega)
 have:=hnz k hk
 have h':g^k%p-1=a-1:=h
 exact⟨k,hk,by omega⟩
theorem Gen.prim {p g:Nat}(h:Gen p g):Prim p:=by
 refine⟨h.1,fun d hd=>?_⟩
 have hp:=h.1
 have hd0:0<d:=Nat.pos_of_dvd_of_pos hd (by omega)
 have hle:=Nat.le_of_dvd (by omega) hd
 by_cases hdp:d=p
 ·exact .inr hdp
 ·left
  obtain ⟨k,hk,hk2⟩:=h.2.2 d hd0 (by omega)
  have e1:d*g^(p-1-k)%p=1:=by
   rw[<-hk2,Nat.mul_mod,Nat.mod_mod,<-Nat.mul_mod,<-Nat.pow_add,show k+(p-1-k)=p-1 from by omega]
   exact h.2.1
  have h3:d ∣ d*g^(p-1-k):=Nat.dvd_mul_right d _
  have h4:d ∣ 1:=by
   have h5:=Nat.div_add_mod (d*g^(p-1-k)) p
   rw[e1]at h5
   have h6:d ∣ p*(d*g^(p-1-k) / p):=Nat.dvd_trans hd (Nat.dvd_mul_right p _)
   have h7:d ∣ p*(d*g^(p-1-k) / p)+1:=by rw[h5];exact h3
   exact(Nat.dvd_add_right h6).1 h7
  exact Nat.eq_one_of_dvd_one h4
theorem Gen.fermat {p g a:Nat}(h:Gen p g) (ha:a%p≠0):a^(p-1)%p=1:=by
 have hp:=h.1
 obtain ⟨k,_,hk⟩:=h.2.2 (a%p) (by omega) (Nat.mod_lt _ (by omega))
 rw[Nat.pow_mod,<-hk,<-Nat.pow_mod,<-Nat.pow_mul,Nat.mul_comm,Nat.pow_mul,Nat.pow_mod,h.2.1,Nat.one_pow,Nat.mod_eq_of_lt hp]
def cert (p g:Nat) (qs:List Nat):Bool:=
 Nat.blt 1 p&&Nat.beq (prodL qs) (p-1)&&Nat.blt p (2^256)&&Nat.beq (powF 256 g (p-1) p) 1&&qs.all (fun q=>!(Nat.beq (powF 256 g ((p-1) / q) p) 1))
theorem gen_cert {p g:Nat}{qs:List Nat}(h:cert p g qs=true) (hqs:∀q∈qs,Prim q):Gen p g:=by
 simp only[cert,Bool.and_eq_true,Nat.blt_eq,List.all_eq_true,Bool.not_eq_true']at h
 obtain ⟨⟨⟨⟨h1,h2⟩,h3⟩,h4⟩,h5⟩:=h
 have h4:=Nat.eq_of_beq_eq_true h4
 rw[powF_eq _ _ _ _ (by omega)]at h4
 refine gen_of h1 hqs (Nat.eq_of_beq_eq_true h2) h4 fun q hq hone=>?_
 have:=h5 q hq
 rw[powF_eq _ _ _ _ (Nat.lt_of_le_of_lt (Nat.div_le_self _ _) (by omega)),hone]at this
 simp at this
end Go.W

namespace Go.W
theorem pr2:Prim 2:=prim_tri (k:=1) (by decide) (by decide +kernel) (by decide)
theorem pr3:Prim 3:=prim_tri (k:=1) (by decide) (by decide +kernel) (by decide)
theorem pr5:Prim 5:=prim_tri (k:=2) (by decide) (by decide +kernel) (by decide)
theorem pr7:Prim 7:=prim_tri (k:=2) (by decide) (by decide +kernel) (by decide)
theorem pr11:Prim 11:=prim_tri (k:=3) (by decide) (by decide +kernel) (by decide)
theorem pr29:Prim 29:=prim_tri (k:=5) (by decide) (by decide +kernel) (by decide)
theorem pr31:Prim 31:=prim_tri (k:=5) (by decide) (by decide +kernel) (by decide)
theorem pr53:Prim 53:=prim_tri (k:=7) (by decide) (by decide +kernel) (by decide)
theorem pr971:Prim 971:=prim_tri (k:=31) (by decide) (by decide +kernel) (by decide)
theorem pr1373:Prim 1373:=prim_tri (k:=37) (by decide) (by decide +kernel) (by decide)
theorem pr1627:Prim 1627:=prim_tri (k:=40) (by decide) (by decide +kernel) (by decide)
theorem pr2621:Prim 2621:=prim_tri (k:=51) (by decide) (by decide +kernel) (by decide)
theorem pr2657:Prim 2657:=prim_tri (k:=51) (by decide) (by decide +kernel) (by decide)
theorem pr4423:Prim 4423:=prim_tri (k:=66) (by decide) (by decide +kernel) (by decide)
theorem pr5323:Prim 5323:=prim_tri (k:=72) (by decide) (by decide +kernel) (by decide)
theorem pr7723:Prim 7723:=prim_tri (k:=87) (by decide) (by decide +kernel) (by decide)
theorem pr13441:Prim 13441:=prim_tri (k:=115) (by decide) (by decide +kernel) (by decide)
theorem pr20113:Prim 20113:=prim_tri (k:=141) (by decide) (by decide +kernel) (by decide)
theorem pr24809:Prim 24809:=prim_tri (k:=157) (by decide) (by decide +kernel) (by decide)
theorem pr41201:Prim 41201:=prim_tri (k:=202) (by decide) (by decide +kernel) (by decide)
theorem pr96557:Prim 96557:=prim_tri (k:=310) (by decide) (by decide +kernel) (by decide)
theorem allP_nil:∀q∈([]:List Nat),Prim q:=by simp
theorem allP_cons {q:Nat}{l:List Nat}(h:Prim q) (hl:∀r∈l,Prim r):∀r∈q::l,Prim r:=by
 intro r hr
 rcases List.mem_cons.1 hr with rfl|hr
 ·exact h
 ·exact hl r hr
theorem ge13331831:Gen 13331831 13:=gen_cert (qs:=[2,5,971,1373]) (by decide +kernel) (allP_cons pr2 (allP_cons pr5 (allP_cons pr971 (allP_cons pr1373 allP_nil))))
theorem pr13331831:Prim 13331831:=ge13331831.prim
theorem ge173378833005251801:Gen 173378833005251801 6:=gen_cert (qs:=[2,2,2,5,5,2621,24809,13331831]) (by decide +kernel) (allP_cons pr2 (allP_cons pr2 (allP_cons pr2 (allP_cons pr5 (allP_cons pr5 (allP_cons pr2621 (allP_cons pr24809 (allP_cons pr13331831 allP_nil))))))))
theorem pr173378833005251801:Prim 173378833005251801:=ge173378833005251801.prim
theorem ge22149492674086928081353:Gen 22149492674086928081353 5:=gen_cert (qs:=[2,2,2,3,5323,173378833005251801]) (by decide +kernel) (allP_cons pr2 (allP_cons pr2 (allP_cons pr2 (allP_cons pr3 (allP_cons pr5323 (allP_cons pr173378833005251801 allP_nil))))))
theorem pr22149492674086928081353:Prim 22149492674086928081353:=ge22149492674086928081353.prim
theorem ge132896956044521568488119:Gen 132896956044521568488119 6:=gen_cert (qs:=[2,3,22149492674086928081353]) (by decide +kernel) (allP_cons pr2 (allP_cons pr3 (allP_cons pr22149492674086928081353 allP_nil)))
theorem pr132896956044521568488119:Prim 132896956044521568488119:=ge132896956044521568488119.prim
theorem ge1206781:Gen 1206781 10:=gen_cert (qs:=[2,2,3,5,20113]) (by decide +kernel) (allP_cons pr2 (allP_cons pr2 (allP_cons pr3 (allP_cons pr5 (allP_cons pr20113 allP_nil)))))
theorem pr1206781:Prim 1206781:=ge1206781.prim
theorem ge7240687:Gen 7240687 3:=gen_cert (qs:=[2,3,1206781]) (by decide +kernel) (allP_cons pr2 (allP_cons pr3 (allP_cons pr1206781 allP_nil)))
theorem pr7240687:Prim 7240687:=ge7240687.prim
theorem ge107590001:Gen 107590001 3:=gen_cert (qs:=[2,2,2,2,5,5,5,5,7,29,53]) (by decide +kernel) (allP_cons pr2 (allP_cons pr2 (allP_cons pr2 (allP_cons pr2 (allP_cons pr5 (allP_cons pr5 (allP_cons pr5 (allP_cons pr5 (allP_cons pr7 (allP_cons pr29 (allP_cons pr53 allP_nil)))))))))))
theorem pr107590001:Prim 107590001:=ge107590001.prim
theorem ge255515944373312847190720520512484175977:Gen 255515944373312847190720520512484175977 3:=gen_cert (qs:=[2,2,2,7,7,11,1627,2657,4423,41201,96557,7240687,107590001]) (by decide +kernel) (allP_cons pr2 (allP_cons pr2 (allP_cons pr2 (allP_cons pr7 (allP_cons pr7 (allP_cons pr11 (allP_cons pr1627 (allP_cons pr2657 (allP_cons pr4423 (allP_cons pr41201 (allP_cons pr96557 (allP_cons pr7240687 (allP_cons pr107590001 allP_nil)))))))))))))
theorem pr255515944373312847190720520512484175977:Prim 255515944373312847190720520512484175977:=ge255515944373312847190720520512484175977.prim
theorem ge205115282021455665897114700593932402728804164701536103180137503955397371:Gen 205115282021455665897114700593932402728804164701536103180137503955397371 10:=gen_cert (qs:=[2,3,5,29,29,31,7723,132896956044521568488119,255515944373312847190720520512484175977]) (by decide +kernel) (allP_cons pr2 (allP_cons pr3 (allP_cons pr5 (allP_cons pr29 (allP_cons pr29 (allP_cons pr31 (allP_cons pr7723 (allP_cons pr132896956044521568488119 (allP_cons pr255515944373312847190720520512484175977 allP_nil)))))))))
theorem pr205115282021455665897114700593932402728804164701536103180137503955397371:Prim 205115282021455665897114700593932402728804164701536103180137503955397371:=ge205115282021455665897114700593932402728804164701536103180137503955397371.prim
theorem ge115792089237316195423570985008687907853269984665640564039457584007908834671663:Gen 115792089237316195423570985008687907853269984665640564039457584007908834671663 3:=gen_cert (qs:=[2,3,7,13441,205115282021455665897114700593932402728804164701536103180137503955397371]) (by decide +kernel) (allP_cons pr2 (allP_cons pr3 (allP_cons pr7 (allP_cons pr13441 (allP_cons pr205115282021455665897114700593932402728804164701536103180137503955397371 allP_nil)))))
def pP:Nat:=115792089237316195423570985008687907853269984665640564039457584007908834671663
def pN:Nat:=115792089237316195423570985008687907852837564279074904382605163141518161494337
def gP:Nat:=3
theorem genP:Gen pP gP:=ge115792089237316195423570985008687907853269984665640564039457584007908834671663
end Go.W

namespace Go.W
theorem Gen.mul_ne {p g a b:Nat}(h:Gen p g) (ha:a%p≠0) (hb:b%p≠0):a*b%p≠0:=by
 intro h0
 have h1:=h.fermat ha
 have h2:=h.fermat hb
 have h3:(a*b)^(p-1)%p=1:=by rw[Nat.mul_pow,Nat.mul_mod,h1,h2];exact Nat.mod_eq_of_lt h.1
 rw[Nat.pow_mod,h0]at h3
 have hp:=h.1
 rw[Nat.zero_pow (by omega),Nat.zero_mod]at h3
 omega
theorem Gen.inv {p g a:Nat}(h:Gen p g) (ha:a%p≠0):a*a^(p-2)%p=1:=by
 have hp:=h.1
 rw[<-Nat.pow_succ',Nat.succ_eq_add_one,show p-2+1=p-1 from by omega]
 exact h.fermat ha
theorem Gen.cancel {p g a b c:Nat}(h:Gen p g) (ha:a%p≠0) (he:a*b%p=a*c%p):b%p=c%p:=by
 have hi:=h.inv ha
 have key:∀x,x%p=a^(p-2)*(a*x)%p:=by
  intro x
  rw[<-Nat.mul_assoc,Nat.mul_comm (a^(p-2)) a,Nat.mul_mod,hi,Nat.one_mul,Nat.mod_mod]
 rw[key b,key c,Nat.mul_mod,he,<-Nat.mul_mod]
theorem Gen.pow_self {p g:Nat}(h:Gen p g) (a:Nat):a^p%p=a%p:=by
 have hp:=h.1
 have e:a^p=a*a^(p-1):=by rw[<-Nat.pow_succ',Nat.succ_eq_add_one];congr 1;omega
 by_cases ha:a%p=0
 ·rw[e,Nat.mul_mod,ha,Nat.zero_mul,Nat.zero_mod]
 ·rw[e,Nat.mul_mod,h.fermat ha,Nat.mul_one,Nat.mod_mod]
theorem Gen.sq_eq {p g a b:Nat}(h:Gen p g) (he:a*a%p=b*b%p):a%p=b%p∨(a+b)%p=0:=by
 by_cases hs:(a+b)%p=0
 ·exact .inr hs
 ·left
  have hp:=h.1
    -- (a + b) a = a a + a b = b b + a b = (a + b) b
  refine h.cancel (a:=a+b) hs ?_
  have e1:(a+b)*a=a*a+a*b:=by rw[Nat.add_mul,Nat.mul_comm b a]
  have e2:(a+b)*b=b*b+a*b:=by rw[Nat.add_mul,Nat.add_comm]
  rw[e1,e2,Nat.add_mod,he,<-Nat.add_mod]
theorem Gen.root {p g a b:Nat}(h:Gen p g) (h4:p%4=3) (hb:b*b%p=a%p):a^((p+1) / 4)*a^((p+1) / 4)%p=a%p:=by
 rw[<-Nat.pow_add]
 have hp:=h.1
 have hexp:(p+1) / 4+(p+1) / 4=(p-1) / 2+1:=by omega
 rw[hexp]
 have e0:a^((p-1) / 2+1)%p=(b*b)^((p-1) / 2+1)%p:=by rw[Nat.pow_mod,<-hb,<-Nat.pow_mod]
 have e1:(b*b)^((p-1) / 2+1)=b*b^p:=by
  rw[show b*b=b^2 from (Nat.pow_two b).symm,<-Nat.pow_mul,<-Nat.pow_succ']
  congr 1;omega
 rw[e0,e1,Nat.mul_mod,h.pow_self,<-Nat.mul_mod,hb]
end Go.W

namespace Go.W
def sP:Nat:=4294968273
def sN:Nat:=432420386565659656852420866394968145599
def primeN (w:Int):Nat:=if w=0 then pP else if w=1 then pN else 0
def smallN (w:Int):Nat:=if w=1 then sN else sP
def okW (w:Int):Bool:=w==0||w==1
theorem okW_iff {w:Int}:okW w=true↔w=0∨w=1:=by simp[okW]
theorem primeN_small {w:Int}(h:okW w=true):primeN w+smallN w=2^256∧primeN w<2^256∧smallN w<2^129∧2^255<primeN w:=by
 rcases okW_iff.1 h with rfl|rfl
 ·show pP+sP=2^256∧pP<2^256∧sP<2^129∧2^255<pP
  unfold pP sP;omega
 ·show pN+sN=2^256∧pN<2^256∧sN<2^129∧2^255<pN
  unfold pN sN;omega
def fdL (s lo hi:Nat):Nat:=(hi*s+lo)%2^256
def fdH (s lo hi:Nat):Nat:=(hi*s+lo) / 2^256
def fdK (s lo hi:Nat):Nat->Nat×Nat
 | 0=>(lo,hi)
 | k+1=>(fdL s (fdK s lo hi k).1 (fdK s lo hi k).2,fdH s (fdK s lo hi k).1 (fdK s lo hi k).2)
theorem fd_mod {p s lo hi:Nat}(h:p+s=2^256):(fdH s lo hi*2^256+fdL s lo hi)%p=(hi*2^256+lo)%p:=by
 have e:fdH s lo hi*2^256+fdL s lo hi=hi*s+lo:=by unfold fdH fdL;rw[Nat.mul_comm];exact Nat.div_add_mod _ _
 rw[e,<-h,Nat.mul_add,Nat.add_assoc,Nat.add_comm (hi*p),Nat.add_mul_mod_self_right]
theorem fdK_mod {p s lo hi:Nat}(h:p+s=2^256):∀k,((fdK s lo hi k).2*2^256+(fdK s lo hi k).1)%p=(hi*2^256+lo)%p
 | 0=>rfl
 | k+1=>(fd_mod h).trans (fdK_mod h k)
theorem fdL_lt (s lo hi:Nat):fdL s lo hi<2^256:=Nat.mod_lt _ (by decide)
theorem fdK_lt {s lo hi:Nat}(hlo:lo<2^256) (hhi:hi<2^256) (hs:s<2^129):∀k,(fdK s lo hi k).1<2^256∧(fdK s lo hi k).2<2^256
 | 0=>⟨hlo,hhi⟩
 | k+1=>by
  obtain ⟨h1,h2⟩:=fdK_lt hlo hhi hs k
  refine⟨fdL_lt _ _ _,?_⟩
  show fdH s (fdK s lo hi k).1 (fdK s lo hi k).2<2^256
  unfold fdH
  have:(fdK s lo hi k).2*s<=(2^256-1)*(2^129-1):=Nat.mul_le_mul (by omega) (by omega)
  omega
theorem fdK_end {s lo hi:Nat}(hlo:lo<2^256) (hhi:hi<2^256) (hs:s<2^129):(fdK s lo hi 4).2=0:=by
 have step:∀k,(fdK s lo hi (k+1)).2=((fdK s lo hi k).2*s+(fdK s lo hi k).1) / 2^256∧(fdK s lo hi (k+1)).1=((fdK s lo hi k).2*s+(fdK s lo hi k).1)%2^256:=fun k=>⟨rfl,rfl⟩
 obtain ⟨a1,b1⟩:=step 0
 obtain ⟨a2,b2⟩:=step 1
 obtain ⟨a3,b3⟩:=step 2
 obtain ⟨a4,b4⟩:=step 3
 have l0:=(fdK_lt hlo hhi hs 0).1
 have l1:=(fdK_lt hlo hhi hs 1).1
 have l2:=(fdK_lt hlo hhi hs 2).1
 have m0:(fdK s lo hi 0).2*s<=(2^256-1)*(2^129-1):=Nat.mul_le_mul (by have:=(fdK_lt hlo hhi hs 0).2;omega) (by omega)
 have c1:(fdK s lo hi 1).2<=2^129:=by rw[a1];omega
 have m1:(fdK s lo hi 1).2*s<=2^129*(2^129-1):=Nat.mul_le_mul c1 (by omega)
 have c2:(fdK s lo hi 2).2<=4:=by rw[a2];omega
 have m2:(fdK s lo hi 2).2*s<=4*(2^129-1):=Nat.mul_le_mul c2 (by omega)
 have c3:(fdK s lo hi 3).2<=1:=by rw[a3];omega
 rw[a4]
 have hcase:(fdK s lo hi 3).2=0∨(fdK s lo hi 3).2=1:=by omega
 rcases hcase with h|h
 ·have:=(fdK_lt hlo hhi hs 3).1
  rw[h,Nat.zero_mul,Nat.zero_add,Nat.div_eq_of_lt this]
 ·rw[h,Nat.one_mul]
  have hb3:(fdK s lo hi 3).1<=4*(2^129-1):=by
   rw[a3]at h
   rw[b3]
   omega
  omega
theorem fdK_first {s lo hi:Nat}(hlo:lo<2^256) (hhi:hi<2^256) (hs:s<2^129):∃N,(fdK s lo hi N).2=0∧∀k,k<N->(fdK s lo hi k).2≠0:=by
 have h4:=fdK_end hlo hhi hs
 by_cases h0:(fdK s lo hi 0).2=0
 ·exact⟨0,h0,by omega⟩
 by_cases h1:(fdK s lo hi 1).2=0
 ·refine⟨1,h1,fun k hk=>?_⟩
  have:k=0:=by omega
  subst this;exact h0
 by_cases h2:(fdK s lo hi 2).2=0
 ·refine⟨2,h2,fun k hk=>?_⟩
  have:k=0∨k=1:=by omega
  rcases this with rfl|rfl<;>assumption
 by_cases h3:(fdK s lo hi 3).2=0
 ·refine⟨3,h3,fun k hk=>?_⟩
  have:k=0∨k=1∨k=2:=by omega
  rcases this with rfl|rfl|rfl<;>assumption
 ·refine⟨4,h4,fun k hk=>?_⟩
  have:k=0∨k=1∨k=2∨k=3:=by omega
  rcases this with rfl|rfl|rfl|rfl<;>assumption
theorem fold_last {p s lo hi N:Nat}(hp:p+s=2^256) (hlo:lo<2^256) (hhi:hi<2^256) (hs:s<2^129) (h:(fdK s lo hi N).2=0):
  (if (fdK s lo hi N).1<p then (fdK s lo hi N).1 else (fdK s lo hi N).1-p)=(hi*2^256+lo)%p:=by
 have hm:=fdK_mod (lo:=lo) (hi:=hi) hp N
 rw[h,Nat.zero_mul,Nat.zero_add]at hm
 have hl:=(fdK_lt hlo hhi hs N).1
 rw[<-hm]
 split
 ·rename_i h1;rw[Nat.mod_eq_of_lt h1]
 ·rename_i h1
  rw[Nat.mod_eq_sub_mod (by omega),Nat.mod_eq_of_lt (by omega)]
def pwM (A E m k:Nat):Nat:=A^(E / 2^(256-k))%m
theorem pwM_zero {A E m:Nat}(hE:E<2^256) (hm:1<m):pwM A E m 0=1:=by
 unfold pwM;rw[Nat.sub_zero,Nat.div_eq_of_lt hE,Nat.pow_zero,Nat.mod_eq_of_lt hm]
theorem pwM_last (A E m:Nat):pwM A E m 256=A^E%m:=by
 unfold pwM;rw[Nat.sub_self,Nat.pow_zero,Nat.div_one]
theorem pwM_bits {E k:Nat}(hk:k<256):E / 2^(256-(k+1))=2*(E / 2^(256-k))+bitN E (255-k):=by
 unfold bitN
 rw[show 256-k=(255-k)+1 from by omega,show 256-(k+1)=255-k from by omega,Nat.pow_succ,<-Nat.div_div_eq_div_mul]
 omega
theorem pwM_sq {A E m k:Nat}:pwM A E m k*pwM A E m k%m=A^(2*(E / 2^(256-k)))%m:=by
 unfold pwM
 rw[<-Nat.mul_mod,<-Nat.pow_add]
 congr 2;omega
theorem pwM_step0 {A E m k:Nat}(hk:k<256) (h:bitN E (255-k)=0):pwM A E m k*pwM A E m k%m=pwM A E m (k+1):=by
 rw[pwM_sq];unfold pwM;rw[pwM_bits hk,h,Nat.add_zero]
theorem pwM_step1 {A E m k:Nat}(hk:k<256) (h:bitN E (255-k)=1):pwM A E m k*pwM A E m k%m*A%m=pwM A E m (k+1):=by
 rw[pwM_sq];unfold pwM;rw[pwM_bits hk,h,Nat.pow_succ,Nat.mul_mod,Nat.mod_mod,<-Nat.mul_mod]
end Go.W

namespace Go.W
def SmallF:List Value->Option (Bool×Value)
 | [.int .i64 w]=>some (true,num (smallN w))
 | _=>none
def smallT (w:Int):Option Value:=bif w==1 then some (num sN) else some (num sP)
theorem smallT_eq (w:Int):smallT w=some (num (smallN w)):=by
 unfold smallT smallN
 by_cases h:w=1
 ·subst h;rfl
 ·rw[if_neg h,show(w==1)=false from beq_eq_false_iff_ne.2 h];rfl
def PrimeF:List Value->Option (Bool×Value)
 | [.int .i64 w]=>some (true,num (primeN w))
 | _=>none
def PrimeRT (w:Int):Option Value:=
 r2 (num 0) (num (smallN w))<|bif w != 0 then (bif w != 1 then some (num 0) else some (sD (num 0) (num (smallN w)))) else some (sD (num 0) (num (smallN w)))
theorem sD_small {w:Int}(h:okW w=true):sD (num 0) (num (smallN w))=num (primeN w):=by
 obtain ⟨h1,h2,h3,h4⟩:=primeN_small h
 rw[sD_num,Nat.zero_mod,Nat.mod_eq_of_lt (show smallN w<2^256 by omega)]
 congr 1;omega
theorem PrimeRT_eq (w:Int):PrimeRT w=some (num (primeN w)):=by
 unfold PrimeRT
 rw[r2_num]
 by_cases h0:w=0
 ·subst h0;rw[sD_small rfl];rfl
 ·by_cases h1:w=1
  ·subst h1;rw[sD_small rfl];rfl
  ·rw[show(w != 0)=true from bne_iff_ne.2 h0,show(w != 1)=true from bne_iff_ne.2 h1]
   unfold primeN;rw[if_neg h0,if_neg h1];rfl
def okF:List Value->Option (Bool×Value)
 | [.int .i64 w]=>some (true,.bool (okW w))
 | _=>none
def okT (w:Int):Option Value:=bif w==0 then some (.bool true) else some (.bool (w==1))
theorem okT_eq (w:Int):okT w=some (.bool (okW w)):=by
 unfold okT okW
 cases w==0<;>rfl
def foldN (w:Int) (lo hi:Nat):Nat:=(hi*2^256+lo)%primeN w
def FoldF:List Value->Option (Bool×Value)
 | [.int .i64 w,lo,hi]=>some (okW w&&isNum lo&&isNum hi,num (foldN w (unnum lo) (unnum hi)))
 | _=>none
def fdR {α:Type}(lo hi s:Value) (k:Nat->Nat->Option α) (out:Option α):Option α:=
 bif !(eqV hi (num 0)) then (r2 hi s<|r2 lo (mL hi s)<|r2 (mH hi s) (one (aC lo (mL hi s)))<|k (unnum lo+unnum (mL hi s)) (unnum (mH hi s)+unnum (one (aC lo (mL hi s))))) else out
theorem cells4_mod (X:Nat):cells4 (X%2^256)=cells4 X:=by
 have:=congrArg (fun v:Value=>v.cells.toList) (num_mod X)
 exact this
theorem fdR_eq {α:Type}{lo hi s:Nat}(hlo:lo<2^256) (hhi:hi<2^256) (hs:s<2^129) (h0:hi≠0) (K:List Value->List Value->Option α) (out:Option α):
  fdR (num lo) (num hi) (num s) (fun x y=>K (cells4 x) (cells4 y)) out=K (cells4 (fdL s lo hi)) (cells4 (fdH s lo hi)):=by
 have hs':s<2^256:=by omega
 unfold fdR
 have hne:eqV (num hi) (num 0)=false:=by rw[eqV_num];exact decide_eq_false (by rw[Nat.mod_eq_of_lt hhi];simpa using h0)
 have hm:hi*s<=(2^256-1)*(2^129-1):=Nat.mul_le_mul (by omega) (by omega)
 rw[hne,mL_num,mH_num hhi hs',one_num (aC_lt _ _),r2_num,r2_num,r2_num,aC_num,unnum_num,unnum_num,unnum_num,unnum_num,Nat.mod_eq_of_lt hlo]
 show K (cells4 (lo+hi*s%2^256)) (cells4 (hi*s / 2^256%2^256+(lo+hi*s%2^256) / 2^256%2^256))=_
 unfold fdL fdH
 generalize hi*s=z at *
 have e1:(z+lo)%2^256=(lo+z%2^256)%2^256:=by omega
 have e2:z / 2^256%2^256+(lo+z%2^256) / 2^256%2^256=(z+lo) / 2^256:=by omega
 rw[e1,cells4_mod,e2]
theorem fdR_out {α:Type}{lo s:Nat}(k:Nat->Nat->Option α) (out:Option α):fdR (num lo) (num 0) (num s) k out=out:=by
 unfold fdR
 rw[show eqV (num 0) (num 0)=true from by rw[eqV_num];exact decide_eq_true rfl];rfl
def foldEnd (lo p:Value):Option Value:=r2 lo p<|bif decide (cI lo p>=0) then (r2 lo p<|some (sD lo p)) else some lo
theorem foldEnd_eq {L p:Nat}(hL:L<2^256) (hp:p<2^256):foldEnd (num L) (num p)=some (num (if L<p then L else L-p)):=by
 unfold foldEnd
 rw[r2_num,r2_num,cI_num hL hp]
 by_cases h:L<p
 ·rw[if_pos h,decide_eq_false (by unfold cmpI;rw[if_pos h];decide)];rfl
 ·rw[if_neg h,decide_eq_true (by unfold cmpI;rw[if_neg h];split<;>decide),sD_num,Nat.mod_eq_of_lt hL,Nat.mod_eq_of_lt hp,show 2^256+L-p=L-p+2^256*1 from by omega,num_add_mul];rfl
def redN (w:Int) (A:Nat):Nat:=if okW w=true then A%primeN w else 0
def faddN (w:Int) (A B:Nat):Nat:=redN w (A+B)
def fmulN (w:Int) (A B:Nat):Nat:=redN w (A*B)
def fsubN (w:Int) (A B:Nat):Nat:=redN w (A+(primeN w-B%primeN w))
def RedF:List Value->Option (Bool×Value)
 | [.int .i64 w,a]=>some (isNum a,num (redN w (unnum a)))
 | _=>none
def FAddF:List Value->Option (Bool×Value)
 | [.int .i64 w,a,b]=>some (isNum a&&isNum b,num (faddN w (unnum a) (unnum b)))
 | _=>none
def FSubF:List Value->Option (Bool×Value)
 | [.int .i64 w,a,b]=>some (isNum a&&isNum b,num (fsubN w (unnum a) (unnum b)))
 | _=>none
def FMulF:List Value->Option (Bool×Value)
 | [.int .i64 w,a,b]=>some (isNum a&&isNum b,num (fmulN w (unnum a) (unnum b)))
 | _=>none
theorem redN_lt {w:Int}(A:Nat):redN w A<2^256:=by
 unfold redN
 split
 ·rename_i h
  obtain ⟨_,h2,_,h4⟩:=primeN_small h
  exact Nat.lt_trans (Nat.mod_lt _ (by omega)) h2
 ·decide
def rFold (w:Int) (lo hi:Value):Option Value:=req (okW w&&isNum lo&&isNum hi) (some (num (foldN w (unnum lo) (unnum hi))))
theorem rFold_num {w:Int}(h:okW w=true) (X Y:Nat):rFold w (num X) (num Y)=some (num ((Y%2^256*2^256+X%2^256)%primeN w)):=by
 unfold rFold foldN
 rw[h,isNum_num,isNum_num,req_true (b:=true&&true&&true) rfl,unnum_num,unnum_num]
def RedRT (w:Int) (a:Value):Option Value:=bif !(okW w) then some (num 0) else rFold w a (num 0)
theorem RedRT_eq {w:Int}{A:Nat}(hA:A<2^256):RedRT w (num A)=some (num (redN w A)):=by
 unfold RedRT redN
 by_cases h:okW w=true
 ·rw[rFold_num h,h,if_pos rfl,Nat.mod_eq_of_lt hA]
  show some (num ((0%2^256*2^256+A)%primeN w))=_
  rw[Nat.zero_mod,Nat.zero_mul,Nat.zero_add]
 ·rw[if_neg h,show okW w=false from Bool.eq_false_iff.2 h];rfl
def rRed (w:Int) (a:Value):Value:=num (redN w (unnum a))
def FAddRT (w:Int) (a b:Value):Option Value:=
 bif !(okW w) then some (num 0) else req (isNum a)<|req (isNum b)<|r2 (rRed w a) (rRed w b)<|rFold w (aS (rRed w a) (rRed w b)) (one (aC (rRed w a) (rRed w b)))
theorem FAddRT_eq {w:Int}{A B:Nat}(hA:A<2^256) (hB:B<2^256):FAddRT w (num A) (num B)=some (num (faddN w A B)):=by
 unfold FAddRT faddN rRed
 by_cases h:okW w=true
 ·have h1:=redN_lt (w:=w) A
  have h2:=redN_lt (w:=w) B
  rw[unnum_lt hA,unnum_lt hB,isNum_num,isNum_num,req_true rfl,req_true rfl,r2_num,aS_num,one_num (aC_lt _ _),rFold_num h,aC_num,h]
  show some _=_
  rw[Nat.mod_eq_of_lt h1,Nat.mod_eq_of_lt h2]
  have e:(redN w A+redN w B) / 2^256%2^256*2^256+(redN w A+redN w B)%2^256=redN w A+redN w B:=by omega
  rw[e]
  unfold redN
  rw[h,if_pos rfl,if_pos rfl,if_pos rfl,<-Nat.add_mod]
 ·unfold redN;rw[if_neg h,show okW w=false from Bool.eq_false_iff.2 h];rfl
def FMulRT (w:Int) (a b:Value):Option Value:=bif !(okW w) then some (num 0) else r2 a b<|rFold w (mL a b) (mH a b)
theorem FMulRT_eq {w:Int}{A B:Nat}(hA:A<2^256) (hB:B<2^256):FMulRT w (num A) (num B)=some (num (fmulN w A B)):=by
 unfold FMulRT fmulN redN
 by_cases h:okW w=true
 ·rw[r2_num,mL_num,mH_num hA hB,rFold_num h,h,if_pos rfl]
  have hXY:A*B<2^256*2^256:=Nat.mul_lt_mul'' hA hB
  generalize A*B=z at *
  have h2:z / 2^256<2^256:=Nat.div_lt_of_lt_mul hXY
  rw[Nat.mod_eq_of_lt h2,show z / 2^256*2^256+z%2^256=z from by omega];rfl
 ·rw[if_neg h,show okW w=false from Bool.eq_false_iff.2 h];rfl
def FSubRT (w:Int) (a b:Value):Option Value:=
 bif !(okW w) then some (num 0) else req (isNum b)<|r2 (num (primeN w)) (rRed w b)<|r2 a (sD (num (primeN w)) (rRed w b))<|some (num (faddN w (unnum a) (unnum (sD (num (primeN w)) (rRed w b)))))
theorem FSubRT_eq {w:Int}{A B:Nat}(hA:A<2^256) (hB:B<2^256):FSubRT w (num A) (num B)=some (num (fsubN w A B)):=by
 unfold FSubRT fsubN rRed
 by_cases h:okW w=true
 ·obtain ⟨_,hp,_,hp2⟩:=primeN_small h
  have h2:=redN_lt (w:=w) B
  rw[unnum_lt hA,unnum_lt hB,isNum_num,req_true rfl,r2_num,sD_num,r2_num,Nat.mod_eq_of_lt hp,Nat.mod_eq_of_lt h2,h]
  show some _=_
  have hr:redN w B=B%primeN w:=by unfold redN;rw[h,if_pos rfl]
  have hlt:B%primeN w<primeN w:=Nat.mod_lt _ (by omega)
  rw[hr,show 2^256+primeN w-B%primeN w=primeN w-B%primeN w+2^256*1 from by omega,num_add_mul,unnum_lt (by omega)]
  rfl
 ·unfold redN;rw[if_neg h,show okW w=false from Bool.eq_false_iff.2 h];rfl
def powS (A E m:Nat):Nat:=
 match A with
 | 0=>powF 256 0 E m
 | a+1=>powF 256 (a+1) E m
theorem powS_eq {A E m:Nat}(h:E<2^256):powS A E m=A^E%m:=by
 cases A<;>exact powF_eq 256 _ E m h
def powN (w:Int) (A E:Nat):Nat:=if okW w=true then powS A E (primeN w) else 0
theorem powN_ok {w:Int}{A E:Nat}(hw:okW w=true) (hE:E<2^256):powN w A E=A^E%primeN w:=by unfold powN;rw[if_pos hw,powS_eq hE]
theorem powN_no {w:Int}{A E:Nat}(hw:¬okW w=true):powN w A E=0:=by unfold powN;rw[if_neg hw]
theorem powN_lt {w:Int}{A E:Nat}(hE:E<2^256):powN w A E<2^256:=by
 by_cases h:okW w=true
 ·obtain ⟨_,h2,_,h4⟩:=primeN_small h
  rw[powN_ok h hE];exact Nat.lt_trans (Nat.mod_lt _ (by omega)) h2
 ·rw[powN_no h];decide
def PowF:List Value->Option (Bool×Value)
 | [.int .i64 w,a,e]=>some (isNum a&&isNum e,num (powN w (unnum a) (unnum e)))
 | _=>none
def powR {α:Type}(w:Int) (a e o:Value) (i:Int) (k:Nat->Option α):Option α:=
 r2 o o<|req (isNum e)<|bif bitI (unnum e) i==1 then (r2 (num (fmulN w (unnum o) (unnum o))) a<|k (fmulN w (unnum (num (fmulN w (unnum o) (unnum o)))) (unnum a))) else k (fmulN w (unnum o) (unnum o))
theorem powR_eq {α:Type}{w:Int}(h:okW w=true){A E k:Nat}(hA:A<2^256) (hE:E<2^256) (hk:k<256) (K:Nat->Option α):
  powR w (num A) (num E) (num (pwM A E (primeN w) k)) (255-(k:Int)) K=K (pwM A E (primeN w) (k+1)):=by
 obtain ⟨_,hp,_,hp2⟩:=primeN_small h
 have hM:∀j,pwM A E (primeN w) j<2^256:=fun j=>Nat.lt_trans (Nat.mod_lt _ (by omega)) hp
 have hmul:∀X Y,fmulN w X Y=X*Y%primeN w:=fun X Y=>by unfold fmulN redN;rw[h,if_pos rfl]
 have hi:(255-(k:Int))=((255-k:Nat):Int):=by omega
 unfold powR
 rw[r2_num,isNum_num,req_true rfl,unnum_lt hE,hi,bitI_nat (by omega),unnum_lt (hM k),r2_num,unnum_lt hA,hmul,hmul,unnum_lt (Nat.lt_trans (Nat.mod_lt _ (by omega)) hp)]
 rcases Nat.mod_two_eq_zero_or_one (E / 2^(255-k)) with h0|h1
 ·have hb:bitN E (255-k)=0:=h0
  rw[hb,pwM_step0 hk hb];rfl
 ·have hb:bitN E (255-k)=1:=h1
  rw[hb,pwM_step1 hk hb];rfl
end Go.W

namespace Go.Proofs.YtckbmhegopjnmaaGreat
set_option maxRecDepth 100000
open Go.W
open Go.RowKit (Below)
def smallC:Cfg:=⟨tab,[],7,[]⟩
theorem smallOk:CfgOk Tryz.prog smallC (bodyOf Tryz.f65):=⟨mixed,tabOk,sums_nil,noL⟩
theorem small_ev (w:Int):fnS smallC 60 Tryz.f65 (bodyOf Tryz.f65) [i64 w]=smallT w:=by kernel_rfl
theorem small_sum:Sum Tryz.prog 65 SmallF:=by
 refine sum_of smallOk Tryz.func65 (by kernel_rfl) (by kernel_rfl) rfl (fuel:=60) fun args v h _=>?_
 unfold SmallF at h
 split at h
 ·simp only[Option.some.injEq,Prod.mk.injEq,true_and]at h
  subst h
  exact⟨by show 1<=Tryz.f65.ntmps;decide +kernel,(small_ev _).trans (smallT_eq _),rfl⟩
 ·simp at h
def PrimeRC:Cfg:=⟨tab,[(65,SmallF),(64,SubF)],20,[]⟩
theorem PrimeROk:CfgOk Tryz.prog PrimeRC (bodyOf Tryz.f44):=⟨mixed,tabOk,sums_cons small_sum (sums_cons SubR_sum sums_nil),noL⟩
theorem PrimeR_ev (w:Int):fnS PrimeRC 60 Tryz.f44 (bodyOf Tryz.f44) [i64 w]=PrimeRT w:=by kernel_rfl
theorem PrimeR_sum:Sum Tryz.prog 44 PrimeF:=by
 refine sum_of PrimeROk Tryz.func44 (by kernel_rfl) (by kernel_rfl) rfl (fuel:=60) fun args v h _=>?_
 unfold PrimeF at h
 split at h
 ·simp only[Option.some.injEq,Prod.mk.injEq,true_and]at h
  subst h
  exact⟨by show 1<=Tryz.f44.ntmps;decide +kernel,(PrimeR_ev _).trans (PrimeRT_eq _),rfl⟩
 ·simp at h
def rokC:Cfg:=⟨tab,[],9,[]⟩
theorem okOk:CfgOk Tryz.prog rokC (bodyOf Tryz.f103):=⟨mixed,tabOk,sums_nil,noL⟩
theorem ok_ev (w:Int):fnS rokC 60 Tryz.f103 (bodyOf Tryz.f103) [i64 w]=okT w:=by kernel_rfl
theorem ok_sum:Sum Tryz.prog 103 okF:=by
 refine sum_of okOk Tryz.func103 (by kernel_rfl) (by kernel_rfl) rfl (fuel:=60) fun args v h _=>?_
 unfold okF at h
 split at h
 ·simp only[Option.some.injEq,Prod.mk.injEq,true_and]at h
  subst h
  exact⟨by show 1<=Tryz.f103.ntmps;decide +kernel,(ok_ev _).trans (okT_eq _),rfl⟩
 ·simp at h
def fdNt:List Nat:=[0,4,5,6]
def fdNi:List Nat:=[0,1,2]
def fdSt (w:Int) (lo hi:List Value):St:=
 ⟨[(0,i64 w),(4,ptr 0),(5,ptr 1),(6,ptr 2)],[(0,⟨lo,24,true⟩),(1,⟨hi,24,true⟩),(2,⟨[u64 0,u64 0,u64 0,u64 0],24,true⟩)],3⟩
def fdC0:Cfg:=⟨tab,[(65,SmallF),(104,MulF),(100,AddF)],48,[]⟩
theorem fdOk0:CfgOk Tryz.prog fdC0 (bodyOf Tryz.f105):=⟨mixed,tabOk,sums_cons small_sum (sums_cons MulR_sum (sums_cons AddR_sum sums_nil)),noL⟩
theorem fd_at:codeAt [1,0,0] (bodyOf Tryz.f105)=some (.loop (loopAt [1,0,0] (bodyOf Tryz.f105))):=by kernel_rfl
theorem fd_r (w:Int) (lo hi:Nat):roundS fdC0 60 [1,0,0,0] (loopAt [1,0,0] (bodyOf Tryz.f105)) fdNt fdNi 3 fdNt fdNi 3 (fdSt w (cells4 lo) (cells4 hi))=
  fdR (num lo) (num hi) (num (smallN w)) (fun x y=>some (.normal,fdSt w (cells4 x) (cells4 y))) (some (.exit 0,fdSt w (cells4 lo) (cells4 hi))):=by kernel_rfl
noncomputable def fdC (w:Int) (lo hi L:Nat):Cfg:=⟨tab,[(44,PrimeF),(45,CmpF),(64,SubF)],48,
 [([1,0,0],atSt fdNt fdNi 3 (fdSt w (cells4 lo) (cells4 hi)) (.exit 0) (fdSt w (cells4 L) (cells4 0)))]⟩
theorem fold_ev (w:Int) (lo hi L:Nat):fnS (fdC w lo hi L) 60 Tryz.f105 (bodyOf Tryz.f105) [i64 w,num lo,num hi]=
  req (stEq (fdSt w (cells4 lo) (cells4 hi)) (fdSt w (cells4 lo) (cells4 hi))) (foldEnd (num L) (num (primeN w))):=by kernel_rfl
theorem fold_sum:Sum Tryz.prog 105 FoldF:=by
 intro args v h
 unfold FoldF at h
 split at h
 ·rename_i w lo0 hi0
  simp only[Option.some.injEq,Prod.mk.injEq,Bool.and_eq_true]at h
  obtain ⟨⟨⟨hw,h1⟩,h2⟩,rfl⟩:=h
  obtain ⟨lo,hlo,rfl⟩:=isNum_some h1
  obtain ⟨hi,hhi,rfl⟩:=isNum_some h2
  rw[unnum_lt hlo,unnum_lt hhi]
  obtain ⟨hp,hp2,hs,_⟩:=primeN_small hw
  obtain ⟨n,hn,hne⟩:=fdK_first hlo hhi hs
  have hlt:=fdK_lt hlo hhi hs
  have hL:LoopOk Tryz.prog 48 (loopAt [1,0,0] (bodyOf Tryz.f105)) (atSt fdNt fdNi 3 (fdSt w (cells4 lo) (cells4 hi)) (.exit 0) (fdSt w (cells4 (fdK (smallN w) lo hi n).1) (cells4 0))):=by
   refine atSt_ok fun w0 R a W hrel=>?_
   refine loop_rounds (R:=R) (C:=fdC0) fdOk0 fd_at (m:=60) (nt:=fdNt) (ni:=fdNi) (et:=fdNt) (ei:=fdNi) (nx:=3) (ex:=3) (e:=.exit 0) (sf:=fdSt w (cells4 (fdK (smallN w) lo hi n).1) (cells4 0))
    (fun k=>fdSt w (cells4 (fdK (smallN w) lo hi k).1) (cells4 (fdK (smallN w) lo hi k).2)) n (by intro h;cases h) ?_ ?_ hrel
   ·intro k hk
    exact(fd_r _ _ _).trans (fdR_eq (hlt k).1 (hlt k).2 hs (hne k hk) (fun x y=>some (Exit.normal,fdSt w x y)) _)
   ·refine(fd_r _ _ _).trans ?_
    rw[hn,fdR_out]
  have hOk:CfgOk Tryz.prog (fdC w lo hi (fdK (smallN w) lo hi n).1) (bodyOf Tryz.f105):=⟨mixed,tabOk,sums_cons PrimeR_sum (sums_cons CmpR_sum (sums_cons SubR_sum sums_nil)),oneL hL⟩
  refine sum_at hOk Tryz.func105 (by kernel_rfl) (by kernel_rfl) rfl (fuel:=60) (by show 3<=Tryz.f105.ntmps;decide +kernel) ?_ rfl
  refine(fold_ev w lo hi _).trans ?_
  rw[req_true (stEq_refl rfl),foldEnd_eq (hlt n).1 hp2,fold_last hp hlo hhi hs hn]
  rfl
 ·simp at h
def RedRC:Cfg:=⟨tab,[(103,okF),(105,FoldF)],13,[]⟩
theorem RedROk:CfgOk Tryz.prog RedRC (bodyOf Tryz.f99):=⟨mixed,tabOk,sums_cons ok_sum (sums_cons fold_sum sums_nil),noL⟩
theorem RedR_ev (w:Int) (A:Nat):fnS RedRC 60 Tryz.f99 (bodyOf Tryz.f99) [i64 w,num A]=RedRT w (num A):=by kernel_rfl
theorem RedR_sum:Sum Tryz.prog 99 RedF:=by
 refine sum_of RedROk Tryz.func99 (by kernel_rfl) (by kernel_rfl) rfl (fuel:=60) fun args v h _=>?_
 unfold RedF at h
 split at h
 ·simp only[Option.some.injEq,Prod.mk.injEq]at h
  obtain ⟨h1,rfl⟩:=h
  obtain ⟨A,hA,rfl⟩:=isNum_some h1
  exact⟨by show 2<=Tryz.f99.ntmps;decide +kernel,(RedR_ev _ _).trans (by rw[RedRT_eq hA,unnum_lt hA]),rfl⟩
 ·simp at h
def FAddRC:Cfg:=⟨tab,[(103,okF),(105,FoldF),(99,RedF),(100,AddF)],28,[]⟩
theorem FAddROk:CfgOk Tryz.prog FAddRC (bodyOf Tryz.f85):=⟨mixed,tabOk,sums_cons ok_sum (sums_cons fold_sum (sums_cons RedR_sum (sums_cons AddR_sum sums_nil))),noL⟩
theorem FAddR_ev (w:Int) (A B:Nat):fnS FAddRC 60 Tryz.f85 (bodyOf Tryz.f85) [i64 w,num A,num B]=FAddRT w (num A) (num B):=by kernel_rfl
theorem FAddR_sum:Sum Tryz.prog 85 FAddF:=by
 refine sum_of FAddROk Tryz.func85 (by kernel_rfl) (by kernel_rfl) rfl (fuel:=60) fun args v h _=>?_
 unfold FAddF at h
 split at h
 ·simp only[Option.some.injEq,Prod.mk.injEq,Bool.and_eq_true]at h
  obtain ⟨⟨h1,h2⟩,rfl⟩:=h
  obtain ⟨A,hA,rfl⟩:=isNum_some h1
  obtain ⟨B,hB,rfl⟩:=isNum_some h2
  exact⟨by show 3<=Tryz.f85.ntmps;decide +kernel,(FAddR_ev _ _ _).trans (by rw[FAddRT_eq hA hB,unnum_lt hA,unnum_lt hB]),rfl⟩
 ·simp at h
def FSubRC:Cfg:=⟨tab,[(103,okF),(44,PrimeF),(99,RedF),(64,SubF),(85,FAddF)],26,[]⟩
theorem FSubROk:CfgOk Tryz.prog FSubRC (bodyOf Tryz.f102):=⟨mixed,tabOk,sums_cons ok_sum (sums_cons PrimeR_sum (sums_cons RedR_sum (sums_cons SubR_sum (sums_cons FAddR_sum sums_nil)))),noL⟩
theorem FSubR_ev (w:Int) (A B:Nat):fnS FSubRC 60 Tryz.f102 (bodyOf Tryz.f102) [i64 w,num A,num B]=FSubRT w (num A) (num B):=by kernel_rfl
theorem FSubR_sum:Sum Tryz.prog 102 FSubF:=by
 refine sum_of FSubROk Tryz.func102 (by kernel_rfl) (by kernel_rfl) rfl (fuel:=60) fun args v h _=>?_
 unfold FSubF at h
 split at h
 ·simp only[Option.some.injEq,Prod.mk.injEq,Bool.and_eq_true]at h
  obtain ⟨⟨h1,h2⟩,rfl⟩:=h
  obtain ⟨A,hA,rfl⟩:=isNum_some h1
  obtain ⟨B,hB,rfl⟩:=isNum_some h2
  exact⟨by show 3<=Tryz.f102.ntmps;decide +kernel,(FSubR_ev _ _ _).trans (by rw[FSubRT_eq hA hB,unnum_lt hA,unnum_lt hB]),rfl⟩
 ·simp at h
def FMulRC:Cfg:=⟨tab,[(103,okF),(105,FoldF),(104,MulF)],23,[]⟩
theorem FMulROk:CfgOk Tryz.prog FMulRC (bodyOf Tryz.f84):=⟨mixed,tabOk,sums_cons ok_sum (sums_cons fold_sum (sums_cons MulR_sum sums_nil)),noL⟩
theorem FMulR_ev (w:Int) (A B:Nat):fnS FMulRC 60 Tryz.f84 (bodyOf Tryz.f84) [i64 w,num A,num B]=FMulRT w (num A) (num B):=by kernel_rfl
theorem FMulR_sum:Sum Tryz.prog 84 FMulF:=by
 refine sum_of FMulROk Tryz.func84 (by kernel_rfl) (by kernel_rfl) rfl (fuel:=60) fun args v h _=>?_
 unfold FMulF at h
 split at h
 ·simp only[Option.some.injEq,Prod.mk.injEq,Bool.and_eq_true]at h
  obtain ⟨⟨h1,h2⟩,rfl⟩:=h
  obtain ⟨A,hA,rfl⟩:=isNum_some h1
  obtain ⟨B,hB,rfl⟩:=isNum_some h2
  exact⟨by show 3<=Tryz.f84.ntmps;decide +kernel,(FMulR_ev _ _ _).trans (by rw[FMulRT_eq hA hB,unnum_lt hA,unnum_lt hB]),rfl⟩
 ·simp at h
def poNt:List Nat:=[0,4,5,6,7,8]
def poNi:List Nat:=[0,1,2,7]
def poSt (w:Int) (A E O:Nat) (i:Int):St:=
 ⟨[(0,i64 w),(4,ptr 0),(5,ptr 1),(6,ptr 2),(7,ptr 7),(8,i64 i)],[(0,⟨cells4 A,24,true⟩),(1,⟨cells4 E,24,true⟩),(2,⟨[u64 0,u64 0,u64 0,u64 0],24,true⟩),(7,⟨cells4 O,24,true⟩)],10⟩
def poC0:Cfg:=⟨tab,[(84,FMulF),(117,BitF)],31,[]⟩
theorem poOk0:CfgOk Tryz.prog poC0 (bodyOf Tryz.f101):=⟨mixed,tabOk,sums_cons FMulR_sum (sums_cons BitR_sum sums_nil),noL⟩
theorem po_at:codeAt [1,1,1,0,1,0] (bodyOf Tryz.f101)=some (.loop (loopAt [1,1,1,0,1,0] (bodyOf Tryz.f101))):=by kernel_rfl
theorem po_r (w:Int) (A E O:Nat) (i:Int):roundS poC0 60 [1,1,1,0,1,0,0] (loopAt [1,1,1,0,1,0] (bodyOf Tryz.f101)) poNt poNi 10 poNt poNi 10 (poSt w A E O i)=
  bif decide (i>=0) then powR w (num A) (num E) (num O) i (fun o=>some (.normal,poSt w A E o (IntKind.i64.wrap (i-1)))) else some (.exit 0,poSt w A E O i):=by kernel_rfl
noncomputable def poC (w:Int) (A E O:Nat):Cfg:=⟨tab,[(103,okF)],31,[([1,1,1,0,1,0],atSt poNt poNi 10 (poSt w A E 1 255) (.exit 0) (poSt w A E O (-1)))]⟩
theorem PowR_ev (w:Int) (A E O:Nat):fnS (poC w A E O) 60 Tryz.f101 (bodyOf Tryz.f101) [i64 w,num A,num E]=
  bif !(okW w) then some (num 0) else req (stEq (poSt w A E 1 255) (poSt w A E 1 255)) (some (num O)):=by kernel_rfl
theorem noneL {C:Code}{n:Nat}{p:List Nat}:∀q F,lookP [(p,fun _:St=>([]:List (Bool×Exit×St)))] q=some F->LoopOk Tryz.prog n (loopAt q C) F:=by
 refine oneL ?_
 intro w0 R s a w hrel e' s' hp
 simp[pickL]at hp
def poC1:Cfg:=⟨tab,[(103,okF)],31,[([1,1,1,0,1,0],fun _=>[])]⟩
theorem PowR_ev0 (w:Int) (A E:Nat):fnS poC1 60 Tryz.f101 (bodyOf Tryz.f101) [i64 w,num A,num E]=bif !(okW w) then some (num 0) else none:=by kernel_rfl
theorem PowR_sum:Sum Tryz.prog 101 PowF:=by
 intro args v h
 unfold PowF at h
 split at h
 ·rename_i w a0 e0
  simp only[Option.some.injEq,Prod.mk.injEq,Bool.and_eq_true]at h
  obtain ⟨⟨h1,h2⟩,rfl⟩:=h
  obtain ⟨A,hA,rfl⟩:=isNum_some h1
  obtain ⟨E,hE,rfl⟩:=isNum_some h2
  rw[unnum_lt hA,unnum_lt hE]
  by_cases hw:okW w=true
  ·obtain ⟨_,hp,_,hp2⟩:=primeN_small hw
   have hL:LoopOk Tryz.prog 31 (loopAt [1,1,1,0,1,0] (bodyOf Tryz.f101)) (atSt poNt poNi 10 (poSt w A E 1 255) (.exit 0) (poSt w A E (pwM A E (primeN w) 256) (-1))):=by
    refine atSt_ok fun w0 R a W hrel=>?_
    refine loop_rounds (R:=R) (C:=poC0) poOk0 po_at (m:=60) (nt:=poNt) (ni:=poNi) (et:=poNt) (ei:=poNi) (nx:=10) (ex:=10) (e:=.exit 0) (sf:=poSt w A E (pwM A E (primeN w) 256) (-1))
     (fun k=>poSt w A E (pwM A E (primeN w) k) (255-(k:Int))) 256 (by intro h;cases h) ?_ ?_ ?_
    ·intro k hk
     refine(po_r _ _ _ _ _).trans ?_
     rw[decide_eq_true (by omega),cond_true,powR_eq hw hA hE hk,wrap_i64 (by omega),show(255-(k:Int)-1)=255-((k+1:Nat):Int) from by omega]
    ·exact(po_r _ _ _ _ _).trans rfl
    ·have:poSt w A E (pwM A E (primeN w) 0) (255-((0:Nat):Int))=poSt w A E 1 255:=by rw[pwM_zero hE (by omega)];rfl
     rw[this];exact hrel
   have hOk:CfgOk Tryz.prog (poC w A E (pwM A E (primeN w) 256)) (bodyOf Tryz.f101):=⟨mixed,tabOk,sums_cons ok_sum sums_nil,oneL hL⟩
   refine sum_at hOk Tryz.func101 (by kernel_rfl) (by kernel_rfl) rfl (fuel:=60) (by show 3<=Tryz.f101.ntmps;decide +kernel) ?_ rfl
   refine(PowR_ev w A E _).trans ?_
   rw[req_true (stEq_refl rfl),pwM_last,hw]
   rw[powN_ok hw hE];rfl
  ·have hw':okW w=false:=Bool.eq_false_iff.2 hw
   have hOk:CfgOk Tryz.prog poC1 (bodyOf Tryz.f101):=⟨mixed,tabOk,sums_cons ok_sum sums_nil,noneL⟩
   refine sum_at hOk Tryz.func101 (by kernel_rfl) (by kernel_rfl) rfl (fuel:=60) (by show 3<=Tryz.f101.ntmps;decide +kernel) ?_ rfl
   refine(PowR_ev0 w A E).trans ?_
   rw[hw',powN_no hw];rfl
 ·simp at h
end Go.Proofs.YtckbmhegopjnmaaGreat
