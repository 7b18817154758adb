/-
  Merged by program: TyOwn, Seq, Held, TySz, Box, TyTo.
-/
import Derived.Test.YtlcedleebbgebaaGreatDoorQ1
import Derived.RangeFuncNested
import Derived.RangeFuncBound
import Derived.RangeFuncCalls
import Derived.RangeFuncLeaves
import Derived.Laws.Rows
set_option maxRecDepth 100000
set_option maxHeartbeats 1600000
namespace Go.Proofs.YtlcedleebbgebaaGreatDoor
open Go.RowKit
def blk:Option Addr->List Nat
 | some a=>[a.block]
 | none=>[]
theorem Zam (A:Option Addr)(n c:Nat):∀ g,(Value.slice A n c).ownBlock=some g↔g∈blk A:=by
 intro g
 cases A <;> simp [Value.ownBlock,blk,eq_comm]
def TyA.ok (a:TyA):Prop:=-9223372036854775808<=a.kind/\a.kind<=9223372036854775807/\a.labels.length<=9223372036854775807/\∀ x∈a.labels,x.size<=9223372036854775807
inductive OTy (w:World):Ty->List Value->List Nat->Prop where
 | node (a:TyA) (ks:List Ty) (L A:Option Addr) (c d:Nat) (xs:List Value) (fs:Nat->List Nat) (h0:a.ok) (h1:w.ownsRow 0 9 1 (.slice L a.labels.length c) a.labels.length (a.labels.map Value.string)) (h2:ks.length<=9223372036854775807)
   (h3:w.ownsRow 0 38 3 (.slice A ks.length d) ks.length xs) (h4:∀ j t,ks[j]?=some t->OTy w t (part3 xs j) (fs j)) (h5:(blk L ++ blk A ++ (List.range ks.length).flatMap fs).Nodup) :
   OTy w (.node a ks) [.int .i64 a.kind,.slice L a.labels.length c,.slice A ks.length d] (blk L ++ blk A ++ (List.range ks.length).flatMap fs)
theorem Zfs {w:World}{base size:Nat}{e:TypeId}{A:Option Addr}{n c:Nat}{xs:List Value}(h:w.ownsRow base e size (.slice A n c) n xs):n<=c:=by
 rcases h.2 with ⟨hv,h0⟩|⟨g,cap,cur,hv,_,_,h3,_⟩
 ·omega
 ·injection hv with _ _ hv;omega
theorem OTy.reads {w:World}{t:Ty}{cs:List Value}{fp:List Nat}(h:OTy w t cs fp):RTy w t cs:=by
 induction h with
 | node a ks L A c d xs fs h0 h1 h2 h3 _ _ ih=>
  obtain ⟨a1,a2,a3,a4⟩:=h0;have hx:xs.length=ks.length * 3:=h3.1;refine .node a ks [.int .i64 a.kind,.slice L a.labels.length c] A d (part3 xs) ⟨L,c,rfl,Sl.of_own h1,a1,a2,a3,a4⟩ rfl h2 (fun j hj=>?_) (fun j t hj=>ih j t hj) (Zfs h3);refine ⟨Zhf _ _ (by omega),?_⟩
  rcases h3.2 with ⟨_,h0⟩|⟨g,cap,cur,hv,_⟩
  ·omega
  ·injection hv with e1 _ _
   subst e1;refine ⟨_,rfl,fun i u hi=>?_⟩;have hi3:i < 3:=by
    have:=(List.getElem?_eq_some_iff.1 hi).1
    rw [Zhf _ _ (by omega)] at this;exact this
   rw [Zcv _ _ _ hi3] at hi;exact h3.cells (g:=g) rfl _ u hi
theorem Zav {w w':World}{base size n:Nat}{e:TypeId}{A:Option Addr}{c:Nat}{xs:List Value}{row:Option Nat}(h:w.ownsRow base e size (.slice A n c) n xs)(hg:w.grownBy w' row)(hne:∀ b∈blk A,some b≠row):w'.ownsRow base e size (.slice A n c) n xs:=by
 refine h.kept hg ?_;cases hv:(Value.slice A n c).ownBlock with
 | none=>exact .inl rfl
 | some g=>exact .inr (hne g ((Zam A n c g).1 hv))
theorem OTy.keep {w w':World}{t:Ty}{cs:List Value}{fp:List Nat}{row:Option Nat}(h:OTy w t cs fp)(hg:w.grownBy w' row)(hne:∀ b∈fp,some b≠row):OTy w' t cs fp:=by
 induction h with
 | node a ks L A c d xs fs h0 h1 h2 h3 h4 h5 ih=>
  refine .node a ks L A c d xs fs h0 (Zav h1 hg (fun b hb=>hne b (by simp [hb]))) h2 (Zav h3 hg (fun b hb=>hne b (by simp [hb]))) (fun j t hj=>ih j t hj (fun b hb=>hne b ?_)) h5;rw [List.mem_append,List.mem_flatMap];exact .inr ⟨j,List.mem_range.2 (List.getElem?_eq_some_iff.1 hj).1,hb⟩
theorem OTy.under {w w':World}{t:Ty}{cs:List Value}{fp:List Nat}(h:OTy w t cs fp)(hb:Below w.heap.size w w'):OTy w' t cs fp:=
 h.keep (row:=none) ⟨hb.os,hb.tape,hb.output,hb.size,fun i hi _=>hb.block i hi⟩ (fun b _=>by simp)
theorem OTy.nodup {w:World}{t:Ty}{cs:List Value}{fp:List Nat}(h:OTy w t cs fp):fp.Nodup:=by
 cases h with
 | node a ks L A c d xs fs _ _ _ _ _ h5=>exact h5
theorem OTy.three {w:World}{t:Ty}{cs:List Value}{fp:List Nat}(h:OTy w t cs fp):∃ L c A d,cs=[.int .i64 t.top.kind,.slice L t.top.labels.length c,.slice A t.kids.length d]:=by
 cases h with
 | node a ks L A c d xs fs=>exact ⟨L,c,A,d,rfl⟩
def MadeT (t:Ty)(w:World)(e:Ending)(w':World):Prop:=
 ∃ (L A:Option Addr) (c d:Nat) (fp:List Nat),e=.returned (.agg #[.int .i64 t.top.kind,.slice L t.top.labels.length c,.slice A t.kids.length d])/\OTy w' t [.int .i64 t.top.kind,.slice L t.top.labels.length c,.slice A t.kids.length d] fp/\
  (∀ b∈fp,w.heap.size<=b/\b < w'.heap.size)/\Below w.heap.size w w'
section
variable {lo hi:Nat} {a b c:World}
end
theorem Zbr {B:Nat}(w:World) {l:Nat}{o:Obj}(h:B<=l):Below B w (w.putObj l o):=
 ⟨rfl,rfl,rfl,by simp,fun k hk=>World.putObj_heap_other (by omega)⟩
section
variable {F:Fence} {n:Nat} {P:Program}
end
structure Held (K:Nat->Prop) (w w':World):Prop where
 os:w'.os=w.os
 tape:w'.tape=w.tape
 output:w'.output=w.output
 size:w.heap.size<=w'.heap.size
 block:∀ i,i < w.heap.size->K i->w'.heap[i]?=w.heap[i]?
section
variable {K L:Nat->Prop} {a b c:World}
theorem Held.refl (K:Nat->Prop)(w:World):Held K w w:=⟨rfl,rfl,rfl,Nat.le_refl _,fun _ _ _=>rfl⟩
theorem Held.trans (h:Held K a b)(k:Held K b c):Held K a c:=
 ⟨k.os.trans h.os,k.tape.trans h.tape,k.output.trans h.output,Nat.le_trans h.size k.size,fun i hi hd=>(k.block i (Nat.lt_of_lt_of_le hi h.size) hd).trans (h.block i hi hd)⟩
theorem Held.mono (h:Held K a b)(hk:∀ i,i < a.heap.size->L i->K i):Held L a b:=⟨h.os,h.tape,h.output,h.size,fun i hi hd=>h.block i hi (hk i hi hd)⟩
theorem Held.of_below {B:Nat}(h:Below B a b)(hk:∀ i,i < a.heap.size->K i->i < B):Held K a b:=⟨h.os,h.tape,h.output,h.size,fun i hi hd=>h.block i (hk i hi hd)⟩
theorem Held.below {B:Nat}(h:Held K a b)(hB:B<=a.heap.size)(hk:∀ i,i < B->K i):Below B a b:=⟨h.os,h.tape,h.output,h.size,fun i hi=>h.block i (by omega) (hk i hi)⟩
theorem Held.put (w:World) {l:Nat}{o:Obj}(h:¬ K l):Held K w (w.putObj l o):=
 ⟨rfl,rfl,rfl,by simp,fun i _ hd=>World.putObj_heap_other (fun e=>h (by rw [<-e];exact hd))⟩
theorem Held.set (w:World) {p:Addr}(h:¬ K p.block)(u:Value):Held K w (w.setCell p u):=
 ⟨rfl,rfl,rfl,by simp [World.setCell],fun i _ hd=>Below.heap_setCell _ _ _ _ (fun e=>h (by rw [<-e];exact hd))⟩
theorem Held.grown {row:Option Nat}(h:a.grownBy b row)(hk:∀ g,row=some g->¬ K g):Held K a b:=
 ⟨h.os,h.tape,h.output,h.size,fun i hi hd=>h.block i hi (fun e=>hk i e.symm hd)⟩
theorem Held.cell (h:Held K a b) {p:Addr}{u:Value}(hp:K p.block)(hc:a.cell? p=some u):b.cell? p=some u:=
 (World.cell?_of_block (h.block _ (World.block_lt_of_cell? a _ hc) hp)).trans hc
end
def wtA (a:TyA):Nat:=a.labels.length+total a.labels
def wt (t:Ty):Nat:=t.sum (fun a=>wtA a+1) - 1
def wtK (ks:List Ty):Nat:=ks.length+(ks.map wt).sum
theorem Zagr (t:Ty):1<=t.sum (fun a=>wtA a+1):=by
 cases t with
 | node a ks=>rw [Tr.sum_node];omega
theorem Zagt (ks:List Ty):(ks.map (Tr.sum fun a=>wtA a+1)).sum=wtK ks:=by
 unfold wtK
 induction ks with
 | nil=>rfl
 | cons t r ih=>
  have:=Zagr t
  simp only [List.map_cons,List.sum_cons,List.length_cons,ih];unfold wt
  omega
theorem Zdn (a:TyA)(ks:List Ty):wt (.node a ks)=wtA a+wtK ks:=by
 unfold wt;rw [Tr.sum_node,Zagt]
 omega
theorem Zpd {β:Type}(f g:β->Nat):∀ (xs:List β),(∀ x∈xs,f x<=g x)->(xs.map f).sum<=(xs.map g).sum
 | [],_=>by simp
 | x :: r,h=>by
  have h1:=h x (by simp);have h2:=Zpd f g r (fun y hy=>h y (by simp [hy]));simp only [List.map_cons,List.sum_cons]
  omega
theorem Zkn (t:Ty):t.size<=wt t+1:=by
 have:t.size<=t.sum (fun a=>wtA a+1):=by
  refine Tr.ind (m:=fun t=>t.size<=t.sum (fun a=>wtA a+1)) (fun a ks ih=>?_) t;rw [Zet,Tr.sum_node];have h:=Zpd Tr.size (Tr.sum fun a=>wtA a+1) ks ih
  omega
 unfold wt
 omega
def SzT (n:Nat)(left:Int)(w:World)(e:Ending)(w':World):Prop:=∃ r:Int,e=.returned (.int .i64 r)/\r<=left/\-1<=r/\(0<=r->r+n=left)/\Below w.heap.size w w'
def SzK (t:Ty):Prop:=∀ (w:World)(cs:List Value)(left:Int),RTy w t cs->0<=left->left<=1048576->Calls Tryz.prog 26 #[.agg cs.toArray,.int .i64 left] w (SzT (wt t) left w)
theorem Zut (ks:List Ty)(ih:∀ t∈ks,SzK t)(w:World)(A:Option Addr)(d:Nat)(left:Int)(hp:RKids w A ks)(hl:ks.length<=9223372036854775807)(h0:0<=left)(h1:left<=1048576) :
  Calls Tryz.prog 60 #[.slice A ks.length d,.int .i64 left] w (SzT (wtK ks) left w):=by
 have HP:=hQ hp;have HI:=hQ ih;clear hp ih;by_cases hneg:left - ks.length < 0
 ·go_enter Tryz.func60,Tryz.ntmps60
  go_wp2_with fail
  go_ret
  exact ⟨-1,rfl,by omega,by omega,by omega,Below.refl _ _⟩
 ·go_enter Tryz.func60,Tryz.ntmps60
  go_wp2_with fail
  go_loopw [1,5] (fun l i wr=>∃ k:Nat,k<=ks.length/\i=.int .i64 k/\∃ r:Int,l=.int .i64 r/\0<=r/\r+ks.length+((ks.take k).map wt).sum=left/\Below w.heap.size w wr) (fun _ i _=>ks.length - (intOf i).toNat)
  case atStart=>exact ⟨0,Nat.zero_le _,rfl,_,rfl,by omega,by simp,Below.refl _ _⟩
  case round=>
   obtain ⟨k,hk,rfl,r,rfl,hr0,hr,hb⟩:=hrel;have hr1:r<=1048576:=by omega
   have HR:=hQ hr;clear hr;by_cases hlt:k < ks.length
   ·obtain ⟨ad,p,c0,c1,c2,rfl,hpe,hrt,q0,q1,q2⟩:=Zal HP.out hb hlt
    have hst:=Zax wt ks k hlt;have hc:=HI.out ks[k] (List.getElem_mem hlt) wr [c0,c1,c2] r hrt hr0 hr1;obtain ⟨m,hm⟩:∃ m,wt ks[k]=m:=⟨_,rfl⟩;rw [hm] at hst hc;have HC:=hQ hc;have HST:=hQ hst;clear hc hrt hst hm;go_wp2_with fail;refine HC.out.mono ?_;rintro e w2 ⟨r',rfl,hr2,hr3,hr4,hb2⟩;have HB3:=hQ (hb.trans (hb2.mono hb.size));have HR4:=hQ hr4;clear hr4 hb2;by_cases hz:r' < 0
    ·go_wp2_with fail
     go_ret
     exact ⟨-1,rfl,by omega,by omega,by omega,HB3.out⟩
    ·go_wp2_with fail
     go_roundw
     case rel=>exact ⟨k+1,hlt,by go_num,r',rfl,by omega,by have h1:=HR4.out (by omega);have h2:=HR.out;have h3:=HST.out;omega,HB3.out⟩
     case measure=>simp [intOf];omega
   ·have he:k=ks.length:=by omega
    have HS:Hid (r+wtK ks=left):=by
     have h:=HR.out;rw [he,List.take_length] at h
     show _=_
     unfold wtK
     omega
    clear he;go_wp2_with fail;go_ret;exact ⟨r,rfl,by have:=HR.out;omega,by omega,fun _=>HS.out,hb⟩
theorem Zmc:∀ t:Ty,SzK t:=by
 refine Tr.ind ?_
 intro a ks ih w cs left h h0 h1
 obtain ⟨L,c,A,d,rfl,k1,k2,k3,k4,k5,k6,hp⟩:=h.out;have HN:=hQ (Zdn a ks);obtain ⟨W1,hW1⟩:∃ W1,w.alloc (.cells #[.int .i64 a.kind,.slice L a.labels.length c,.slice A ks.length d] 29)=W1:=⟨_,rfl⟩;have hb0:Below w.heap.size w W1:=by rw [<-hW1];exact bQ.alloc nQ _
 have hbx1:W1.cell? ⟨w.heap.size,1,none⟩=some (.slice L a.labels.length c):=by rw [<-hW1];exact cell_of_row _ _ 1 _ _ _ (heap_alloc_new w _)
 have hbx2:W1.cell? ⟨w.heap.size,2,none⟩=some (.slice A ks.length d):=by rw [<-hW1];exact cell_of_row _ _ 2 _ _ _ (heap_alloc_new w _)
 have HW1:=hQ hW1;have HP:=hQ (hp.keep hb0);have HL:=hQ (k1.below hb0);have HB0:=hQ hb0;have HI:=hQ ih;have HX:=hQ k5;clear hp ih hb0 hW1 k1 k5 h;go_enter Tryz.func26,Tryz.ntmps26;go_wp2_with fail;rw [HW1.out];go_wp2_with fail;refine (Zht L c a.labels left W1 HL.out k4 HX.out h0 h1).mono ?_;rintro e w' ⟨r,rfl,hr1,hr2,hr3,rfl⟩;have HR3:=hQ hr3;clear hr3;by_cases hneg:r < 0
 ·go_wp2_with fail
  go_ret
  exact ⟨-1,rfl,by omega,by omega,by omega,HB0.out⟩
 ·go_wp2_with fail
  refine (Zut ks HI.out W1 A d r HP.out k6 (by omega) (by omega)).mono ?_;rintro e w2 ⟨r',rfl,hs1,hs2,hs3,hb2⟩;have HS3:=hQ hs3;have HB2:=hQ (HB0.out.trans (hb2.mono HB0.out.size));clear hs3 hb2;by_cases hz:r' < 0
  ·go_wp2_with fail
   go_ret
   exact ⟨-1,rfl,by omega,by omega,by omega,HB2.out⟩
  ·go_wp2_with fail
   go_ret
   refine ⟨r',rfl,by omega,by omega,fun _=>?_,HB2.out⟩;have e1:=HR3.out (by omega);have e2:=HS3.out (by omega);rw [HN.out];unfold wtA
   omega
def Box3 (w:World)(g:Nat)(t:TypeId)(a b c:Value):Prop:=w.heap[g]?=some (.cells #[a,b,c] t (0,0))
section
variable {w w':World} {g:Nat} {t:TypeId} {a b c:Value}
theorem Box3.new (w:World)(t:TypeId)(a b c:Value):Box3 (w.alloc (.cells #[a,b,c] t)) w.heap.size t a b c:=heap_alloc_new w _
theorem Box3.lt (h:Box3 w g t a b c):g < w.heap.size:=(Array.getElem?_eq_some_iff.1 h).1
theorem Box3.c0 (h:Box3 w g t a b c):w.cell? ⟨g,0,none⟩=some a:=cell_of_row w g 0 _ t (0,0) h
theorem Box3.c1 (h:Box3 w g t a b c):w.cell? ⟨g,1,none⟩=some b:=cell_of_row w g 1 _ t (0,0) h
theorem Box3.c2 (h:Box3 w g t a b c):w.cell? ⟨g,2,none⟩=some c:=cell_of_row w g 2 _ t (0,0) h
theorem Box3.free (h:Box3 w g t a b c)(i:Nat):w.frozen? ⟨g,i,none⟩=false:=frozen_of_row w g i _ t h
theorem Box3.under (h:Box3 w g t a b c) {B:Nat}(hb:Below B w w')(hg:g < B):Box3 w' g t a b c:=(hb.block g hg).trans h
theorem Box3.alloc (h:Box3 w g t a b c)(o:Obj):Box3 (w.alloc o) g t a b c:=(((bQ.alloc nQ o:Below w.heap.size w (w.alloc o))).block g h.lt).trans h
theorem Box3.far (h:Box3 w g t a b c) {p:Addr}(hp:g≠p.block)(u:Value):Box3 (w.setCell p u) g t a b c:=(Below.heap_setCell w p u g hp).trans h
theorem Box3.set0 (h:Box3 w g t a b c)(u:Value):Box3 (w.setCell ⟨g,0,none⟩ u) g t u b c:=heap_setCell_same w g 0 _ t u h
theorem Box3.set1 (h:Box3 w g t a b c)(u:Value):Box3 (w.setCell ⟨g,1,none⟩ u) g t a u c:=heap_setCell_same w g 1 _ t u h
theorem Box3.set2 (h:Box3 w g t a b c)(u:Value):Box3 (w.setCell ⟨g,2,none⟩ u) g t a b u:=heap_setCell_same w g 2 _ t u h
end
theorem Zlu:(Tryz.prog.info? 38).map (fun i=>(i.zero,i.size,i.bytes))=some (some (.agg #[.int .i64 0,.slice none 0 0,.slice none 0 0]),3,56):=by kernel_rfl
def ToK (t:Ty):Prop:=∀ (w:World)(cs:List Value),RTy w t cs->wt t<=1048576->Calls Tryz.prog 35 #[.agg cs.toArray] w (MadeT t w)
def ToInv (ks:List Ty)(w:World)(i:Value)(wr:World):Prop:=
 ∃ (k:Nat) (xs:List Value) (fs:Nat->List Nat),k<=ks.length/\i=.int .i64 k/\wr.ownsRow w.heap.size 38 3 (.slice (some ⟨w.heap.size,0,none⟩) ks.length ks.length) ks.length xs/\
  (∀ j t,j < k->ks[j]?=some t->OTy wr t (part3 xs j) (fs j))/\((List.range k).flatMap fs).Nodup/\(∀ j,j < k->∀ b∈fs j,w.heap.size < b/\b < wr.heap.size)/\Below w.heap.size w wr
def Zabx (ks:List Ty)(w:World)(e:Ending)(w':World):Prop:=
 ∃ (A:Option Addr) (d:Nat) (xs:List Value) (fs:Nat->List Nat),e=.returned (.slice A ks.length d)/\w'.ownsRow 0 38 3 (.slice A ks.length d) ks.length xs/\(∀ j t,ks[j]?=some t->OTy w' t (part3 xs j) (fs j))/\
  (blk A ++ (List.range ks.length).flatMap fs).Nodup/\(∀ b∈blk A ++ (List.range ks.length).flatMap fs,w.heap.size<=b/\b < w'.heap.size)/\Below w.heap.size w w'
theorem Zel (fs:Nat->List Nat)(k:Nat)(fp:List Nat):(List.range (k+1)).flatMap (fun j=>if j=k then fp else fs j)=(List.range k).flatMap fs ++ fp:=by
 rw [List.range_succ,List.flatMap_append]
 congr 1
 ·have:∀ l:List Nat,(∀ j∈l,j≠k)->l.flatMap (fun j=>if j=k then fp else fs j)=l.flatMap fs:=by
   intro l
   induction l with
   | nil=>intro _;rfl
   | cons j r ih=>
    intro h
    rw [List.flatMap_cons,List.flatMap_cons,ih (fun i hi=>h i (by simp [hi])),if_neg (h j (by simp))]
  exact this _ (fun j hj=>by have:=List.mem_range.1 hj;omega)
 ·simp
theorem Zez {fs:Nat->List Nat}{k lo hi:Nat}(h:∀ j,j < k->∀ b∈fs j,lo < b/\b < hi):∀ b∈(List.range k).flatMap fs,lo < b/\b < hi:=by
 intro b hb
 obtain ⟨j,hj,hb⟩:=List.mem_flatMap.1 hb;exact h j (List.mem_range.1 hj) b hb
theorem Zux {ks:List Ty}{w wr w2:World}{k:Nat}{xs:List Value}{fs:Nat->List Nat}{fp:List Nat}{r0 r1 r2:Value}{i:Value}(hk:k < ks.length)(hi:i=.int .i64 ((k+1:Nat):Int))
  (hown:wr.ownsRow w.heap.size 38 3 (.slice (some ⟨w.heap.size,0,none⟩) ks.length ks.length) ks.length xs) (hkid:∀ j t,j < k->ks[j]?=some t->OTy wr t (part3 xs j) (fs j)) (hnd:((List.range k).flatMap fs).Nodup)
  (hbd:∀ j,j < k->∀ b∈fs j,w.heap.size < b/\b < wr.heap.size) (hb:Below w.heap.size w wr) (hb2:Below wr.heap.size wr w2) (hot:OTy w2 ks[k] [r0,r1,r2] fp) (hfp:∀ b∈fp,wr.heap.size<=b/\b < w2.heap.size) :
  ToInv ks w i (Zsm w2 w.heap.size k r0 r1 r2):=by
 have hxl:xs.length=ks.length * 3:=hown.1;have hlt:w.heap.size < wr.heap.size:=(hown.lt w.heap.size rfl).2;have ho2:w2.ownsRow w.heap.size 38 3 (.slice (some ⟨w.heap.size,0,none⟩) ks.length ks.length) ks.length xs:=
  hown.kept (row:=none) ⟨hb2.os,hb2.tape,hb2.output,hb2.size,fun i hi _=>hb2.block i hi⟩ (.inr (by simp [Value.ownBlock]))
 obtain ⟨h3,hg3⟩:=Zuf ho2 k r0 r1 r2;have hs2:=hb2.size;have hs3:=hg3.size;refine ⟨k+1,put3 xs k r0 r1 r2,fun j=>if j=k then fp else fs j,hk,hi,h3,fun j t hj ht=>?_,?_,fun j hj b hbm=>?_,(hb.trans (hb2.mono hb.size)).grown hg3 (by omega) (fun q hq=>by injection hq with hq;omega)⟩
 ·show OTy _ _ _ (if j=k then fp else fs j)
  by_cases e:j=k
  ·subst e
   rw [List.getElem?_eq_getElem hk] at ht;injection ht with ht
   subst ht;rw [if_pos rfl,Zaef xs j r0 r1 r2 (by omega)];exact hot.keep hg3 (fun b hbm e=>by injection e with e;have:=(hfp b hbm).1;omega)
  ·rw [if_neg e,Zuk xs k j r0 r1 r2 e]
   exact ((hkid j t (by omega) ht).under hb2).keep hg3 (fun b hbm e=>by injection e with e;have:=(hbd j (by omega) b hbm).1;omega)
 ·rw [Zel]
  refine List.nodup_append.2 ⟨hnd,?_,fun a ha b hb' e=>?_⟩
  ·exact hot.nodup
  ·have h1:=Zez hbd a ha
   have h2:=hfp b hb'
   omega
 ·change b∈(if j=k then fp else fs j) at hbm
  by_cases e:j=k
  ·rw [if_pos e] at hbm
   have:=hfp b hbm
   omega
  ·rw [if_neg e] at hbm
   have:=hbd j (by omega) b hbm
   omega
theorem Zuw (ks:List Ty)(ih:∀ t∈ks,ToK t)(w:World)(A:Option Addr)(d:Nat)(hp:RKids w A ks)(hw:wtK ks<=1048576) :
  Calls Tryz.prog 70 #[.slice A ks.length d] w (Zabx ks w):=by
 obtain ⟨i0,hi,hz0,hz1,hz2⟩:=info_parts Zlu;have hl:ks.length<=1048576:=by unfold wtK at hw;omega
 have HP:=hQ hp;have HI:=hQ ih;have HWT:=hQ hw;clear hp ih hw;go_enter Tryz.func70,Tryz.ntmps70;go_wp2_with (at_make;refine wpList_make_full _ rfl _ _ 36 rfl w.heap.size 38 i0 (.agg #[.int .i64 0,.slice none 0 0,.slice none 0 0]) 3 Tryz.underlying36 hi hz0 hz1 _ _ _ _ ks.length rfl rfl rfl rfl (by rw [hz2];omega) (by unfold maxLen;omega) nQ ?_;intro w0 hown0 hgrow0);have hb0:Below w.heap.size w w0:=bQ.grown hgrow0 nQ (fun k hk=>by cases hk);go_loopw [4] (fun i wr=>ToInv ks w i wr) (fun i _=>ks.length - (intOf i).toNat)
 case atStart=>exact ⟨0,_,fun _=>[],Nat.zero_le _,rfl,hown0,fun j t hj=>by omega,by simp,fun j hj=>by omega,hb0⟩
 case round=>
  obtain ⟨k,xs,fs,hk,rfl,hown,hkid,hnd,hbd,hb⟩:=hrel;have HO:=hQ hown;have HK:=hQ hkid;have HN:=hQ hnd;have HBD:=hQ hbd;have HB:=hQ hb;clear hown hkid hnd hbd;by_cases hlt:k < ks.length
  ·obtain ⟨ad,p,c0,c1,c2,rfl,hpe,hrt,q0,q1,q2⟩:=Zal HP.out hb hlt
   have hwk:wt ks[k]<=1048576:=by
    have h1:=Zax wt ks k hlt;have h2:=Zde wt ks (k+1);have h3:=HWT.out;unfold wtK at h3
    omega
   have HC:=hQ (HI.out ks[k] (List.getElem_mem hlt) wr [c0,c1,c2] hrt hwk);clear hrt hwk;go_wp2_with fail;refine HC.out.mono ?_;rintro e w2 ⟨L2,A2,l2,d2,fp,rfl,hot,hfp,hb2⟩;generalize ks[k].top.kind=x0 at hot ⊢;generalize ks[k].top.labels.length=x1 at hot ⊢;generalize ks[k].kids.length=x2 at hot ⊢;have hxl:xs.length=ks.length * 3:=HO.out.1;have hgrow2:wr.grownBy w2 none:=⟨hb2.os,hb2.tape,hb2.output,hb2.size,fun i hi _=>hb2.block i hi⟩;have ho2:=HO.out.kept hgrow2 (.inr (by simp [Value.ownBlock]));have m0:w2.cell? ⟨w.heap.size,k * 3,none⟩=some (xs[k * 3]'(by omega)):=by rw [ho2.cellAt _ (by omega)];exact List.getElem?_eq_getElem _
   have m1:w2.cell? ⟨w.heap.size,k * 3+1,none⟩=some (xs[k * 3+1]'(by omega)):=by rw [ho2.cellAt _ (by omega)];exact List.getElem?_eq_getElem _
   have m2:w2.cell? ⟨w.heap.size,k * 3+2,none⟩=some (xs[k * 3+2]'(by omega)):=by rw [ho2.cellAt _ (by omega)];exact List.getElem?_eq_getElem _
   have f0:=ho2.frozenAt (k * 3);have f1:=ho2.frozenAt (k * 3+1);have f2:=ho2.frozenAt (k * 3+2);have HR:Hid (∀ i,i=Value.int .i64 ((k+1:Nat):Int)->ToInv ks w i (Zsm w2 w.heap.size k (.int .i64 x0) (.slice L2 x1 l2) (.slice A2 x2 d2))):=fun i hi=>Zux hlt hi HO.out HK.out HN.out HBD.out HB.out hb2 hot hfp
   clear hot hfp hb2 ho2 hgrow2 hb;go_wp2_with fail;go_roundw
   case rel=>exact HR.out _ (by go_num)
   case measure=>simp [intOf];omega
  ·have he:k=ks.length:=by omega
   subst he;have HR:Hid (Zabx ks w (.returned (.slice (some ⟨w.heap.size,0,none⟩) ks.length ks.length)) wr):=by
    have hlt:=(HO.out.lt w.heap.size rfl).2;refine ⟨_,_,xs,fs,rfl,⟨HO.out.1,HO.out.2.imp id fun ⟨g,cap,cur,h1,_,h3⟩=>⟨g,cap,cur,h1,Nat.zero_le _,h3⟩⟩,fun j t hj=>HK.out j t (List.getElem?_eq_some_iff.1 hj).1 hj,?_,fun b hbm=>?_,hb⟩
    ·show (w.heap.size :: _).Nodup
     refine List.nodup_cons.2 ⟨fun hm=>?_,HN.out⟩
     have:=Zez HBD.out _ hm
     omega
    ·rcases List.mem_append.1 hbm with h|h
     ·simp [blk] at h
      omega
     ·have:=Zez HBD.out b h
      omega
   clear HO HK HN HBD hb;go_wp2_with fail;go_ret;exact HR.out
theorem Zmd:∀ t:Ty,ToK t:=by
 refine Tr.ind ?_
 intro a ks ih w cs h hw
 obtain ⟨L,c,A,d,rfl,k1,k2,k3,k4,k5,k6,hp⟩:=h.out;rw [Zdn] at hw;have hl:a.labels.length<=1048576:=by unfold wtA at hw;omega
 have hk:wtK ks<=1048576:=by omega
 obtain ⟨W1,hW1⟩:∃ W1,((w.alloc (.cells #[.int .i64 a.kind,.slice L a.labels.length c,.slice A ks.length d] 29)).alloc (.cells #[.int .i64 0,.slice none 0 0,.slice none 0 0] 38)).alloc (.cells #[.int .i64 a.kind,.slice none 0 0,.slice none 0 0] 38)=W1:=⟨_,rfl⟩;obtain ⟨H,hH⟩:∃ H,w.heap.size=H:=⟨_,rfl⟩;have b0:Box3 W1 H 29 (.int .i64 a.kind) (.slice L a.labels.length c) (.slice A ks.length d):=by rw [<-hW1,<-hH];exact ((Box3.new w _ _ _ _).alloc _).alloc _
 have b1:Box3 W1 (H+1) 38 (.int .i64 0) (.slice none 0 0) (.slice none 0 0):=by
  rw [<-hW1,<-hH]
  have:=(Box3.new (w.alloc (.cells #[.int .i64 a.kind,.slice L a.labels.length c,.slice A ks.length d] 29)) 38 (.int .i64 0) (.slice none 0 0) (.slice none 0 0)).alloc (.cells #[.int .i64 a.kind,.slice none 0 0,.slice none 0 0] 38)
  simpa using this
 have b2:Box3 W1 (H+1+1) 38 (.int .i64 a.kind) (.slice none 0 0) (.slice none 0 0):=by
  rw [<-hW1,<-hH]
  have:=Box3.new ((w.alloc (.cells #[.int .i64 a.kind,.slice L a.labels.length c,.slice A ks.length d] 29)).alloc (.cells #[.int .i64 0,.slice none 0 0,.slice none 0 0] 38)) 38 (.int .i64 a.kind) (.slice none 0 0) (.slice none 0 0)
  simpa using this
 have hb1:Below w.heap.size w W1:=by rw [<-hW1];exact ((bQ.alloc nQ _).alloc (by simp) _).alloc (by simp;omega) _
 have HW1:=hQ hW1;have HP:=hQ hp;have HL:=hQ (k1.below hb1);have HB1:=hQ hb1;have HX:=hQ k5;have HI:=hQ ih;have B0:=hQ b0;have B1:=hQ b1;have B2:=hQ b2;have HH:=hQ hH;clear hp ih k1 k5 h hw hW1 b0 b1 b2 hb1;go_enter Tryz.func35,Tryz.ntmps35;go_wp2_with fail;rw [HW1.out];refine (Znx L c a.labels W1 HL.out hl).mono ?_;rintro e w3 ⟨LL,lc,rfl,rl,hb3⟩;have hz3:H+1+1 < W1.heap.size:=B2.out.lt;have r0:=B0.out.under hb3 (by omega);have r1:=B1.out.under hb3 (by omega);have r2:=B2.out.under hb3 (by omega);have RL:=hQ rl;have HB3:=hQ (HB1.out.trans (hb3.mono HB1.out.size));have e1:=r2.c1;have e2:=r2.free 1;have e3:=r0.c2;have R0:=hQ r0;have R1:=hQ r1;have R2:=hQ r2;clear r0 r1 r2 rl hb3;go_wp2_with fail;generalize hW4:w3.setCell ⟨H+1+1,1,none⟩ (.slice LL a.labels.length lc)=W4;have hz4:W4.heap.size=w3.heap.size:=by rw [<-hW4];simp [World.setCell]
 have hg4:w3.grownBy W4 (some (H+1+1)):=by rw [<-hW4];exact Zaa (gQ) _
 have s0:Box3 W4 H 29 (.int .i64 a.kind) (.slice L a.labels.length c) (.slice A ks.length d):=by rw [<-hW4];exact R0.out.far (by show H≠H+1+1;omega) _
 have s1:Box3 W4 (H+1) 38 (.int .i64 0) (.slice none 0 0) (.slice none 0 0):=by rw [<-hW4];exact R1.out.far (by show H+1≠H+1+1;omega) _
 have s2:Box3 W4 (H+1+1) 38 (.int .i64 a.kind) (.slice LL a.labels.length lc) (.slice none 0 0):=by rw [<-hW4];exact R2.out.set1 _
 have hb4:Below w.heap.size w W4:=HB3.out.grown hg4 HB3.out.size (fun q hq=>by injection hq with hq;have:=HH.out;omega);have l4:Row W4 W1.heap.size w3.heap.size LL a.labels.length lc (a.labels.map Value.string):=RL.out.turned (lo':=H+1+1) (hi':=H+1+1+1) ⟨some (H+1+1),hg4,fun q hq=>by injection hq with hq;omega⟩ (.inr (by omega));have HB4:=hQ hb4;have S0:=hQ s0;have S1:=hQ s1;have S2:=hQ s2;have L4:=hQ l4;have N34:=hQ hz4;clear hW4 hz4 hg4 s0 s1 s2 hb4 l4 e1 e2 e3;refine (Zuw ks HI.out W4 A d (HP.out.keep HB4.out) hk).mono ?_;rintro e w5 ⟨A5,d5,xs,fs,rfl,ho5,hk5,hn5,hd5,hb5⟩;have hzz:H+1+1 < W4.heap.size:=S2.out.lt;have t1:=S1.out.under hb5 (by omega);have t2:=S2.out.under hb5 (by omega);have g0:=t2.c0;have g1:=t2.c1;have g2:=t2.c2;have g3:=t2.free 2;have g4:=t1.c0;have g5:=t1.c1;have g6:=t1.c2;have g7:=t1.free 0;have g8:=t1.free 1;have g9:=t1.free 2;have HO5:=hQ ho5;have HK5:=hQ hk5;have HN5:=hQ hn5;have HD5:=hQ hd5;have HB5:=hQ hb5;have T1:=hQ t1;clear ho5 hk5 hn5 hd5 hb5 t1 t2;have L5:=hQ (L4.out.below HB5.out);have T2:=hQ (S2.out.under HB5.out (by omega));go_wp2_with fail;generalize hV:w5.setCell ⟨H+1+1,2,none⟩ (.slice A5 ks.length d5)=V;generalize hU:((V.setCell ⟨H+1,0,none⟩ (.int .i64 a.kind)).setCell ⟨H+1,1,none⟩ (.slice LL a.labels.length lc)).setCell ⟨H+1,2,none⟩ (.slice A5 ks.length d5)=U;have hg5:w5.grownBy V (some (H+1+1)):=by rw [<-hV];exact Zaa (gQ) _
 have hg6:V.grownBy U (some (H+1)):=by rw [<-hU];exact Zaa (Zaa (Zaa (gQ) _) _) _
 have u1:Box3 U (H+1) 38 (.int .i64 a.kind) (.slice LL a.labels.length lc) (.slice A5 ks.length d5):=by
  rw [<-hU,<-hV];exact ((((T1.out.far (by show H+1≠H+1+1;omega) _).set0 _).set1 _).set2 _)
 have hsz5:=hg5.size;have hsz6:=hg6.size;have hww:=HH.out;have hz15:=HB5.out.size;have hn34:=N34.out;have hw13:=RL.out.1;have hbU:Below w.heap.size w U:=((HB4.out.trans (HB5.out.mono HB4.out.size)).grown hg5 (HB4.out.trans (HB5.out.mono HB4.out.size)).size (fun q hq=>by injection hq with hq;omega)).grown hg6 (by have:=(HB4.out.trans (HB5.out.mono HB4.out.size)).size;omega) (fun q hq=>by injection hq with hq;omega);have lU:=((L5.out.turned (lo':=H+1+1) (hi':=H+1+1+1) ⟨_,hg5,fun q hq=>by injection hq with hq;omega⟩ (.inr (by omega))).turned (lo':=H+1) (hi':=H+1+1) ⟨_,hg6,fun q hq=>by injection hq with hq;omega⟩ (.inr (by omega)));have hLb:∀ b∈blk LL,W1.heap.size<=b/\b < w3.heap.size:=fun b hb=>⟨(lU.1.lt b ((Zam LL _ lc b).2 hb)).1,lU.2 b ((Zam LL _ lc b).2 hb)⟩
 have hAb:=HD5.out;have hne:∀ b∈blk A5 ++ (List.range ks.length).flatMap fs,H+1+1 < b:=fun b hb=>by have:=(hAb b hb).1;omega
 have hO:OTy U (.node a ks) [.int .i64 a.kind,.slice LL a.labels.length lc,.slice A5 ks.length d5] (blk LL ++ blk A5 ++ (List.range ks.length).flatMap fs):=by
  refine .node a ks LL A5 lc d5 xs fs ⟨k2,k3,k4,HX.out⟩ (Znd lU.1 (Nat.zero_le _)) k6 ?_ (fun j t hj=>?_) ?_
  ·exact Zav (Zav HO5.out hg5 (fun b hb e=>by injection e with e;have:=hne b (by simp [hb]);omega)) hg6 (fun b hb e=>by injection e with e;have:=hne b (by simp [hb]);omega)
  ·have hin:∀ b∈fs j,H+1+1 < b:=fun b hb=>hne b (by
    rw [List.mem_append,List.mem_flatMap];exact .inr ⟨j,List.mem_range.2 (List.getElem?_eq_some_iff.1 hj).1,hb⟩)
   exact ((HK5.out j t hj).keep hg5 (fun b hb e=>by injection e with e;have:=hin b hb;omega)).keep hg6 (fun b hb e=>by injection e with e;have:=hin b hb;omega)
  ·rw [List.append_assoc]
   refine List.nodup_append.2 ⟨?_,HN5.out,fun x hx y hy e=>?_⟩
   ·cases LL <;> simp [blk]
   ·have h1:=hLb x hx
    have h2:=hAb y hy
    omega
 have q0:=u1.c0;have q1:=u1.c1;have q2:=u1.c2;have HR:Hid (MadeT (.node a ks) w (.returned (.agg #[.int .i64 a.kind,.slice LL a.labels.length lc,.slice A5 ks.length d5])) U):=by
  refine ⟨LL,A5,lc,d5,_,rfl,hO,fun b hb=>?_,hbU⟩;rw [List.append_assoc,List.mem_append] at hb
  rcases hb with hb|hb
  ·have:=hLb b hb;omega
  ·have:=hAb b hb;omega
 clear hO hbU hAb hLb hne lU hg5 hg6 hV hU u1;exact bodyPost_ret (v:=.agg #[.int .i64 a.kind,.slice LL a.labels.length lc,.slice A5 ks.length d5]) (by simp [results,Tryz.results35,go_sem,q0,q1,q2]) rfl HR.out
end Go.Proofs.YtlcedleebbgebaaGreatDoor
