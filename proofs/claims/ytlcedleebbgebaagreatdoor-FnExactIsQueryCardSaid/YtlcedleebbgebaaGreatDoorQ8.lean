/-
  Merged by program: TeOwn, TeOnly, Box8, TeSz, TeTo.
-/
import Derived.Test.YtlcedleebbgebaaGreatDoorQ7
set_option maxRecDepth 100000
set_option maxHeartbeats 3200000
namespace Go.Proofs.YtlcedleebbgebaaGreatDoor
open Go.RowKit
inductive OTe (w:World):Te->List Value->List Nat->Prop where
 | node (a:TeA) (ks:List Te) (TL TA L A:Option Addr) (tc td c d:Nat) (fpT:List Nat) (xs:List Value) (fs:Nat->List Nat) (h0:a.ok) (hT:OTy w a.type [.int .i64 a.type.top.kind,.slice TL a.type.top.labels.length tc,.slice TA a.type.kids.length td] fpT)
   (h1:w.ownsRow 0 9 1 (.slice L a.labels.length c) a.labels.length (a.labels.map Value.string)) (h2:ks.length<=9223372036854775807)
   (h3:w.ownsRow 0 49 8 (.slice A ks.length d) ks.length xs) (h4:∀ j t,ks[j]?=some t->OTe w t (part8 xs j) (fs j)) (h5:(fpT ++ (blk L ++ blk A ++ (List.range ks.length).flatMap fs)).Nodup) :
   OTe w (.node a ks) [.int .i64 a.kind,.string a.name,.int .i64 a.num,.int .i64 a.type.top.kind,.slice TL a.type.top.labels.length tc,.slice TA a.type.kids.length td,.slice L a.labels.length c,.slice A ks.length d] (fpT ++ (blk L ++ blk A ++ (List.range ks.length).flatMap fs))
theorem OTe.reads {w:World}{t:Te}{cs:List Value}{fp:List Nat}(h:OTe w t cs fp):RTe w t cs:=by
 induction h with
 | node a ks TL TA L A tc td c d fpT xs fs h0 hT h1 h2 h3 _ _ ih=>
  have hx:xs.length=ks.length * 8:=h3.1;refine .node a ks TL TA L A tc td c d (part8 xs) hT.reads (Sl.of_own h1) h0 h2 ?_ (fun j t hj=>ih j t hj) (fun j t hj=>?_)
  ·rcases h3.2 with ⟨_,h0⟩|⟨g,cap,cur,hv,_,_,hc,_⟩
   ·omega
   ·injection hv with _ _ e3
    omega
  have hj:=(List.getElem?_eq_some_iff.1 hj).1
  rcases h3.2 with ⟨_,h0⟩|⟨g,cap,cur,hv,_⟩
  ·omega
  ·injection hv with e1 _ _
   subst e1;refine ⟨_,rfl,fun i u hi=>?_⟩;have hi3:i < 8:=by
    have:=(List.getElem?_eq_some_iff.1 hi).1
    rw [Zor _ _ (by omega)] at this;exact this
   rw [Zhg _ _ _ hi3] at hi;exact h3.cells (g:=g) rfl _ u hi
theorem OTe.keep {w w':World}{t:Te}{cs:List Value}{fp:List Nat}{row:Option Nat}(h:OTe w t cs fp)(hg:w.grownBy w' row)(hne:∀ b∈fp,some b≠row):OTe w' t cs fp:=by
 induction h with
 | node a ks TL TA L A tc td c d fpT xs fs h0 hT h1 h2 h3 h4 h5 ih=>
  refine .node a ks TL TA L A tc td c d fpT xs fs h0 (hT.keep hg (fun b hb=>hne b (by simp [hb]))) (Zav h1 hg (fun b hb=>hne b (by simp [hb]))) h2 (Zav h3 hg (fun b hb=>hne b (by simp [hb]))) (fun j t hj=>ih j t hj (fun b hb=>hne b ?_)) h5;rw [List.mem_append,List.mem_append,List.mem_flatMap];exact .inr (.inr ⟨j,List.mem_range.2 (List.getElem?_eq_some_iff.1 hj).1,hb⟩)
theorem OTe.under {w w':World}{t:Te}{cs:List Value}{fp:List Nat}(h:OTe w t cs fp)(hb:Below w.heap.size w w'):OTe w' t cs fp:=
 h.keep (row:=none) ⟨hb.os,hb.tape,hb.output,hb.size,fun i hi _=>hb.block i hi⟩ (fun b _=>by simp)
theorem OTe.nodup {w:World}{t:Te}{cs:List Value}{fp:List Nat}(h:OTe w t cs fp):fp.Nodup:=by
 cases h with
 | node a ks TL TA L A tc td c d fpT xs fs _ _ _ _ _ _ h5=>exact h5
def Zyt (t:Te)(TL:Option Addr)(tc:Nat)(TA:Option Addr)(td:Nat)(L:Option Addr)(c:Nat)(A:Option Addr)(d:Nat):List Value:=[.int .i64 t.top.kind,.string t.top.name,.int .i64 t.top.num,.int .i64 t.top.type.top.kind,.slice TL t.top.type.top.labels.length tc,.slice TA t.top.type.kids.length td,.slice L t.top.labels.length c,.slice A t.kids.length d]
def Zaby (t:Te)(w:World)(e:Ending)(w':World):Prop:=
 ∃ (TL:Option Addr) (tc:Nat) (TA:Option Addr) (td:Nat) (L:Option Addr) (c:Nat) (A:Option Addr) (d:Nat) (fp:List Nat),e=.returned (.agg #[.int .i64 t.top.kind,.string t.top.name,.int .i64 t.top.num,.int .i64 t.top.type.top.kind,.slice TL t.top.type.top.labels.length tc,.slice TA t.top.type.kids.length td,.slice L t.top.labels.length c,.slice A t.kids.length d])/\
  OTe w' t (Zyt t TL tc TA td L c A d) fp/\(∀ b∈fp,w.heap.size<=b/\b < w'.heap.size)/\Below w.heap.size w w'
def Tr.cntE (t:Te):Nat:=t.sum fun a=>3+a.type.cnt+a.labels.length
def cntEK (ks:List Te):Nat:=(ks.map Tr.cntE).sum
theorem Zwe (a:TeA)(ks:List Te):(Tr.node a ks).cntE=3+a.type.cnt+a.labels.length+cntEK ks:=Tr.sum_node _ a ks
def Box8 (w:World)(g:Nat)(t:TypeId)(a0 a1 a2 a3 a4 a5 a6 a7:Value):Prop:=w.heap[g]?=some (.cells #[a0,a1,a2,a3,a4,a5,a6,a7] t (0,0))
section
variable {w w':World} {g:Nat} {t:TypeId} {a0 a1 a2 a3 a4 a5 a6 a7:Value}
theorem Box8.new (w:World)(t:TypeId)(a0 a1 a2 a3 a4 a5 a6 a7:Value):Box8 (w.alloc (.cells #[a0,a1,a2,a3,a4,a5,a6,a7] t)) w.heap.size t a0 a1 a2 a3 a4 a5 a6 a7:=heap_alloc_new w _
theorem Box8.lt (h:Box8 w g t a0 a1 a2 a3 a4 a5 a6 a7):g < w.heap.size:=(Array.getElem?_eq_some_iff.1 h).1
theorem Box8.c0 (h:Box8 w g t a0 a1 a2 a3 a4 a5 a6 a7):w.cell? ⟨g,0,none⟩=some a0:=cell_of_row w g 0 _ t (0,0) h
theorem Box8.c1 (h:Box8 w g t a0 a1 a2 a3 a4 a5 a6 a7):w.cell? ⟨g,1,none⟩=some a1:=cell_of_row w g 1 _ t (0,0) h
theorem Box8.c2 (h:Box8 w g t a0 a1 a2 a3 a4 a5 a6 a7):w.cell? ⟨g,2,none⟩=some a2:=cell_of_row w g 2 _ t (0,0) h
theorem Box8.c3 (h:Box8 w g t a0 a1 a2 a3 a4 a5 a6 a7):w.cell? ⟨g,3,none⟩=some a3:=cell_of_row w g 3 _ t (0,0) h
theorem Box8.c4 (h:Box8 w g t a0 a1 a2 a3 a4 a5 a6 a7):w.cell? ⟨g,4,none⟩=some a4:=cell_of_row w g 4 _ t (0,0) h
theorem Box8.c5 (h:Box8 w g t a0 a1 a2 a3 a4 a5 a6 a7):w.cell? ⟨g,5,none⟩=some a5:=cell_of_row w g 5 _ t (0,0) h
theorem Box8.c6 (h:Box8 w g t a0 a1 a2 a3 a4 a5 a6 a7):w.cell? ⟨g,6,none⟩=some a6:=cell_of_row w g 6 _ t (0,0) h
theorem Box8.c7 (h:Box8 w g t a0 a1 a2 a3 a4 a5 a6 a7):w.cell? ⟨g,7,none⟩=some a7:=cell_of_row w g 7 _ t (0,0) h
theorem Box8.free (h:Box8 w g t a0 a1 a2 a3 a4 a5 a6 a7)(i:Nat):w.frozen? ⟨g,i,none⟩=false:=frozen_of_row w g i _ t h
theorem Box8.under (h:Box8 w g t a0 a1 a2 a3 a4 a5 a6 a7) {B:Nat}(hb:Below B w w')(hg:g < B):Box8 w' g t a0 a1 a2 a3 a4 a5 a6 a7:=(hb.block g hg).trans h
theorem Box8.alloc (h:Box8 w g t a0 a1 a2 a3 a4 a5 a6 a7)(o:Obj):Box8 (w.alloc o) g t a0 a1 a2 a3 a4 a5 a6 a7:=(((bQ.alloc nQ o:Below w.heap.size w (w.alloc o))).block g h.lt).trans h
theorem Box8.far (h:Box8 w g t a0 a1 a2 a3 a4 a5 a6 a7) {p:Addr}(hp:g≠p.block)(u:Value):Box8 (w.setCell p u) g t a0 a1 a2 a3 a4 a5 a6 a7:=(Below.heap_setCell w p u g hp).trans h
theorem Box8.set0 (h:Box8 w g t a0 a1 a2 a3 a4 a5 a6 a7)(u:Value):Box8 (w.setCell ⟨g,0,none⟩ u) g t u a1 a2 a3 a4 a5 a6 a7:=heap_setCell_same w g 0 _ t u h
theorem Box8.set1 (h:Box8 w g t a0 a1 a2 a3 a4 a5 a6 a7)(u:Value):Box8 (w.setCell ⟨g,1,none⟩ u) g t a0 u a2 a3 a4 a5 a6 a7:=heap_setCell_same w g 1 _ t u h
theorem Box8.set2 (h:Box8 w g t a0 a1 a2 a3 a4 a5 a6 a7)(u:Value):Box8 (w.setCell ⟨g,2,none⟩ u) g t a0 a1 u a3 a4 a5 a6 a7:=heap_setCell_same w g 2 _ t u h
theorem Box8.set3 (h:Box8 w g t a0 a1 a2 a3 a4 a5 a6 a7)(u:Value):Box8 (w.setCell ⟨g,3,none⟩ u) g t a0 a1 a2 u a4 a5 a6 a7:=heap_setCell_same w g 3 _ t u h
theorem Box8.set4 (h:Box8 w g t a0 a1 a2 a3 a4 a5 a6 a7)(u:Value):Box8 (w.setCell ⟨g,4,none⟩ u) g t a0 a1 a2 a3 u a5 a6 a7:=heap_setCell_same w g 4 _ t u h
theorem Box8.set5 (h:Box8 w g t a0 a1 a2 a3 a4 a5 a6 a7)(u:Value):Box8 (w.setCell ⟨g,5,none⟩ u) g t a0 a1 a2 a3 a4 u a6 a7:=heap_setCell_same w g 5 _ t u h
theorem Box8.set6 (h:Box8 w g t a0 a1 a2 a3 a4 a5 a6 a7)(u:Value):Box8 (w.setCell ⟨g,6,none⟩ u) g t a0 a1 a2 a3 a4 a5 u a7:=heap_setCell_same w g 6 _ t u h
theorem Box8.set7 (h:Box8 w g t a0 a1 a2 a3 a4 a5 a6 a7)(u:Value):Box8 (w.setCell ⟨g,7,none⟩ u) g t a0 a1 a2 a3 a4 a5 a6 u:=heap_setCell_same w g 7 _ t u h
end
def wteA (a:TeA):Nat:=a.name.size+wt a.type+(a.labels.length+total a.labels)
def wte (t:Te):Nat:=t.sum (fun a=>wteA a+1) - 1
def wteK (ks:List Te):Nat:=ks.length+(ks.map wte).sum
theorem Zaeq (t:Te):1<=t.sum (fun a=>wteA a+1):=by
 cases t with
 | node a ks=>rw [Tr.sum_node];omega
theorem Zaer (ks:List Te):(ks.map (Tr.sum fun a=>wteA a+1)).sum=wteK ks:=by
 unfold wteK
 induction ks with
 | nil=>rfl
 | cons t r ih=>
  have:=Zaeq t
  simp only [List.map_cons,List.sum_cons,List.length_cons,ih];unfold wte
  omega
theorem Zds (a:TeA)(ks:List Te):wte (.node a ks)=wteA a+wteK ks:=by
 unfold wte;rw [Tr.sum_node,Zaer]
 omega
theorem Znh (t:Te):t.size<=wte t+1:=by
 have:t.size<=t.sum (fun a=>wteA a+1):=by
  refine Tr.ind (m:=fun t=>t.size<=t.sum (fun a=>wteA a+1)) (fun a ks ih=>?_) t;rw [Zik,Tr.sum_node];have h:=Zpd Tr.size (Tr.sum fun a=>wteA a+1) ks ih
  omega
 unfold wte
 omega
def SzTeK (t:Te):Prop:=∀ (w:World)(cs:List Value)(left:Int),RTe w t cs->0<=left->left<=1048576->Calls Tryz.prog 7 #[.agg cs.toArray,.int .i64 left] w (SzT (wte t) left w)
theorem Zur (ks:List Te)(ih:∀ t∈ks,SzTeK t)(w:World)(A:Option Addr)(d:Nat)(left:Int)(hp:RTes w A ks)(hl:ks.length<=9223372036854775807)(h0:0<=left)(h1:left<=1048576) :
  Calls Tryz.prog 28 #[.slice A ks.length d,.int .i64 left] w (SzT (wteK ks) left w):=by
 have HP:=hQ hp;have HI:=hQ ih;clear hp ih;by_cases hneg:left - ks.length < 0
 ·go_enter Tryz.func28,Tryz.ntmps28
  go_wp2_with fail
  go_ret
  exact ⟨-1,rfl,by omega,by omega,by omega,Below.refl _ _⟩
 ·go_enter Tryz.func28,Tryz.ntmps28
  go_wp2_with fail
  go_loopw [1,5] (fun l i wr=>∃ k:Nat,k<=ks.length/\i=.int .i64 k/\∃ r:Int,l=.int .i64 r/\0<=r/\r+ks.length+((ks.take k).map wte).sum=left/\Below w.heap.size w wr) (fun _ i _=>ks.length - (intOf i).toNat)
  case atStart=>exact ⟨0,Nat.zero_le _,rfl,_,rfl,by omega,by simp,Below.refl _ _⟩
  case round=>
   obtain ⟨k,hk,rfl,r,rfl,hr0,hr,hb⟩:=hrel;have hr1:r<=1048576:=by omega
   have HR:=hQ hr;clear hr;by_cases hlt:k < ks.length
   ·obtain ⟨ad,p,c0,c1,c2,c3,c4,c5,c6,c7,rfl,hpe,hrt,q0,q1,q2,q3,q4,q5,q6,q7⟩:=Zfj HP.out hb hlt
    have hst:=Zax wte ks k hlt;have hc:=HI.out ks[k] (List.getElem_mem hlt) wr [c0,c1,c2,c3,c4,c5,c6,c7] r hrt hr0 hr1;obtain ⟨m,hm⟩:∃ m,wte ks[k]=m:=⟨_,rfl⟩;rw [hm] at hst hc;have HC:=hQ hc;have HST:=hQ hst;clear hc hrt hst hm;go_wp2_with fail;refine HC.out.mono ?_;rintro e w2 ⟨r',rfl,hr2,hr3,hr4,hb2⟩;have HB3:=hQ (hb.trans (hb2.mono hb.size));have HR4:=hQ hr4;clear hr4 hb2;by_cases hz:r' < 0
    ·go_wp2_with fail
     go_ret
     exact ⟨-1,rfl,by omega,by omega,by omega,HB3.out⟩
    ·go_wp2_with fail
     go_roundw
     case rel=>exact ⟨k+1,hlt,by go_num,r',rfl,by omega,by have h1:=HR4.out (by omega);have h2:=HR.out;have h3:=HST.out;omega,HB3.out⟩
     case measure=>simp [intOf];omega
   ·have he:k=ks.length:=by omega
    have HS:Hid (r+wteK ks=left):=by
     have h:=HR.out;rw [he,List.take_length] at h
     show _=_
     unfold wteK
     omega
    clear he;go_wp2_with fail;go_ret;exact ⟨r,rfl,by have:=HR.out;omega,by omega,fun _=>HS.out,hb⟩
theorem Zus:∀ t:Te,SzTeK t:=by
 refine Tr.ind ?_
 intro a ks ih w cs left h h0 h1
 obtain ⟨TL,tc,TA,td,L,c,A,d,rfl,hT,k1,⟨_,_,kn,_,_,k4,k5⟩,k6,_,hp⟩:=h.out;have HN:=hQ (Zds a ks);obtain ⟨W1,hW1⟩:∃ W1,w.alloc (.cells #[.int .i64 a.kind,.string a.name,.int .i64 a.num,.int .i64 a.type.top.kind,.slice TL a.type.top.labels.length tc,.slice TA a.type.kids.length td,.slice L a.labels.length c,.slice A ks.length d] 32)=W1:=⟨_,rfl⟩;obtain ⟨H,hH⟩:∃ H,w.heap.size=H:=⟨_,rfl⟩;have hb0:Below w.heap.size w W1:=by rw [<-hW1];exact bQ.alloc nQ _
 have b0:Box8 W1 H 32 (.int .i64 a.kind) (.string a.name) (.int .i64 a.num) (.int .i64 a.type.top.kind) (.slice TL a.type.top.labels.length tc) (.slice TA a.type.kids.length td) (.slice L a.labels.length c) (.slice A ks.length d):=by rw [<-hW1,<-hH];exact Box8.new w _ _ _ _ _ _ _ _ _
 have HW1:=hQ hW1;have B0:=hQ b0;have HT:=hQ (fun r (h0:0<=r) (h1:r<=1048576)=>Zmc a.type W1 _ r (hT.keep hb0) h0 h1);have HP:=hQ hp;have HL:=hQ k1;have HB0:=hQ hb0;have HI:=hQ ih;have HX:=hQ k5;have x1:=b0.c1;have x3:=b0.c3;have x4:=b0.c4;have x5:=b0.c5;clear hp ih hb0 hW1 k1 k5 h hT b0;generalize a.type.top.kind=g0 at HT B0 HW1 x3 ⊢;generalize a.type.top.labels.length=g1 at HT B0 HW1 x4 ⊢;generalize a.type.kids.length=g2 at HT B0 HW1 x5 ⊢;by_cases hn0:left - a.name.size < 0
 ·have HR:Hid (∀ W,Below w.heap.size w W->SzT (wte (.node a ks)) left w (.returned (.int .i64 (-1))) W):=hQ (fun W hB=>⟨-1,rfl,by omega,by omega,by omega,hB⟩)
  go_enter Tryz.func7,Tryz.ntmps7
  go_wp2_with fail
  rw [HW1.out];go_wp2_with fail;go_ret;exact HR.out _ HB0.out
 ·go_enter Tryz.func7,Tryz.ntmps7
  go_wp2_with fail
  rw [HW1.out];go_wp2_with fail;refine (HT.out (left - a.name.size) (by omega) (by omega)).mono ?_;rintro e w1 ⟨r,rfl,r1,r2,r3,hb1⟩;have HR3:=hQ r3;have HB1:=hQ (HB0.out.trans (hb1.mono HB0.out.size));have B1:=hQ (B0.out.under hb1 B0.out.lt);have y6:=B1.out.c6;clear r3 hb1 x1 x3 x4 x5;by_cases hneg:r < 0
  ·go_wp2_with fail
   go_ret
   exact ⟨-1,rfl,by omega,by omega,by omega,HB1.out⟩
  ·go_wp2_with fail
   refine (Zht L c a.labels r w1 (HL.out.below HB1.out) k4 HX.out (by omega) (by omega)).mono ?_;rintro e w' ⟨s,rfl,s1,s2,s3,rfl⟩;have HS3:=hQ s3;have y7:=B1.out.c7;clear s3;by_cases hneg2:s < 0
   ·go_wp2_with fail
    go_ret
    exact ⟨-1,rfl,by omega,by omega,by omega,HB1.out⟩
   ·go_wp2_with fail
    refine (Zur ks HI.out w1 A d s (HP.out.keep HB1.out) k6 (by omega) (by omega)).mono ?_;rintro e w2 ⟨r',rfl,t1,t2,t3,hb2⟩;have HT3:=hQ t3;have HB2:=hQ (HB1.out.trans (hb2.mono HB1.out.size));clear t3 hb2;by_cases hz:r' < 0
    ·go_wp2_with fail
     go_ret
     exact ⟨-1,rfl,by omega,by omega,by omega,HB2.out⟩
    ·go_wp2_with fail
     go_ret
     refine ⟨r',rfl,by omega,by omega,fun _=>?_,HB2.out⟩;have e1:=HR3.out (by omega);have e2:=HS3.out (by omega);have e3:=HT3.out (by omega);rw [HN.out];unfold wteA
     omega
theorem Zafh:(Tryz.prog.info? 49).map (fun i=>(i.zero,i.size,i.bytes))=some (some (.agg #[.int .i64 0,.string ⟨#[]⟩,.int .i64 0,.int .i64 0,.slice none 0 0,.slice none 0 0,.slice none 0 0,.slice none 0 0]),8,136):=by kernel_rfl
def ToTeK (t:Te):Prop:=∀ (w:World)(cs:List Value),RTe w t cs->wte t<=1048576->Calls Tryz.prog 11 #[.agg cs.toArray] w (Zaby t w)
def Zpq (ks:List Te)(w:World)(i:Value)(wr:World):Prop:=
 ∃ (k:Nat) (xs:List Value) (fs:Nat->List Nat),k<=ks.length/\i=.int .i64 k/\wr.ownsRow w.heap.size 49 8 (.slice (some ⟨w.heap.size,0,none⟩) ks.length ks.length) ks.length xs/\
  (∀ j t,j < k->ks[j]?=some t->OTe wr t (part8 xs j) (fs j))/\((List.range k).flatMap fs).Nodup/\(∀ j,j < k->∀ b∈fs j,w.heap.size < b/\b < wr.heap.size)/\Below w.heap.size w wr
def Zvo (ks:List Te)(w:World)(e:Ending)(w':World):Prop:=
 ∃ (A:Option Addr) (d:Nat) (xs:List Value) (fs:Nat->List Nat),e=.returned (.slice A ks.length d)/\w'.ownsRow 0 49 8 (.slice A ks.length d) ks.length xs/\(∀ j t,ks[j]?=some t->OTe w' t (part8 xs j) (fs j))/\
  (blk A ++ (List.range ks.length).flatMap fs).Nodup/\(∀ b∈blk A ++ (List.range ks.length).flatMap fs,w.heap.size<=b/\b < w'.heap.size)/\Below w.heap.size w w'
theorem Zpj {ks:List Te}{w wr w2:World}{k:Nat}{xs:List Value}{fs:Nat->List Nat}{fp:List Nat}{r0 r1 r2 r3 r4 r5 r6 r7:Value}{i:Value}(hk:k < ks.length)(hi:i=.int .i64 ((k+1:Nat):Int))
  (hown:wr.ownsRow w.heap.size 49 8 (.slice (some ⟨w.heap.size,0,none⟩) ks.length ks.length) ks.length xs) (hkid:∀ j t,j < k->ks[j]?=some t->OTe wr t (part8 xs j) (fs j)) (hnd:((List.range k).flatMap fs).Nodup)
  (hbd:∀ j,j < k->∀ b∈fs j,w.heap.size < b/\b < wr.heap.size) (hb:Below w.heap.size w wr) (hb2:Below wr.heap.size wr w2) (hot:OTe w2 ks[k] [r0,r1,r2,r3,r4,r5,r6,r7] fp) (hfp:∀ b∈fp,wr.heap.size<=b/\b < w2.heap.size) :
  Zpq ks w i (Zso w2 w.heap.size k r0 r1 r2 r3 r4 r5 r6 r7):=by
 have hxl:xs.length=ks.length * 8:=hown.1;have hlt:w.heap.size < wr.heap.size:=(hown.lt w.heap.size rfl).2;have ho2:w2.ownsRow w.heap.size 49 8 (.slice (some ⟨w.heap.size,0,none⟩) ks.length ks.length) ks.length xs:=
  hown.kept (row:=none) ⟨hb2.os,hb2.tape,hb2.output,hb2.size,fun i hi _=>hb2.block i hi⟩ (.inr (by simp [Value.ownBlock]))
 obtain ⟨h3,hg3⟩:=Zuh ho2 k r0 r1 r2 r3 r4 r5 r6 r7;have hs2:=hb2.size;have hs3:=hg3.size;refine ⟨k+1,put8 xs k r0 r1 r2 r3 r4 r5 r6 r7,fun j=>if j=k then fp else fs j,hk,hi,h3,fun j t hj ht=>?_,?_,fun j hj b hbm=>?_,(hb.trans (hb2.mono hb.size)).grown hg3 (by omega) (fun q hq=>by injection hq with hq;omega)⟩
 ·show OTe _ _ _ (if j=k then fp else fs j)
  by_cases e:j=k
  ·subst e
   rw [List.getElem?_eq_getElem hk] at ht;have ht':=Option.some.inj ht;subst ht';rw [if_pos rfl,Zaeh xs j r0 r1 r2 r3 r4 r5 r6 r7 (by omega)];exact hot.keep hg3 (fun b hbm e=>by injection e with e;have:=(hfp b hbm).1;omega)
  ·rw [if_neg e,Zum xs k j r0 r1 r2 r3 r4 r5 r6 r7 e]
   exact ((hkid j t (by omega) ht).under hb2).keep hg3 (fun b hbm e=>by injection e with e;have:=(hbd j (by omega) b hbm).1;omega)
 ·rw [Zel]
  refine List.nodup_append.2 ⟨hnd,?_,fun a ha b hb' e=>?_⟩
  ·exact hot.nodup
  ·have h1:=Zez hbd a ha
   have h2:=hfp b hb'
   omega
 ·change b∈(if j=k then fp else fs j) at hbm
  by_cases e:j=k
  ·rw [if_pos e] at hbm
   have:=hfp b hbm
   omega
  ·rw [if_neg e] at hbm
   have:=hbd j (by omega) b hbm
   omega
theorem Zuu (ks:List Te)(ih:∀ t∈ks,ToTeK t)(w:World)(A:Option Addr)(d:Nat)(hp:RTes w A ks)(hw:wteK ks<=1048576) :
  Calls Tryz.prog 37 #[.slice A ks.length d] w (Zvo ks w):=by
 obtain ⟨i0,hi,hz0,hz1,hz2⟩:=info_parts Zafh;have hl:ks.length<=1048576:=by unfold wteK at hw;omega
 have HP:=hQ hp;have HI:=hQ ih;have HWT:=hQ hw;clear hp ih hw;go_enter Tryz.func37,Tryz.ntmps37;go_wp2_with (at_make;refine wpList_make_full _ rfl _ _ 47 rfl w.heap.size 49 i0 (.agg #[.int .i64 0,.string ⟨#[]⟩,.int .i64 0,.int .i64 0,.slice none 0 0,.slice none 0 0,.slice none 0 0,.slice none 0 0]) 8 Tryz.underlying47 hi hz0 hz1 _ _ _ _ ks.length rfl rfl rfl rfl (by rw [hz2];omega) (by unfold maxLen;omega) nQ ?_;intro w0 hown0 hgrow0);have hb0:Below w.heap.size w w0:=bQ.grown hgrow0 nQ (fun k hk=>by cases hk);go_loopw [4] (fun i wr=>Zpq ks w i wr) (fun i _=>ks.length - (intOf i).toNat)
 case atStart=>exact ⟨0,_,fun _=>[],Nat.zero_le _,rfl,hown0,fun j t hj=>by omega,by simp,fun j hj=>by omega,hb0⟩
 case round=>
  obtain ⟨k,xs,fs,hk,rfl,hown,hkid,hnd,hbd,hb⟩:=hrel;have HO:=hQ hown;have HK:=hQ hkid;have HN:=hQ hnd;have HBD:=hQ hbd;have HB:=hQ hb;clear hown hkid hnd hbd;by_cases hlt:k < ks.length
  ·obtain ⟨ad,p,c0,c1,c2,c3,c4,c5,c6,c7,rfl,hpe,hrt,q0,q1,q2,q3,q4,q5,q6,q7⟩:=Zfj HP.out hb hlt
   have hwk:wte ks[k]<=1048576:=by
    have h1:=Zax wte ks k hlt;have h2:=Zde wte ks (k+1);have h3:=HWT.out;unfold wteK at h3
    omega
   have HC:=hQ (HI.out ks[k] (List.getElem_mem hlt) wr [c0,c1,c2,c3,c4,c5,c6,c7] hrt hwk);clear hrt hwk;go_wp2_with fail;refine HC.out.mono ?_;rintro e w2 ⟨TL2,tc2,TA2,td2,L2,l2,A2,d2,fp,rfl,hot,hfp,hb2⟩;unfold Zyt at hot;generalize ks[k].top.kind=x0 at hot ⊢;generalize ks[k].top.name=x1 at hot ⊢;generalize ks[k].top.num=x2 at hot ⊢;generalize ks[k].top.type.top.kind=x3 at hot ⊢;generalize ks[k].top.type.top.labels.length=x4 at hot ⊢;generalize ks[k].top.type.kids.length=x5 at hot ⊢;generalize ks[k].top.labels.length=x6 at hot ⊢;generalize ks[k].kids.length=x7 at hot ⊢;have hxl:xs.length=ks.length * 8:=HO.out.1;have hgrow2:wr.grownBy w2 none:=⟨hb2.os,hb2.tape,hb2.output,hb2.size,fun i hi _=>hb2.block i hi⟩;have ho2:=HO.out.kept hgrow2 (.inr (by simp [Value.ownBlock]));have m0:w2.cell? ⟨w.heap.size,k * 8,none⟩=some (xs[k * 8]'(by omega)):=by rw [ho2.cellAt _ (by omega)];exact List.getElem?_eq_getElem _
   have m1:w2.cell? ⟨w.heap.size,k * 8+1,none⟩=some (xs[k * 8+1]'(by omega)):=by rw [ho2.cellAt _ (by omega)];exact List.getElem?_eq_getElem _
   have m2:w2.cell? ⟨w.heap.size,k * 8+2,none⟩=some (xs[k * 8+2]'(by omega)):=by rw [ho2.cellAt _ (by omega)];exact List.getElem?_eq_getElem _
   have m3:w2.cell? ⟨w.heap.size,k * 8+3,none⟩=some (xs[k * 8+3]'(by omega)):=by rw [ho2.cellAt _ (by omega)];exact List.getElem?_eq_getElem _
   have m4:w2.cell? ⟨w.heap.size,k * 8+4,none⟩=some (xs[k * 8+4]'(by omega)):=by rw [ho2.cellAt _ (by omega)];exact List.getElem?_eq_getElem _
   have m5:w2.cell? ⟨w.heap.size,k * 8+5,none⟩=some (xs[k * 8+5]'(by omega)):=by rw [ho2.cellAt _ (by omega)];exact List.getElem?_eq_getElem _
   have m6:w2.cell? ⟨w.heap.size,k * 8+6,none⟩=some (xs[k * 8+6]'(by omega)):=by rw [ho2.cellAt _ (by omega)];exact List.getElem?_eq_getElem _
   have m7:w2.cell? ⟨w.heap.size,k * 8+7,none⟩=some (xs[k * 8+7]'(by omega)):=by rw [ho2.cellAt _ (by omega)];exact List.getElem?_eq_getElem _
   have f0:=ho2.frozenAt (k * 8);have f1:=ho2.frozenAt (k * 8+1);have f2:=ho2.frozenAt (k * 8+2);have f3:=ho2.frozenAt (k * 8+3);have f4:=ho2.frozenAt (k * 8+4);have f5:=ho2.frozenAt (k * 8+5);have f6:=ho2.frozenAt (k * 8+6);have f7:=ho2.frozenAt (k * 8+7);have HR:Hid (∀ i,i=Value.int .i64 ((k+1:Nat):Int)->Zpq ks w i (Zso w2 w.heap.size k (.int .i64 x0) (.string x1) (.int .i64 x2) (.int .i64 x3) (.slice TL2 x4 tc2) (.slice TA2 x5 td2) (.slice L2 x6 l2) (.slice A2 x7 d2))):=fun i hi=>Zpj hlt hi HO.out HK.out HN.out HBD.out HB.out hb2 hot hfp
   clear hot hfp hb2 ho2 hgrow2 hb;go_wp2_with fail;go_roundw
   case rel=>exact HR.out _ (by go_num)
   case measure=>simp [intOf];omega
  ·have he:k=ks.length:=by omega
   subst he;have HR:Hid (Zvo ks w (.returned (.slice (some ⟨w.heap.size,0,none⟩) ks.length ks.length)) wr):=by
    have hlt:=(HO.out.lt w.heap.size rfl).2;refine ⟨_,_,xs,fs,rfl,⟨HO.out.1,HO.out.2.imp id fun ⟨g,cap,cur,h1,_,h3⟩=>⟨g,cap,cur,h1,Nat.zero_le _,h3⟩⟩,fun j t hj=>HK.out j t (List.getElem?_eq_some_iff.1 hj).1 hj,?_,fun b hbm=>?_,hb⟩
    ·show (w.heap.size :: _).Nodup
     refine List.nodup_cons.2 ⟨fun hm=>?_,HN.out⟩
     have:=Zez HBD.out _ hm
     omega
    ·rcases List.mem_append.1 hbm with h|h
     ·simp [blk] at h
      omega
     ·have:=Zez HBD.out b h
      omega
   clear HO HK HN HBD hb;go_wp2_with fail;go_ret;exact HR.out
theorem Zuv:∀ t:Te,ToTeK t:=by
 refine Tr.ind ?_
 intro a ks ih w cs h hw
 obtain ⟨TL,tc,TA,td,L,c,A,d,rfl,hT,k1,k2,k6,_,hp⟩:=h.out;rw [Zds] at hw;have hl:a.labels.length<=1048576:=by unfold wteA at hw;omega
 have ht:wt a.type<=1048576:=by unfold wteA at hw;omega
 have hk:wteK ks<=1048576:=by omega
 obtain ⟨W1,hW1⟩:∃ W1,((w.alloc (.cells #[.int .i64 a.kind,.string a.name,.int .i64 a.num,.int .i64 a.type.top.kind,.slice TL a.type.top.labels.length tc,.slice TA a.type.kids.length td,.slice L a.labels.length c,.slice A ks.length d] 32)).alloc (.cells #[.int .i64 0,.string ⟨#[]⟩,.int .i64 0,.int .i64 0,.slice none 0 0,.slice none 0 0,.slice none 0 0,.slice none 0 0] 49)).alloc (.cells #[.int .i64 a.kind,.string a.name,.int .i64 a.num,.int .i64 0,.slice none 0 0,.slice none 0 0,.slice none 0 0,.slice none 0 0] 49)=W1:=⟨_,rfl⟩;obtain ⟨H,hH⟩:∃ H,w.heap.size=H:=⟨_,rfl⟩;have b0:Box8 W1 H 32 (.int .i64 a.kind) (.string a.name) (.int .i64 a.num) (.int .i64 a.type.top.kind) (.slice TL a.type.top.labels.length tc) (.slice TA a.type.kids.length td) (.slice L a.labels.length c) (.slice A ks.length d):=by rw [<-hW1,<-hH];exact ((Box8.new w _ _ _ _ _ _ _ _ _).alloc _).alloc _
 have b1:Box8 W1 (H+1) 49 (.int .i64 0) (.string ⟨#[]⟩) (.int .i64 0) (.int .i64 0) (.slice none 0 0) (.slice none 0 0) (.slice none 0 0) (.slice none 0 0):=by
  rw [<-hW1,<-hH]
  have:=(Box8.new (w.alloc (.cells #[.int .i64 a.kind,.string a.name,.int .i64 a.num,.int .i64 a.type.top.kind,.slice TL a.type.top.labels.length tc,.slice TA a.type.kids.length td,.slice L a.labels.length c,.slice A ks.length d] 32)) 49 (.int .i64 0) (.string ⟨#[]⟩) (.int .i64 0) (.int .i64 0) (.slice none 0 0) (.slice none 0 0) (.slice none 0 0) (.slice none 0 0)).alloc (.cells #[.int .i64 a.kind,.string a.name,.int .i64 a.num,.int .i64 0,.slice none 0 0,.slice none 0 0,.slice none 0 0,.slice none 0 0] 49)
  simpa using this
 have b2:Box8 W1 (H+1+1) 49 (.int .i64 a.kind) (.string a.name) (.int .i64 a.num) (.int .i64 0) (.slice none 0 0) (.slice none 0 0) (.slice none 0 0) (.slice none 0 0):=by
  rw [<-hW1,<-hH]
  have:=Box8.new ((w.alloc (.cells #[.int .i64 a.kind,.string a.name,.int .i64 a.num,.int .i64 a.type.top.kind,.slice TL a.type.top.labels.length tc,.slice TA a.type.kids.length td,.slice L a.labels.length c,.slice A ks.length d] 32)).alloc (.cells #[.int .i64 0,.string ⟨#[]⟩,.int .i64 0,.int .i64 0,.slice none 0 0,.slice none 0 0,.slice none 0 0,.slice none 0 0] 49)) 49 (.int .i64 a.kind) (.string a.name) (.int .i64 a.num) (.int .i64 0) (.slice none 0 0) (.slice none 0 0) (.slice none 0 0) (.slice none 0 0)
  simpa using this
 have hb1:Below w.heap.size w W1:=by rw [<-hW1];exact ((bQ.alloc nQ _).alloc (by simp) _).alloc (by simp;omega) _
 have HTT:=hQ (Zmd a.type W1 _ (hT.keep hb1) ht);have HW1:=hQ hW1;have HP:=hQ hp;have HL:=hQ k1;have HB1:=hQ hb1;have HK:=hQ k2;have HI:=hQ ih;have B0:=hQ b0;have B1:=hQ b1;have B2:=hQ b2;have HH:=hQ hH;clear hp ih k1 k2 h hw hW1 b0 b1 b2 hb1 hT;go_enter Tryz.func11,Tryz.ntmps11;go_wp2_with fail;rw [HW1.out];refine HTT.out.mono ?_;rintro e w2 ⟨TL2,TA2,tc2,td2,fpT,rfl,hoT,hfT,hb2⟩;have hz1:H+1+1 < W1.heap.size:=B2.out.lt;have r0:=B0.out.under hb2 (by omega);have r1:=B1.out.under hb2 (by omega);have r2:=B2.out.under hb2 (by omega);have HB2:=hQ (HB1.out.trans (hb2.mono HB1.out.size));have e3:=r2.c3;have e4:=r2.c4;have e5:=r2.c5;have e6:=r2.free 3;have e7:=r2.free 4;have e8:=r2.free 5;have e9:=r0.c6;have R0:=hQ r0;have R1:=hQ r1;have R2:=hQ r2;have HOT:=hQ hoT;have HFT:=hQ hfT;clear r0 r1 r2 hoT hfT hb2 HTT;go_wp2_with fail;generalize hW3:((w2.setCell ⟨H+1+1,3,none⟩ (.int .i64 a.type.top.kind)).setCell ⟨H+1+1,4,none⟩ (.slice TL2 a.type.top.labels.length tc2)).setCell ⟨H+1+1,5,none⟩ (.slice TA2 a.type.kids.length td2)=W3;have hz3:W3.heap.size=w2.heap.size:=by rw [<-hW3];simp [World.setCell]
 have hg3:w2.grownBy W3 (some (H+1+1)):=by rw [<-hW3];exact Zaa (Zaa (Zaa (gQ) _) _) _
 have s0:Box8 W3 H 32 (.int .i64 a.kind) (.string a.name) (.int .i64 a.num) (.int .i64 a.type.top.kind) (.slice TL a.type.top.labels.length tc) (.slice TA a.type.kids.length td) (.slice L a.labels.length c) (.slice A ks.length d):=by rw [<-hW3];exact ((R0.out.far (by show H≠H+1+1;omega) _).far (by show H≠H+1+1;omega) _).far (by show H≠H+1+1;omega) _
 have s1:Box8 W3 (H+1) 49 (.int .i64 0) (.string ⟨#[]⟩) (.int .i64 0) (.int .i64 0) (.slice none 0 0) (.slice none 0 0) (.slice none 0 0) (.slice none 0 0):=by rw [<-hW3];exact ((R1.out.far (by show H+1≠H+1+1;omega) _).far (by show H+1≠H+1+1;omega) _).far (by show H+1≠H+1+1;omega) _
 have s2:Box8 W3 (H+1+1) 49 (.int .i64 a.kind) (.string a.name) (.int .i64 a.num) (.int .i64 a.type.top.kind) (.slice TL2 a.type.top.labels.length tc2) (.slice TA2 a.type.kids.length td2) (.slice none 0 0) (.slice none 0 0):=by rw [<-hW3];exact ((R2.out.set3 _).set4 _).set5 _
 have hb3:Below w.heap.size w W3:=HB2.out.grown hg3 HB2.out.size (fun q hq=>by injection hq with hq;have:=HH.out;omega);have o3:OTy W3 a.type [.int .i64 a.type.top.kind,.slice TL2 a.type.top.labels.length tc2,.slice TA2 a.type.kids.length td2] fpT:=HOT.out.keep hg3 (fun b hb e=>by injection e with e;have:=(HFT.out b hb).1;omega);have HB3:=hQ hb3;have S0:=hQ s0;have S1:=hQ s1;have S2:=hQ s2;have O3:=hQ o3;have N23:=hQ hz3;clear hW3 hz3 hg3 s0 s1 s2 hb3 o3 e3 e4 e5 e6 e7 e8 e9;refine (Znx L c a.labels W3 (HL.out.below HB3.out) hl).mono ?_;rintro e w4 ⟨LL,lc,rfl,rl,hb4⟩;have hz3:H+1+1 < W3.heap.size:=S2.out.lt;have r0:=S0.out.under hb4 (by omega);have r1:=S1.out.under hb4 (by omega);have r2:=S2.out.under hb4 (by omega);have RL:=hQ rl;have HB4:=hQ (HB3.out.trans (hb4.mono HB3.out.size));have O4:=hQ (O3.out.under hb4);have Z34:=hQ hb4.size;have e1:=r2.c6;have e2:=r2.free 6;have e3:=r0.c7;have T0:=hQ r0;have T1:=hQ r1;have T2:=hQ r2;clear r0 r1 r2 rl hb4;go_wp2_with fail;generalize hW5:w4.setCell ⟨H+1+1,6,none⟩ (.slice LL a.labels.length lc)=W5;have hz5:W5.heap.size=w4.heap.size:=by rw [<-hW5];simp [World.setCell]
 have hg5:w4.grownBy W5 (some (H+1+1)):=by rw [<-hW5];exact Zaa (gQ) _
 have s1:Box8 W5 (H+1) 49 (.int .i64 0) (.string ⟨#[]⟩) (.int .i64 0) (.int .i64 0) (.slice none 0 0) (.slice none 0 0) (.slice none 0 0) (.slice none 0 0):=by rw [<-hW5];exact T1.out.far (by show H+1≠H+1+1;omega) _
 have s2:Box8 W5 (H+1+1) 49 (.int .i64 a.kind) (.string a.name) (.int .i64 a.num) (.int .i64 a.type.top.kind) (.slice TL2 a.type.top.labels.length tc2) (.slice TA2 a.type.kids.length td2) (.slice LL a.labels.length lc) (.slice none 0 0):=by rw [<-hW5];exact T2.out.set6 _
 have hb5:Below w.heap.size w W5:=HB4.out.grown hg5 HB4.out.size (fun q hq=>by injection hq with hq;have:=HH.out;omega);have l5:Row W5 W3.heap.size w4.heap.size LL a.labels.length lc (a.labels.map Value.string):=RL.out.turned (lo':=H+1+1) (hi':=H+1+1+1) ⟨some (H+1+1),hg5,fun q hq=>by injection hq with hq;omega⟩ (.inr (by omega));have o5:OTy W5 a.type [.int .i64 a.type.top.kind,.slice TL2 a.type.top.labels.length tc2,.slice TA2 a.type.kids.length td2] fpT:=O4.out.keep hg5 (fun b hb e=>by injection e with e;have:=(HFT.out b hb).1;omega);have HB5:=hQ hb5;have V1:=hQ s1;have V2:=hQ s2;have L5:=hQ l5;have O5:=hQ o5;have N45:=hQ hz5;clear hW5 hz5 hg5 s1 s2 hb5 l5 o5 e1 e2 e3;refine (Zuu ks HI.out W5 A d (HP.out.keep HB5.out) hk).mono ?_;rintro e w6 ⟨A7,d7,xs,fs,rfl,ho6,hk6,hn6,hd6,hb6⟩;have hzz:H+1+1 < W5.heap.size:=V2.out.lt;have t1:=V1.out.under hb6 (by omega);have t2:=V2.out.under hb6 (by omega);have g0:=t2.c0;have m0:=t1.c0;have f0:=t1.free 0;have g1:=t2.c1;have m1:=t1.c1;have f1:=t1.free 1;have g2:=t2.c2;have m2:=t1.c2;have f2:=t1.free 2;have g3:=t2.c3;have m3:=t1.c3;have f3:=t1.free 3;have g4:=t2.c4;have m4:=t1.c4;have f4:=t1.free 4;have g5:=t2.c5;have m5:=t1.c5;have f5:=t1.free 5;have g6:=t2.c6;have m6:=t1.c6;have f6:=t1.free 6;have g7:=t2.c7;have m7:=t1.c7;have f7:=t1.free 7;have g8:=t2.free 7;have HO6:=hQ ho6;have HK6:=hQ hk6;have HN6:=hQ hn6;have HD6:=hQ hd6;have HB6:=hQ hb6;have X1:=hQ t1;clear ho6 hk6 hn6 hd6 hb6 t1 t2;have L6:=hQ (L5.out.below HB6.out);have O6:=hQ (O5.out.under HB6.out);go_wp2_with fail;generalize hV:w6.setCell ⟨H+1+1,7,none⟩ (.slice A7 ks.length d7)=V;generalize hU:((((((((V.setCell ⟨H+1,0,none⟩ (.int .i64 a.kind)).setCell ⟨H+1,1,none⟩ (.string a.name)).setCell ⟨H+1,2,none⟩ (.int .i64 a.num)).setCell ⟨H+1,3,none⟩ (.int .i64 a.type.top.kind)).setCell ⟨H+1,4,none⟩ (.slice TL2 a.type.top.labels.length tc2)).setCell ⟨H+1,5,none⟩ (.slice TA2 a.type.kids.length td2)).setCell ⟨H+1,6,none⟩ (.slice LL a.labels.length lc)).setCell ⟨H+1,7,none⟩ (.slice A7 ks.length d7))=U;have hg7:w6.grownBy V (some (H+1+1)):=by rw [<-hV];exact Zaa (gQ) _
 have hg8:V.grownBy U (some (H+1)):=by rw [<-hU];exact Zaa (Zaa (Zaa (Zaa (Zaa (Zaa (Zaa (Zaa (gQ) _) _) _) _) _) _) _) _
 have u1:Box8 U (H+1) 49 (.int .i64 a.kind) (.string a.name) (.int .i64 a.num) (.int .i64 a.type.top.kind) (.slice TL2 a.type.top.labels.length tc2) (.slice TA2 a.type.kids.length td2) (.slice LL a.labels.length lc) (.slice A7 ks.length d7):=by
  rw [<-hU,<-hV];exact ((((((((X1.out.far (by show H+1≠H+1+1;omega) _).set0 _).set1 _).set2 _).set3 _).set4 _).set5 _).set6 _).set7 _
 have hsz7:=hg7.size;have hsz8:=hg8.size;have hww:=HH.out;have hz56:=HB6.out.size;have hn45:=N45.out;have hn23:=N23.out;have hz34:=Z34.out;have hw13:=RL.out.1;have hbV:=HB5.out.trans (HB6.out.mono HB5.out.size);have hbU:Below w.heap.size w U:=(hbV.grown hg7 hbV.size (fun q hq=>by injection hq with hq;omega)).grown hg8 (by have:=hbV.size;omega) (fun q hq=>by injection hq with hq;omega);have lU:=((L6.out.turned (lo':=H+1+1) (hi':=H+1+1+1) ⟨_,hg7,fun q hq=>by injection hq with hq;omega⟩ (.inr (by omega))).turned (lo':=H+1) (hi':=H+1+1) ⟨_,hg8,fun q hq=>by injection hq with hq;omega⟩ (.inr (by omega)));have oU:=(O6.out.keep hg7 (fun b hb e=>by injection e with e;have:=(HFT.out b hb).1;omega)).keep hg8 (fun b hb e=>by injection e with e;have:=(HFT.out b hb).1;omega);have hTb:=HFT.out;have hLb:∀ b∈blk LL,W3.heap.size<=b/\b < w4.heap.size:=fun b hb=>⟨(lU.1.lt b ((Zam LL _ lc b).2 hb)).1,lU.2 b ((Zam LL _ lc b).2 hb)⟩
 have hAb:=HD6.out;have hne:∀ b∈blk A7 ++ (List.range ks.length).flatMap fs,H+1+1 < b:=fun b hb=>by have:=(hAb b hb).1;omega
 have hO:OTe U (.node a ks) [.int .i64 a.kind,.string a.name,.int .i64 a.num,.int .i64 a.type.top.kind,.slice TL2 a.type.top.labels.length tc2,.slice TA2 a.type.kids.length td2,.slice LL a.labels.length lc,.slice A7 ks.length d7] (fpT ++ (blk LL ++ blk A7 ++ (List.range ks.length).flatMap fs)):=by
  refine .node a ks TL2 TA2 LL A7 tc2 td2 lc d7 fpT xs fs HK.out oU (Znd lU.1 (Nat.zero_le _)) k6 ?_ (fun j t hj=>?_) ?_
  ·exact Zav (Zav HO6.out hg7 (fun b hb e=>by injection e with e;have:=hne b (by simp [hb]);omega)) hg8 (fun b hb e=>by injection e with e;have:=hne b (by simp [hb]);omega)
  ·have hin:∀ b∈fs j,H+1+1 < b:=fun b hb=>hne b (by
    rw [List.mem_append,List.mem_flatMap];exact .inr ⟨j,List.mem_range.2 (List.getElem?_eq_some_iff.1 hj).1,hb⟩)
   exact ((HK6.out j t hj).keep hg7 (fun b hb e=>by injection e with e;have:=hin b hb;omega)).keep hg8 (fun b hb e=>by injection e with e;have:=hin b hb;omega)
  ·refine List.nodup_append.2 ⟨O6.out.nodup,?_,fun x hx y hy e=>?_⟩
   ·rw [List.append_assoc]
    refine List.nodup_append.2 ⟨?_,HN6.out,fun x hx y hy e=>?_⟩
    ·cases LL <;> simp [blk]
    ·have h1:=hLb x hx
     have h2:=hAb y hy
     omega
   ·have h1:=hTb x hx
    rw [List.append_assoc,List.mem_append] at hy
    rcases hy with hy|hy
    ·have h2:=hLb y hy
     omega
    ·have h2:=hAb y hy
     omega
 have q0:=u1.c0;have q1:=u1.c1;have q2:=u1.c2;have q3:=u1.c3;have q4:=u1.c4;have q5:=u1.c5;have q6:=u1.c6;have q7:=u1.c7;have HR:Hid (Zaby (.node a ks) w (.returned (.agg #[.int .i64 a.kind,.string a.name,.int .i64 a.num,.int .i64 a.type.top.kind,.slice TL2 a.type.top.labels.length tc2,.slice TA2 a.type.kids.length td2,.slice LL a.labels.length lc,.slice A7 ks.length d7])) U):=by
  refine ⟨TL2,tc2,TA2,td2,LL,lc,A7,d7,_,rfl,hO,fun b hb=>?_,hbU⟩;rw [List.mem_append,List.append_assoc,List.mem_append] at hb
  rcases hb with hb|hb|hb
  ·have:=hTb b hb;omega
  ·have:=hLb b hb;omega
  ·have:=hAb b hb;omega
 clear hO hbU hAb hLb hTb hne lU oU hg7 hg8 hV hU u1;exact bodyPost_ret (v:=.agg #[.int .i64 a.kind,.string a.name,.int .i64 a.num,.int .i64 a.type.top.kind,.slice TL2 a.type.top.labels.length tc2,.slice TA2 a.type.kids.length td2,.slice LL a.labels.length lc,.slice A7 ks.length d7]) (by simp [results,Tryz.results11,go_sem,q0,q1,q2,q3,q4,q5,q6,q7]) rfl HR.out
end Go.Proofs.YtlcedleebbgebaaGreatDoor
