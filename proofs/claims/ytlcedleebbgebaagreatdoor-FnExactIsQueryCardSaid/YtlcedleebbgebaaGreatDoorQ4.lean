/-
  Merged by program: TyCopy.
-/
import Derived.Test.YtlcedleebbgebaaGreatDoorQ3
import Derived.Deep.CutRange
set_option maxRecDepth 100000
set_option maxHeartbeats 4000000
namespace Go.Proofs.YtlcedleebbgebaaGreatDoor
open Go.RowKit
theorem Zxu {xs:List Value}{r0 r1 r2:Value}{k j:Nat}(hl:xs.length=k * 3)(hj:j < k):part3 (xs ++ [r0,r1,r2]) j=part3 xs j:=
 Zhe fun i hi=>by rw [List.getElem?_append_left (by omega)]
theorem Zxv {xs:List Value}{r0 r1 r2:Value}{k:Nat}(hl:xs.length=k * 3):part3 (xs ++ [r0,r1,r2]) k=[r0,r1,r2]:=by
 unfold part3;rw [List.drop_append_of_le_length (by omega),List.drop_eq_nil_of_le (by omega)]
 rfl
theorem Box3.grown {w w':World}{g:Nat}{t:TypeId}{a b c:Value}{row:Option Nat}(h:Box3 w g t a b c)(hg:w.grownBy w' row)(hne:some g≠row):Box3 w' g t a b c:=(hg.block g h.lt hne).trans h
def CInv (a:TyA)(ks:List Ty)(w:World)(g:Nat)(LL:Option Addr)(lc k:Nat)(A:Option Addr)(d:Nat)(xs:List Value)(fs:Nat->List Nat)(wr:World):Prop:=
 Box3 wr g 38 (.int .i64 a.kind) (.slice LL a.labels.length lc) (.slice A k d)/\wr.ownsRow 0 38 3 (.slice A k d) k xs/\
  wr.ownsRow 0 9 1 (.slice LL a.labels.length lc) a.labels.length (a.labels.map Value.string)/\(∀ j t,j < k->ks[j]?=some t->OTy wr t (part3 xs j) (fs j))/\
  (blk LL ++ blk A ++ (List.range k).flatMap fs).Nodup/\(∀ b∈blk LL ++ blk A ++ (List.range k).flatMap fs,w.heap.size<=b/\b < wr.heap.size/\b≠g)/\w.heap.size<=g/\Below w.heap.size w wr
theorem Znw {a:TyA}{ks:List Ty}{w:World}{g:Nat}{LL:Option Addr}{lc k:Nat}{A:Option Addr}{d:Nat}{xs:List Value}{fs:Nat->List Nat}{wr:World}(h:CInv a ks w g LL lc k A d xs fs wr)(hk:k < ks.length)
  {w2 w4:World} {fp:List Nat} {r0 r1 r2 v':Value} (hb2:Below wr.heap.size wr w2) (hot:OTy w2 ks[k] [r0,r1,r2] fp) (hfp:∀ b∈fp,wr.heap.size<=b/\b < w2.heap.size)
  (hown:w4.ownsRow 0 38 3 v' (k+1) (xs ++ [r0,r1,r2])) (hgr:(w2.alloc (.cells #[r0,r1,r2] 38)).grownBy w4 (Value.slice A k d).ownBlock)
  (hor:v'.ownBlock=(Value.slice A k d).ownBlock∨v'.ownBlock=some (w2.heap.size+1)) :
  ∃ A' d' fs',v'=.slice A' (k+1) d'/\CInv a ks w g LL lc (k+1) A' d' (xs ++ [r0,r1,r2]) fs' (w4.setCell ⟨g,2,none⟩ v'):=by
 obtain ⟨A',d',rfl⟩:=Zep hown;obtain ⟨hbox,hrow,hlab,hkid,hnd,hbd,hwg,hb⟩:=h;have hxl:xs.length=k * 3:=hrow.1;have hgl:=hbox.lt;have hs2:=hb2.size;have hsw:=hb.size;obtain ⟨w3,hw3⟩:∃ w3,w2.alloc (.cells #[r0,r1,r2] 38)=w3:=⟨_,rfl⟩;have hz3:w3.heap.size=w2.heap.size+1:=by rw [<-hw3];simp
 rw [hw3] at hgr;have hs4:=hgr.size;obtain ⟨w5,hw5⟩:∃ w5,w4.setCell ⟨g,2,none⟩ (.slice A' (k+1) d')=w5:=⟨_,rfl⟩;have hg5:w4.grownBy w5 (some g):=by rw [<-hw5];exact Zaa (gQ) _
 have hs5:=hg5.size;have hb3:Below wr.heap.size wr w3:=by rw [<-hw3];exact hb2.alloc hs2 _
 have hrowA:∀ b,(Value.slice A k d).ownBlock=some b↔b∈blk A:=Zam A k d;obtain ⟨nL,nA,nF,dLA,dLF,dAF⟩:=Zxn.1 hnd;have bdL:∀ b∈blk LL,w.heap.size<=b/\b < wr.heap.size/\b≠g:=fun b hm=>hbd b (by simp [hm])
 have bdA:∀ b∈blk A,w.heap.size<=b/\b < wr.heap.size/\b≠g:=fun b hm=>hbd b (by simp [hm])
 have bdF:∀ b∈(List.range k).flatMap fs,w.heap.size<=b/\b < wr.heap.size/\b≠g:=fun b hm=>hbd b (List.mem_append.2 (.inr hm))
 have hA':∀ b∈blk A',b∈blk A∨b=w2.heap.size+1:=by
  intro b hm
  have e:=(Zam A' (k+1) d' b).2 hm
  rcases hor with h|h
  ·rw [h] at e;exact .inl ((hrowA b).1 e)
  ·rw [h] at e;injection e with e;exact .inr e.symm
 have hlt':∀ b∈blk A',b < w4.heap.size:=fun b hm=>(hown.lt b ((Zam A' (k+1) d' b).2 hm)).2
 have notrow:∀ b,b∉blk A->some b≠(Value.slice A k d).ownBlock:=fun b hm e=>hm ((hrowA b).1 e.symm)
 have hgA:g∉blk A:=fun hm=>(bdA g hm).2.2 rfl
 have hfj:∀ j,j < k->∀ b∈fs j,b∈(List.range k).flatMap fs:=fun j hj b hm=>List.mem_flatMap.2 ⟨j,List.mem_range.2 hj,hm⟩
 refine ⟨A',d',fun j=>if j=k then fp else fs j,rfl,?_⟩;rw [hw5];refine ⟨?_,?_,?_,fun j t hj ht=>?_,?_,?_,hwg,?_⟩
 ·rw [<-hw5]
  exact ((hbox.under hb3 hgl).grown hgr (notrow g hgA)).set2 _
 ·exact Zav hown hg5 (fun b hm e=>by
   injection e with e
   subst e
   rcases hA' b hm with h|h
   ·exact hgA h
   ·omega)
 ·refine Zav (Zav (Zav hlab (row:=none) ⟨hb3.os,hb3.tape,hb3.output,hb3.size,fun i hi _=>hb3.block i hi⟩ (fun b _=>by simp)) hgr (fun b hm=>notrow b (dLA b hm))) hg5 (fun b hm e=>by injection e with e;exact (bdL b hm).2.2 e)
 ·show OTy _ _ _ (if j=k then fp else fs j)
  by_cases e:j=k
  ·subst e
   rw [List.getElem?_eq_getElem hk] at ht;injection ht with ht
   subst ht;rw [if_pos rfl,Zxv hxl];have h3:OTy w3 ks[j] [r0,r1,r2] fp:=by rw [<-hw3];exact hot.under (bQ.alloc nQ _)
   refine (h3.keep hgr (fun b hm=>notrow b (fun hA=>?_))).keep hg5 (fun b hm e=>?_)
   ·have h1:=bdA b hA
    have h2:=hfp b hm
    omega
   ·injection e with e
    have h2:=hfp b hm
    omega
  ·have hj':j < k:=by omega
   rw [if_neg e,Zxu hxl hj'];refine (((hkid j t hj' ht).under hb3).keep hgr (fun b hm=>notrow b (fun hA=>dAF b hA (hfj j hj' b hm)))).keep hg5 (fun b hm e=>?_);injection e with e
   exact (bdF b (hfj j hj' b hm)).2.2 e
 ·rw [Zel]
  refine Zxn.2 ⟨nL,Zek _,List.nodup_append.2 ⟨nF,hot.nodup,fun x hx y hy e=>?_⟩,fun x hx hy=>?_,fun x hx hy=>?_,fun x hx hy=>?_⟩
  ·have h1:=bdF x hx
   have h2:=hfp y hy
   omega
  ·have h1:=bdL x hx
   rcases hA' x hy with h|h
   ·exact dLA x hx h
   ·omega
  ·have h1:=bdL x hx
   rcases List.mem_append.1 hy with h|h
   ·exact dLF x hx h
   ·have:=hfp x h;omega
  ·rcases hA' x hx with h1|h1
   ·have h3:=bdA x h1
    rcases List.mem_append.1 hy with h|h
    ·exact dAF x h1 h
    ·have:=hfp x h;omega
   ·rcases List.mem_append.1 hy with h|h
    ·have:=bdF x h;omega
    ·have:=hfp x h;omega
 ·rw [Zel]
  intro b hm
  rcases List.mem_append.1 hm with hm|hm
  ·rcases List.mem_append.1 hm with hm|hm
   ·have:=bdL b hm;exact ⟨this.1,by omega,this.2.2⟩
   ·have h2:=hlt' b hm
    rcases hA' b hm with h|h
    ·have:=bdA b h;exact ⟨this.1,by omega,this.2.2⟩
    ·exact ⟨by omega,by omega,by omega⟩
  ·rcases List.mem_append.1 hm with hm|hm
   ·have:=bdF b hm;exact ⟨this.1,by omega,this.2.2⟩
   ·have:=hfp b hm;exact ⟨by omega,by omega,by omega⟩
 ·have h4:Below w.heap.size w w4:=(hb.trans (hb3.mono hb.size)).grown hgr (by omega) (fun b hm=>(bdA b ((hrowA b).1 hm)).1)
  exact h4.grown hg5 h4.size (fun b hm=>by injection hm with hm;omega)
theorem one3 (k:Int)(L A:Option Addr)(l c n d:Nat):∀ u∈[Value.int .i64 k,.slice L l c,.slice A n d],u.oneCell'=true:=by
 intro u hu
 simp at hu
 rcases hu with rfl|rfl|rfl <;> rfl
def C0 (a:TyA)(ks:List Ty)(W1:World)(s3:Value)(wx:World):Prop:=∃ g LL lc,s3=.pointer (some ⟨g,0,none⟩)/\CInv a ks W1 g LL lc 0 none 0 [] (fun _=>[]) wx
theorem c0_at {a:TyA}{ks:List Ty}{W1 V:World}{g base:Nat}{LL:Option Addr}{lc:Nat}(hb:Below W1.heap.size W1 V)(hbox:Box3 V g 38 (.int .i64 a.kind) (.slice LL a.labels.length lc) (.slice none 0 0))(hg:W1.heap.size<=g)
  (hown:V.ownsRow base 9 1 (.slice LL a.labels.length lc) a.labels.length (a.labels.map Value.string)) (hbase:W1.heap.size<=base) (hne:∀ b∈blk LL,b≠g):C0 a ks W1 (.pointer (some ⟨g,0,none⟩)) V:=by
 have hbL:∀ b∈blk LL,W1.heap.size<=b/\b < V.heap.size:=fun b hm=>by
  have:=hown.lt b ((Zam LL _ lc b).2 hm)
  exact ⟨Nat.le_trans hbase this.1,this.2⟩
 refine ⟨g,LL,lc,rfl,hbox,⟨rfl,.inl ⟨rfl,rfl⟩⟩,Zne hown,fun j t hj=>by omega,?_,fun b hm=>?_,hg,hb⟩
 ·simp [blk]
  exact Zek LL
 ·have hm':b∈blk LL:=by simpa [blk] using hm
  exact ⟨(hbL b hm').1,(hbL b hm').2,hne b hm'⟩
theorem c0_of {a:TyA}{ks:List Ty}{W1 U:World}{g base:Nat}{LL:Option Addr}{lc:Nat}(hb:Below W1.heap.size W1 U)(hbox:Box3 U g 38 (.int .i64 0) (.slice none 0 0) (.slice none 0 0))(hg:W1.heap.size<=g)
  (hown:U.ownsRow base 9 1 (.slice LL a.labels.length lc) a.labels.length (a.labels.map Value.string)) (hbase:W1.heap.size<=base) (hne:∀ b∈blk LL,b≠g) :
  C0 a ks W1 (.pointer (some ⟨g,0,none⟩)) (((U.setCell ⟨g,0,none⟩ (.int .i64 a.kind)).setCell ⟨g,1,none⟩ (.slice LL a.labels.length lc)).setCell ⟨g,2,none⟩ (.slice none 0 0)):=by
 obtain ⟨V,hV⟩:∃ V,((U.setCell ⟨g,0,none⟩ (.int .i64 a.kind)).setCell ⟨g,1,none⟩ (.slice LL a.labels.length lc)).setCell ⟨g,2,none⟩ (.slice none 0 0)=V:=⟨_,rfl⟩;have hgV:U.grownBy V (some g):=by rw [<-hV];exact Zaa (Zaa (Zaa (gQ) _) _) _
 rw [hV];refine c0_at (lc:=lc) (hb.grown hgV hb.size (fun b hm=>by injection hm with hm;omega)) ?_ hg (base:=base) ?_ hbase hne
 ·rw [<-hV]
  exact ((hbox.set0 _).set1 _).set2 _
 ·exact Zav hown hgV (fun b hm e=>by injection e with e;exact hne b hm e)
theorem Zbo {w:World}{g:Nat}{a b c u:Value}{p:Addr}(h:w.cell? p=some u)(hne:p.block≠g):(((w.setCell ⟨g,0,none⟩ a).setCell ⟨g,1,none⟩ b).setCell ⟨g,2,none⟩ c).cell? p=some u:=by
 have hg:w.grownBy (((w.setCell ⟨g,0,none⟩ a).setCell ⟨g,1,none⟩ b).setCell ⟨g,2,none⟩ c) (some g):=Zaa (Zaa (Zaa (gQ) _) _) _;exact (World.cell?_of_block (hg.block _ (World.block_lt_of_cell? w _ h) (fun e=>hne (by injection e)))).trans h
def CRel (a:TyA)(ks:List Ty)(W1:World)(g:Nat)(LL:Option Addr)(lc:Nat)(i:Value)(wr:World):Prop:=∃ (k:Nat)(A:Option Addr)(d:Nat)(xs:List Value)(fs:Nat->List Nat),k<=ks.length/\i=.int .i64 k/\CInv a ks W1 g LL lc k A d xs fs wr
theorem CInv.drew {a:TyA}{ks:List Ty}{w:World}{g:Nat}{LL:Option Addr}{lc k:Nat}{A:Option Addr}{d:Nat}{xs:List Value}{fs:Nat->List Nat}{wr:World}(h:CInv a ks w g LL lc k A d xs fs wr):CInv a ks w g LL lc k A d xs fs wr.drew:=by
 obtain ⟨h1,h2,h3,h4,h5,h6,h7,h8⟩:=h;exact ⟨h1,h2,h3,fun j t hj ht=>(h4 j t hj ht).under bQ.drew,h5,h6,h7,h8.drew⟩
theorem CInv.apart {a:TyA}{ks:List Ty}{w:World}{g:Nat}{LL:Option Addr}{lc k:Nat}{A:Option Addr}{d:Nat}{xs:List Value}{fs:Nat->List Nat}{wr:World}(h:CInv a ks w g LL lc k A d xs fs wr):some g≠(Value.slice A k d).ownBlock:=by
 obtain ⟨h1,h2,h3,h4,h5,h6,h7,h8⟩:=h
 intro e
 exact (h6 g (by simp [(Zam A k d g).1 e.symm])).2.2 rfl
theorem CInv.box {a:TyA}{ks:List Ty}{w:World}{g:Nat}{LL:Option Addr}{lc k:Nat}{A:Option Addr}{d:Nat}{xs:List Value}{fs:Nat->List Nat}{wr:World}(h:CInv a ks w g LL lc k A d xs fs wr):Box3 wr g 38 (.int .i64 a.kind) (.slice LL a.labels.length lc) (.slice A k d):=h.1
theorem CInv.row {a:TyA}{ks:List Ty}{w:World}{g:Nat}{LL:Option Addr}{lc k:Nat}{A:Option Addr}{d:Nat}{xs:List Value}{fs:Nat->List Nat}{wr:World}(h:CInv a ks w g LL lc k A d xs fs wr):wr.ownsRow 0 38 3 (.slice A k d) k xs:=h.2.1
theorem CInv.bel {a:TyA}{ks:List Ty}{w:World}{g:Nat}{LL:Option Addr}{lc k:Nat}{A:Option Addr}{d:Nat}{xs:List Value}{fs:Nat->List Nat}{wr:World}(h:CInv a ks w g LL lc k A d xs fs wr):Below w.heap.size w wr:=h.2.2.2.2.2.2.2
theorem Zly {w w':World}{base:Nat}{e:TypeId}{A:Option Addr}{n c:Nat}{xs:List Value}(h:w.ownsRow base e 3 (.slice A n c) n xs)(hb:Below w.heap.size w w'):w'.ownsRow base e 3 (.slice A n c) n xs:=
 Zav h (row:=none) ⟨hb.os,hb.tape,hb.output,hb.size,fun i hi _=>hb.block i hi⟩ (fun b _=>by simp)
theorem news3 (w:World)(a b c:Value)(t:TypeId):∀ (j:Nat)(u:Value),[a,b,c][j]?=some u->(w.alloc (.cells #[a,b,c] t)).cell? ((⟨w.heap.size,0,none⟩:Addr).add j)=some u:=by
 intro j u hj
 rw [Addr.add_lit,Nat.zero_add,cell_of_row _ _ j #[a,b,c] t (0,0) (heap_alloc_new w _)]
 match j,hj with
 | 0,hj=>simpa using hj
 | 1,hj=>simpa using hj
 | 2,hj=>simpa using hj
theorem Zny {a:TyA}{ks:List Ty}{w W1:World}{g:Nat}{LL:Option Addr}{lc:Nat}{A:Option Addr}{d:Nat}{xs:List Value}{fs:Nat->List Nat}{wr:World}{G:Nat}(ha:a.ok)(hk:ks.length<=9223372036854775807)
  (h:CInv a ks W1 g LL lc ks.length A d xs fs wr) (hb1:Below w.heap.size w W1) (hG:G < W1.heap.size) (hwG:w.heap.size<=G) {U:World} (hU:wr.grownBy U (some G)) :
  MadeT (.node a ks) w (.returned (.agg #[.int .i64 a.kind,.slice LL a.labels.length lc,.slice A ks.length d])) U:=by
 obtain ⟨h1,h2,h3,h4,h5,h6,h7,h8⟩:=h;have hsU:=hU.size;have hs1:=hb1.size;have ne:∀ b∈blk LL ++ blk A ++ (List.range ks.length).flatMap fs,some b≠some G:=fun b hb e=>by
  injection e with e
  have:=(h6 b hb).1
  omega
 refine ⟨LL,A,lc,d,blk LL ++ blk A ++ (List.range ks.length).flatMap fs,rfl,?_,fun b hb=>?_,?_⟩
 ·refine .node a ks LL A lc d xs fs ha (Zav h3 hU (fun b hb=>ne b (by simp [hb]))) hk (Zav h2 hU (fun b hb=>ne b (by simp [hb]))) (fun j t hj=>?_) h5
  have hjl:=(List.getElem?_eq_some_iff.1 hj).1;refine (h4 j t hjl hj).keep hU (fun b hb=>ne b ?_);rw [List.mem_append,List.mem_flatMap];exact .inr ⟨j,List.mem_range.2 hjl,hb⟩
 ·have:=h6 b hb
  omega
 ·exact (hb1.trans (h8.mono hs1)).grown hU (by have:=h8.size;omega) (fun k hk=>by injection hk with hk;omega)
def CopyK (t:Ty):Prop:=∀ (w:World)(cs:List Value),RTy w t cs->wt t<=1048576->Calls Tryz.prog 135 #[.agg cs.toArray] w (MadeT t w)
theorem Zcm:∀ t:Ty,CopyK t:=by
 obtain ⟨i0,hi,hz0,hz1,hz2⟩:=info_parts Zif;obtain ⟨i1,hi1,hy0,hy1,hy2⟩:=info_parts Zlu;refine Tr.ind ?_
 intro a ks ih w cs h hw
 obtain ⟨L,c,A,d,rfl,k1,k2,k3,k4,k5,k6,hp⟩:=h.out;have hwk:∀ t∈ks,wt t<=1048576:=fun t ht=>by
  have h1:=Ztq wt ht;rw [Zdn] at hw;unfold wtK at hw
  omega
 rw [Zdn] at hw;have hl:a.labels.length<=1048576:=by unfold wtA at hw;omega
 have hkl:ks.length<=1048576:=by unfold wtK at hw;omega
 obtain ⟨W1,hW1⟩:∃ W1,(w.alloc (.cells #[.int .i64 a.kind,.slice L a.labels.length c,.slice A ks.length d] 38)).alloc (.cells #[.int .i64 0,.slice none 0 0,.slice none 0 0] 38)=W1:=⟨_,rfl⟩;obtain ⟨H,hH⟩:∃ H,w.heap.size=H:=⟨_,rfl⟩;have b0:Box3 W1 H 38 (.int .i64 a.kind) (.slice L a.labels.length c) (.slice A ks.length d):=by rw [<-hW1,<-hH];exact (Box3.new w _ _ _ _).alloc _
 have b1:Box3 W1 (H+1) 38 (.int .i64 0) (.slice none 0 0) (.slice none 0 0):=by
  rw [<-hW1,<-hH]
  have:=Box3.new (w.alloc (.cells #[.int .i64 a.kind,.slice L a.labels.length c,.slice A ks.length d] 38)) 38 (.int .i64 0) (.slice none 0 0) (.slice none 0 0)
  simpa using this
 have hb1:Below w.heap.size w W1:=by rw [<-hW1];exact (bQ.alloc nQ _).alloc (by simp) _
 obtain ⟨N,hN⟩:∃ N,W1.heap.size=N:=⟨_,rfl⟩;have hHN:H+2=N:=by rw [<-hN,<-hW1,<-hH];simp
 have o1:(W1.alloc (.cells #[] 9)).drew.ownsRow N 9 1 (.slice (some ⟨N,0,none⟩) 0 0) 0 []:=by
  have:=World.ownsRow_made (base:=N) (size:=1) (e:=9) W1 #[] 0 (by omega) (by unfold maxLen;omega) (by simp)
  rw [hN] at this;exact this
 have o2:((W1.alloc (.cells #[] 9)).alloc (.cells #[.int .i64 0,.slice none 0 0,.slice none 0 0] 38)).drew.ownsRow N 9 1 (.slice (some ⟨N,0,none⟩) 0 0) 0 []:=World.ownsRow.alloc (w:=W1.alloc (.cells #[] 9)) o1 _;have o3:((W1.alloc (.cells #[.int .i64 0,.slice none 0 0,.slice none 0 0] 38)).alloc (.cells #[] 9)).drew.ownsRow N 9 1 (.slice (some ⟨N+1,0,none⟩) 0 0) 0 []:=by
  have:=World.ownsRow_made (base:=N) (size:=1) (e:=9) (W1.alloc (.cells #[.int .i64 0,.slice none 0 0,.slice none 0 0] 38)) #[] 0 (by simp;omega) (by unfold maxLen;omega) (by simp)
  simp only [World.size_alloc,hN] at this;exact this
 have d1:Below W1.heap.size W1 (W1.alloc (.cells #[] 9)).drew:=(bQ.alloc nQ _).drew;have d2:Below W1.heap.size W1 ((W1.alloc (.cells #[] 9)).alloc (.cells #[.int .i64 0,.slice none 0 0,.slice none 0 0] 38)).drew:=((bQ.alloc nQ _).alloc (by simp) _).drew;have d3:Below W1.heap.size W1 ((W1.alloc (.cells #[.int .i64 0,.slice none 0 0,.slice none 0 0] 38)).alloc (.cells #[] 9)).drew:=((bQ.alloc nQ _).alloc (by simp) _).drew;have z2:Box3 ((W1.alloc (.cells #[] 9)).alloc (.cells #[.int .i64 0,.slice none 0 0,.slice none 0 0] 38)).drew (N+1) 38 (.int .i64 0) (.slice none 0 0) (.slice none 0 0):=by
  have:=Box3.new (W1.alloc (.cells #[] 9)) 38 (.int .i64 0) (.slice none 0 0) (.slice none 0 0)
  simp only [World.size_alloc,hN] at this;exact this
 have z3:Box3 ((W1.alloc (.cells #[.int .i64 0,.slice none 0 0,.slice none 0 0] 38)).alloc (.cells #[] 9)).drew N 38 (.int .i64 0) (.slice none 0 0) (.slice none 0 0):=by
  have:=(Box3.new W1 38 (.int .i64 0) (.slice none 0 0) (.slice none 0 0)).alloc (.cells #[] 9)
  rw [hN] at this;exact this
 have O1:=hQ o1;have O2:=hQ o2;have O3:=hQ o3;have D1:=hQ d1;have D2:=hQ d2;have D3:=hQ d3;have Z2:=hQ z2;have Z3:=hQ z3;have HW1:=hQ hW1;have HP:=hQ (hp.keep hb1);have HL:=hQ (k1.below hb1);have HB1:=hQ hb1;have HX:=hQ k5;have HI:=hQ ih;have B0:=hQ b0;have B1:=hQ b1;have HH:=hQ hH;have HWK:=hQ hwk;have HHN:=hQ hHN;have HN:=hQ hN;clear hp ih k1 k5 h hw hW1 hb1 hwk hHN o1 o2 o3 d1 d2 d3 z2 z3;have x0:=b0.c0;have x1:=b0.c1;have hHlt:H < W1.heap.size:=b0.lt;clear b0 b1;have n0:=World.new_ne W1 _ x0;have n1:=World.new_ne W1 _ x1;have hHN0:H≠N:=by omega
 have hHN1:H≠N+1:=by omega
 go_enter Tryz.func135,Tryz.ntmps135
 go_upto_region 1 with (fail)
 rw [HW1.out];go_cut [3] from 5 to 11 (fun s3 wx=>C0 a ks W1 s3 wx)
 case first=>
  go_region_held3 (fun w'=>w'.cell? ⟨H,0,none⟩=some (.int .i64 a.kind)/\w'.cell? ⟨H,1,none⟩=some (.slice L a.labels.length c)) (first | go_keep | exact ⟨Zbo q0 hHN1,Zbo q1 hHN1⟩ | exact ⟨Zbo q0 hHN0,Zbo q1 hHN0⟩)
   (first
    | (refine Zdx (by rfl) (.tmp 7) (.tmp 9) 26 (by rfl) N 9 i0 _ 16 Tryz.underlying26 hi hz0 hz1 hz2 (by rfl) (.slice (some ⟨N,0,none⟩) 0 0) (by rfl) O1.out L a.labels.length c (a.labels.map Value.string) (by rfl) (by simp) (HL.out.below D1.out) (Zbx _) (by unfold maxLen;omega) (by omega) (by simp;omega) ?_;intro LL lc w' hown hgr hor;have bq:=(B0.out.under D1.out hHlt).grown hgr (by show some H≠some N;intro e;injection e with e;omega);have q0:=bq.c0;have q1:=bq.c1;have n0:=World.new_ne w' _ q0;have n1:=World.new_ne w' _ q1;have HOW:=hQ hown;have HGR:=hQ hgr;have HOR:=hQ hor;clear hown hgr hor bq)
    | (refine Zdx (by rfl) (.tmp 7) (.tmp 9) 26 (by rfl) N 9 i0 _ 16 Tryz.underlying26 hi hz0 hz1 hz2 (by rfl) (.slice (some ⟨N,0,none⟩) 0 0) (by rfl) O2.out L a.labels.length c (a.labels.map Value.string) (by rfl) (by simp) (HL.out.below D2.out) (Zbx _) (by unfold maxLen;omega) (by omega) (by simp;omega) ?_;intro LL lc w' hown hgr hor;have bq:=(B0.out.under D2.out hHlt).grown hgr (by show some H≠some N;intro e;injection e with e;omega);have q0:=bq.c0;have q1:=bq.c1;have n0:=World.new_ne w' _ q0;have n1:=World.new_ne w' _ q1;have bz:=Z2.out.grown hgr (by show some (N+1)≠some N;intro e;injection e with e;omega);have t0:=bz.c0;have t1:=bz.c1;have t2:=bz.c2;have f0:=bz.free 0;have f1:=bz.free 1;have f2:=bz.free 2;have HOW:=hQ hown;have HGR:=hQ hgr;have HOR:=hQ hor;clear hown hgr hor bq bz)
    | (refine Zdx (by rfl) (.tmp 7) (.tmp 9) 26 (by rfl) N 9 i0 _ 16 Tryz.underlying26 hi hz0 hz1 hz2 (by rfl) (.slice (some ⟨N+1,0,none⟩) 0 0) (by rfl) O3.out L a.labels.length c (a.labels.map Value.string) (by rfl) (by simp) (HL.out.below D3.out) (Zbx _) (by unfold maxLen;omega) (by omega) (by simp;omega) ?_;intro LL lc w' hown hgr hor;have bq:=(B0.out.under D3.out hHlt).grown hgr (by show some H≠some (N+1);intro e;injection e with e;omega);have q0:=bq.c0;have q1:=bq.c1;have n0:=World.new_ne w' _ q0;have n1:=World.new_ne w' _ q1;have bz:=Z3.out.grown hgr (by show some N≠some (N+1);intro e;injection e with e;omega);have t0:=bz.c0;have t1:=bz.c1;have t2:=bz.c2;have f0:=bz.free 0;have f1:=bz.free 1;have f2:=bz.free 2;have HOW:=hQ hown;have HGR:=hQ hgr;have HOR:=hQ hor;clear hown hgr hor bq bz))
  ·go_wp2_with fail
   go_meet
   case rel=>
    have hb3:=D1.out.grown HGR.out D1.out.size (fun k hk=>by have e:some N=some k:=hk;injection e with e;omega);exact c0_at (hb3.alloc hb3.size _) (Box3.new w' _ _ _ _) hb3.size (HOW.out.alloc _) (by omega) (fun b hm e=>by have:=(HOW.out.lt b ((Zam LL _ lc b).2 hm)).2;omega)
  ·go_wp2_with fail
   go_meet
   case rel=>
    have hb3:=D2.out.grown HGR.out D2.out.size (fun k hk=>by have e:some N=some k:=hk;injection e with e;omega);exact c0_of hb3 (Z2.out.grown HGR.out (by show some (N+1)≠some N;intro e;injection e with e;omega)) (by omega) HOW.out (by omega) (fun b hm e=>by
     rcases HOR.out b hm with h|h
     ·have e':some N=some b:=h
      injection e' with e'
      omega
     ·simp only [World.size_drew,World.size_alloc] at h;omega)
  ·go_wp2_with fail
   go_meet
   case rel=>
    have hb3:=D3.out.grown HGR.out D3.out.size (fun k hk=>by have e:some (N+1)=some k:=hk;injection e with e;omega);exact c0_of hb3 (Z3.out.grown HGR.out (by show some N≠some (N+1);intro e;injection e with e;omega)) (by omega) HOW.out (by omega) (fun b hm e=>by
     rcases HOR.out b hm with h|h
     ·have e':some (N+1)=some b:=h
      injection e' with e'
      omega
     ·simp only [World.size_drew,World.size_alloc] at h;omega)
 case rest=>
  obtain ⟨g,LL,lc,rfl,hci⟩:=hcut;have hHN1:=HHN.out;clear x0 x1 n0 n1 hHlt;go_wp2_with fail;go_loopw [4] (fun i wr=>CRel a ks W1 g LL lc i wr) (fun i _=>ks.length - (intOf i).toNat)
  case atStart=>exact ⟨0,none,0,[],fun _=>[],Nat.zero_le _,rfl,hci⟩
  case round=>
   obtain ⟨k,A',d',xs,fs,hk,rfl,hc⟩:=hrel;have HC:=hQ hc;have hbw:=hc.bel;have y2:=(B0.out.under hbw (by omega)).c2;clear hc hci;by_cases hlt:k < ks.length
   ·obtain ⟨ad,p,c0,c1,c2,rfl,hpe,hr,q0,q1,q2⟩:=Zal HP.out hbw hlt
    have g2:=HC.out.box.c2;have HR:=hQ hr;clear hr hbw;go_wp2_with fail;have HD:=hQ HC.out.drew;have HCC:=hQ (HI.out ks[k] (List.getElem_mem hlt) wr.drew [c0,c1,c2] (HR.out.keep bQ.drew) (HWK.out _ (List.getElem_mem hlt)));obtain ⟨x0,hx0⟩:∃ x0,ks[k].top.kind=x0:=⟨_,rfl⟩;obtain ⟨x1,hx1⟩:∃ x1,ks[k].top.labels.length=x1:=⟨_,rfl⟩;obtain ⟨x2,hx2⟩:∃ x2,ks[k].kids.length=x2:=⟨_,rfl⟩;have HNX:Hid (∀ (w2:World) (fp:List Nat) (L2 A2:Option Addr) (l2 d2:Nat),OTy w2 ks[k] [.int .i64 x0,.slice L2 x1 l2,.slice A2 x2 d2] fp->(∀ b∈fp,wr.drew.heap.size<=b/\b < w2.heap.size)->Below wr.drew.heap.size wr.drew w2->
      ∀ (i:Value) (A4:Option Addr) (d4:Nat) (w4:World),i=.int .i64 ((k+1:Nat):Int)->w4.ownsRow 0 38 3 (.slice A4 (k+1) d4) (k+1) (xs ++ [.int .i64 x0,.slice L2 x1 l2,.slice A2 x2 d2])->
      (w2.alloc (.cells #[.int .i64 x0,.slice L2 x1 l2,.slice A2 x2 d2] 38)).grownBy w4 (Value.slice A' k d').ownBlock->((Value.slice A4 (k+1) d4).ownBlock=(Value.slice A' k d').ownBlock∨(Value.slice A4 (k+1) d4).ownBlock=some (w2.heap.size+1))->
      CRel a ks W1 g LL lc i (w4.setCell ⟨g,2,none⟩ (.slice A4 (k+1) d4))):=by
     intro w2 fp L2 A2 l2 d2 hot hfp hb2 i A4 d4 w4 hii h1 h2 h3
     obtain ⟨A5,d5,fs',e,hcv⟩:=Znw HD.out hlt hb2 hot hfp h1 h2 h3;injection e with e1 _ e3
     subst e1;subst e3;exact ⟨k+1,A4,d4,_,fs',hlt,hii,hcv⟩
    have HCD:Hid (∀ (e:Ending) (w2:World),MadeT ks[k] wr.drew e w2->∃ (L2 A2:Option Addr) (l2 d2:Nat),e=.returned (.agg #[.int .i64 x0,.slice L2 x1 l2,.slice A2 x2 d2])/\w2.cell? ⟨g,2,none⟩=some (.slice A' k d')/\
      (w2.alloc (.cells #[.int .i64 x0,.slice L2 x1 l2,.slice A2 x2 d2] 38)).ownsRow 0 38 3 (.slice A' k d') k xs/\
      Box3 (w2.alloc (.cells #[.int .i64 x0,.slice L2 x1 l2,.slice A2 x2 d2] 38)) g 38 (.int .i64 a.kind) (.slice LL a.labels.length lc) (.slice A' k d')/\
      ∀ (i:Value) (A4:Option Addr) (d4:Nat) (w4:World),i=.int .i64 ((k+1:Nat):Int)->w4.ownsRow 0 38 3 (.slice A4 (k+1) d4) (k+1) (xs ++ [.int .i64 x0,.slice L2 x1 l2,.slice A2 x2 d2])->
      (w2.alloc (.cells #[.int .i64 x0,.slice L2 x1 l2,.slice A2 x2 d2] 38)).grownBy w4 (Value.slice A' k d').ownBlock->((Value.slice A4 (k+1) d4).ownBlock=(Value.slice A' k d').ownBlock∨(Value.slice A4 (k+1) d4).ownBlock=some (w2.heap.size+1))->
      CRel a ks W1 g LL lc i (w4.setCell ⟨g,2,none⟩ (.slice A4 (k+1) d4))):=by
     rintro e w2 ⟨L2,A2,l2,d2,fp,rfl,hot,hfp,hb2⟩;rw [hx0,hx1,hx2] at hot ⊢;have hd2:Below wr.drew.heap.size wr.drew (w2.alloc (.cells #[.int .i64 x0,.slice L2 x1 l2,.slice A2 x2 d2] 38)):=hb2.alloc hb2.size _;exact ⟨L2,A2,l2,d2,rfl,(HD.out.box.under hb2 HD.out.box.lt).c2,Zly HD.out.row hd2,HD.out.box.under hd2 HD.out.box.lt,HNX.out w2 fp L2 A2 l2 d2 hot hfp hb2⟩
    clear hx0 hx1 hx2 HNX;go_wp2_with fail;go_region_law (first
     | (go_simp;refine HCC.out.mono ?_;rintro e w2 hmade;obtain ⟨L2,A2,l2,d2,rfl,e2,hrw,hbx,hnx⟩:=HCD.out _ _ hmade;clear hmade;have e3:=hbx.c2;have HRW:=hQ hrw;have HBX:=hQ hbx;have HNX:=hQ hnx;clear hrw hbx hnx;have HNW:=hQ (news3 w2 (.int .i64 x0) (.slice L2 x1 l2) (.slice A2 x2 d2) 38);have m2:=World.new_ne w2 _ e2)
     | (refine Zgj (by rfl) (.tmp 20) (.tmp 27) 36 (by rfl) 0 38 i1 _ 3 56 Tryz.underlying36 hi1 hy0 hy1 hy2 (by rfl) (by omega) (.slice A' k d') k xs (by rfl) HRW.out ⟨w2.heap.size,0,none⟩ 1 1 [.int .i64 x0,.slice L2 x1 l2,.slice A2 x2 d2] (by rfl) (by rfl) HNW.out (one3 _ _ _ _ _ _ _) (by unfold maxLen;omega) (by omega) (Nat.zero_le _) ?_;intro A4 d4 w4 hown4 hgr4 hor4;have bx4:=HBX.out.grown hgr4 HD.out.apart;have g4:=bx4.c2;have f4:=bx4.free 2;have HNW4:=hQ (fun i hi=>HNX.out i A4 d4 w4 hi hown4 hgr4 (by simpa using hor4));clear hown4 hgr4 hor4 bx4))
    all_goals go_wp2_with fail
    all_goals go_roundw
    all_goals first
     | exact HNW4.out _ (by go_num)
     | (simp [intOf];omega)
   ·have he:k=ks.length:=by omega
    subst he;have bg:=HC.out.box;have g0:=bg.c0;have g1:=bg.c1;have g2:=bg.c2;have br:=B1.out.under hbw (by omega);have r0:=br.c0;have r1:=br.c1;have r2:=br.c2;have s0:=br.free 0;have s1:=br.free 1;have s2:=br.free 2;have BR:=hQ br;clear bg br hbw;go_wp2_with fail;generalize hU:((wr.setCell ⟨H+1,0,none⟩ (.int .i64 a.kind)).setCell ⟨H+1,1,none⟩ (.slice LL a.labels.length lc)).setCell ⟨H+1,2,none⟩ (.slice A' ks.length d')=U;have hgU:wr.grownBy U (some (H+1)):=by rw [<-hU];exact Zaa (Zaa (Zaa (gQ) _) _) _
    have u1:Box3 U (H+1) 38 (.int .i64 a.kind) (.slice LL a.labels.length lc) (.slice A' ks.length d'):=by
     rw [<-hU];exact ((BR.out.set0 _).set1 _).set2 _
    have HRR:=hQ (Zny (w:=w) (W1:=W1) (G:=H+1) ⟨k2,k3,k4,HX.out⟩ k6 HC.out HB1.out (by omega) (by have:=HH.out;omega) hgU);have t0:=u1.c0;have t1:=u1.c1;have t2:=u1.c2;clear hU hgU u1 g0 g1 g2 r0 r1 r2 s0 s1 s2;exact bodyPost_ret (v:=.agg #[.int .i64 a.kind,.slice LL a.labels.length lc,.slice A' ks.length d']) (by simp [results,Tryz.results135,go_sem,t0,t1,t2]) rfl HRR.out
end Go.Proofs.YtlcedleebbgebaaGreatDoor
