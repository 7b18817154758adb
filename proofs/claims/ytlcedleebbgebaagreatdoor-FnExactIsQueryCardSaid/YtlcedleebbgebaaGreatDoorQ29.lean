/-
  Merged by program: CopVT, Unite, DnmI, RotI, TypN5, IdxO.
-/
import Derived.Test.YtlcedleebbgebaaGreatDoorQ28
import Derived.Test.YtlcedleebbgebaaGreatDoorQ26
import Derived.Test.YtlcedleebbgebaaGreatDoorShelf
set_option maxRecDepth 100000
set_option maxHeartbeats 4000000
set_option linter.all false
namespace Go.Proofs.YtlcedleebbgebaaGreatDoor
open Go.RowKit Go.Shelf
attribute [local go_sem] Oper.semAt_some
theorem Zxr {w:World}{base size n:Nat}{e:TypeId}{A:Option Addr}{c:Nat}{xs:List Value}(h:w.ownsRow base e size (.slice A n c) n xs)(hn:0 < n):∃ g,A=some ⟨g,0,none⟩:=by
 rcases h.2 with ⟨_,h2⟩|⟨g,cap,cur,h1,_⟩
 ·omega
 ·injection h1 with h1 _ _
  exact ⟨g,h1⟩
theorem Zlv {w w':World}{base size n:Nat}{e:TypeId}{A:Option Addr}{c:Nat}{xs:List Value}(h:w.ownsRow base e size (.slice A n c) n xs)(hg:w.grownBy w' none):w'.ownsRow base e size (.slice A n c) n xs:=
 Zav h hg fun b _=>by simp
theorem Znt (w:World)(o:Obj):Below w.heap.size w (w.alloc o):=bQ.alloc nQ o
theorem Zie {w w':World}{K:Nat->Prop}(hg:w.grownBy w' none):Held K w w':=Held.grown hg fun g h=>by cases h
theorem Zzu {w W wr w1 w2:World}{ts:List Ty}{g d k nl nk:Nat}{xs ys news:List Value}{cells:Array Value}{v1 v2:Value}{labs:List Value}
  (HM:∀ (v1 v2:Value) (w':World),w'.ownsRow 0 38 3 (.slice (some ⟨g,0,none⟩) ts.length d) ts.length (Ziw ys k v1 v2)->w'.ownsRow 0 9 1 v1 nl labs->w'.ownsRow 0 38 3 v2 nk news->(nk=0->v2=.slice none 0 0)->Held (fun i=>i≠g) wr w'->
   (∀ b,v1.ownBlock=some b->wr.heap.size<=b)->(∀ b,v2.ownBlock=some b->wr.heap.size<=b)->(∀ b,v1.ownBlock=some b->v2.ownBlock=some b->False)->Zgk w W ts g d xs (k+1) w')
  (ho1:w1.ownsRow 0 9 1 v1 nl labs) (hg1:(wr.alloc (.cells cells 38)).grownBy w1 none) (hb1:∀ b,v1.ownBlock=some b->b=(wr.alloc (.cells cells 38)).heap.size)
  (ho2:w2.ownsRow 0 38 3 v2 nk news) (hg2:(w1.setCell ⟨g,k * 3+1,none⟩ v1).grownBy w2 none) (hn2:nk=0->v2=.slice none 0 0) (hb2:∀ b,v2.ownBlock=some b->b=(w1.setCell ⟨g,k * 3+1,none⟩ v1).heap.size)
  (hr2:w2.ownsRow 0 38 3 (.slice (some ⟨g,0,none⟩) ts.length d) ts.length (ys.set (k * 3+1) v1)) (hgw:g < wr.heap.size):Zgk w W ts g d xs (k+1) (w2.setCell ⟨g,k * 3+2,none⟩ v2):=by
 obtain ⟨L1,c1,rfl⟩:=Zfh ho1;obtain ⟨A2,c2,rfl⟩:=Zfh ho2;have h0:Held (fun i=>i≠g) wr (wr.alloc (.cells cells 38)):=Held.of_below (Znt wr _) fun i hi _=>hi
 have h1:Held (fun i=>i≠g) (wr.alloc (.cells cells 38)) w1:=Zie hg1;have h2:Held (fun i=>i≠g) w1 (w1.setCell ⟨g,k * 3+1,none⟩ (.slice L1 nl c1)):=Held.set w1 (fun h=>h rfl) _;have h3:Held (fun i=>i≠g) (w1.setCell ⟨g,k * 3+1,none⟩ (.slice L1 nl c1)) w2:=Zie hg2;have h4:Held (fun i=>i≠g) w2 (w2.setCell ⟨g,k * 3+2,none⟩ (.slice A2 nk c2)):=Held.set w2 (fun h=>h rfl) _;have s0:=h0.size;have s1:=h1.size;have s2:=h2.size;have e1:∀ b,(Value.slice L1 nl c1).ownBlock=some b->wr.heap.size<=b/\b < w1.heap.size:=fun b hb=>⟨by have:=hb1 b hb;omega,(ho1.lt b hb).2⟩
 have e2:∀ b,(Value.slice A2 nk c2).ownBlock=some b->w1.heap.size<=b:=fun b hb=>by have:=hb2 b hb;omega
 refine HM _ _ _ (hr2.stored (k * 3+2) _).1 (Zdg ho1 (h2.trans (h3.trans h4)) fun b hb=>?_) (Zdg ho2 h4 fun b hb=>?_) hn2 (h0.trans (h1.trans (h2.trans (h3.trans h4)))) (fun b hb=>(e1 b hb).1) (fun b hb=>by have:=e2 b hb;omega) (fun b hb hb'=>?_)
 ·show b≠g
  have:=e1 b ((Zam _ _ _ _).2 hb);omega
 ·show b≠g
  have:=e2 b ((Zam _ _ _ _).2 hb);omega
 ·have:=e1 b hb;have:=e2 b hb';omega
theorem Zfa (t:Ty)(w:World)(cs:List Value)(h:RTy w t cs)(hw:wt t<=1048576):Calls Tryz.prog 43 #[.agg cs.toArray] w (MadeT t w):=by
 obtain ⟨i0,hi0,hz0,hz1,hz2⟩:=info_parts Zlu;obtain ⟨i1,hi1,hy0,hy1,hy2⟩:=info_parts Zif;have hs:=Zkn t;have hoc:∀ u∈cs,u.oneCell'=true:=by
  obtain ⟨L,c,A,d,rfl,_⟩:=RTy.openT h
  intro u hu
  simp only [List.mem_cons,List.not_mem_nil,or_false] at hu
  rcases hu with rfl|rfl|rfl <;> rfl
 obtain ⟨c0,c1,c2,rfl⟩:=RTy.three h;obtain ⟨H,hH⟩:∃ H,w.heap.size=H:=⟨_,rfl⟩;obtain ⟨W0,hW0⟩:∃ W0,(((w.alloc (.cells #[c0,c1,c2] 38)).alloc (.cells #[.int .i64 0,.slice none 0 0,.slice none 0 0] 38)).alloc (.cells #[c0,c1,c2] 38))=W0:=⟨_,rfl⟩;obtain ⟨W2,hW2⟩:∃ W2,(W0.alloc (.cells #[.slice (some ⟨H+2,0,none⟩) 1 1] 36)).alloc (.cells #[.func (.func 87) #[] #[]] 127)=W2:=⟨_,rfl⟩;have hz0':W0.heap.size=H+3:=by rw [<-hW0,<-hH];simp
 have hz2':W2.heap.size=H+5:=by rw [<-hW2];simp;omega
 have hb0:Below w.heap.size w W0:=by rw [<-hW0];exact ((bQ.alloc nQ _).alloc (by simp) _).alloc (by simp;omega) _
 have hb2:Below w.heap.size w W2:=by rw [<-hW2];exact (hb0.alloc hb0.size _).alloc (by have:=hb0.size;simp;omega) _
 have hbx:Boxed W2 (H+3) 36 (.slice (some ⟨H+2,0,none⟩) 1 1):=by rw [<-hW2,<-hz0'];exact (Boxed.new W0 _ _).alloc _
 have hbf:Boxed W2 (H+4) 127 (.func (.func 87) #[] #[]):=by
  rw [<-hW2,show H+4=W0.heap.size+1 by omega]
  have:=Boxed.new (W0.alloc (.cells #[.slice (some ⟨H+2,0,none⟩) 1 1] 36)) 127 (.func (.func 87) #[] #[])
  rw [World.size_alloc] at this;exact this
 have hrow:W2.ownsRow 0 38 3 (.slice (some ⟨H+2,0,none⟩) 1 1) 1 [c0,c1,c2]:=by
  rw [<-hW2];have h1:=World.ownsRow_lit (base:=0) (e:=38) (size:=3) ((w.alloc (.cells #[c0,c1,c2] 38)).alloc (.cells #[.int .i64 0,.slice none 0 0,.slice none 0 0] 38)) #[c0,c1,c2] 1 (Nat.zero_le _) (by unfold maxLen;omega) rfl;have h2:=(h1.alloc (.cells #[.slice (some ⟨H+2,0,none⟩) 1 1] 36)).alloc (.cells #[.func (.func 87) #[] #[]] 127);rw [hW0] at h2;have e:((w.alloc (.cells #[c0,c1,c2] 38)).alloc (.cells #[.int .i64 0,.slice none 0 0,.slice none 0 0] 38)).heap.size=H+2:=by rw [<-hH];simp
  rw [e] at h2;exact h2
 have hres:Box3 W2 (H+1) 38 (.int .i64 0) (.slice none 0 0) (.slice none 0 0):=by
  rw [<-hW2,<-hW0,<-hH]
  have:=((Box3.new (w.alloc (.cells #[c0,c1,c2] 38)) 38 (.int .i64 0) (.slice none 0 0) (.slice none 0 0)).alloc (.cells #[c0,c1,c2] 38)).alloc (.cells #[.slice (some ⟨w.heap.size+2,0,none⟩) 1 1] 36)
  simpa using this.alloc (.cells #[.func (.func 87) #[] #[]] 127)
 have hI0:Zei w [t] (.slice (some ⟨H+2,0,none⟩) 1 1) [([t],.slice (some ⟨H+2,0,none⟩) 1 1)] (fun b=>b=H+2) W2:=by
  refine ⟨hb2,fun b hb=>by subst hb;omega,fun p hp=>?_,fun p hp=>?_,by simp [Zcg,Zbf,blk],fun b hb=>by simpa [Zcg,Zbf,blk] using hb,?_⟩
  ·rw [List.mem_singleton] at hp
   subst hp;refine ⟨_,_,[c0,c1,c2],rfl,by simp,hrow,fun j u hj=>?_⟩
   match j,hj with
   | 0,hj=>simp at hj;subst hj;exact ⟨h,hw⟩
   | j+1,hj=>simp at hj
  ·rw [List.mem_singleton] at hp
   subst hp;exact .inl (by simp)
  ·intro W' Φ _ hA hnd hin
   match Φ,hA with
   | [fp],hA=>exact ⟨fp,hA.1,fun b hb=>.inr (by simpa using hb)⟩
 have hL:=Ztx W0 (some ⟨H+2,0,none⟩) 1 1;rw [hz0'] at hL;have HL:=hQ hL;have HW0:=hQ hW0;have HW2:=hQ hW2;have HB2:=hQ hb2;have HI0:=hQ hI0;have HH:=hQ hH;have HZ2:=hQ hz2';have HT:=hQ h;have HS:=hQ hs;have HWT:=hQ hw;have HBX:=hQ hbx;have HBF:=hQ hbf;have HRES:=hQ hres;clear hL hW0 hW2 hb0 hb2 hI0 hH hz0' hz2' h hs hw hbx hbf hrow hres hoc;refine (callsIn_wide (n:=9)).1 ?_;refine callsIn_of_wp_marks Tryz.func43 rfl trivial ?_ rfl;simp only [Tryz.ntmps43,List.size_toArray,List.length_cons,List.length_nil,Nat.reduceAdd,Nat.reduceSub,Array.replicate_succ,Array.replicate_zero,List.push_toArray,List.append_toArray,List.nil_append,List.cons_append];have hHz:=HH.out
 gi_wp2_with (refine ⟨trivial,?_⟩;gi_at_call 86;rw [HW0.out];refine (callsIn_wide.2 HL.out).mono ?_;rintro e W3 ⟨rfl,rfl⟩;rw [HW2.out])
 have hDz:=HZ2.out;refine Zre (n:=9) (w:=W2) rfl (by decide) (gf:=118) (lb:=#[.pointer (some ⟨H+3,0,none⟩),.pointer (some ⟨H+4,0,none⟩)]) rfl trivial (enters_of Tryz.func118 (by kernel_rfl) rfl)
  (S0:=[([t],.slice (some ⟨H+2,0,none⟩) 1 1)]) (lo:=H+5) (Keep:=fun q=>q=H+4) (by omega) (fun b hb=>by omega) (fun W hW hz=>?gives)
  (fun S F W=>Zei w [t] (.slice (some ⟨H+2,0,none⟩) 1 1) S F W/\(∀ b,F b->b=H+2∨H+7<=b)/\Box3 W (H+1) 38 (.int .i64 0) (.slice none 0 0) (.slice none 0 0)) (fun _=>False) (fun S F A C hi hh=>⟨hi.1.keep (by omega) hh,hi.2.1,(hh.block (H+1) hi.2.2.lt (.inl (by omega))).trans hi.2.2⟩) (fun S F A hi b hb=>⟨fun hk=>by have:=hi.2.1 b hb;omega,(hi.1.fr b hb).2⟩) (fun _ _ hf _=>hf) (fun b=>b=H+2) ⟨HI0.out,fun b hb=>.inl hb,HRES.out⟩
  (fun v=>{ tmps:=#[.agg #[c0,c1,c2],.pointer (some ⟨H,0,none⟩),.pointer (some ⟨H+1,0,none⟩),.slice (some ⟨H+2,0,none⟩) 1 1,v,undef,undef,.agg #[c0,c1,c2],.slice (some ⟨H+2,0,none⟩) 1 1,.slice (some ⟨H+2,0,none⟩) 1 1,.func (.func 118) #[] #[.pointer (some ⟨H+3,0,none⟩),.pointer (some ⟨H+4,0,none⟩)],v,undef,undef,undef,undef,undef,undef,undef,undef,undef,undef,undef,undef,undef,undef,undef,undef,undef,undef,undef,undef,undef,undef,undef,undef,undef],defers:=[] }) ?assign ?body ?done ?stop
 case gives=>
  refine Zna [t] _ 1 (H+5) (9 - 1) (H+3) (by decide) W (by have:=hW.size;omega) (fun q=>q=H+4) rfl ((hW.block _ (by omega)).trans HBX.out) ((hW.block _ (by omega)).trans HBF.out) ?_;have hss:=HS.out;have hww:=HWT.out;rw [Zji]
  show 2 * Zed [t]+1+wST []<=_
  rw [show Zed [t]=t.size by simp [Zed]];simp [wST]
  omega
 case assign=>
  intro l v W K hK
  gi_wp2
  exact hK
 case body=>
  rintro l ts s S F W ⟨hI,hF2,hres⟩ hDW _ _;rw [hDz] at hDW;obtain ⟨A,d,xs,hse,hts,hrow,hkid⟩:=hI.lst _ (List.mem_cons_self ..);have hne:=hI.ne _ (List.mem_cons_self ..);simp only at hse hts hrow hkid hne
  rcases hne with hne|hne
  rotate_left
  ·injection hne with e1 e2
   subst e1 e2;have HE:Hid (Zic (H+5) (fun S F W=>Zei w [t] (.slice (some ⟨H+2,0,none⟩) 1 1) S F W/\(∀ b,F b->b=H+2∨H+7<=b)/\Box3 W (H+1) 38 (.int .i64 0) (.slice none 0 0) (.slice none 0 0)) (fun _=>False) [] (.slice none 0 0) S F W .normal { tmps:=#[],defers:=[] } W):=hQ ⟨Held.refl _ _,fun _=>.slice none 0 0,F,fun b hb=>.inl hb,⟨none,0,rfl,by simp,fun j t hj=>by simp at hj⟩,Zsz hI,hF2,hres⟩;clear hI hF2 hse hts hrow hkid hres
   gi_wp2
   gi_loopw [14] (fun i wr=>i=.int .i64 0/\wr=W) (fun _ _=>0)
   case atStart=>exact ⟨rfl,rfl⟩
   case round=>
    obtain ⟨rfl,rfl⟩:=hrel
    gi_wp2
    exact HE.out
  subst hse;obtain ⟨g,rfl⟩:=Zxr hrow hne;have hgF:F g:=hI.own g (by rw [Zaw];exact List.mem_append.2 (.inl (by simp [Zbf,blk])));have hgW:g < W.heap.size:=(hI.fr g hgF).2;have hgw:w.heap.size<=g:=(hI.fr g hgF).1;have hg2:=hF2 g hgF;have HREL0:Hid (Zgk w W ts g d xs 0 W):=⟨xs,fun _=>none,fun _=>0,fun _=>.slice none 0 0,hrow,fun j t hj=>absurd hj (by omega),fun _ _=>rfl,by simp,by simp,Held.refl _ _⟩;have HEND:Hid (∀ W2,Zgk w W ts g d xs ts.length W2->Zic (H+5) (fun S F W=>Zei w [t] (.slice (some ⟨H+2,0,none⟩) 1 1) S F W/\(∀ b,F b->b=H+2∨H+7<=b)/\Box3 W (H+1) 38 (.int .i64 0) (.slice none 0 0) (.slice none 0 0)) (fun _=>False) ts (.slice (some ⟨g,0,none⟩) ts.length d) S F W .normal { tmps:=#[],defers:=[] } W2):=by
   rintro W2 ⟨ys,Ls,cs,As,h1,h2,h3,h4,h5,h6⟩;obtain ⟨k1,F',k2,k3,k4⟩:=Zsy (lo:=H+5) hI hts h1 (fun j t hj=>h2 j t (List.getElem?_eq_some_iff.1 hj).1 hj) h4 h5 h6;exact ⟨k1,As,F',k2,k3,k4,fun b hb=>(k2 b hb).elim (hF2 b) (fun h=>by omega),(h6.block (H+1) hres.lt (by show H+1≠g;omega)).trans hres⟩
  have HKID:=hQ hkid;have HBW:=hQ hI.bel;clear hI hF2 hrow hkid hres
  gi_wp2
  gi_loopw [14] (fun i wr=>∃ k:Nat,k<=ts.length/\i=.int .i64 (k:Int)/\Zgk w W ts g d xs k wr) (fun i _=>ts.length - (intOf i).toNat)
  case atStart=>exact ⟨0,Nat.zero_le _,rfl,HREL0.out⟩
  case round=>
   obtain ⟨k,hk,rfl,hrel⟩:=hrel;by_cases hlt:k < ts.length
   ·obtain ⟨ys,Ls,ccs,As,h1,h2,h3,h4,h5,h6⟩:=hrel
    obtain ⟨hr,hwk⟩:=HKID.out k _ (List.getElem?_eq_getElem hlt);obtain ⟨L,lc,A,kd,hpe,hlab,hok,_,hkr⟩:=RTy.openT hr;obtain ⟨news,hnl,hnsl,hn1,hnr⟩:=Zqs hkr;have hyl:ys.length=ts.length * 3:=h1.1;have hget:∀ i,i < 3->ys[k * 3+i]?=(part3 xs k)[i]?:=fun i hi=>by rw [<-Zcv _ _ _ hi,h3 k nQ]
    rw [hpe] at hget;have e0:wr.cell? ⟨g,k * 3,none⟩=some (.int .i64 ts[k].top.kind):=by rw [h1.cellAt _ (by omega)];exact hget 0 (by omega)
    have e1:wr.cell? ⟨g,k * 3+1,none⟩=some (.slice L ts[k].top.labels.length lc):=by rw [h1.cellAt _ (by omega)];exact hget 1 (by omega)
    have e2:wr.cell? ⟨g,k * 3+2,none⟩=some (.slice A ts[k].kids.length kd):=by rw [h1.cellAt _ (by omega)];exact hget 2 (by omega)
    have hbw:Below w.heap.size w wr:=HBW.out.trans (h6.below HBW.out.size fun i hi=>by show i≠g;omega);have hlw:=Zve ts[k];have hkw:=Zabt ts[k];have hkv:∀ j u,ts[k].kids[j]?=some u->RTy w u (part3 news j)/\wt u<=1048576:=fun j u hj=>⟨hnr j u hj,Nat.le_trans (Zaes (List.mem_of_getElem? hj)) hwk⟩
    have hgwr:g < wr.heap.size:=Nat.lt_of_lt_of_le hgW h6.size;obtain ⟨Hn,hHn⟩:∃ Hn,wr.heap.size=Hn:=⟨_,rfl⟩;have hnb:=Box3.new wr 38 (.int .i64 ts[k].top.kind) (.slice L ts[k].top.labels.length lc) (.slice A ts[k].kids.length kd);rw [hHn] at hnb;have hown0:=h1.alloc (.cells #[.int .i64 ts[k].top.kind,.slice L ts[k].top.labels.length lc,.slice A ts[k].kids.length kd] 38);have hbw0:Below w.heap.size w (wr.alloc (.cells #[.int .i64 ts[k].top.kind,.slice L ts[k].top.labels.length lc,.slice A ts[k].kids.length kd] 38)):=hbw.alloc hbw.size _;have HMORE:=hQ (fun (v1 v2:Value) (w':World) q1 q2 q3 q4 q7 q8 q9 q10=>Zwg (W:=W) (w':=w') (v1:=v1) (v2:=v2) hgW hlt h1 h2 h3 h4 h5 h6 hpe hok q1 q2 q3 q4 hkv (by omega) q7 q8 q9 q10);have HLAB:=hQ (fun W' (hB:Below w.heap.size w W')=>hlab.below hB);have HNSL:=hQ (fun W' (hB:Below w.heap.size w W')=>hnsl.below hB);have HNL:=hQ hnl;have HN1:=hQ hn1;have HNB:=hQ hnb;have HOW:=hQ hown0;have HBW0:=hQ hbw0;have HYL:=hQ hyl;have HY2:=hQ (hget 1 (by omega));have HY3:=hQ (hget 2 (by omega));have HGW:=hQ hgwr;have HHN:=hQ hHn;have hlab1:(ts[k].top.labels.map Value.string).length=ts[k].top.labels.length * 1:=by simp
    have HLL:=hQ hlab1;clear hr hpe hlab hok hkr hnsl hn1 hnr hget hkv hnb hown0 hbw0 hbw h1 h2 h3 h4 h5 h6 hnl hyl hlab1;obtain ⟨kk,hkk⟩:∃ kk,ts[k].top.kind=kk:=⟨_,rfl⟩;obtain ⟨nl,hnl⟩:∃ nl,ts[k].top.labels.length=nl:=⟨_,rfl⟩;obtain ⟨nk,hnk⟩:∃ nk,ts[k].kids.length=nk:=⟨_,rfl⟩;simp only [hkk,hnl,hnk] at HMORE HNB HOW HBW0 HNL HLL HY2 HY3 e0 e1 e2 hlw hkw;clear hkk hnl hnk
    gi_wp2_with (first
     | (gi_at_builtin;refine Zdk rfl _ _ 36 rfl 38 i0 (.agg #[.int .i64 0,.slice none 0 0,.slice none 0 0]) 3 56 Tryz.underlying36 hi0 hz0 hz1 hz2 rfl (by decide) rfl A nk kd news rfl HNL.out (HNSL.out _ HB5.out) HN1.out (by unfold maxLen;omega) (by omega) ?_;intro v2 w2 ho2 hg2 hn2 hb2;obtain ⟨A2,lc2,rfl⟩:=Zfh ho2;have hr2:=Zlv HR5.out hg2;have y3:w2.cell? ⟨g,k * 3+2,none⟩=some (.slice A nk kd):=(hr2.cellAt _ (by omega)).trans ((List.getElem?_set_ne (by omega)).trans HY3.out);have f3:=hr2.frozenAt (k * 3+2);have HFIN:Hid (Zgk w W ts g d xs (k+1) (w2.setCell ⟨g,k * 3+2,none⟩ (.slice A2 nk lc2))):=Zzu HMORE.out HO1.out HG1.out HBK1.out ho2 hg2 hn2 hb2 hr2 HGW.out;clear ho2 hg2 hn2 hb2 hr2)
     | (gi_at_builtin;refine Zdk rfl _ _ 26 rfl 9 i1 (.string ⟨#[]⟩) 1 16 Tryz.underlying26 hi1 hy0 hy1 hy2 rfl (by decide) rfl L nl lc (ts[k].top.labels.map Value.string) rfl HLL.out (HLAB.out _ HBW0.out) (Zbx _) (by unfold maxLen;omega) (by omega) ?_;intro v1 w1 ho1 hg1 hn1 hb1;obtain ⟨L1,lc1,rfl⟩:=Zfh ho1;have hr1:=Zlv HOW.out hg1;have y2:w1.cell? ⟨g,k * 3+1,none⟩=some (.slice L nl lc):=(hr1.cellAt _ (by omega)).trans HY2.out;have f2:=hr1.frozenAt (k * 3+1);have hr5:=(hr1.stored (k * 3+1) (.slice L1 nl lc1)).1;have hh5:Held (fun i=>i≠g) (wr.alloc (.cells #[.int .i64 kk,.slice L nl lc,.slice A nk kd] 38)) (w1.setCell ⟨g,k * 3+1,none⟩ (.slice L1 nl lc1)):=(Zie hg1).trans (Held.set w1 (fun h=>h rfl) (.slice L1 nl lc1));have x3:(w1.setCell ⟨g,k * 3+1,none⟩ (.slice L1 nl lc1)).cell? ⟨Hn,2,none⟩=some (.slice A nk kd):=((show Box3 w1 Hn _ _ _ _ from (hg1.block Hn HNB.out.lt (by simp)).trans HNB.out).far (by show Hn≠g;omega) (.slice L1 nl lc1)).c2;have HR5:=hQ hr5;have HH5:=hQ hh5;have HB5:=hQ (HBW0.out.trans (hh5.below HBW0.out.size fun i hi=>by show i≠g;omega));have HO1:=hQ ho1;have HG1:=hQ hg1;have HBK1:=hQ hb1;clear ho1 hg1 hn1 hb1 hr1 hr5 hh5))
    gi_wp2
    go_roundw
    case rel=>exact ⟨k+1,hlt,by go_num,HFIN.out⟩
    case measure=>simp [intOf];omega
   ·have he:k=ts.length:=by omega
    subst he;have HE:=hQ (HEND.out wr hrel);clear hrel
    gi_wp2
    exact HE.out
 case done=>
  rintro F W ⟨hI,hF2,hres⟩ hK;obtain ⟨fp,hov,hfp⟩:=hI.done;have hHW:=hres.lt;have hfr:∀ b∈fp,H<=b/\b < W.heap.size/\b≠H+1/\b≠W2.heap.size:=fun b hb=>by
   have h1:=hI.fr b (hfp b hb);have h2:=hF2 b (hfp b hb)
   omega
  obtain ⟨A,d,xs,fs,hse,_,hrow,hkid,hperm,_⟩:=hov;injection hse with q1 q2 q3
  subst q1 q3;clear q2;have hov:=hkid 0 t rfl;obtain ⟨L,lc,A,kd,hcs⟩:=hov.three;have hfs:∀ b∈fs 0,b∈fp:=fun b hb=>hperm.subset (by simp [hb])
  have hget:∀ i,i < 3->W.cell? ⟨H+2,i,none⟩=(part3 xs 0)[i]?:=fun i hi=>by rw [Zcv _ _ _ hi,Nat.zero_mul,Nat.zero_add];exact hrow.cellAt _ (by simp;omega)
  rw [hcs] at hget hov;have e0:W.cell? ⟨H+2,0,none⟩=some (.int .i64 t.top.kind):=hget 0 (by omega);have e1:W.cell? ⟨H+2,1,none⟩=some (.slice L t.top.labels.length lc):=hget 1 (by omega);have e2:W.cell? ⟨H+2,2,none⟩=some (.slice A t.kids.length kd):=hget 2 (by omega);have r0:=hres.c0;have r1:=hres.c1;have r2:=hres.c2;have s0:=hres.free 0;have s1:=hres.free 1;have s2:=hres.free 2;obtain ⟨U,hU⟩:∃ U,((W.setCell ⟨H+1,0,none⟩ (.int .i64 t.top.kind)).setCell ⟨H+1,1,none⟩ (.slice L t.top.labels.length lc)).setCell ⟨H+1,2,none⟩ (.slice A t.kids.length kd)=U:=⟨_,rfl⟩;have hUH:Held (fun i=>i≠H+1) W U:=by
   rw [<-hU];exact (Held.set W (fun h=>h rfl) _).trans ((Held.set _ (fun h=>h rfl) _).trans (Held.set _ (fun h=>h rfl) _))
  have hUB:Box3 U (H+1) 38 (.int .i64 t.top.kind) (.slice L t.top.labels.length lc) (.slice A t.kids.length kd):=by
   rw [<-hU];exact ((hres.set0 _).set1 _).set2 _
  have hKU:U.heap[W2.heap.size]?=some (.deferred (some [])):=(hUH.block _ (by rw [hDz];have:=(Array.getElem?_eq_some_iff.1 hK).1;omega) (by show W2.heap.size≠H+1;omega)).trans hK;obtain ⟨V,hV⟩:∃ V,U.putObj W2.heap.size (.deferred none)=V:=⟨_,rfl⟩;have hVH:Held (fun i=>i≠H+1/\i≠W2.heap.size) W V:=by
   rw [<-hV];exact (hUH.mono fun i _ h=>h.1).trans (Held.put U fun h=>h.2 rfl)
  have hVB:Box3 V (H+1) 38 (.int .i64 t.top.kind) (.slice L t.top.labels.length lc) (.slice A t.kids.length kd):=by
   rw [<-hV];exact (World.putObj_heap_other (by omega)).trans hUB
  have HMADE:Hid (MadeT t w (.returned (.agg #[.int .i64 t.top.kind,.slice L t.top.labels.length lc,.slice A t.kids.length kd])) V):=by
   refine ⟨L,A,lc,kd,fs 0,rfl,hov.held hVH fun b hb=>?_,fun b hb=>?_,hI.bel.trans (hVH.below hI.bel.size fun i hi=>?_)⟩
   ·have:=hfr b (hfs b hb);exact ⟨this.2.2.1,this.2.2.2⟩
   ·have:=hfr b (hfs b hb);have:=hVH.size;omega
   ·show i≠H+1/\i≠W2.heap.size
    omega
  have HU:=hQ hU;have HKU:=hQ hKU;have HV:=hQ hV;have HVB:=hQ hVB;clear hI hF2 hres hrow hkid hperm hov hfs hget hUH hUB hVH hVB hU hV hKU hfr hfp hcs
  gi_wp2
  rw [HU.out];refine ⟨by simp,.inl ⟨_,_,rfl,run_takeDeferred HKU.out,?_⟩⟩;rw [HV.out];have v0:=HVB.out.c0;have v1:=HVB.out.c1;have v2:=HVB.out.c2;refine ⟨_,?_,HMADE.out⟩;simp [results,Tryz.results43,go_sem,v0,v1,v2]
 case stop=>
  intro W hf
  exact hf.elim
end Go.Proofs.YtlcedleebbgebaaGreatDoor
namespace Go.Proofs.YtlcedleebbgebaaGreatDoor
open Go.RowKit
def OwnL (xs:List ByteArray)(w:World)(e:Ending)(w':World):Prop:=
 ∃ A c,e=.returned (.slice A xs.length c)/\w'.ownsRow w.heap.size 9 1 (.slice A xs.length c) xs.length (xs.map Value.string)/\Below w.heap.size w w'
theorem Zia {t:Sc}{k:Nat}(hk:k < t.length)(hw:wSc t<=1048576):t[k].1.size<=1048576/\wt t[k].2<=1048576/\t.length<=1048576:=by
 have h:=wL_le (f:=wDc) hk hw;have h1:wDc t[k]=t[k].1.size+wt t[k].2:=rfl
 omega
theorem Zgo (t:Sc):(Zas t).length=t.length:=by simp [Zas]
def Zvk (xs:Sc)(w:World)(v i:Value)(wr:World):Prop:=
 ∃ k:Nat,k<=xs.length/\i=.int .i64 (k:Int)/\wr.ownsRow w.heap.size 9 1 v k ((Zas (xs.take k)).map Value.string)/\Below w.heap.size w wr
theorem Zoc (t:Sc)(w:World)(cs:List Value)(h:RSc w t cs)(hw:wSc t<=1048576):Calls Tryz.prog 72 #[.agg cs.toArray] w (OwnL (Zas t) w):=by
 obtain ⟨A,d,rfl,hl,_,hp⟩:=h.open;obtain ⟨i0,hi,hz0,hz1,hz2⟩:=info_parts Zif;have hlen:t.length<=1048576:=Nat.le_trans (Zmz t) hw;obtain ⟨W1,hW1⟩:∃ W1,w.alloc (.cells #[.slice A t.length d] 43)=W1:=⟨_,rfl⟩;obtain ⟨H,hH⟩:∃ H,w.heap.size=H:=⟨_,rfl⟩;have hbox:Box1 W1 H 43 (.slice A t.length d):=by rw [<-hW1,<-hH];exact Box1.new w _ _
 have hb1:Below w.heap.size w W1:=by rw [<-hW1];exact bQ.alloc nQ _
 have HB1:=hQ hb1;have HP:=hQ (hp.keep hb1);have HW1:=hQ hW1;have HI0:Hid (Zvk t W1 (.slice none 0 0) (.int .i64 0) W1):=hQ ⟨0,Nat.zero_le _,rfl,by simpa [Zas] using World.ownsRow_nil _ _ _ _,Below.refl _ _⟩;have x0:=hbox.c0;clear h hp hl hW1 hbox hb1 hw;go_enter Tryz.func72,Tryz.ntmps72;go_wp2_with fail;rw [HW1.out];go_wp2_with fail;go_loopw [3,9] (fun v i wr=>Zvk t W1 v i wr) (fun _ i _=>t.length - (intOf i).toNat)
 case atStart=>exact HI0.out
 case round=>
  obtain ⟨k,hk,rfl,hown,hb⟩:=hrel;obtain ⟨V,lc,rfl⟩:=Zhc hown;have HO:=hQ hown;have HB:=hQ hb;clear x0;by_cases hlt:k < t.length
  ·obtain ⟨ad,p,c0,c1,c2,c3,rfl,hpe,hr,q0,q1,q2,q3⟩:=Zec kDc_n HP.out hb hlt
   obtain ⟨tk,TL,TA,tl,tc,ta,td,hcs,hs,hy⟩:=Zcc hr;injection hcs with e0 hcs
   injection hcs with e1 hcs
   injection hcs with e2 hcs
   injection hcs with e3 hcs
   subst e0 e1 e2 e3;obtain ⟨G,hG⟩:∃ G,wr.heap.size=G:=⟨_,rfl⟩;obtain ⟨W5,hW5⟩:∃ W5,wr.alloc (.cells #[.string t[k].1,.int .i64 tk,.slice TL tl tc,.slice TA ta td] 101)=W5:=⟨_,rfl⟩;have hb5:Below wr.heap.size wr W5:=by rw [<-hW5];exact bQ.alloc nQ _
   have hx5:=Box4.new wr 101 (.string t[k].1) (.int .i64 tk) (.slice TL tl tc) (.slice TA ta td);rw [hW5,hG] at hx5;have y0:=hx5.c0;have HMORE:Hid (∀ (v' i:Value) (w5:World),w5.ownsRow W1.heap.size 9 1 v' (k+1) ((Zas (t.take k)).map Value.string ++ [.string t[k].1])->(W5.alloc (.cells #[.string t[k].1] 9)).grownBy w5 (Value.slice V k lc).ownBlock->i=.int .i64 ((k+1:Nat):Int)->Zvk t W1 v' i w5):=hQ (by
    intro v' i w5 ho hg hi
    refine ⟨k+1,hlt,hi,by rw [Zir t k hlt];exact ho,?_⟩;have hb6:=(HB.out.trans (hb5.mono HB.out.size)).alloc (HB.out.trans (hb5.mono HB.out.size)).size (.cells #[.string t[k].1] 9);exact hb6.grown hg hb6.size (fun q hq=>(HO.out.lt q hq).1))
   have hz5:W5.heap.size=G+1:=by rw [<-hW5,<-hG];simp
   have hsl:=hQ (hz5 ▸ Zaci W5 (.string t[k].1) 9);have O3:=hQ ((Zkg HO.out hb5).alloc (.cells #[.string t[k].1] 9));have HS3:Hid (W1.heap.size<=(W5.alloc (.cells #[.string t[k].1] 9)).heap.size):=hQ (by have h1:=HB.out.size;have h2:=hb5.size;simp;omega);have HOC:Hid (∀ u∈[Value.string t[k].1],u.oneCell'=true):=hQ (Zbx [t[k].1]);have HW5:=hQ hW5;have HG:=hQ hG;generalize t[k].1=nm at *
   clear hr hcs hs hy hown hb hk hb5 hx5 hW5 hz5;go_wp2_with (at_builtin;rw [HW5.out];refine Zdm _ rfl (.tmp 13) (.tmp 16) 26 rfl W1.heap.size 9 i0 _ 16 Tryz.underlying26 hi hz0 hz1 hz2 rfl (.slice V k lc) k ((Zas (t.take k)).map Value.string) rfl O3.out (some ⟨G+1,0,none⟩) 1 1 [.string nm] rfl rfl hsl.out HOC.out (by unfold maxLen;omega) (by omega) HS3.out ?_;intro v5 w5 hown5 hg5 hor5;have HMM:=hQ (fun i hi=>HMORE.out v5 i w5 hown5 hg5 hi);clear hown5 hg5 hor5);go_roundw
   case rel=>exact HMM.out _ (by go_num)
   case measure=>simp [intOf];omega
  ·have he:k=t.length:=by omega
   subst he;have HR:Hid (OwnL (Zas t) w (.returned (.slice V t.length lc)) wr):=by
    have h1:=HO.out;rw [List.take_length] at h1;refine ⟨V,lc,by rw [Zgo],?_,HB1.out.trans (HB.out.mono HB1.out.size)⟩;rw [Zgo];exact Znd h1 HB1.out.size
   clear hown hb hk;go_wp2_with fail;go_ret;exact HR.out
end Go.Proofs.YtlcedleebbgebaaGreatDoor
namespace Go.Proofs.YtlcedleebbgebaaGreatDoor
open Go.RowKit Go.Maps
theorem Zod (t:Sc)(nm:ByteArray)(w:World)(cs:List Value)(h:RSc w t cs)(hw:wSc t<=1048576)(hx:nm.size<=maxLen):Calls Tryz.prog 116 #[.agg cs.toArray,.string nm] w (MadeP (Zai t nm) w):=by
 obtain ⟨A,c,rfl,hl,hld,hp⟩:=h.open;have hlen:t.length<=1048576:=Nat.le_trans (Zmz t) hw;obtain ⟨W1,hW1⟩:∃ W1,(w.alloc (.cells #[.slice A t.length c] 43)).alloc (.cells #[.int .i64 0,.slice none 0 0,.slice none 0 0] 38)=W1:=⟨_,rfl⟩;obtain ⟨H,hH⟩:∃ H,w.heap.size=H:=⟨_,rfl⟩;have hbox:Box1 W1 H 43 (.slice A t.length c):=by rw [<-hW1,<-hH];exact (Box1.new w _ _).alloc _
 have b1:Box3 W1 (H+1) 38 (.int .i64 0) (.slice none 0 0) (.slice none 0 0):=by
  rw [<-hW1,<-hH]
  have:=Box3.new (w.alloc (.cells #[.slice A t.length c] 43)) 38 (.int .i64 0) (.slice none 0 0) (.slice none 0 0)
  simpa using this
 have hb1:Below w.heap.size w W1:=by rw [<-hW1];exact (bQ.alloc nQ _).alloc (by simp) _
 have hs1:W1.heap.size=H+2:=by rw [<-hW1,<-hH];simp
 have HC:=hQ (Zos t W1 A c (hp.keep hb1) hlen (fun d hd=>by
  obtain ⟨j,hj,rfl⟩:=List.getElem_of_mem hd;exact (Zia hj hw).1))
 have HW1:=hQ hW1;have HB1:=hQ hb1;have HS1:=hQ hs1;have HH:=hQ hH;have HX:=hQ hbox;have HB:=hQ b1;have HP:=hQ (hp.keep hb1);have HWT:=hQ hw;have HFI:=hQ (Zwn t nm);have HXL:=hQ hx;have x0:=hbox.c0;clear h hp hl hld hW1 hbox b1 hb1 hs1 hw hx;go_enter Tryz.func116,Tryz.ntmps116;go_wp2_with fail;rw [HW1.out];go_wp2_with fail;refine HC.out.mono ?_;rintro e w2 ⟨b,n,rfl,hpl,hb2⟩;obtain ⟨ci,hlook,hci⟩:=hpl.look HXL.out;rw [Zaau] at hlook hci;have HB2:=hQ (HB1.out.trans (hb2.mono HB1.out.size));have BR:=hQ (HB.out.under hb2 HB.out.lt);have y0:=(HX.out.under hb2 HX.out.lt).c0;have hz2:=hb2.size;cases hpn:idxN (t.map fun d=>d.1) nm with
 | none=>
  rw [hpn] at hlook;have HF:=hQ (Zhm (HFI.out.2 hpn));simp only [Option.isSome_none] at hlook;have r0:=BR.out.c0;have r1:=BR.out.c1;have r2:=BR.out.c2;have s0:=BR.out.free 0;have s1:=BR.out.free 1;have s2:=BR.out.free 2;clear hpl hci hpn hb2 x0 HC;go_wp2_with fail;generalize hU:((w2.setCell ⟨H+1,0,none⟩ (.int .i64 0)).setCell ⟨H+1,1,none⟩ (.slice none 0 0)).setCell ⟨H+1,2,none⟩ (.slice none 0 0)=U;have hgU:w2.grownBy U (some (H+1)):=by rw [<-hU];exact Zaa (Zaa (Zaa (gQ) _) _) _
  have u1:Box3 U (H+1) 38 (.int .i64 0) (.slice none 0 0) (.slice none 0 0):=by
   rw [<-hU];exact ((BR.out.set0 _).set1 _).set2 _
  have HRR:Hid (MadeP (Zai t nm) w (.returned (.tuple #[.agg #[.int .i64 0,.slice none 0 0,.slice none 0 0],.bool false])) U):=hQ (by
   rw [HF.out];exact Zaj (HB2.out.grown hgU HB2.out.size (fun k hk=>by injection hk with hk;have:=HH.out;omega)))
  have t0:=u1.c0;have t1:=u1.c1;have t2:=u1.c2;clear hU hgU u1 r0 r1 r2 s0 s1 s2;exact bodyPost_ret (v:=.tuple #[.agg #[.int .i64 0,.slice none 0 0,.slice none 0 0],.bool false]) (by simp [results,Tryz.results116,go_sem,t0,t1,t2]) rfl HRR.out
 | some j=>
  rw [hpn] at hlook;obtain ⟨hj,hnm,hf⟩:=HFI.out.1 j hpn;obtain rfl:=hci j hpn;obtain ⟨_,hwty,_⟩:=Zia hj HWT.out;obtain ⟨ad,p,c0,c1,c2,c3,rfl,hpe,hr,q0,q1,q2,q3⟩:=Zec kDc_n HP.out hb2 hj;obtain ⟨tk,TL,TA,tl,tc,ta,td,hcs,hs,hy⟩:=Zcc hr;simp only [List.cons.injEq,and_true] at hcs;obtain ⟨rfl,rfl,rfl,rfl⟩:=hcs;have HCP:=hQ (Zfa t[j].2 w2 _ hy hwty);have HF:=hQ (Zhn hf);simp only [Option.isSome_some] at hlook;have hjI:(j:Int) < (t.length:Int):=by omega
  have hj0:(0:Int)<=(j:Int):=by omega
  have hjn:((j:Int)).toNat=j:=by omega
  generalize t[j].1=nm1 at *
  generalize t[j].2=ty at *
  clear hpl hci hf hpn hb2 x0 HC hr hs hy hwty hnm;go_wp2_with fail;refine HCP.out.mono ?_;rintro e w3 hmade;have hb3:Below w2.heap.size w2 w3:=by
   obtain ⟨_,_,_,_,_,_,_,_,hb3⟩:=hmade;exact hb3
  have HBX:=hQ (BR.out.under hb3 BR.out.lt);have HM:=hQ (fun (U:World) (hU:w3.grownBy U (some (H+1)))=>Zgz (w:=w) (U:=U) hmade HB2.out (by have:=HS1.out;omega) (by have:=HH.out;omega) hU);obtain ⟨LL,AA,lc,dd,rfl,_⟩:=HM.out w3 (gQ);have HM2:Hid (∀ U:World,w3.grownBy U (some (H+1))->MadeP (Zai t nm) w (.returned (.tuple #[.agg #[.int .i64 ty.top.kind,.slice LL ty.top.labels.length lc,.slice AA ty.kids.length dd],.bool true])) U):=hQ (by
   intro U hU
   obtain ⟨L9,A9,c9,d9,e9,h9⟩:=HM.out U hU;rw [HF.out];injection e9 with e9
   rw [<-e9] at h9;exact h9)
  have r0:=HBX.out.c0;have r1:=HBX.out.c1;have r2:=HBX.out.c2;have s0:=HBX.out.free 0;have s1:=HBX.out.free 1;have s2:=HBX.out.free 2;generalize ty.top.kind=z0 at HM2 ⊢;generalize ty.top.labels.length=z1 at HM2 ⊢;generalize ty.kids.length=z2 at HM2 ⊢;clear hmade hb3 HM y0 q0 q1 q2 q3 hlook HCP;go_wp2_with fail;generalize hU:((w3.setCell ⟨H+1,0,none⟩ (.int .i64 z0)).setCell ⟨H+1,1,none⟩ (.slice LL z1 lc)).setCell ⟨H+1,2,none⟩ (.slice AA z2 dd)=U;have hgU:w3.grownBy U (some (H+1)):=by rw [<-hU];exact Zaa (Zaa (Zaa (gQ) _) _) _
  have u1:Box3 U (H+1) 38 (.int .i64 z0) (.slice LL z1 lc) (.slice AA z2 dd):=by
   rw [<-hU];exact ((HBX.out.set0 _).set1 _).set2 _
  have HRR:=hQ (HM2.out U hgU);have t0:=u1.c0;have t1:=u1.c1;have t2:=u1.c2;clear hU hgU u1 r0 r1 r2 s0 s1 s2;exact bodyPost_ret (v:=.tuple #[.agg #[.int .i64 z0,.slice LL z1 lc,.slice AA z2 dd],.bool true]) (by simp [results,Tryz.results116,go_sem,t0,t1,t2]) rfl HRR.out
end Go.Proofs.YtlcedleebbgebaaGreatDoor
namespace Go.Proofs.YtlcedleebbgebaaGreatDoor
open Go.RowKit
theorem Zadr (K:Nat->Prop)(xs:Sc)(c:Cx)(a:TeA)(es:List Te)(ts:List Ty)(A AS:Option Addr)(d ad:Nat)(ev:Value)(w0 w:World)(ss cs:List Value)(hs:RSc w0 xs ss)(h:RTe w0 (.node a es) cs)(hb0:Below w0.heap.size w0 w)(hK0:∀ i,i < w0.heap.size->K i)(hK:∀ i,w.heap.size<=i->K i)(hp:RL kTg (veil K w) A c)(hl:c.length<=1048576)(hk:RKids (veil K w) AS ts)(hkl:ts.length<=ad)(hkm:ts.length<=9223372036854775807)(hv:∀ t∈ts,Zae t=true)(he:ErrAt ev w)(hi:∃ T v,ev=.iface T v)(hkd:a.kind=12)(hsw:wSc xs<=1048576)(hnm:a.name.size<=maxLen) :
  Calls Tryz.prog 81 #[.agg ss.toArray,.slice A c.length d,.agg cs.toArray,.slice AS ts.length ad] w (PostK K (Zac xs c a ts) ev w):=by
 have hsk:=hs.keep hb0;obtain ⟨SA,sd,rfl,hsl,hsd,hsp⟩:=hs.open;obtain ⟨TL,tc,TA,td,LE,lc0,KA,kd,rfl,hT,hLb,hok,_,_,hkp⟩:=h.out;obtain ⟨W1,hW1⟩:∃ W1,((w.alloc (.cells #[.slice SA xs.length sd] 43)).alloc (.cells #[.int .i64 12,.string a.name,.int .i64 a.num,.int .i64 a.type.top.kind,.slice TL a.type.top.labels.length tc,.slice TA a.type.kids.length td,.slice LE a.labels.length lc0,.slice KA es.length kd] 49)).alloc (.cells #[.int .i64 0,.slice none 0 0,.slice none 0 0] 38)=W1:=⟨_,rfl⟩;obtain ⟨H,hH⟩:∃ H,w.heap.size=H:=⟨_,rfl⟩;have bt:Box8 W1 (H+1) 49 (.int .i64 12) (.string a.name) (.int .i64 a.num) (.int .i64 a.type.top.kind) (.slice TL a.type.top.labels.length tc) (.slice TA a.type.kids.length td) (.slice LE a.labels.length lc0) (.slice KA es.length kd):=by
  rw [<-hW1,<-hH]
  have:=(Box8.new (w.alloc (.cells #[.slice SA xs.length sd] 43)) 49 (.int .i64 12) (.string a.name) (.int .i64 a.num) (.int .i64 a.type.top.kind) (.slice TL a.type.top.labels.length tc) (.slice TA a.type.kids.length td) (.slice LE a.labels.length lc0) (.slice KA es.length kd)).alloc (.cells #[.int .i64 0,.slice none 0 0,.slice none 0 0] 38)
  simpa using this
 have br:Box3 W1 (H+1+1) 38 (.int .i64 0) (.slice none 0 0) (.slice none 0 0):=by
  rw [<-hW1,<-hH]
  have:=Box3.new ((w.alloc (.cells #[.slice SA xs.length sd] 43)).alloc (.cells #[.int .i64 12,.string a.name,.int .i64 a.num,.int .i64 a.type.top.kind,.slice TL a.type.top.labels.length tc,.slice TA a.type.kids.length td,.slice LE a.labels.length lc0,.slice KA es.length kd] 49)) 38 (.int .i64 0) (.slice none 0 0) (.slice none 0 0)
  simpa using this
 have hb1:Below w.heap.size w W1:=by rw [<-hW1];exact ((bQ.alloc nQ _).alloc (by simp) _).alloc (by simp;omega) _
 have hs1:W1.heap.size=H+3:=by rw [<-hW1,<-hH];simp
 obtain ⟨K1,hK1⟩:∃ K1:Nat->Prop,K1=fun i=>(i < H/\K i)∨H+3<=i:=⟨_,rfl⟩
 have hsub:Sub (veil K w) (veil K1 W1):=Sub.held (Held.of_below hb1 fun i hi _=>hi) (fun i hi hk=>by rw [hK1];exact .inl ⟨by omega,hk⟩);have hsub0:Sub w0 (veil K1 W1):=Sub.all (hb0.trans (hb1.mono hb0.size)) (fun i hi=>by rw [hK1];exact .inl ⟨by have:=hb0.size;omega,hK0 i hi⟩);have hKK:∀ i,K1 i->K i:=by rw [hK1];rintro i (⟨_,h⟩|h);exact h;exact hK i (by omega)
 have hnot:¬ K1 (H+1+1):=by rw [hK1];rintro (⟨h,_⟩|h) <;> omega
 have hK3:∀ i,W1.heap.size<=i->K1 i:=by rw [hK1];intro i hi;exact .inr (by omega)
 have hee:=he.keep hb1;have huse:=And.intro (And.intro hl hkl) (And.intro hkm hi);clear huse;have x1:=bt.c1;have x0:=bt.c0;have x3:=bt.c3;have x4:=bt.c4;have x5:=bt.c5;have x6:=bt.c6;have r0:=br.c0;have r1:=br.c1;have r2:=br.c2;have s0:=br.free 0;have s1:=br.free 1;have s2:=br.free 2;have HB1:=hQ hb1;have HH:=hQ hH;have HW1:=hQ hW1;have BR:=hQ br;have BT:=hQ bt;have HS1:=hQ hs1;have HKK:=hQ hKK;have HNOT:=hQ hnot;have HK3:=hQ hK3;have HSUB:=hQ hsub;have HSUB0:=hQ hsub0;have HP:=hQ hp;have HKI:=hQ hk;have HV:=hQ hv;have HEE:=hQ hee;have HT:=hQ hT;have HLB:=hQ hLb;have HOK:=hQ hok;have HN:Hid (Zac xs c a ts=ifAny (Zai xs a.name).2 (tyBag (Zai xs a.name).1)):=hQ (by unfold Zac;(iterate 11 rw [if_neg (by rw [hkd];decide)]);rw [if_pos hkd]);have HC:=hQ (Zod xs a.name W1 _ (hsk.keep hb1) hsw hnm);have bsc:Box1 W1 H 43 (.slice SA xs.length sd):=by rw [<-hW1,<-hH];exact ((Box1.new w _ _).alloc _).alloc _
 have hsc:=bsc.c0;have HE2:=hQ (fun (W:World) (hB:Below W1.heap.size W1 W)=>hee.keep hB);rw [hkd];clear hs h hb0 hK0 hK hp hk hl hkl hkm hi hv he hsl hsd hsp hT hLb hok hkp hW1 bt br hb1 hs1 hK1 hsub hsub0 hKK hnot hK3 hee hkd hsk bsc;go_enter Tryz.func81,Tryz.ntmps81;go_wp2_with fail;rw [HW1.out];refine HC.out.mono ?_;rintro e w2 ⟨L2,A2,c2,d2,fp,rfl,hO,hfp,hb2⟩;obtain ⟨W4,hW4⟩:∃ W4,w2.alloc (.cells #[.int .i64 (Zai xs a.name).1.top.kind,.slice L2 (Zai xs a.name).1.top.labels.length c2,.slice A2 (Zai xs a.name).1.kids.length d2] 38)=W4:=⟨_,rfl⟩;have hb4:Below W1.heap.size W1 W4:=by rw [<-hW4];exact hb2.alloc hb2.size _
 have hb24:Below w2.heap.size w2 W4:=by rw [<-hW4];exact bQ.alloc nQ _
 have hrd:RTy (veil K1 w2) (Zai xs a.name).1 [.int .i64 (Zai xs a.name).1.top.kind,.slice L2 (Zai xs a.name).1.top.labels.length c2,.slice A2 (Zai xs a.name).1.kids.length d2]:=kTy.reads (kTy.held hO (Held.veil K1 w2) fun b hb=>HK3.out b (hfp b hb).1);have B4:=hQ hb4;have HC2:=hQ (Zgn K1 _ _ L2 A2 _ c2 _ d2 W4 (fun i hi=>HK3.out i (by have:=hb4.size;omega)) (hrd.sub (Sub.held (Held.of_below hb24 fun i hi _=>hi) fun _ _ h=>h)));have BX:=Box3.new w2 38 (.int .i64 (Zai xs a.name).1.top.kind) (.slice L2 (Zai xs a.name).1.top.labels.length c2) (.slice A2 (Zai xs a.name).1.kids.length d2);have y0:=BX.c0;have y1:=BX.c1;have y2:=BX.c2;have HW4:=hQ hW4;generalize hrr:Zai xs a.name=rr at *
 clear hO hfp hb2 hW4 hb4 hb24 hrd BX hrr hsc x0 x1 x3 x4 x5 x6 r0 r1 r2 s0 s1 s2 HC;go_wp2_with fail;rw [HW4.out];refine HC2.out.mono ?_;rintro e w5 ⟨hb5,k5,L5,n5,c5,A5,m5,d5,rfl,hrt⟩;have hb15:=B4.out.trans (hb5.mono B4.out.size);have HC3:=hQ (Zbd K1 (tyBag rr.1) rr.2 k5 L5 A5 n5 c5 m5 d5 w5 ev (fun _=>hrt) (HE2.out w5 hb15));have B2:=hQ hb15;clear hb5 hrt hb15 HC2 y0 y1 y2;go_wp2_with fail;refine HC3.out.mono ?_;rintro e w3 hp3;obtain ⟨k,L,n,c2,A2,m,d2,v,rfl,hb3,hpk⟩:=hp3.words;have HPK:=hQ hpk;rw [<-HN.out] at HPK;have HB3:=hQ (HB1.out.trans ((B2.out.trans (hb3.mono B2.out.size)).mono HB1.out.size));have BR2:=hQ (BR.out.under (B2.out.trans (hb3.mono B2.out.size)) BR.out.lt);have tr0:=BR2.out.c0;have tr1:=BR2.out.c1;have tr2:=BR2.out.c2;have ts0:=BR2.out.free 0;have ts1:=BR2.out.free 1;have ts2:=BR2.out.free 2;clear hp3 hb3 hpk;go_wp2_with fail;generalize hU:(((w3.setCell ⟨H+1+1,0,none⟩ (.int .i64 k)).setCell ⟨H+1+1,1,none⟩ (.slice L n c2)).setCell ⟨H+1+1,2,none⟩ (.slice A2 m d2))=U;have hgU:w3.grownBy U (some (H+1+1)):=by rw [<-hU];exact Zaa (Zaa (Zaa (gQ) _) _) _
 have u1:Box3 U (H+1+1) 38 (.int .i64 k) (.slice L n c2) (.slice A2 m d2):=by
  rw [<-hU];exact ((BR2.out.set0 _).set1 _).set2 _
 have HRR:Hid (PostK K (Zac xs c a ts) ev w (.returned (.tuple #[.agg #[.int .i64 k,.slice L n c2,.slice A2 m d2],v])) U):=hQ (by
  exact HPK.out K w U (HB3.out.grown hgU HB3.out.size (fun k hk=>by injection hk with hk;have:=HH.out;omega)) (Held.grown hgU fun g hg=>by injection hg with hg;rw [<-hg];exact HNOT.out) fun i _ h=>HKK.out i h)
 have tt0:=u1.c0;have tt1:=u1.c1;have tt2:=u1.c2;clear hU hgU u1;exact bodyPost_ret (v:=.tuple #[.agg #[.int .i64 k,.slice L n c2,.slice A2 m d2],v]) (by simp [results,Tryz.results81,go_sem,tt0,tt1,tt2]) rfl HRR.out
theorem Zaen {w:World}{A:Option Addr}{xs:List Value}(h:Sl w A xs)(hn:0 < xs.length):∃ g o,A=some ⟨g,o,none⟩:=by
 obtain ⟨ad,e,hc⟩:=h 0 xs[0] (List.getElem?_eq_getElem hn);obtain ⟨g,o,s⟩:=ad;cases s with
 | none=>exact ⟨g,o,e⟩
 | some s=>
  have e2:(⟨g,o,some s⟩:Addr).add 0=⟨g,o,some s⟩:=rfl;rw [e2] at hc;unfold World.cell? at hc
  split at hc
  ·simp at hc
  ·cases hc
theorem Zgh (g o c:Nat)(xs:List ByteArray)(x:ByteArray)(w:World)(h:Sl w (some ⟨g,o,none⟩) (xs.map Value.string))(hn:xs.length<=9223372036854775807) :
  Calls Tryz.prog 149 #[.slice (some ⟨g,o,none⟩) xs.length c,.string x] w (Num (Lib.idxOfS xs x) w):=by
 have hcells:∀ (j:Nat),j < xs.length->w.cell? ⟨g,o+j,none⟩=some (.string (xs.getD j ByteArray.empty)):=by
  intro j hj
  obtain ⟨ad',e,hcc⟩:=h j (.string xs[j]) (by simp [hj]);injection e with e
  subst e;rw [Addr.add_lit] at hcc;rw [hcc];simp [List.getD,hj]
 have HC:=hQ hcells;clear hcells h;go_enter Tryz.func149,Tryz.ntmps149;go_wp2_with (go_at_call 160;refine (Tryz.slices_Index_string g o xs.length c xs x _ nQ hn HC.out).mono ?_;rintro e w' ⟨rfl,rfl⟩);go_ret;exact ⟨by simp,rfl⟩
end Go.Proofs.YtlcedleebbgebaaGreatDoor
