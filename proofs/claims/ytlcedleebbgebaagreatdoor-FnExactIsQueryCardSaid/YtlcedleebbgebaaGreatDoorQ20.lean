/-
  Merged by program: TyMake, TyFun, TyOpD.
-/
import Derived.Test.YtlcedleebbgebaaGreatDoorQ9
set_option maxRecDepth 100000
set_option maxHeartbeats 4000000
namespace Go.Proofs.YtlcedleebbgebaaGreatDoor
open Go.RowKit
theorem Zxa (L A:Option Addr)(c d:Nat)(ls:List ByteArray)(ks:List Ty)(w:World)(k1:Sl w L (ls.map Value.string))(hl:ls.length<=1048576)(k5:∀ x∈ls,x.size<=9223372036854775807)(hp:RKids w A ks)(hkl:ks.length<=1048576)(hwk:∀ t∈ks,wt t<=1048576) :
  Calls Tryz.prog 132 #[.slice L ls.length c,.slice A ks.length d] w (MadeT (.node ⟨3,ls⟩ ks) w):=by
 obtain ⟨i0,hi,hz0,hz1,hz2⟩:=info_parts Zif;obtain ⟨i1,hi1,hy0,hy1,hy2⟩:=info_parts Zlu;obtain ⟨a,ha⟩:∃ a:TyA,(⟨3,ls⟩:TyA)=a:=⟨_,rfl⟩;have hak:a.kind=3:=by rw [<-ha]
 have hal:ls=a.labels:=by rw [<-ha]
 rw [ha];subst hal;obtain ⟨W1,hW1⟩:∃ W1,w.alloc (.cells #[.int .i64 0,.slice none 0 0,.slice none 0 0] 38)=W1:=⟨_,rfl⟩;obtain ⟨H,hH⟩:∃ H,w.heap.size=H:=⟨_,rfl⟩;have b1:Box3 W1 H 38 (.int .i64 0) (.slice none 0 0) (.slice none 0 0):=by rw [<-hW1,<-hH];exact Box3.new w _ _ _ _
 have hb1:Below w.heap.size w W1:=by rw [<-hW1];exact bQ.alloc nQ _
 obtain ⟨N,hN⟩:∃ N,W1.heap.size=N:=⟨_,rfl⟩;have hHN:H+1=N:=by rw [<-hN,<-hW1,<-hH];simp
 have o1:(W1.alloc (.cells #[] 9)).ownsRow N 9 1 (.slice (some ⟨N,0,none⟩) 0 0) 0 []:=by
  have:=World.ownsRow_made (base:=N) (size:=1) (e:=9) W1 #[] 0 (by omega) (by unfold maxLen;omega) (by simp)
  rw [hN] at this;exact this
 have d1:Below W1.heap.size W1 (W1.alloc (.cells #[] 9)):=bQ.alloc nQ _;have O1:=hQ o1;have D1:=hQ d1;have HW1:=hQ hW1;have HP:=hQ (hp.keep hb1);have HL:=hQ (k1.below hb1);have HB1:=hQ hb1;have HX:=hQ k5;have B1:=hQ b1;have HH:=hQ hH;have HWK:=hQ hwk;have HHN:=hQ hHN;have HN:=hQ hN;have HAK:=hQ hak;clear hp k1 k5 hW1 hb1 hwk hHN o1 d1 b1 ha hak;have hHN0:H≠N:=by have:=HHN.out;omega
 go_enter Tryz.func132,Tryz.ntmps132
 go_upto_region 1 with (fail)
 rw [HW1.out];go_cut [5] from 7 to 10 (fun s3 wx=>C0 a ks W1 s3 wx)
 case first=>
  go_wp2_with (at_builtin;refine Zdm _ rfl (.tmp 7) (.tmp 8) 26 rfl N 9 i0 _ 16 Tryz.underlying26 hi hz0 hz1 hz2 rfl (.slice (some ⟨N,0,none⟩) 0 0) 0 [] rfl O1.out L a.labels.length c (a.labels.map Value.string) rfl (by simp) (HL.out.below D1.out) (Zbx _) (by unfold maxLen;omega) (by omega) (by simp;omega) ?_;intro v' w' hown hgr hor;rw [Nat.zero_add,List.nil_append] at hown;obtain ⟨LL,lc,rfl⟩:=Zhc hown;have HOW:=hQ hown;have HGR:=hQ hgr;clear hown hgr hor)
  go_meet
  case rel=>
   have hb3:=D1.out.grown HGR.out D1.out.size (fun k hk=>by have e:some N=some k:=hk;injection e with e;omega);rw [<-HAK.out];exact c0_at (hb3.alloc hb3.size _) (Box3.new w' _ _ _ _) hb3.size (HOW.out.alloc _) (by omega) (fun b hm e=>by have:=(HOW.out.lt b ((Zam LL _ lc b).2 hm)).2;omega)
 case rest=>
  obtain ⟨g,LL,lc,rfl,hci⟩:=hcut;have hHN1:=HHN.out;go_wp2_with fail;go_loopw [6] (fun i wr=>CRel a ks W1 g LL lc i wr) (fun i _=>ks.length - (intOf i).toNat)
  case atStart=>exact ⟨0,none,0,[],fun _=>[],Nat.zero_le _,rfl,hci⟩
  case round=>
   obtain ⟨k,A',d',xs,fs,hk,rfl,hc⟩:=hrel;have HC:=hQ hc;have hbw:=hc.bel;clear hc hci;by_cases hlt:k < ks.length
   ·obtain ⟨ad,p,c0,c1,c2,rfl,hpe,hr,q0,q1,q2⟩:=Zal HP.out hbw hlt
    have g2:=HC.out.box.c2;have HR:=hQ hr;clear hr hbw;go_wp2_with fail;have HD:=hQ HC.out.drew;have HCC:=hQ (Zcm ks[k] wr.drew [c0,c1,c2] (HR.out.keep bQ.drew) (HWK.out _ (List.getElem_mem hlt)));obtain ⟨x0,hx0⟩:∃ x0,ks[k].top.kind=x0:=⟨_,rfl⟩;obtain ⟨x1,hx1⟩:∃ x1,ks[k].top.labels.length=x1:=⟨_,rfl⟩;obtain ⟨x2,hx2⟩:∃ x2,ks[k].kids.length=x2:=⟨_,rfl⟩;have HNX:Hid (∀ (w2:World) (fp:List Nat) (L2 A2:Option Addr) (l2 d2:Nat),OTy w2 ks[k] [.int .i64 x0,.slice L2 x1 l2,.slice A2 x2 d2] fp->(∀ b∈fp,wr.drew.heap.size<=b/\b < w2.heap.size)->Below wr.drew.heap.size wr.drew w2->
      ∀ (i:Value) (A4:Option Addr) (d4:Nat) (w4:World),i=.int .i64 ((k+1:Nat):Int)->w4.ownsRow 0 38 3 (.slice A4 (k+1) d4) (k+1) (xs ++ [.int .i64 x0,.slice L2 x1 l2,.slice A2 x2 d2])->
      (w2.alloc (.cells #[.int .i64 x0,.slice L2 x1 l2,.slice A2 x2 d2] 38)).grownBy w4 (Value.slice A' k d').ownBlock->((Value.slice A4 (k+1) d4).ownBlock=(Value.slice A' k d').ownBlock∨(Value.slice A4 (k+1) d4).ownBlock=some (w2.heap.size+1))->
      CRel a ks W1 g LL lc i (w4.setCell ⟨g,2,none⟩ (.slice A4 (k+1) d4))):=by
     intro w2 fp L2 A2 l2 d2 hot hfp hb2 i A4 d4 w4 hii h1 h2 h3
     obtain ⟨A5,d5,fs',e,hcv⟩:=Znw HD.out hlt hb2 hot hfp h1 h2 h3;injection e with e1 _ e3
     subst e1;subst e3;exact ⟨k+1,A4,d4,_,fs',hlt,hii,hcv⟩
    have HCD:Hid (∀ (e:Ending) (w2:World),MadeT ks[k] wr.drew e w2->∃ (L2 A2:Option Addr) (l2 d2:Nat),e=.returned (.agg #[.int .i64 x0,.slice L2 x1 l2,.slice A2 x2 d2])/\w2.cell? ⟨g,2,none⟩=some (.slice A' k d')/\
      (w2.alloc (.cells #[.int .i64 x0,.slice L2 x1 l2,.slice A2 x2 d2] 38)).ownsRow 0 38 3 (.slice A' k d') k xs/\
      Box3 (w2.alloc (.cells #[.int .i64 x0,.slice L2 x1 l2,.slice A2 x2 d2] 38)) g 38 (.int .i64 a.kind) (.slice LL a.labels.length lc) (.slice A' k d')/\
      ∀ (i:Value) (A4:Option Addr) (d4:Nat) (w4:World),i=.int .i64 ((k+1:Nat):Int)->w4.ownsRow 0 38 3 (.slice A4 (k+1) d4) (k+1) (xs ++ [.int .i64 x0,.slice L2 x1 l2,.slice A2 x2 d2])->
      (w2.alloc (.cells #[.int .i64 x0,.slice L2 x1 l2,.slice A2 x2 d2] 38)).grownBy w4 (Value.slice A' k d').ownBlock->((Value.slice A4 (k+1) d4).ownBlock=(Value.slice A' k d').ownBlock∨(Value.slice A4 (k+1) d4).ownBlock=some (w2.heap.size+1))->
      CRel a ks W1 g LL lc i (w4.setCell ⟨g,2,none⟩ (.slice A4 (k+1) d4))):=by
     rintro e w2 ⟨L2,A2,l2,d2,fp,rfl,hot,hfp,hb2⟩;rw [hx0,hx1,hx2] at hot ⊢;have hd2:Below wr.drew.heap.size wr.drew (w2.alloc (.cells #[.int .i64 x0,.slice L2 x1 l2,.slice A2 x2 d2] 38)):=hb2.alloc hb2.size _;exact ⟨L2,A2,l2,d2,rfl,(HD.out.box.under hb2 HD.out.box.lt).c2,Zly HD.out.row hd2,HD.out.box.under hd2 HD.out.box.lt,HNX.out w2 fp L2 A2 l2 d2 hot hfp hb2⟩
    clear hx0 hx1 hx2 HNX;go_wp2_with fail;go_region_law (first
     | (go_simp;refine HCC.out.mono ?_;rintro e w2 hmade;obtain ⟨L2,A2,l2,d2,rfl,e2,hrw,hbx,hnx⟩:=HCD.out _ _ hmade;clear hmade;have e3:=hbx.c2;have HRW:=hQ hrw;have HBX:=hQ hbx;have HNX:=hQ hnx;clear hrw hbx hnx;have HNW:=hQ (news3 w2 (.int .i64 x0) (.slice L2 x1 l2) (.slice A2 x2 d2) 38);have m2:=World.new_ne w2 _ e2)
     | (refine Zgj (by rfl) (.tmp 18) (.tmp 24) 36 (by rfl) 0 38 i1 _ 3 56 Tryz.underlying36 hi1 hy0 hy1 hy2 (by rfl) (by omega) (.slice A' k d') k xs (by rfl) HRW.out ⟨w2.heap.size,0,none⟩ 1 1 [.int .i64 x0,.slice L2 x1 l2,.slice A2 x2 d2] (by rfl) (by rfl) HNW.out (one3 _ _ _ _ _ _ _) (by unfold maxLen;omega) (by omega) (Nat.zero_le _) ?_;intro A4 d4 w4 hown4 hgr4 hor4;have bx4:=HBX.out.grown hgr4 HD.out.apart;have g4:=bx4.c2;have f4:=bx4.free 2;have HNW4:=hQ (fun i hi=>HNX.out i A4 d4 w4 hi hown4 hgr4 (by simpa using hor4));clear hown4 hgr4 hor4 bx4))
    all_goals go_wp2_with fail
    all_goals go_roundw
    all_goals first
     | exact HNW4.out _ (by go_num)
     | (simp [intOf];omega)
   ·have he:k=ks.length:=by omega
    subst he;have bg:=HC.out.box;have g0:=bg.c0;have g1:=bg.c1;have g2:=bg.c2;have br:=B1.out.under hbw (by omega);have r0:=br.c0;have r1:=br.c1;have r2:=br.c2;have s0:=br.free 0;have s1:=br.free 1;have s2:=br.free 2;have BR:=hQ br;clear bg br hbw;go_wp2_with fail;generalize hU:((wr.setCell ⟨H,0,none⟩ (.int .i64 a.kind)).setCell ⟨H,1,none⟩ (.slice LL a.labels.length lc)).setCell ⟨H,2,none⟩ (.slice A' ks.length d')=U;have hgU:wr.grownBy U (some (H)):=by rw [<-hU];exact Zaa (Zaa (Zaa (gQ) _) _) _
    have u1:Box3 U (H) 38 (.int .i64 a.kind) (.slice LL a.labels.length lc) (.slice A' ks.length d'):=by
     rw [<-hU];exact ((BR.out.set0 _).set1 _).set2 _
    have HRR:=hQ (Zny (w:=w) (W1:=W1) (G:=H) ⟨by rw [HAK.out];decide,by rw [HAK.out];decide,by omega,HX.out⟩ (by omega) HC.out HB1.out (by omega) (by have:=HH.out;omega) hgU);have t0:=u1.c0;have t1:=u1.c1;have t2:=u1.c2;clear hU hgU u1 g0 g1 g2 r0 r1 r2 s0 s1 s2;exact bodyPost_ret (v:=.agg #[.int .i64 a.kind,.slice LL a.labels.length lc,.slice A' ks.length d']) (by simp [results,Tryz.results132,go_sem,t0,t1,t2]) rfl HRR.out
theorem Zaas (w:World)(cur:Array Value)(n:Nat)(hs:cur.size=n * 3)(hm:n<=maxLen):(w.alloc (.cells cur 38)).ownsRow 0 38 3 (.slice (some ⟨w.heap.size,0,none⟩) n n) n cur.toList:=
 ⟨by simpa using hs,.inr ⟨w.heap.size,n,cur,rfl,Nat.zero_le _,heap_alloc_new w _,Nat.le_refl _,hm,hs,List.take_of_length_le (by simp [hs])⟩⟩
theorem Zlo {q:Int}(hq1:-9223372036854775808<=q)(hq2:q<=9223372036854775807) {ks:List Ty}{xs:List Value}{fs:Nat->List Nat}{w W1 w2 U:World}{G:Nat}(hlen:xs.length=ks.length * 3)(hks:ks.length<=1000)
  (hkid:∀ j t,ks[j]?=some t->OTy w2 t (part3 xs j) (fs j)) (hnd:((List.range ks.length).flatMap fs).Nodup) (hbd:∀ b∈(List.range ks.length).flatMap fs,W1.heap.size<=b/\b < w2.heap.size)
  (hb1:Below w.heap.size w W1) (hb2:Below W1.heap.size W1 w2) (hG:G < W1.heap.size) (hwG:w.heap.size<=G) (hU:(w2.alloc (.cells xs.toArray 38)).grownBy U (some G)) :
  MadeT (.node ⟨q,[]⟩ ks) w (.returned (.agg #[.int .i64 q,.slice none 0 0,.slice (some ⟨w2.heap.size,0,none⟩) ks.length ks.length])) U:=by
 have hs1:=hb1.size;have hs2:=hb2.size;obtain ⟨w3,hw3⟩:∃ w3,w2.alloc (.cells xs.toArray 38)=w3:=⟨_,rfl⟩;have hz3:w3.heap.size=w2.heap.size+1:=by rw [<-hw3];simp
 have hrow:w3.ownsRow 0 38 3 (.slice (some ⟨w2.heap.size,0,none⟩) ks.length ks.length) ks.length xs:=by
  rw [<-hw3]
  have:=Zaas w2 xs.toArray ks.length (by simpa using hlen) (by unfold maxLen;omega)
  simpa using this
 have hb3:Below w2.heap.size w2 w3:=by rw [<-hw3];exact bQ.alloc nQ _
 rw [hw3] at hU;have hsU:=hU.size;refine ⟨none,some ⟨w2.heap.size,0,none⟩,0,ks.length,blk none ++ blk (some ⟨w2.heap.size,0,none⟩) ++ (List.range ks.length).flatMap fs,rfl,?_,fun b hb=>?_,?_⟩
 ·refine .node ⟨q,[]⟩ ks none (some ⟨w2.heap.size,0,none⟩) 0 ks.length xs fs ⟨hq1,hq2,by simp,by simp⟩ ⟨rfl,.inl ⟨rfl,rfl⟩⟩ (by omega) (Zav hrow hU (fun b hb e=>by injection e with e;simp [blk] at hb;omega)) (fun j t hj=>?_) ?_
  ·refine ((hkid j t hj).under hb3).keep hU (fun b hb e=>?_)
   injection e with e
   have:=hbd b (List.mem_flatMap.2 ⟨j,List.mem_range.2 (List.getElem?_eq_some_iff.1 hj).1,hb⟩)
   omega
  ·refine Zxn.2 ⟨Zek _,Zek _,hnd,by simp [blk],by simp [blk],fun x hx hy=>?_⟩
   simp [blk] at hx
   have:=hbd x hy
   omega
 ·rcases List.mem_append.1 hb with hb|hb
  ·simp [blk] at hb
   omega
  ·have:=hbd b hb
   omega
 ·exact ((hb1.trans (hb2.mono hs1)).trans (hb3.mono (by omega))).grown hU (by omega) (fun k hk=>by injection hk with hk;omega)
theorem Zka (t:Ty)(w:World)(cs:List Value)(h:RTy w t cs)(hw:wt t<=1048576):Calls Tryz.prog 129 #[.agg cs.toArray] w (MadeT (.node ⟨4,[]⟩ [t]) w):=by
 obtain ⟨c0,c1,c2,rfl⟩:=h.three;obtain ⟨W1,hW1⟩:∃ W1,(w.alloc (.cells #[c0,c1,c2] 38)).alloc (.cells #[.int .i64 0,.slice none 0 0,.slice none 0 0] 38)=W1:=⟨_,rfl⟩;obtain ⟨H,hH⟩:∃ H,w.heap.size=H:=⟨_,rfl⟩;have hz1s:W1.heap.size=H+2:=by rw [<-hW1,<-hH];simp
 have b0:Box3 W1 H 38 c0 c1 c2:=by rw [<-hW1,<-hH];exact (Box3.new w _ _ _ _).alloc _
 have b1:Box3 W1 (H+1) 38 (.int .i64 0) (.slice none 0 0) (.slice none 0 0):=by
  rw [<-hW1,<-hH]
  have:=Box3.new (w.alloc (.cells #[c0,c1,c2] 38)) 38 (.int .i64 0) (.slice none 0 0) (.slice none 0 0)
  simpa using this
 have hb1:Below w.heap.size w W1:=by rw [<-hW1];exact (bQ.alloc nQ _).alloc (by simp) _
 have HC:=hQ (Zcm t W1 _ (h.keep hb1) hw);have HW1:=hQ hW1;have HB1:=hQ hb1;have B1:=hQ b1;have HH:=hQ hH;have HZ:=hQ hz1s;have x0:=b0.c0;have x1:=b0.c1;have x2:=b0.c2;clear h hw hW1 hb1 b0 b1 hz1s;go_enter Tryz.func129,Tryz.ntmps129;go_wp2_with fail;rw [HW1.out];go_wp2_with fail;refine HC.out.mono ?_;rintro e w2 ⟨L2,A2,l2,d2,fp,rfl,hot,hfp,hb2⟩;generalize t.top.kind=y0 at hot ⊢;generalize t.top.labels.length=y1 at hot ⊢;generalize t.kids.length=y2 at hot ⊢;have hzz:=HZ.out;have HBX:=hQ ((B1.out.under hb2 B1.out.lt).alloc (.cells #[.int .i64 y0,.slice L2 y1 l2,.slice A2 y2 d2] 38));have HM:Hid (∀ U,(w2.alloc (.cells #[.int .i64 y0,.slice L2 y1 l2,.slice A2 y2 d2] 38)).grownBy U (some (H+1))->MadeT (.node ⟨4,[]⟩ [t]) w (.returned (.agg #[.int .i64 4,.slice none 0 0,.slice (some ⟨w2.heap.size,0,none⟩) 1 1])) U):=fun U hU=>
  Zlo (q:=4) (ks:=[t]) (xs:=[.int .i64 y0,.slice L2 y1 l2,.slice A2 y2 d2]) (fs:=fun _=>fp) (by decide) (by decide) rfl (by simp) (fun j s hj=>by
   match j,hj with
   | 0,hj=>
    simp at hj
    subst hj;exact hot
   | j+1,hj=>simp at hj) (by simpa using hot.nodup) (by simpa using hfp) HB1.out hb2 (by omega) (by have:=HH.out;omega) hU
 clear hot hfp hb2 x0 x1 x2;have r0:=HBX.out.c0;have r1:=HBX.out.c1;have r2:=HBX.out.c2;have s0:=HBX.out.free 0;have s1:=HBX.out.free 1;have s2:=HBX.out.free 2;go_wp2_with fail;generalize hU:(((w2.alloc (.cells #[.int .i64 y0,.slice L2 y1 l2,.slice A2 y2 d2] 38)).setCell ⟨H+1,0,none⟩ (.int .i64 4)).setCell ⟨H+1,1,none⟩ (.slice none 0 0)).setCell ⟨H+1,2,none⟩ (.slice (some ⟨w2.heap.size,0,none⟩) 1 1)=U;have hgU:(w2.alloc (.cells #[.int .i64 y0,.slice L2 y1 l2,.slice A2 y2 d2] 38)).grownBy U (some (H+1)):=by rw [<-hU];exact Zaa (Zaa (Zaa (gQ) _) _) _
 have u1:Box3 U (H+1) 38 (.int .i64 4) (.slice none 0 0) (.slice (some ⟨w2.heap.size,0,none⟩) 1 1):=by
  rw [<-hU];exact ((HBX.out.set0 _).set1 _).set2 _
 have HRR:=hQ (HM.out U hgU);have t0:=u1.c0;have t1:=u1.c1;have t2:=u1.c2;clear hU hgU u1 r0 r1 r2 s0 s1 s2;exact bodyPost_ret (v:=.agg #[.int .i64 4,.slice none 0 0,.slice (some ⟨w2.heap.size,0,none⟩) 1 1]) (by simp [results,Tryz.results129,go_sem,t0,t1,t2]) rfl HRR.out
theorem Zgy (w:World):Calls Tryz.prog 127 #[] w (MadeT (.node ⟨1,[]⟩ []) w):=by
 have hR:∀ U,(w.alloc (.cells #[.int .i64 1,.slice none 0 0,.slice none 0 0] 38))=U->MadeT (.node ⟨1,[]⟩ []) w (.returned (.agg #[.int .i64 1,.slice none 0 0,.slice none 0 0])) U:=by
  rintro U rfl;exact ⟨none,none,0,0,[],rfl,OTy.node ⟨1,[]⟩ [] none none 0 0 [] (fun _=>[]) ⟨by decide,by decide,by decide,by simp⟩ ⟨rfl,.inl ⟨rfl,rfl⟩⟩ (by decide) ⟨rfl,.inl ⟨rfl,rfl⟩⟩ (fun j t hj=>by simp at hj) (by simp [blk]),by simp,bQ.alloc nQ _⟩
 have HR:=hQ hR;clear hR;go_enter Tryz.func127,Tryz.ntmps127;go_wp2_with fail;have hb:=Box3.new w 38 (.int .i64 1) (.slice none 0 0) (.slice none 0 0);have t0:=hb.c0;have t1:=hb.c1;have t2:=hb.c2;clear hb;exact bodyPost_ret (v:=.agg #[.int .i64 1,.slice none 0 0,.slice none 0 0]) (by simp [results,Tryz.results127,go_sem,t0,t1,t2]) rfl (HR.out _ rfl)
theorem Zwz (s t:Ty)(w:World)(cs ds:List Value)(h:RTy w s cs)(h':RTy w t ds)(hw:wt s<=1048576)(hw':wt t<=1048576):Calls Tryz.prog 125 #[.agg cs.toArray,.agg ds.toArray] w (MadeT (.node ⟨5,[]⟩ [s,t]) w):=by
 obtain ⟨c0,c1,c2,rfl⟩:=h.three;obtain ⟨d0,d1,d2,rfl⟩:=h'.three;obtain ⟨W1,hW1⟩:∃ W1,((w.alloc (.cells #[c0,c1,c2] 38)).alloc (.cells #[d0,d1,d2] 38)).alloc (.cells #[.int .i64 0,.slice none 0 0,.slice none 0 0] 38)=W1:=⟨_,rfl⟩;obtain ⟨H,hH⟩:∃ H,w.heap.size=H:=⟨_,rfl⟩;have hz1s:W1.heap.size=H+3:=by rw [<-hW1,<-hH];simp
 have b0:Box3 W1.drew H 38 c0 c1 c2:=by rw [<-hW1,<-hH];exact ((Box3.new w _ _ _ _).alloc _).alloc _
 have b1:Box3 W1.drew (H+1) 38 d0 d1 d2:=by
  rw [<-hW1,<-hH]
  have:=(Box3.new (w.alloc (.cells #[c0,c1,c2] 38)) 38 d0 d1 d2).alloc (.cells #[.int .i64 0,.slice none 0 0,.slice none 0 0] 38)
  simp only [World.size_alloc] at this;exact this
 have b2:Box3 W1.drew (H+1+1) 38 (.int .i64 0) (.slice none 0 0) (.slice none 0 0):=by
  rw [<-hW1,<-hH]
  have:=Box3.new ((w.alloc (.cells #[c0,c1,c2] 38)).alloc (.cells #[d0,d1,d2] 38)) 38 (.int .i64 0) (.slice none 0 0) (.slice none 0 0)
  simp only [World.size_alloc] at this;exact this
 have hb1:Below w.heap.size w W1.drew:=by rw [<-hW1];exact (((bQ.alloc nQ _).alloc (by simp) _).alloc (by simp;omega) _).drew
 have hzd:W1.drew.heap.size=H+3:=hz1s;have HC1:=hQ (Zcm s W1.drew _ (h.keep hb1) hw);have HC2:=hQ (fun W (hB:Below W1.drew.heap.size W1.drew W)=>Zcm t W _ ((h'.keep hb1).keep hB) hw');have HW1:=hQ hW1;have HB1:=hQ hb1;have B0:=hQ b0;have B1:=hQ b1;have B2:=hQ b2;have HH:=hQ hH;have HZ:=hQ hzd;have x0:=b0.c0;have x1:=b0.c1;have x2:=b0.c2;have y0:=b1.c0;have y1:=b1.c1;have y2:=b1.c2;have hne0:H≠H+1+1:=by omega
 have hne1:H+1≠H+1+1:=by omega
 clear h h' hw hw' hW1 hb1 b0 b1 b2 hz1s hzd;go_enter Tryz.func125,Tryz.ntmps125;go_wp2_with fail;rw [HW1.out];go_region_held3 (fun W=>W.cell? ⟨H,0,none⟩=some c0/\W.cell? ⟨H,1,none⟩=some c1/\W.cell? ⟨H,2,none⟩=some c2/\W.cell? ⟨H+1,0,none⟩=some d0/\W.cell? ⟨H+1,1,none⟩=some d1/\W.cell? ⟨H+1,2,none⟩=some d2)
  (first | (refine ⟨?_,?_,?_,?_,?_,?_⟩ <;> assumption) | exact ⟨Zbo m0 hne0,Zbo m1 hne0,Zbo m2 hne0,Zbo n0 hne1,Zbo n1 hne1,Zbo n2 hne1⟩ | go_keep)
  (first
   | (go_at_call 135;refine (HC2.out w2 HB2.out).mono ?_;rintro e w3 ⟨L3,A3,l3,e3,gp,rfl,hot,hfp,hb3⟩;have HOT3:=hQ hot;have HFP3:=hQ hfp;have HB3:=hQ hb3;have hb4:=HB2.out.trans (hb3.mono HB2.out.size);have p0:=B0.out.under hb4 B0.out.lt;have p1:=B1.out.under hb4 B1.out.lt;have p2:=(B2.out.under hb4 B2.out.lt).alloc (.cells #[.int .i64 s.top.kind,.slice L2 s.top.labels.length l2,.slice A2 s.kids.length e2,.int .i64 t.top.kind,.slice L3 t.top.labels.length l3,.slice A3 t.kids.length e3] 38);have r0:=p2.c0;have r1:=p2.c1;have r2:=p2.c2;have f0:=p2.free 0;have f1:=p2.free 1;have f2:=p2.free 2;have p3:=p0.alloc (.cells #[.int .i64 s.top.kind,.slice L2 s.top.labels.length l2,.slice A2 s.kids.length e2,.int .i64 t.top.kind,.slice L3 t.top.labels.length l3,.slice A3 t.kids.length e3] 38);have p4:=p1.alloc (.cells #[.int .i64 s.top.kind,.slice L2 s.top.labels.length l2,.slice A2 s.kids.length e2,.int .i64 t.top.kind,.slice L3 t.top.labels.length l3,.slice A3 t.kids.length e3] 38);have m0:=p3.c0;have m1:=p3.c1;have m2:=p3.c2;have n0:=p4.c0;have n1:=p4.c1;have n2:=p4.c2;have P2:=hQ p2;have k0:=p0.c0;have k1:=p0.c1;have k2:=p0.c2;have l0:=p1.c0;have l1:=p1.c1;have l2':=p1.c2;clear hot hfp hb3 hb4 p0 p1 p2 p3 p4)
   | (go_at_call 135;refine HC1.out.mono ?_;rintro e w2 ⟨L2,A2,l2,e2,fp,rfl,hot,hfp,hb2⟩;have HOT:=hQ hot;have HFP:=hQ hfp;have HB2:=hQ hb2;have p0:=B0.out.under hb2 B0.out.lt;have p1:=B1.out.under hb2 B1.out.lt;have u0:=p0.c0;have u1:=p0.c1;have u2:=p0.c2;have v0:=p1.c0;have v1:=p1.c1;have v2:=p1.c2;clear hot hfp hb2 p0 p1))
 go_wp2_with fail
 generalize hU:(((w3.alloc (.cells #[.int .i64 s.top.kind,.slice L2 s.top.labels.length l2,.slice A2 s.kids.length e2,.int .i64 t.top.kind,.slice L3 t.top.labels.length l3,.slice A3 t.kids.length e3] 38)).setCell ⟨H+1+1,0,none⟩ (.int .i64 5)).setCell ⟨H+1+1,1,none⟩ (.slice none 0 0)).setCell ⟨H+1+1,2,none⟩ (.slice (some ⟨w3.heap.size,0,none⟩) 2 2)=U;have hgU:(w3.alloc (.cells #[.int .i64 s.top.kind,.slice L2 s.top.labels.length l2,.slice A2 s.kids.length e2,.int .i64 t.top.kind,.slice L3 t.top.labels.length l3,.slice A3 t.kids.length e3] 38)).grownBy U (some (H+1+1)):=by rw [<-hU];exact Zaa (Zaa (Zaa (gQ) _) _) _
 have u1:Box3 U (H+1+1) 38 (.int .i64 5) (.slice none 0 0) (.slice (some ⟨w3.heap.size,0,none⟩) 2 2):=by
  rw [<-hU];exact ((P2.out.set0 _).set1 _).set2 _
 have HRR:Hid (MadeT (.node ⟨5,[]⟩ [s,t]) w (.returned (.agg #[.int .i64 5,.slice none 0 0,.slice (some ⟨w3.heap.size,0,none⟩) 2 2])) U):=hQ (by
  have hzz:=HZ.out;have hs2:=HB2.out.size;have hs3:=HB3.out.size;refine Zlo (q:=5) (ks:=[s,t]) (xs:=[.int .i64 s.top.kind,.slice L2 s.top.labels.length l2,.slice A2 s.kids.length e2,.int .i64 t.top.kind,.slice L3 t.top.labels.length l3,.slice A3 t.kids.length e3]) (fs:=fun j=>if j=0 then fp else gp) (W1:=W1.drew) (w2:=w3) (G:=H+1+1) (by decide) (by decide) rfl (by simp) (fun j v hj=>?_) ?_ (fun b hb=>?_) HB1.out (HB2.out.trans (HB3.out.mono hs2)) (by omega) (by have:=HH.out;omega) hgU
  ·match j,hj with
   | 0,hj=>
    simp at hj
    subst hj;exact HOT.out.under HB3.out
   | 1,hj=>
    simp at hj
    subst hj;exact HOT3.out
   | j+2,hj=>simp at hj
  ·have e:(List.range 2).flatMap (fun j=>if j=0 then fp else gp)=fp ++ gp:=by simp [List.range_succ]
   show ((List.range 2).flatMap _).Nodup
   rw [e];refine List.nodup_append.2 ⟨HOT.out.nodup,HOT3.out.nodup,fun x hx y hy e=>?_⟩
   have:=HFP.out x hx
   have:=HFP3.out y hy
   omega
  ·have e:(List.range 2).flatMap (fun j=>if j=0 then fp else gp)=fp ++ gp:=by simp [List.range_succ]
   have hb':b∈fp ++ gp:=by rw [<-e];exact hb
   rcases List.mem_append.1 hb' with hb'|hb'
   ·have:=HFP.out b hb';omega
   ·have:=HFP3.out b hb';omega)
 have t0:=u1.c0;have t1:=u1.c1;have t2:=u1.c2;clear hU hgU u1;exact bodyPost_ret (v:=.agg #[.int .i64 5,.slice none 0 0,.slice (some ⟨w3.heap.size,0,none⟩) 2 2]) (by simp [results,Tryz.results125,go_sem,t0,t1,t2]) rfl HRR.out
theorem Zcz {b:Bool}{w W2 w3 U:World}{t:Ty}{e:Ending}{G:Nat}(h:MadeT t W2 e w3)(hb:Below w.heap.size w W2)(hG:G < W2.heap.size)(hwG:w.heap.size<=G)(hU:w3.grownBy U (some G)) :
  ∃ (L A:Option Addr) (c d:Nat),e=.returned (.agg #[.int .i64 t.top.kind,.slice L t.top.labels.length c,.slice A t.kids.length d])/\
   MadeP (t,b) w (.returned (.tuple #[.agg #[.int .i64 t.top.kind,.slice L t.top.labels.length c,.slice A t.kids.length d],.bool b])) U:=by
 obtain ⟨L,A,c,d,fp,rfl,hot,hfp,hb3⟩:=h;have hs:=hb.size;have hsU:=hU.size;refine ⟨L,A,c,d,rfl,L,A,c,d,fp,rfl,hot.keep hU (fun b hm e=>by injection e with e;have:=(hfp b hm).1;omega),fun b hm=>?_,(hb.trans (hb3.mono hs)).grown hU (by have:=hb3.size;omega) (fun k hk=>by injection hk with hk;omega)⟩
 have:=hfp b hm
 omega
theorem Zxe (w:World)(q:Int)(h1:-9223372036854775808<=q)(h2:q<=9223372036854775807):OTy w (.node ⟨q,[]⟩ []) [.int .i64 q,.slice none 0 0,.slice none 0 0] []:=
 OTy.node ⟨q,[]⟩ [] none none 0 0 [] (fun _=>[]) ⟨h1,h2,by simp,by simp⟩ ⟨rfl,.inl ⟨rfl,rfl⟩⟩ (by simp) ⟨rfl,.inl ⟨rfl,rfl⟩⟩ (fun j t hj=>by simp at hj) (by simp [blk])
theorem Zdc (w:World):Calls Tryz.prog 128 #[] w (MadeT (.node ⟨2,[]⟩ []) w):=by
 have hR:∀ U,(w.alloc (.cells #[.int .i64 2,.slice none 0 0,.slice none 0 0] 38))=U->MadeT (.node ⟨2,[]⟩ []) w (.returned (.agg #[.int .i64 2,.slice none 0 0,.slice none 0 0])) U:=by
  rintro U rfl;exact ⟨none,none,0,0,[],rfl,Zxe _ 2 (by decide) (by decide),by simp,bQ.alloc nQ _⟩
 have HR:=hQ hR;clear hR;go_enter Tryz.func128,Tryz.ntmps128;go_wp2_with fail;have hb:=Box3.new w 38 (.int .i64 2) (.slice none 0 0) (.slice none 0 0);have t0:=hb.c0;have t1:=hb.c1;have t2:=hb.c2;clear hb;exact bodyPost_ret (v:=.agg #[.int .i64 2,.slice none 0 0,.slice none 0 0]) (by simp [results,Tryz.results128,go_sem,t0,t1,t2]) rfl (HR.out _ rfl)
end Go.Proofs.YtlcedleebbgebaaGreatDoor
