/-
  Merged by program: TypF15, TypF16, TypS8.
-/
import Derived.Test.YtlcedleebbgebaaGreatDoorQ35
import Derived.Test.YtlcedleebbgebaaGreatDoorQ36
import Derived.Test.YtlcedleebbgebaaGreatDoorQ37
import Derived.Test.YtlcedleebbgebaaGreatDoorQ38
import Derived.Test.YtlcedleebbgebaaGreatDoorQ39
set_option maxRecDepth 100000
set_option maxHeartbeats 32000000
set_option linter.all false
namespace Go.Proofs.YtlcedleebbgebaaGreatDoor
open Go.RowKit
theorem Zacy (xs:Sc)(c:Cx)(a:TeA)(kse:List Te)(t0:Ty)(A:Option Addr)(d:Nat)(fp:List Nat)(w:World)(cs:List Value)(hk:a.kind=15)(h:RTe w (.node a kse) cs)(ho:OL kTy 38 w [t0] (.slice A 1 d) fp)(hw:∀ t∈[t0],wt t<=1048576):Calls Tryz.prog 103 #[.agg cs.toArray,.slice A 1 d] w (Zbe fp (Zac xs c a [t0]) w):=by
 obtain ⟨TL,tc,TA,td,LE,lc0,KA,kd,rfl,hT,hL,hok,_,_,_⟩:=h.out;obtain ⟨kl,hkl⟩:∃ kl,kse.length=kl:=⟨_,rfl⟩;rw [hkl];obtain ⟨W1,hW1⟩:∃ W1,(w.alloc (.cells #[.int .i64 a.kind,.string a.name,.int .i64 a.num,.int .i64 a.type.top.kind,.slice TL a.type.top.labels.length tc,.slice TA a.type.kids.length td,.slice LE a.labels.length lc0,.slice KA kl kd] 49)).alloc (.cells #[.int .i64 0,.slice none 0 0,.slice none 0 0] 38)=W1:=⟨_,rfl⟩;obtain ⟨H,hH⟩:∃ H,w.heap.size=H:=⟨_,rfl⟩;have bt:Box8 W1 H 49 (.int .i64 a.kind) (.string a.name) (.int .i64 a.num) (.int .i64 a.type.top.kind) (.slice TL a.type.top.labels.length tc) (.slice TA a.type.kids.length td) (.slice LE a.labels.length lc0) (.slice KA kl kd):=by rw [<-hW1,<-hH];exact (Box8.new w 49 (.int .i64 a.kind) (.string a.name) (.int .i64 a.num) (.int .i64 a.type.top.kind) (.slice TL a.type.top.labels.length tc) (.slice TA a.type.kids.length td) (.slice LE a.labels.length lc0) (.slice KA kl kd)).alloc _
 have br:Box3 W1 (H+1) 38 (.int .i64 0) (.slice none 0 0) (.slice none 0 0):=by
  rw [<-hW1,<-hH]
  have:=Box3.new (w.alloc (.cells #[.int .i64 a.kind,.string a.name,.int .i64 a.num,.int .i64 a.type.top.kind,.slice TL a.type.top.labels.length tc,.slice TA a.type.kids.length td,.slice LE a.labels.length lc0,.slice KA kl kd] 49)) 38 (.int .i64 0) (.slice none 0 0) (.slice none 0 0)
  simpa using this
 have hb1:Below w.heap.size w W1:=by rw [<-hW1];exact (bQ.alloc nQ _).alloc (by simp) _
 have hs1:W1.heap.size=H+2:=by rw [<-hW1,<-hH];simp
 have HB1:=hQ hb1;have HS1:=hQ hs1;have HH:=hQ hH;have HW1:=hQ hW1;have BR:=hQ br;have BT:=hQ bt;have HN:Hid (Zac xs c a [t0]=ifAny (isBag t0) Zah):=hQ (by unfold Zac;(iterate 14 rw [if_neg (by rw [hk];decide)]);rw [if_pos hk];try rfl);have x0:=bt.c0;have x1:=bt.c1;have x6:=bt.c6;obtain ⟨g,rfl,hgf,hat⟩:=Zgr ho (by simp);obtain ⟨L0,B0,l0,b0,f0,y00,y01,y02,o0,hf0,hg0⟩:=hat 0 (by simp);simp only [List.getElem_cons_zero,List.getElem_cons_succ] at o0 y00 y01 y02;have up0:∀ (W:World),Below w.heap.size w W->W.cell? ⟨g,0,none⟩=some (.int .i64 t0.top.kind)/\W.cell? ⟨g,1,none⟩=some (.slice L0 t0.top.labels.length l0)/\W.cell? ⟨g,2,none⟩=some (.slice B0 t0.kids.length b0):=fun W hB=>⟨uQ hB y00,uQ hB y01,uQ hB y02⟩
 obtain ⟨p00,p01,p02⟩:=up0 W1 hb1;obtain ⟨j00,j01,j02⟩:=up0 W1 hb1;rw [<-hW1] at j00 j01 j02;have O0:=hQ o0;have OF0:=hQ hf0;have OB0:=hQ (Zbi o0);have R0:=hQ (fun (W:World) (hB:Below w.heap.size w W)=>(OTy.reads o0).keep hB);have UP0:=hQ up0;clear hat hgf;have HC:=hQ (show Calls Tryz.prog _ #[] W1.drew (MadeT Zah W1.drew) from Zdc W1.drew);have BRd:=hQ (show Box3 W1.drew (H+1) 38 (.int .i64 0) (.slice none 0 0) (.slice none 0 0) from br);have HBd:=hQ hb1.drew;obtain ⟨kq,hkq⟩:∃ kq,t0.top.kind=kq:=⟨_,rfl⟩;have HKQ:Hid (isBag t0=(kq == 4)):=hQ (by unfold isBag;rw [hkq];rfl);rw [hkq] at p00 j00 UP0;clear hkq;have hgn:g≠H+1:=fun e=>by have:=World.block_lt_of_cell? w _ y00;have hg2:g < w.heap.size:=this;omega
 have hgm:¬ H+1=g:=fun e=>hgn e.symm
 rw [hk] at HW1 x0 j00 j01 j02 ⊢;clear y00 y01 y02 o0 hf0 hg0 up0;clear hk h ho hw hW1 bt br hb1 hs1 hT hL hok hkl;go_enter Tryz.func103,Tryz.ntmps103;go_wp2_with fail;rw [HW1.out];go_wp2_with fail;go_region_law (first | (go_simp;refine HC.out.mono ?_;rintro e w3 hmade;have hb3:Below W1.drew.heap.size W1.drew w3:=(by obtain ⟨_,_,_,_,_,_,_,_,hb3⟩:=hmade;exact hb3);have HBX:=hQ (BRd.out.under hb3 BRd.out.lt);have HB3:=hQ (HBd.out.trans (hb3.mono HBd.out.size));have HM:=hQ (fun (U:World) (hU:w3.grownBy U (some (H+1)))=>Zcz (b:=(kq == 4)) (w:=w) (U:=U) hmade HBd.out (by have:=HS1.out;show H+1 < W1.heap.size;omega) (by have:=HH.out;omega) hU);obtain ⟨LL,AA,lc,dd,rfl,_⟩:=HM.out w3 (gQ);have HM2:Hid (∀ U:World,w3.grownBy U (some (H+1))->Zbe fp (Zac xs c a [t0]) w (.returned (.tuple #[.agg #[.int .i64 (Zah).top.kind,.slice LL (Zah).top.labels.length lc,.slice AA (Zah).kids.length dd],.bool (kq == 4)])) U):=hQ (by intro U hU;obtain ⟨L9,A9,c9,d9,e9,h9⟩:=HM.out U hU;injection e9 with e9;rw [<-e9] at h9;rw [HN.out,HKQ.out];exact Zch (Zen h9));generalize (Zah).top.kind=y0 at HM2 ⊢;generalize (Zah).top.labels.length=y1 at HM2 ⊢;generalize (Zah).kids.length=y2 at HM2 ⊢;obtain ⟨c00,c01,c02⟩:=UP0.out w3 HB3.out;have r0:=HBX.out.c0;have r1:=HBX.out.c1;have r2:=HBX.out.c2;have s0:=HBX.out.free 0;have s1:=HBX.out.free 1;have s2:=HBX.out.free 2;clear hmade hb3 HM));all_goals (
  go_wp2_with fail
  generalize hU:((w3.setCell ⟨H+1,0,none⟩ (.int .i64 y0)).setCell ⟨H+1,1,none⟩ (.slice LL y1 lc)).setCell ⟨H+1,2,none⟩ (.slice AA y2 dd)=U;have hgU:w3.grownBy U (some (H+1)):=by rw [<-hU];exact Zaa (Zaa (Zaa (gQ) _) _) _
  have u1:Box3 U (H+1) 38 (.int .i64 y0) (.slice LL y1 lc) (.slice AA y2 dd):=by
   rw [<-hU];exact ((HBX.out.set0 _).set1 _).set2 _
  have HRR:=hQ (HM2.out U hgU);have tt0:=u1.c0;have tt1:=u1.c1;have tt2:=u1.c2;clear hU hgU u1 r0 r1 r2 s0 s1 s2;exact bodyPost_ret (v:=.tuple #[.agg #[.int .i64 y0,.slice LL y1 lc,.slice AA y2 dd],.bool (kq == 4)]) (by simp [results,Tryz.results103,go_sem,tt0,tt1,tt2]) rfl HRR.out)
theorem Zacz (xs:Sc)(c:Cx)(a:TeA)(kse:List Te)(t0:Ty)(A:Option Addr)(d:Nat)(fp:List Nat)(w:World)(cs:List Value)(hk:a.kind=16)(h:RTe w (.node a kse) cs)(ho:OL kTy 38 w [t0] (.slice A 1 d) fp)(hw:∀ t∈[t0],wt t<=1048576):Calls Tryz.prog 103 #[.agg cs.toArray,.slice A 1 d] w (Zbe fp (Zac xs c a [t0]) w):=by
 obtain ⟨TL,tc,TA,td,LE,lc0,KA,kd,rfl,hT,hL,hok,_,_,_⟩:=h.out;obtain ⟨kl,hkl⟩:∃ kl,kse.length=kl:=⟨_,rfl⟩;rw [hkl];obtain ⟨W1,hW1⟩:∃ W1,(w.alloc (.cells #[.int .i64 a.kind,.string a.name,.int .i64 a.num,.int .i64 a.type.top.kind,.slice TL a.type.top.labels.length tc,.slice TA a.type.kids.length td,.slice LE a.labels.length lc0,.slice KA kl kd] 49)).alloc (.cells #[.int .i64 0,.slice none 0 0,.slice none 0 0] 38)=W1:=⟨_,rfl⟩;obtain ⟨H,hH⟩:∃ H,w.heap.size=H:=⟨_,rfl⟩;have bt:Box8 W1 H 49 (.int .i64 a.kind) (.string a.name) (.int .i64 a.num) (.int .i64 a.type.top.kind) (.slice TL a.type.top.labels.length tc) (.slice TA a.type.kids.length td) (.slice LE a.labels.length lc0) (.slice KA kl kd):=by rw [<-hW1,<-hH];exact (Box8.new w 49 (.int .i64 a.kind) (.string a.name) (.int .i64 a.num) (.int .i64 a.type.top.kind) (.slice TL a.type.top.labels.length tc) (.slice TA a.type.kids.length td) (.slice LE a.labels.length lc0) (.slice KA kl kd)).alloc _
 have br:Box3 W1 (H+1) 38 (.int .i64 0) (.slice none 0 0) (.slice none 0 0):=by
  rw [<-hW1,<-hH]
  have:=Box3.new (w.alloc (.cells #[.int .i64 a.kind,.string a.name,.int .i64 a.num,.int .i64 a.type.top.kind,.slice TL a.type.top.labels.length tc,.slice TA a.type.kids.length td,.slice LE a.labels.length lc0,.slice KA kl kd] 49)) 38 (.int .i64 0) (.slice none 0 0) (.slice none 0 0)
  simpa using this
 have hb1:Below w.heap.size w W1:=by rw [<-hW1];exact (bQ.alloc nQ _).alloc (by simp) _
 have hs1:W1.heap.size=H+2:=by rw [<-hW1,<-hH];simp
 have HB1:=hQ hb1;have HS1:=hQ hs1;have HH:=hQ hH;have HW1:=hQ hW1;have BR:=hQ br;have BT:=hQ bt;have HN:Hid (Zac xs c a [t0]=ifAny (isBag t0) tyInt):=hQ (by unfold Zac;(iterate 15 rw [if_neg (by rw [hk];decide)]);rw [if_pos hk];try rfl);have x0:=bt.c0;have x1:=bt.c1;have x6:=bt.c6;obtain ⟨g,rfl,hgf,hat⟩:=Zgr ho (by simp);obtain ⟨L0,B0,l0,b0,f0,y00,y01,y02,o0,hf0,hg0⟩:=hat 0 (by simp);simp only [List.getElem_cons_zero,List.getElem_cons_succ] at o0 y00 y01 y02;have up0:∀ (W:World),Below w.heap.size w W->W.cell? ⟨g,0,none⟩=some (.int .i64 t0.top.kind)/\W.cell? ⟨g,1,none⟩=some (.slice L0 t0.top.labels.length l0)/\W.cell? ⟨g,2,none⟩=some (.slice B0 t0.kids.length b0):=fun W hB=>⟨uQ hB y00,uQ hB y01,uQ hB y02⟩
 obtain ⟨p00,p01,p02⟩:=up0 W1 hb1;obtain ⟨j00,j01,j02⟩:=up0 W1 hb1;rw [<-hW1] at j00 j01 j02;have O0:=hQ o0;have OF0:=hQ hf0;have OB0:=hQ (Zbi o0);have R0:=hQ (fun (W:World) (hB:Below w.heap.size w W)=>(OTy.reads o0).keep hB);have UP0:=hQ up0;clear hat hgf;have HC:=hQ (show Calls Tryz.prog _ #[] W1.drew (MadeT tyInt W1.drew) from Zgy W1.drew);have BRd:=hQ (show Box3 W1.drew (H+1) 38 (.int .i64 0) (.slice none 0 0) (.slice none 0 0) from br);have HBd:=hQ hb1.drew;obtain ⟨kq,hkq⟩:∃ kq,t0.top.kind=kq:=⟨_,rfl⟩;have HKQ:Hid (isBag t0=(kq == 4)):=hQ (by unfold isBag;rw [hkq];rfl);rw [hkq] at p00 j00 UP0;clear hkq;have hgn:g≠H+1:=fun e=>by have:=World.block_lt_of_cell? w _ y00;have hg2:g < w.heap.size:=this;omega
 have hgm:¬ H+1=g:=fun e=>hgn e.symm
 rw [hk] at HW1 x0 j00 j01 j02 ⊢;clear y00 y01 y02 o0 hf0 hg0 up0;clear hk h ho hw hW1 bt br hb1 hs1 hT hL hok hkl;go_enter Tryz.func103,Tryz.ntmps103;go_wp2_with fail;rw [HW1.out];go_wp2_with fail;go_region_law (first | (go_simp;refine HC.out.mono ?_;rintro e w3 hmade;have hb3:Below W1.drew.heap.size W1.drew w3:=(by obtain ⟨_,_,_,_,_,_,_,_,hb3⟩:=hmade;exact hb3);have HBX:=hQ (BRd.out.under hb3 BRd.out.lt);have HB3:=hQ (HBd.out.trans (hb3.mono HBd.out.size));have HM:=hQ (fun (U:World) (hU:w3.grownBy U (some (H+1)))=>Zcz (b:=(kq == 4)) (w:=w) (U:=U) hmade HBd.out (by have:=HS1.out;show H+1 < W1.heap.size;omega) (by have:=HH.out;omega) hU);obtain ⟨LL,AA,lc,dd,rfl,_⟩:=HM.out w3 (gQ);have HM2:Hid (∀ U:World,w3.grownBy U (some (H+1))->Zbe fp (Zac xs c a [t0]) w (.returned (.tuple #[.agg #[.int .i64 (tyInt).top.kind,.slice LL (tyInt).top.labels.length lc,.slice AA (tyInt).kids.length dd],.bool (kq == 4)])) U):=hQ (by intro U hU;obtain ⟨L9,A9,c9,d9,e9,h9⟩:=HM.out U hU;injection e9 with e9;rw [<-e9] at h9;rw [HN.out,HKQ.out];exact Zch (Zen h9));generalize (tyInt).top.kind=y0 at HM2 ⊢;generalize (tyInt).top.labels.length=y1 at HM2 ⊢;generalize (tyInt).kids.length=y2 at HM2 ⊢;obtain ⟨c00,c01,c02⟩:=UP0.out w3 HB3.out;have r0:=HBX.out.c0;have r1:=HBX.out.c1;have r2:=HBX.out.c2;have s0:=HBX.out.free 0;have s1:=HBX.out.free 1;have s2:=HBX.out.free 2;clear hmade hb3 HM));all_goals (
  go_wp2_with fail
  generalize hU:((w3.setCell ⟨H+1,0,none⟩ (.int .i64 y0)).setCell ⟨H+1,1,none⟩ (.slice LL y1 lc)).setCell ⟨H+1,2,none⟩ (.slice AA y2 dd)=U;have hgU:w3.grownBy U (some (H+1)):=by rw [<-hU];exact Zaa (Zaa (Zaa (gQ) _) _) _
  have u1:Box3 U (H+1) 38 (.int .i64 y0) (.slice LL y1 lc) (.slice AA y2 dd):=by
   rw [<-hU];exact ((HBX.out.set0 _).set1 _).set2 _
  have HRR:=hQ (HM2.out U hgU);have tt0:=u1.c0;have tt1:=u1.c1;have tt2:=u1.c2;clear hU hgU u1 r0 r1 r2 s0 s1 s2;exact bodyPost_ret (v:=.tuple #[.agg #[.int .i64 y0,.slice LL y1 lc,.slice AA y2 dd],.bool (kq == 4)]) (by simp [results,Tryz.results103,go_sem,tt0,tt1,tt2]) rfl HRR.out)
theorem Zst:wt tyInt=0:=by simp [tyInt,wt,Tr.sum,wtA,total]
theorem Zrf:wt Zah=0:=by simp [Zah,wt,Tr.sum,wtA,total]
theorem Zzb (t:Ty):wt (tyBag t)=wt t+1:=by
 unfold tyBag;rw [Zdn];simp [wtA,wtK,total]
 omega
theorem Zagq (a b:Ty):wt (tyFun a b)=wt a+wt b+2:=by
 unfold tyFun;rw [Zdn];simp [wtA,wtK,total]
 omega
theorem Zmb {B:Nat}:∀ {ts:List Ty},(∀ t∈ts,wt t<=B)->(ts.map wt).sum<=B * ts.length
 | [],_=>by simp
 | t :: ts,h=>by
  have h1:=Zmb (ts:=ts) fun u hu=>h u (List.mem_cons_of_mem _ hu)
  have h2:=h t (by simp);rw [List.map_cons,List.sum_cons,List.length_cons,Nat.mul_succ]
  omega
theorem Zags {ls:List ByteArray}{ts:List Ty}(h:∀ t∈ts,wt t<=504)(hl:ls.length<=4)(hx:∀ x∈ls,x.size<=4):wt (tyRec ls ts)<=20+505 * ts.length:=by
 unfold tyRec;rw [Zdn];have h1:=Znn hx;have h2:=Zmb h;unfold wtA wtK
 show ls.length+total ls+(ts.length+(ts.map wt).sum)<=_
 omega
theorem Znr {B:Nat}{ts:List Ty}(k:Nat)(h:∀ t∈ts,wt t<=B):wt (arg ts k)<=B:=by
 unfold arg;rw [List.getD_eq_getElem?_getD];cases hk:ts[k]? with
 | none=>simp [Zap,wt,Tr.sum,wtA,total]
 | some t=>exact h t (List.mem_of_getElem? hk)
theorem Zjw {t u:Ty}(h:u∈t.kids):wt u<=wt t:=by
 obtain ⟨a,ks⟩:=t;exact Zbn h
theorem Zzw {u:Ty}{B:Nat}(x:ByteArray)(h:wt u<=B):wt (Zak u x).1<=B:=by
 unfold Zak
 split
 ·exact Znr _ fun v hv=>Nat.le_trans (Zjw hv) h
 ·simp [Zap,wt,Tr.sum,wtA,total]
theorem Zsc {x:ByteArray}{t:Ty}:∀ {c:Cx},look c x=some t->∃ d∈c,d.2=t
 | [],h=>by cases h
 | d :: c,h=>by
  unfold look at h;cases hl:look c x with
  | some u=>
   rw [hl] at h;injection h with h
   subst h;obtain ⟨e,he,h2⟩:=Zsc hl;exact ⟨e,List.mem_cons_of_mem _ he,h2⟩
  | none=>
   rw [hl] at h;simp only at h
   split at h
   ·injection h with h;exact ⟨d,by simp,h⟩
   ·cases h
theorem Zym {xs:Sc}{c:Cx}{a:TeA}{ks:List Te}{t:Ty}(hsw:wSc xs<=1000000)(hcw:∀ x∈c,wt x.2<=1048576)(hf:Tr.formE (.node a ks)=true)(hn:ks.length<=1000)(h:someT xs c a ks=some t):wt t<=1048576:=by
 unfold someT at h;cases hp:Zan a c (ks.map (Tr.typ xs)) [] with
 | none=>rw [hp] at h;cases h
 | some ts=>
  rw [hp] at h;have h:Zac xs c a ts=some t:=h;have hv:∀ u∈ts,wt u<=504:=fun u hu=>Zbq (Zfw (by simp) hp u hu)
  have hl:ts.length=ks.length:=by have:=Zlz hp;simpa using this
  have ha:∀ k,wt (arg ts k)<=504:=fun k=>Znr k hv
  obtain ⟨_,hfb,_⟩:=Zdu hf;unfold Zac at h
  rcases Decidable.em (a.kind=1) with e1|e1
  ·rw [if_pos e1] at h
   obtain ⟨d,hd,rfl⟩:=Zsc h;exact hcw d hd
  rw [if_neg e1] at h
  rcases Decidable.em (a.kind=2) with e2|e2
  ·rw [if_pos e2] at h
   injection h with h;subst h;rw [Zst];omega
  rw [if_neg e2] at h
  rcases Decidable.em (a.kind=3) with e3|e3
  ·rw [if_pos e3] at h
   injection h with h;subst h;rw [Zrf];omega
  rw [if_neg e3] at h
  rcases Decidable.em (a.kind=4) with e4|e4
  ·rw [if_pos e4] at h
   unfold opT at h
   split at h
   ·injection h with h;subst h;unfold Zaq;split
    ·rw [Zst];omega
    ·split
     ·rw [Zst];omega
     ·rw [Zrf];omega
   ·cases h
  rw [if_neg e4] at h
  rcases Decidable.em (a.kind=5) with e5|e5
  ·rw [if_pos e5] at h
   injection h with h;subst h
   obtain ⟨h1,_,h2⟩:=Zkc (Zlq hfb e5)
   have:=Zags (ls:=a.labels) hv h1 h2
   omega
  rw [if_neg e5] at h
  rcases Decidable.em (a.kind=6) with e6|e6
  ·rw [if_pos e6] at h
   obtain ⟨rfl,_⟩:=Zbp h
   have:=Zzw a.name (ha 0)
   omega
  rw [if_neg e6] at h
  rcases Decidable.em (a.kind=7) with e7|e7
  ·rw [if_pos e7] at h
   injection h with h;subst h
   rw [Zzb]
   have:=Zbq (Zgm hfb (.inl e7))
   omega
  rw [if_neg e7] at h
  rcases Decidable.em (a.kind=8) with e8|e8
  ·rw [if_pos e8] at h
   injection h with h;subst h
   rw [Zzb]
   have:=ha 0
   omega
  rw [if_neg e8] at h
  rcases Decidable.em (a.kind=9) with e9|e9
  ·rw [if_pos e9] at h
   obtain ⟨rfl,_⟩:=Zbp h
   have:=ha 0
   omega
  rw [if_neg e9] at h
  rcases Decidable.em (a.kind=10) with e10|e10
  ·rw [if_pos e10] at h
   obtain ⟨rfl,_⟩:=Zbp h
   have:=ha 1
   omega
  rw [if_neg e10] at h
  rcases Decidable.em (a.kind=11) with e11|e11
  ·rw [if_pos e11] at h
   obtain ⟨rfl,_⟩:=Zbp h
   have:=ha 1
   omega
  rw [if_neg e11] at h
  rcases Decidable.em (a.kind=12) with e12|e12
  ·rw [if_pos e12] at h
   obtain ⟨rfl,_⟩:=Zbp h;rw [Zzb]
   have:=Zkk xs a.name
   omega
  rw [if_neg e12] at h
  rcases Decidable.em (a.kind=13) with e13|e13
  ·rw [if_pos e13] at h
   injection h with h;subst h
   rw [Zagq]
   have:=Zbq (Zgm hfb (.inr e13))
   have:=ha 0
   omega
  rw [if_neg e13] at h
  rcases Decidable.em (a.kind=14) with e14|e14
  ·rw [if_pos e14] at h
   unfold appT at h;obtain ⟨rfl,_⟩:=Zbp h
   have:=Znr (B:=504) 1 (fun u hu=>Nat.le_trans (Zjw hu) (ha 0))
   omega
  rw [if_neg e14] at h
  rcases Decidable.em (a.kind=15) with e15|e15
  ·rw [if_pos e15] at h
   obtain ⟨rfl,_⟩:=Zbp h;rw [Zrf];omega
  rw [if_neg e15] at h
  rcases Decidable.em (a.kind=16) with e16|e16
  ·rw [if_pos e16] at h
   obtain ⟨rfl,_⟩:=Zbp h;rw [Zst];omega
  rw [if_neg e16] at h;cases h
theorem Znq {p:Int}{s:ByteArray}{l n:Nat}(h:(n:Int)=arN p s l)(hn:0 < n):p=4∨p=5∨(p=6/\n=1)∨(p=8/\n=1)∨(p=9/\n=2)∨(p=10/\n=2)∨(p=11/\n=3)∨(p=13/\n=1)∨(p=14/\n=2)∨(p=15/\n=1)∨(p=16/\n=1):=by
 unfold arN at h
 split at h
 ·omega
 split at h
 ·exact .inl (by assumption)
 split at h
 ·exact .inr (.inl (by assumption))
 split at h
 ·omega
 split at h
 ·omega
 split at h
 ·omega
 ·omega
theorem len1 {α:Type}{ts:List α}(h:ts.length=1):∃ x,ts=[x]:=by
 match ts,h with
 | [x],_=>exact ⟨x,rfl⟩
theorem len2 {α:Type}{ts:List α}(h:ts.length=2):∃ x y,ts=[x,y]:=by
 match ts,h with
 | [x,y],_=>exact ⟨x,y,rfl⟩
theorem len3 {α:Type}{ts:List α}(h:ts.length=3):∃ x y z,ts=[x,y,z]:=by
 match ts,h with
 | [x,y,z],_=>exact ⟨x,y,z,rfl⟩
theorem Zzz (xs:Sc)(c:Cx)(a:TeA)(kse:List Te)(ts:List Ty)(A:Option Addr)(d:Nat)(fp:List Nat)(w:World)(cs:List Value)(h:RTe w (.node a kse) cs)(ho:OL kTy 38 w ts (.slice A ts.length d) fp)(hv:∀ t∈ts,Zae t=true)(har:(ts.length:Int)=arN a.kind a.name a.labels.length)(hne:0 < ts.length)(h13:a.kind≠13)(h10:a.kind≠10)(hl:ts.length<=1048576)(hll:a.labels.length<=1048576) :
  Calls Tryz.prog 103 #[.agg cs.toArray,.slice A ts.length d] w (Zbe fp (Zac xs c a ts) w):=by
 have hw:∀ t∈ts,wt t<=1048576:=fun t ht=>Nat.le_trans (Zbq (hv t ht)) (by decide)
 rcases Znq har hne with k|k|⟨k,n⟩|⟨k,n⟩|⟨k,n⟩|⟨k,n⟩|⟨k,n⟩|⟨k,n⟩|⟨k,n⟩|⟨k,n⟩|⟨k,n⟩
 ·exact Zafa xs c a kse ts A d fp w cs k h ho hw hl
 ·exact Zafb xs c a kse ts A d fp w cs k h ho hw hl hll
 ·obtain ⟨t0,rfl⟩:=len1 n
  exact Zafc xs c a kse t0 A d fp w cs k h ho hw
 ·obtain ⟨t0,rfl⟩:=len1 n
  exact Zafd xs c a kse t0 A d fp w cs k h ho hw
 ·obtain ⟨t0,t1,rfl⟩:=len2 n
  exact Zafe xs c a kse t0 t1 A d fp w cs k h ho hw
 ·exact absurd k h10
 ·obtain ⟨t0,t1,t2,rfl⟩:=len3 n
  exact Zacw xs c a kse t0 t1 t2 A d fp w cs k h ho hw
 ·exact absurd k h13
 ·obtain ⟨t0,t1,rfl⟩:=len2 n
  exact Zacx xs c a kse t0 t1 A d fp w cs k h ho hw (hv t0 (by simp))
 ·obtain ⟨t0,rfl⟩:=len1 n
  exact Zacy xs c a kse t0 A d fp w cs k h ho hw
 ·obtain ⟨t0,rfl⟩:=len1 n
  exact Zacz xs c a kse t0 A d fp w cs k h ho hw
end Go.Proofs.YtlcedleebbgebaaGreatDoor
