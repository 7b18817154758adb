/-
  Merged by program: IsqLaw, CloseV, TyOpen, KdOpen, ScOpen, TyvC, TeOpen.
-/
import Derived.Test.YtlcedleebbgebaaGreatDoorQ48
import Derived.Deep.DeepHandedRow
import Derived.OpenVars
import Derived.ChangeVars
import Derived.SliceStrings
import Derived.ChangeMaps5
import Derived.Lib.SmallJoins
import Derived.Stop.LaidErr
import Derived.Stop.Texts
set_option maxRecDepth 100000
set_option maxHeartbeats 16000000
set_option linter.all false
namespace Go.Proofs.YtlcedleebbgebaaGreatDoor
open Go.RowKit
def Zwr (t:Sc)(y0_0:Nat)(w:World)(e:Ending)(w':World):Prop:=
 ∃ (A:Option Addr) (d:Nat) (fp:List Nat),e=.returned (.agg #[.slice A y0_0 d])/\OSc w' t [.slice A y0_0 d] fp/\(∀ b∈fp,w.heap.size<=b/\b < w'.heap.size)/\Below w.heap.size w w'
def Zws (t:Te)(y1_0:Int)(y1_1:ByteArray)(y1_2:Int)(y1_3:Int)(y1_4:Nat)(y1_5:Nat)(y1_6:Nat)(y1_7:Nat)(w:World)(e:Ending)(w':World):Prop:=
 ∃ (TL TA L A:Option Addr) (tc td l d:Nat) (fp:List Nat),e=.returned (.agg #[.int .i64 y1_0,.string y1_1,.int .i64 y1_2,.int .i64 y1_3,.slice TL y1_4 tc,.slice TA y1_5 td,.slice L y1_6 l,.slice A y1_7 d])/\OTe w' t [.int .i64 y1_0,.string y1_1,.int .i64 y1_2,.int .i64 y1_3,.slice TL y1_4 tc,.slice TA y1_5 td,.slice L y1_6 l,.slice A y1_7 d] fp/\(∀ b∈fp,w.heap.size<=b/\b < w'.heap.size)/\Below w.heap.size w w'
def Zmx (fb:Bool)(w:World)(e:Ending)(w':World):Prop:=e=.returned (.bool fb)/\Below w.heap.size w w'
theorem Zog {p:Bool}{w:World}{e:Ending}{w':World}(h:Truth p w e w'):Zmx p w e w':=h
theorem Zadh {c:Code}{Q:Exit->Act->World->Prop}{a:Act}{w:World}(f:Option Addr->Nat->Option Addr->Nat->Option Addr->Nat->Option Addr->Nat->Option Addr->Nat->Act)(R:Option Addr->Nat->Option Addr->Nat->Option Addr->Nat->Option Addr->Nat->Option Addr->Nat->List Nat->World->Prop)(hq:∀ (v0:Option Addr)(v1:Nat)(v2:Option Addr)(v3:Nat)(v4:Option Addr)(v5:Nat)(v6:Option Addr)(v7:Nat)(v8:Option Addr)(v9:Nat)(fp:List Nat)(w':World),R v0 v1 v2 v3 v4 v5 v6 v7 v8 v9 fp w'->Q .normal (f v0 v1 v2 v3 v4 v5 v6 v7 v8 v9) w')
  (h:c.wp Tryz.prog (fun e a' w'=>e=.normal/\∃ (v0:Option Addr) (v1:Nat) (v2:Option Addr) (v3:Nat) (v4:Option Addr) (v5:Nat) (v6:Option Addr) (v7:Nat) (v8:Option Addr) (v9:Nat) (fp:List Nat),a'=f v0 v1 v2 v3 v4 v5 v6 v7 v8 v9/\R v0 v1 v2 v3 v4 v5 v6 v7 v8 v9 fp w') a w):c.wp Tryz.prog Q a w:=
 Code.wp_mono (fun _ _ w' ⟨h1,v0,v1,v2,v3,v4,v5,v6,v7,v8,v9,fp,h2,h3⟩=>by subst h1 h2;exact hq v0 v1 v2 v3 v4 v5 v6 v7 v8 v9 fp w' h3) h
theorem Zadi (t0:Sc)(cs0:List Value)(t1:Te)(cs1:List Value)(w:World)(h0:RSc w t0 cs0)(h1:RTe w t1 cs1)(hvars:∀ W,Below w.heap.size w W->Zlk W):Calls Tryz.prog 4 #[.agg cs0.toArray,.agg cs1.toArray] w (Zej w):=by
 obtain ⟨c0_0,rfl⟩:=h0.one;obtain ⟨c1_0,c1_1,c1_2,c1_3,c1_4,c1_5,c1_6,c1_7,rfl⟩:=h1.eight;obtain ⟨W1,hW1⟩:∃ W1,((w.alloc (.cells #[c0_0] 24)).alloc (.cells #[c1_0,c1_1,c1_2,c1_3,c1_4,c1_5,c1_6,c1_7] 32))=W1:=⟨_,rfl⟩;obtain ⟨H,hH⟩:∃ H,w.heap.size=H:=⟨_,rfl⟩;have hbox0:Box1 W1 H 24 c0_0:=by
  rw [<-hW1,<-hH]
  have:=(Box1.new w 24 c0_0).alloc (.cells #[c1_0,c1_1,c1_2,c1_3,c1_4,c1_5,c1_6,c1_7] 32)
  simpa using this
 have hbox1:Box8 W1 (H+1) 32 c1_0 c1_1 c1_2 c1_3 c1_4 c1_5 c1_6 c1_7:=by
  rw [<-hW1,<-hH]
  have:=Box8.new (w.alloc (.cells #[c0_0] 24)) 32 c1_0 c1_1 c1_2 c1_3 c1_4 c1_5 c1_6 c1_7
  simpa using this
 have hb0:Below w.heap.size w W1:=by rw [<-hW1];exact (bQ.alloc nQ _).alloc (by simp) _
 have HSZ0:=hQ (fun W (hB:Below w.heap.size w W) left l0 l1=>Zpe t0 W _ left (h0.keep hB) l0 l1);have HT0:=hQ (fun W (hB:Below w.heap.size w W)=>h0.keep hB);have BH0_0:=hQ hbox0;have HSZ1:=hQ (fun W (hB:Below w.heap.size w W) left l0 l1=>Zus t1 W _ left (h1.keep hB) l0 l1);have HT1:=hQ (fun W (hB:Below w.heap.size w W)=>h1.keep hB);have BH1_0:=hQ hbox1;have HW1:=hQ hW1;have HB0:=hQ hb0;have HHH:=hQ hH;clear h0 h1 hbox0 hbox1 hb0 hW1;go_enter Tryz.func4,Tryz.ntmps4;have rH0_0:=BH0_0.out.c0;have HC:=hQ (HSZ0.out W1 HB0.out 1048576 (by decide) (by decide));go_wp2_with fail;rw [HW1.out];go_wp2_with fail;refine HC.out.mono ?_;rintro e a1 ⟨sr0,rfl,r1,r2,r3,hb⟩;clear rH0_0;clear HC HSZ0;have HB1:=hQ (HB0.out.trans (hb.mono HB0.out.size));have BH0_1:=hQ (BH0_0.out.under hb BH0_0.out.lt);have BH1_1:=hQ (BH1_0.out.under hb BH1_0.out.lt);clear HB0 BH0_0 BH1_0;clear hb;by_cases hr:sr0 < 0
 ·have HY:Hid (Zej w (.returned (.bool true)) a1):=⟨rfl,HB1.out⟩
  clear r3;go_wp2_with fail;go_ret;exact HY.out
 have hw0:wSc t0<=1048576:=by have:=r3 (by omega);omega
 have hrr0:0<=sr0:=by omega
 have hr10:sr0<=1048576:=by omega
 clear r3 hr r1 r2;have HWT0:=hQ hw0;clear hw0;have rH1_0:=BH1_1.out.c0;have rH1_1:=BH1_1.out.c1;have rH1_2:=BH1_1.out.c2;have rH1_3:=BH1_1.out.c3;have rH1_4:=BH1_1.out.c4;have rH1_5:=BH1_1.out.c5;have rH1_6:=BH1_1.out.c6;have rH1_7:=BH1_1.out.c7;have HC:=hQ (HSZ1.out a1 HB1.out sr0 hrr0 hr10);go_wp2_with fail;refine HC.out.mono ?_;rintro e a2 ⟨sr1,rfl,r1,r2,r3,hb⟩;clear rH1_0 rH1_1 rH1_2 rH1_3 rH1_4 rH1_5 rH1_6 rH1_7;clear HC HSZ1;have HB2:=hQ (HB1.out.trans (hb.mono HB1.out.size));have BH0_2:=hQ (BH0_1.out.under hb BH0_1.out.lt);have BH1_2:=hQ (BH1_1.out.under hb BH1_1.out.lt);clear HB1 BH0_1 BH1_1;clear hb;by_cases hr:sr1 < 0
 ·have HY:Hid (Zej w (.returned (.bool true)) a2):=⟨rfl,HB2.out⟩
  clear r3;go_wp2_with fail;go_ret;exact HY.out
 have hw1:wte t1<=1048576:=by have:=r3 (by omega);omega
 have hrr1:0<=sr1:=by omega
 have hr11:sr1<=1048576:=by omega
 clear r3 hr r1 r2;have HWT1:=hQ hw1;have hw0:=HWT0.out;obtain ⟨fb,hF⟩:∃ fb,Ziy t0 t1=fb:=⟨_,rfl⟩;have hcn0:cntSc t0<=4 * 1048576+4:=by have:=Zacs t0;omega
 have hcn1:Tr.cntE t1<=4 * 1048576+4:=by have:=Zzt t1;omega
 obtain ⟨y0_0,hy0_0⟩:∃ y0_0,t0.length=y0_0:=⟨_,rfl⟩;obtain ⟨y1_0,hy1_0⟩:∃ y1_0,t1.top.kind=y1_0:=⟨_,rfl⟩;obtain ⟨y1_1,hy1_1⟩:∃ y1_1,t1.top.name=y1_1:=⟨_,rfl⟩;obtain ⟨y1_2,hy1_2⟩:∃ y1_2,t1.top.num=y1_2:=⟨_,rfl⟩;obtain ⟨y1_3,hy1_3⟩:∃ y1_3,t1.top.type.top.kind=y1_3:=⟨_,rfl⟩;obtain ⟨y1_4,hy1_4⟩:∃ y1_4,t1.top.type.top.labels.length=y1_4:=⟨_,rfl⟩;obtain ⟨y1_5,hy1_5⟩:∃ y1_5,t1.top.type.kids.length=y1_5:=⟨_,rfl⟩;obtain ⟨y1_6,hy1_6⟩:∃ y1_6,t1.top.labels.length=y1_6:=⟨_,rfl⟩;obtain ⟨y1_7,hy1_7⟩:∃ y1_7,t1.kids.length=y1_7:=⟨_,rfl⟩;have TO0:Hid (∀ W,Below w.heap.size w W->Calls Tryz.prog 9 #[.agg #[c0_0]] W (Zwr t0 y0_0 W)):=hQ (fun W hB=>by
  refine (Zph t0 W _ (HT0.out W hB) HWT0.out).mono ?_;rintro e w' hm;unfold Zvn at hm;simp only [hy0_0] at hm;exact hm)
 have TO1:Hid (∀ W,Below w.heap.size w W->Calls Tryz.prog 11 #[.agg #[c1_0,c1_1,c1_2,c1_3,c1_4,c1_5,c1_6,c1_7]] W (Zws t1 y1_0 y1_1 y1_2 y1_3 y1_4 y1_5 y1_6 y1_7 W)):=hQ (fun W hB=>by
  refine (Zyw t1 W _ (HT1.out W hB) HWT1.out).mono ?_;rintro e w' hm;unfold Zvp at hm;simp only [hy1_0,hy1_1,hy1_2,hy1_3,hy1_4,hy1_5,hy1_6,hy1_7] at hm;exact hm)
 have SPF:Hid (∀ (W:World) (cs0:List Value) (fp0:List Nat) (cs1:List Value) (fp1:List Nat),OSc W t0 cs0 fp0->OTe W t1 cs1 fp1->Calls Tryz.prog 22 #[.agg cs0.toArray,.agg cs1.toArray] W (Zmx fb  W)):=hQ (fun W cs0 fp0 cs1 fp1 ho0 ho1=>by
  refine (Zkq t0 t1 W cs0 cs1 ho0.reads ho1.reads HWT0.out HWT1.out).mono ?_;rintro e w' hm;have hm:=Zog hm;rw [hF] at hm
  skip
  exact hm)
 have IMF:Hid (∀ (W:World) (cs0:List Value) (fp0:List Nat) (cs1:List Value) (fp1:List Nat),Below w.heap.size w W->OSc W t0 cs0 fp0->OTe W t1 cs1 fp1->Calls Tryz.prog 23 #[.agg cs0.toArray,.agg cs1.toArray] W (Zmx fb  W)):=hQ (fun W cs0 fp0 cs1 fp1 hB ho0 ho1=>by
  refine (Zla t0 t1 W cs0 cs1 ho0.reads ho1.reads HWT0.out HWT1.out (hvars W hB)).mono ?_;rintro e w' hm;have hm:=Zog hm;rw [hF] at hm
  skip
  exact hm)
 clear hw0 hw1 hcn0 hcn1 HT0 HT1 hF hy0_0 hy1_0 hy1_1 hy1_2 hy1_3 hy1_4 hy1_5 hy1_6 hy1_7 HWT0 HWT1 hvars;have rH0_0:=BH0_2.out.c0;have rH1_0:=BH1_2.out.c0;have rH1_1:=BH1_2.out.c1;have rH1_2:=BH1_2.out.c2;have rH1_3:=BH1_2.out.c3;have rH1_4:=BH1_2.out.c4;have rH1_5:=BH1_2.out.c5;have rH1_6:=BH1_2.out.c6;have rH1_7:=BH1_2.out.c7;go_wp2_with fail;clear rH0_0 rH1_0 rH1_1 rH1_2 rH1_3 rH1_4 rH1_5 rH1_6 rH1_7;obtain ⟨WZ,hWZ⟩:∃ WZ,a2.heap.size=WZ:=⟨_,rfl⟩;have HWZ:=hQ hWZ;clear hWZ;apply Zadh (R:=fun AW0 dW0 TLW1 tcW1 TAW1 tdW1 LW1 lW1 AW1 dW1 fpWR w'=>Below WZ a2 w')
 rotate_left 1
 ·have hq0:Below a2.heap.size a2 a2.drew:=bQ.drew
  have rrH0_0:a2.drew.cell? ⟨H,0,none⟩=some c0_0:=BH0_2.out.c0;have rrH1_0:a2.drew.cell? ⟨H+1,0,none⟩=some c1_0:=BH1_2.out.c0;have rrH1_1:a2.drew.cell? ⟨H+1,1,none⟩=some c1_1:=BH1_2.out.c1;have rrH1_2:a2.drew.cell? ⟨H+1,2,none⟩=some c1_2:=BH1_2.out.c2;have rrH1_3:a2.drew.cell? ⟨H+1,3,none⟩=some c1_3:=BH1_2.out.c3;have rrH1_4:a2.drew.cell? ⟨H+1,4,none⟩=some c1_4:=BH1_2.out.c4;have rrH1_5:a2.drew.cell? ⟨H+1,5,none⟩=some c1_5:=BH1_2.out.c5;have rrH1_6:a2.drew.cell? ⟨H+1,6,none⟩=some c1_6:=BH1_2.out.c6;have rrH1_7:a2.drew.cell? ⟨H+1,7,none⟩=some c1_7:=BH1_2.out.c7;have ltH0:H < a2.heap.size:=BH0_2.out.lt;have ltH1:H+1 < a2.heap.size:=BH1_2.out.lt;have HBI:=hQ HB2.out;have rsH0_0:a2.cell? ⟨H,0,none⟩=some c0_0:=BH0_2.out.c0;have rsH1_0:a2.cell? ⟨H+1,0,none⟩=some c1_0:=BH1_2.out.c0;have rsH1_1:a2.cell? ⟨H+1,1,none⟩=some c1_1:=BH1_2.out.c1;have rsH1_2:a2.cell? ⟨H+1,2,none⟩=some c1_2:=BH1_2.out.c2;have rsH1_3:a2.cell? ⟨H+1,3,none⟩=some c1_3:=BH1_2.out.c3;have rsH1_4:a2.cell? ⟨H+1,4,none⟩=some c1_4:=BH1_2.out.c4;have rsH1_5:a2.cell? ⟨H+1,5,none⟩=some c1_5:=BH1_2.out.c5;have rsH1_6:a2.cell? ⟨H+1,6,none⟩=some c1_6:=BH1_2.out.c6;have rsH1_7:a2.cell? ⟨H+1,7,none⟩=some c1_7:=BH1_2.out.c7;go_region_held3 (fun W=>W.cell? ⟨H,0,none⟩=some c0_0/\W.cell? ⟨H+1,0,none⟩=some c1_0/\W.cell? ⟨H+1,1,none⟩=some c1_1/\W.cell? ⟨H+1,2,none⟩=some c1_2/\W.cell? ⟨H+1,3,none⟩=some c1_3/\W.cell? ⟨H+1,4,none⟩=some c1_4/\W.cell? ⟨H+1,5,none⟩=some c1_5/\W.cell? ⟨H+1,6,none⟩=some c1_6/\W.cell? ⟨H+1,7,none⟩=some c1_7)
   (first | (refine ⟨?_,?_,?_,?_,?_,?_,?_,?_,?_⟩ <;> first | assumption | exact (World.cell?_setCell_far _ _ _ _ (World.new_ne _ _ (by assumption))).trans (by assumption)) | go_keep)
   (first
    | (go_at_call 9;refine (TO0.out _ (HBI.out.trans (Below.mono (by first | exact hq0 | exact hq0.alloc hq0.size _) HBI.out.size))).mono ?_;rintro e a3 ⟨AW0,dW0,fpW0,rfl,ho,hf,hb⟩;have hb0:=hb;have hq1:Below a2.heap.size a2 a3:=(by first | exact hq0.trans (hb.mono hq0.size) | exact (hq0.alloc hq0.size _).trans (hb.mono (hq0.alloc hq0.size _).size));have UW0_1:=ho;have qa3_H0_0:=(BH0_2.out.under hq1 ltH0).c0;have qa3_H1_0:=(BH1_2.out.under hq1 ltH1).c0;have qa3_H1_1:=(BH1_2.out.under hq1 ltH1).c1;have qa3_H1_2:=(BH1_2.out.under hq1 ltH1).c2;have qa3_H1_3:=(BH1_2.out.under hq1 ltH1).c3;have qa3_H1_4:=(BH1_2.out.under hq1 ltH1).c4;have qa3_H1_5:=(BH1_2.out.under hq1 ltH1).c5;have qa3_H1_6:=(BH1_2.out.under hq1 ltH1).c6;have qa3_H1_7:=(BH1_2.out.under hq1 ltH1).c7;clear ho hf hb)
    | (go_at_call 11;refine (TO1.out _ (HBI.out.trans (Below.mono (by first | exact hq1 | exact hq1.alloc hq1.size _) HBI.out.size))).mono ?_;rintro e a4 ⟨TLW1,TAW1,LW1,AW1,tcW1,tdW1,lW1,dW1,fpW1,rfl,ho,hf,hb⟩;have hb1:=hb;have hq2:Below a2.heap.size a2 a4:=(by first | exact hq1.trans (hb.mono hq1.size) | exact (hq1.alloc hq1.size _).trans (hb.mono (hq1.alloc hq1.size _).size));have UW0_2:OSc a4 t0 [.slice AW0 y0_0 dW0] fpW0:=(by first | exact UW0_1.under hb | exact (UW0_1.under (bQ.alloc nQ _)).under hb);have UW1_2:=ho;have qa4_H0_0:=(BH0_2.out.under hq2 ltH0).c0;have qa4_H1_0:=(BH1_2.out.under hq2 ltH1).c0;have qa4_H1_1:=(BH1_2.out.under hq2 ltH1).c1;have qa4_H1_2:=(BH1_2.out.under hq2 ltH1).c2;have qa4_H1_3:=(BH1_2.out.under hq2 ltH1).c3;have qa4_H1_4:=(BH1_2.out.under hq2 ltH1).c4;have qa4_H1_5:=(BH1_2.out.under hq2 ltH1).c5;have qa4_H1_6:=(BH1_2.out.under hq2 ltH1).c6;have qa4_H1_7:=(BH1_2.out.under hq2 ltH1).c7;clear ho hf hb)
    | (go_at_call 22;refine (SPF.out _ [.slice AW0 y0_0 dW0] fpW0 [.int .i64 y1_0,.string y1_1,.int .i64 y1_2,.int .i64 y1_3,.slice TLW1 y1_4 tcW1,.slice TAW1 y1_5 tdW1,.slice LW1 y1_6 lW1,.slice AW1 y1_7 dW1] fpW1 (by first | exact UW0_2 | exact UW0_2.under (bQ.alloc nQ _)) (by first | exact UW1_2 | exact UW1_2.under (bQ.alloc nQ _))).mono ?_;rintro e a5 ⟨rfl,hb⟩;have hb2:=hb;have hq3:Below a2.heap.size a2 a5:=(by first | exact hq2.trans (hb.mono hq2.size) | exact (hq2.alloc hq2.size _).trans (hb.mono (hq2.alloc hq2.size _).size));have qa5_H0_0:=(BH0_2.out.under hq3 ltH0).c0;have qa5_H1_0:=(BH1_2.out.under hq3 ltH1).c0;have qa5_H1_1:=(BH1_2.out.under hq3 ltH1).c1;have qa5_H1_2:=(BH1_2.out.under hq3 ltH1).c2;have qa5_H1_3:=(BH1_2.out.under hq3 ltH1).c3;have qa5_H1_4:=(BH1_2.out.under hq3 ltH1).c4;have qa5_H1_5:=(BH1_2.out.under hq3 ltH1).c5;have qa5_H1_6:=(BH1_2.out.under hq3 ltH1).c6;have qa5_H1_7:=(BH1_2.out.under hq3 ltH1).c7;clear hb))
  all_goals first | refine NoPanic.normal ?_ | skip
  exact ⟨rfl,AW0,dW0,TLW1,tcW1,TAW1,tdW1,LW1,lW1,AW1,dW1,[],rfl,(by rw [<-HWZ.out];exact hq3)⟩
 rintro AW0 dW0 TLW1 tcW1 TAW1 tdW1 LW1 lW1 AW1 dW1 fpWR a6 hb;rw [<-HWZ.out] at hb;clear HWZ;have HB3:=hQ (HB2.out.trans (hb.mono HB2.out.size));have BH0_3:=hQ (BH0_2.out.under hb BH0_2.out.lt);have BH1_3:=hQ (BH1_2.out.under hb BH1_2.out.lt);clear HB2 BH0_2 BH1_2;obtain ⟨PB,hPB⟩:∃ PB,a6.heap.size=PB:=⟨_,rfl⟩;have NUM:Hid (H+2<=PB/\PB<=a6.heap.size):=hQ (by have:=BH1_3.out.lt;omega);clear hb hPB;have rH0_0:=BH0_3.out.c0;go_wp2_with fail;refine (TO0.out a6 HB3.out).mono ?_;rintro e a7 ⟨AX0,dX0,fpX0,rfl,ho,hf,hb⟩;clear rH0_0;obtain ⟨a8,ha8⟩:∃ a8,a7.alloc (.cells #[.slice AX0 y0_0 dX0] 43)=a8:=⟨_,rfl⟩;obtain ⟨X0,hX0⟩:∃ X0,a7.heap.size=X0:=⟨_,rfl⟩;have hza8:a8.heap.size=X0+1:=by rw [<-ha8,<-hX0];simp
 have hal:Below a7.heap.size a7 a8:=by rw [<-ha8];exact bQ.alloc nQ _
 have hbx:Box1 a8 X0 43 (.slice AX0 y0_0 dX0):=by rw [<-ha8,<-hX0];exact Box1.new a7 _ _
 have hb':=hb.trans (hal.mono hb.size);have HB4:=hQ (HB3.out.trans (hb'.mono HB3.out.size));have BH0_4:=hQ (BH0_3.out.under hb' BH0_3.out.lt);have BH1_4:=hQ (BH1_3.out.under hb' BH1_3.out.lt);clear HB3 BH0_3 BH1_3;have BX0_4:=hQ hbx;have TY0_4:=hQ (ho.under hal);have NY0:Hid (∀ b∈fpX0,PB<=b/\b < X0):=hQ (fun b hm=>by have:=hf b hm;have:=NUM.out;omega);have NUM':Hid (H+2<=PB/\PB<=X0/\X0 < a8.heap.size):=hQ (by have:=NUM.out;have:=hb.size;omega);clear NUM;have NUM:=NUM';clear NUM';have HWn:=hQ ha8;clear ho hf hb hb' hal hbx hza8 ha8;have rr:=BH1_4.out;rw [<-HWn.out] at rr;have rH1_0:=rr.c0;have rH1_1:=rr.c1;have rH1_2:=rr.c2;have rH1_3:=rr.c3;have rH1_4:=rr.c4;have rH1_5:=rr.c5;have rH1_6:=rr.c6;have rH1_7:=rr.c7;clear rr;go_wp2_with fail;rw [HWn.out];refine (TO1.out a8 HB4.out).mono ?_;rintro e a9 ⟨TLX1,TAX1,LX1,AX1,tcX1,tdX1,lX1,dX1,fpX1,rfl,ho,hf,hb⟩;clear rH1_0 rH1_1 rH1_2 rH1_3 rH1_4 rH1_5 rH1_6 rH1_7;clear HWn;obtain ⟨a10,ha10⟩:∃ a10,a9.alloc (.cells #[.int .i64 y1_0,.string y1_1,.int .i64 y1_2,.int .i64 y1_3,.slice TLX1 y1_4 tcX1,.slice TAX1 y1_5 tdX1,.slice LX1 y1_6 lX1,.slice AX1 y1_7 dX1] 49)=a10:=⟨_,rfl⟩;obtain ⟨X1,hX1⟩:∃ X1,a9.heap.size=X1:=⟨_,rfl⟩;have hza10:a10.heap.size=X1+1:=by rw [<-ha10,<-hX1];simp
 have hal:Below a9.heap.size a9 a10:=by rw [<-ha10];exact bQ.alloc nQ _
 have hbx:Box8 a10 X1 49 (.int .i64 y1_0) (.string y1_1) (.int .i64 y1_2) (.int .i64 y1_3) (.slice TLX1 y1_4 tcX1) (.slice TAX1 y1_5 tdX1) (.slice LX1 y1_6 lX1) (.slice AX1 y1_7 dX1):=by rw [<-ha10,<-hX1];exact Box8.new a9 _ _ _ _ _ _ _ _ _
 have hb':=hb.trans (hal.mono hb.size);have HB5:=hQ (HB4.out.trans (hb'.mono HB4.out.size));have BH0_5:=hQ (BH0_4.out.under hb' BH0_4.out.lt);have BH1_5:=hQ (BH1_4.out.under hb' BH1_4.out.lt);have BX0_5:=hQ (BX0_4.out.under hb' BX0_4.out.lt);have TY0_5:=hQ (TY0_4.out.under hb');clear HB4 BH0_4 BH1_4 BX0_4 TY0_4;have BX1_5:=hQ hbx;have TY1_5:=hQ (ho.under hal);have NY1:Hid (∀ b∈fpX1,X0 < b/\b < X1):=hQ (fun b hm=>by have:=hf b hm;have:=NUM.out;omega);have NUM':Hid (H+2<=PB/\PB<=X0/\X0 < X1/\X1 < a10.heap.size):=hQ (by have:=NUM.out;have:=hb.size;omega);clear NUM;have NUM:=NUM';clear NUM';have HWn:=hQ ha10;clear ho hf hb hb' hal hbx hza10 ha10;have rr:=BX0_5.out;rw [<-HWn.out] at rr;have rX0_0:=rr.c0;clear rr;have rr:=BX1_5.out;rw [<-HWn.out] at rr;have rX1_0:=rr.c0;have rX1_1:=rr.c1;have rX1_2:=rr.c2;have rX1_3:=rr.c3;have rX1_4:=rr.c4;have rX1_5:=rr.c5;have rX1_6:=rr.c6;have rX1_7:=rr.c7;clear rr;go_wp2_with fail;rw [HWn.out];refine (IMF.out a10 _ _ _ _ HB5.out TY0_5.out TY1_5.out).mono ?_;rintro e a11 ⟨rfl,hb⟩;clear rX0_0 rX1_0 rX1_1 rX1_2 rX1_3 rX1_4 rX1_5 rX1_6 rX1_7;clear HWn;have HB6:=hQ (HB5.out.trans (hb.mono HB5.out.size));have BH0_6:=hQ (BH0_5.out.under hb BH0_5.out.lt);have BH1_6:=hQ (BH1_5.out.under hb BH1_5.out.lt);have BX0_6:=hQ (BX0_5.out.under hb BX0_5.out.lt);have BX1_6:=hQ (BX1_5.out.under hb BX1_5.out.lt);have TY0_6:=hQ (TY0_5.out.under hb);have TY1_6:=hQ (TY1_5.out.under hb);clear HB5 BH0_5 BH1_5 BX0_5 BX1_5 TY0_5 TY1_5;clear hb NUM HHH;have rX0_0:=BX0_6.out.c0;have rH0_0:=BH0_6.out.c0;go_wp2_with fail;clear rX0_0 rH0_0;have HB7:=hQ HB6.out.drew;have BH0_7:=hQ (show Box1 a11.drew H 24 c0_0 from BH0_6.out);have BH1_7:=hQ (show Box8 a11.drew (H+1) 32 c1_0 c1_1 c1_2 c1_3 c1_4 c1_5 c1_6 c1_7 from BH1_6.out);have BX0_7:=hQ (show Box1 a11.drew X0 43 (.slice AX0 y0_0 dX0) from BX0_6.out);have BX1_7:=hQ (show Box8 a11.drew X1 49 (.int .i64 y1_0) (.string y1_1) (.int .i64 y1_2) (.int .i64 y1_3) (.slice TLX1 y1_4 tcX1) (.slice TAX1 y1_5 tdX1) (.slice LX1 y1_6 lX1) (.slice AX1 y1_7 dX1) from BX1_6.out);have TY0_7:=hQ (TY0_6.out.under (show Below a11.heap.size a11 a11.drew from bQ.drew));have TY1_7:=hQ (TY1_6.out.under (show Below a11.heap.size a11 a11.drew from bQ.drew));clear HB6 BH0_6 BH1_6 BX0_6 BX1_6 TY0_6 TY1_6;have rX0_0:=BX0_7.out.c0;have rH0_0:=BH0_7.out.c0;go_region_held3 (fun W=>W.cell? ⟨X0,0,none⟩=some (.slice AX0 y0_0 dX0)/\W.cell? ⟨H,0,none⟩=some c0_0)
  (first | (refine ⟨?_,?_⟩ <;> assumption) | go_keep)
  (first
   | (go_at_call 9;refine (TO0.out a11.drew HB7.out).mono ?_;rintro e a12 ⟨AE0,dE0,fpE0,rfl,ho,hf,hb⟩;have HB8:=hQ (HB7.out.trans (hb.mono HB7.out.size));have BH0_8:=hQ (BH0_7.out.under hb BH0_7.out.lt);have BH1_8:=hQ (BH1_7.out.under hb BH1_7.out.lt);have BX0_8:=hQ (BX0_7.out.under hb BX0_7.out.lt);have BX1_8:=hQ (BX1_7.out.under hb BX1_7.out.lt);have TY0_8:=hQ (TY0_7.out.under hb);have TY1_8:=hQ (TY1_7.out.under hb);have HC:=hQ (Zmq t0 a12 _ _ TY0_8.out.reads ho.reads);have uX0_0:=BX0_8.out.c0;have uH0_0:=BH0_8.out.c0;clear ho hf hb)
   | (go_at_call 14;refine HC.out.mono ?_;rintro e a13 ⟨rfl,hb⟩;have HB9:=hQ (HB8.out.trans (hb.mono HB8.out.size));have BH0_9:=hQ (BH0_8.out.under hb BH0_8.out.lt);have BH1_9:=hQ (BH1_8.out.under hb BH1_8.out.lt);have BX0_9:=hQ (BX0_8.out.under hb BX0_8.out.lt);have BX1_9:=hQ (BX1_8.out.under hb BX1_8.out.lt);have TY0_9:=hQ (TY0_8.out.under hb);have TY1_9:=hQ (TY1_8.out.under hb);have vX0_0:=BX0_9.out.c0;have vH0_0:=BH0_9.out.c0;clear HC hb))
 clear rX0_0 rH0_0 uX0_0 uH0_0 vX0_0 vH0_0 HB7 BH0_7 BH1_7 BX0_7 BX1_7 TY0_7 TY1_7 HB8 BH0_8 BH1_8 BX0_8 BX1_8 TY0_8 TY1_8;have rX1_0:=BX1_9.out.c0;have rX1_1:=BX1_9.out.c1;have rX1_2:=BX1_9.out.c2;have rX1_3:=BX1_9.out.c3;have rX1_4:=BX1_9.out.c4;have rX1_5:=BX1_9.out.c5;have rX1_6:=BX1_9.out.c6;have rX1_7:=BX1_9.out.c7;have rH1_0:=BH1_9.out.c0;have rH1_1:=BH1_9.out.c1;have rH1_2:=BH1_9.out.c2;have rH1_3:=BH1_9.out.c3;have rH1_4:=BH1_9.out.c4;have rH1_5:=BH1_9.out.c5;have rH1_6:=BH1_9.out.c6;have rH1_7:=BH1_9.out.c7;go_wp2_with fail;clear rX1_0 rX1_1 rX1_2 rX1_3 rX1_4 rX1_5 rX1_6 rX1_7 rH1_0 rH1_1 rH1_2 rH1_3 rH1_4 rH1_5 rH1_6 rH1_7;have HB10:=hQ HB9.out.drew;have BH0_10:=hQ (show Box1 a13.drew H 24 c0_0 from BH0_9.out);have BH1_10:=hQ (show Box8 a13.drew (H+1) 32 c1_0 c1_1 c1_2 c1_3 c1_4 c1_5 c1_6 c1_7 from BH1_9.out);have BX0_10:=hQ (show Box1 a13.drew X0 43 (.slice AX0 y0_0 dX0) from BX0_9.out);have BX1_10:=hQ (show Box8 a13.drew X1 49 (.int .i64 y1_0) (.string y1_1) (.int .i64 y1_2) (.int .i64 y1_3) (.slice TLX1 y1_4 tcX1) (.slice TAX1 y1_5 tdX1) (.slice LX1 y1_6 lX1) (.slice AX1 y1_7 dX1) from BX1_9.out);have TY0_10:=hQ (TY0_9.out.under (show Below a13.heap.size a13 a13.drew from bQ.drew));have TY1_10:=hQ (TY1_9.out.under (show Below a13.heap.size a13 a13.drew from bQ.drew));clear HB9 BH0_9 BH1_9 BX0_9 BX1_9 TY0_9 TY1_9;have rX1_0:=BX1_10.out.c0;have rX1_1:=BX1_10.out.c1;have rX1_2:=BX1_10.out.c2;have rX1_3:=BX1_10.out.c3;have rX1_4:=BX1_10.out.c4;have rX1_5:=BX1_10.out.c5;have rX1_6:=BX1_10.out.c6;have rX1_7:=BX1_10.out.c7;have rH1_0:=BH1_10.out.c0;have rH1_1:=BH1_10.out.c1;have rH1_2:=BH1_10.out.c2;have rH1_3:=BH1_10.out.c3;have rH1_4:=BH1_10.out.c4;have rH1_5:=BH1_10.out.c5;have rH1_6:=BH1_10.out.c6;have rH1_7:=BH1_10.out.c7;go_region_held3 (fun W=>W.cell? ⟨X1,0,none⟩=some (.int .i64 y1_0)/\W.cell? ⟨X1,1,none⟩=some (.string y1_1)/\W.cell? ⟨X1,2,none⟩=some (.int .i64 y1_2)/\W.cell? ⟨X1,3,none⟩=some (.int .i64 y1_3)/\W.cell? ⟨X1,4,none⟩=some (.slice TLX1 y1_4 tcX1)/\W.cell? ⟨X1,5,none⟩=some (.slice TAX1 y1_5 tdX1)/\W.cell? ⟨X1,6,none⟩=some (.slice LX1 y1_6 lX1)/\W.cell? ⟨X1,7,none⟩=some (.slice AX1 y1_7 dX1)/\W.cell? ⟨H+1,0,none⟩=some c1_0/\W.cell? ⟨H+1,1,none⟩=some c1_1/\W.cell? ⟨H+1,2,none⟩=some c1_2/\W.cell? ⟨H+1,3,none⟩=some c1_3/\W.cell? ⟨H+1,4,none⟩=some c1_4/\W.cell? ⟨H+1,5,none⟩=some c1_5/\W.cell? ⟨H+1,6,none⟩=some c1_6/\W.cell? ⟨H+1,7,none⟩=some c1_7)
  (first | (refine ⟨?_,?_,?_,?_,?_,?_,?_,?_,?_,?_,?_,?_,?_,?_,?_,?_⟩ <;> assumption) | go_keep)
  (first
   | (go_at_call 11;refine (TO1.out a13.drew HB10.out).mono ?_;rintro e a14 ⟨TLE1,TAE1,LE1,AE1,tcE1,tdE1,lE1,dE1,fpE1,rfl,ho,hf,hb⟩;have HB11:=hQ (HB10.out.trans (hb.mono HB10.out.size));have BH0_11:=hQ (BH0_10.out.under hb BH0_10.out.lt);have BH1_11:=hQ (BH1_10.out.under hb BH1_10.out.lt);have BX0_11:=hQ (BX0_10.out.under hb BX0_10.out.lt);have BX1_11:=hQ (BX1_10.out.under hb BX1_10.out.lt);have TY0_11:=hQ (TY0_10.out.under hb);have TY1_11:=hQ (TY1_10.out.under hb);have HC:=hQ (Zpu t1 a14 _ _ TY1_11.out.reads ho.reads);have uX1_0:=BX1_11.out.c0;have uX1_1:=BX1_11.out.c1;have uX1_2:=BX1_11.out.c2;have uX1_3:=BX1_11.out.c3;have uX1_4:=BX1_11.out.c4;have uX1_5:=BX1_11.out.c5;have uX1_6:=BX1_11.out.c6;have uX1_7:=BX1_11.out.c7;have uH1_0:=BH1_11.out.c0;have uH1_1:=BH1_11.out.c1;have uH1_2:=BH1_11.out.c2;have uH1_3:=BH1_11.out.c3;have uH1_4:=BH1_11.out.c4;have uH1_5:=BH1_11.out.c5;have uH1_6:=BH1_11.out.c6;have uH1_7:=BH1_11.out.c7;clear ho hf hb)
   | (go_at_call 16;refine HC.out.mono ?_;rintro e a15 ⟨rfl,hb⟩;have HB12:=hQ (HB11.out.trans (hb.mono HB11.out.size));have BH0_12:=hQ (BH0_11.out.under hb BH0_11.out.lt);have BH1_12:=hQ (BH1_11.out.under hb BH1_11.out.lt);have BX0_12:=hQ (BX0_11.out.under hb BX0_11.out.lt);have BX1_12:=hQ (BX1_11.out.under hb BX1_11.out.lt);have TY0_12:=hQ (TY0_11.out.under hb);have TY1_12:=hQ (TY1_11.out.under hb);have vX1_0:=BX1_12.out.c0;have vX1_1:=BX1_12.out.c1;have vX1_2:=BX1_12.out.c2;have vX1_3:=BX1_12.out.c3;have vX1_4:=BX1_12.out.c4;have vX1_5:=BX1_12.out.c5;have vX1_6:=BX1_12.out.c6;have vX1_7:=BX1_12.out.c7;have vH1_0:=BH1_12.out.c0;have vH1_1:=BH1_12.out.c1;have vH1_2:=BH1_12.out.c2;have vH1_3:=BH1_12.out.c3;have vH1_4:=BH1_12.out.c4;have vH1_5:=BH1_12.out.c5;have vH1_6:=BH1_12.out.c6;have vH1_7:=BH1_12.out.c7;clear HC hb))
 clear rX1_0 rX1_1 rX1_2 rX1_3 rX1_4 rX1_5 rX1_6 rX1_7 rH1_0 rH1_1 rH1_2 rH1_3 rH1_4 rH1_5 rH1_6 rH1_7 uX1_0 uX1_1 uX1_2 uX1_3 uX1_4 uX1_5 uX1_6 uX1_7 uH1_0 uH1_1 uH1_2 uH1_3 uH1_4 uH1_5 uH1_6 uH1_7 vX1_0 vX1_1 vX1_2 vX1_3 vX1_4 vX1_5 vX1_6 vX1_7 vH1_0 vH1_1 vH1_2 vH1_3 vH1_4 vH1_5 vH1_6 vH1_7 HB10 BH0_10 BH1_10 BX0_10 BX1_10 TY0_10 TY1_10 HB11 BH0_11 BH1_11 BX0_11 BX1_11 TY0_11 TY1_11;have HY:Hid (Zej w (.returned (.bool true)) a15):=⟨rfl,HB12.out⟩;go_wp2_with fail;go_ret;exact HY.out
end Go.Proofs.YtlcedleebbgebaaGreatDoor
namespace Go.Proofs.YtlcedleebbgebaaGreatDoor
open Go.ChangeShapes Go.WideShapes Go.ChangeAt Go.RowKit
theorem Zxd {H:Type}{enc:TypeId×Value->H}{P:Program}{f:Func}{s:ChangeSpec}{W W':World}{args:Array Value}{ds gs:List (DataW H)}{before:List MemPlace}{tb:TypeId}
  (hl:laidOutB P=true) (hread:∀ t∈f.params.toList,P.readableRec t=true/\t < P.types.size) (hres:f.resultTypes=#[tb]) (htb:P.underlying tb=some .bool) (hv:varsRowed P s.vars=true)
  (hs:(s.fn H (ds ++ gs)).results=[.lit (.bool true)]/\(s.fn H (ds ++ gs)).args=ds/\(s.fn H (ds ++ gs)).vars=gs)
  (hW:DataW.Whole enc P f.params.toList s.vars false W args.toList ds gs before) (hb:Below W.heap.size W W') :
  s.post enc P f false true false false W args (.bool true) W':=by
 have hlt:∀ p∈before,p.block < W.heap.size:=fun p hp=>hW.lt p hp
 have hW':=hW;obtain ⟨p,q,hA,hV,rfl,_,_⟩:=hW;refine ⟨ds,gs,p ++ q,[],p,q,hW',?_,?_,?_,hb.frame _,fun h=>by cases h⟩
 ·rw [hs.1,hres]
  exact trodAll_cons_mk (shut_bool htb _) trodAll_mk0
 ·rw [hs.2.1]
  exact Zhu hl hb _ _ _ _ hread (fun x hx=>hlt x (by simp [hx])) hA
 ·rw [hs.2.2]
  exact Below.trodVars hl hb hv hV
def Zsj (h:Array Obj)(g:Nat)(cs:Array Value):Array Obj:=h.modify g fun|.cells _ t fr=>.cells cs t fr|o=>o
def Zpr:DataW Unit->Array Value
 | .agg l=>(l.map fun|.lit (.int k n)=>Value.int k n|_=>undef).toArray
 | _=>#[]
theorem Zmp:Tryz.prog.cellsOf 29=3:=by kernel_rfl
theorem Znv:Tryz.prog.cellsOf 26=1:=by kernel_rfl
theorem Zzq:Tryz.prog.cellsOf 27=1:=by kernel_rfl
theorem Zjm:Tryz.prog.cellsOf 9=1:=by kernel_rfl
theorem Zkj {H:Type}{enc:TypeId×Value->H}{W:World}{n:Nat}{v:Value}{x:DataW H×List MemPlace}(h:DataW.trod enc Tryz.prog W 0 (fun _=>true) true n 26 [v]=some x) :
  ∃ (L:Option Addr) (c:Nat) (ls:List ByteArray),v=.slice L ls.length c/\ls.length<=9223372036854775807/\(∀ s∈ls,s.size<=9223372036854775807)/\Sl W L (ls.map Value.string):=by
 rcases open_strings Tryz.underlying26 Tryz.underlying9 Zjm h with ⟨hcs,_⟩|⟨a,len,cap,ss,hcs,_,hl,hm,hz,_,hcell,hss⟩
 ·injection hcs with hcs
  exact ⟨none,0,[],hcs,by simp,by simp,fun j u hj=>by simp at hj⟩
 ·injection hcs with hcs
  simp only [if_true] at hz;have hlen:(ss.take len).length=len:=by rw [List.length_take];omega
  refine ⟨some a,cap,ss.take len,by rw [hlen,hcs],by rw [hlen];unfold maxLen at hm;omega,fun x hx=>by have:=hss x (List.mem_of_mem_take hx);unfold maxLen at this;omega,fun j u hj=>?_⟩;rw [List.getElem?_map,List.getElem?_take] at hj
  split at hj
  ·obtain ⟨x,hx,rfl⟩:=Option.map_eq_some_iff.1 hj
   have hjl:j < ss.length:=(List.getElem?_eq_some_iff.1 hx).1;refine ⟨a,rfl,?_⟩;rw [hcell j hjl];simp [List.getD,hx]
  ·simp at hj
theorem Zye {H:Type}{enc:TypeId×Value->H}{W:World}:∀ (n:Nat)(cs:List Value)(x:DataW H×List MemPlace),DataW.trod enc Tryz.prog W 0 (fun _=>true) true n 29 cs=some x->∃ t:Ty,RTy W t cs:=by
 intro n
 induction n using Nat.strongRecOn with
 | _ n ihn=>
  intro cs x h
  obtain ⟨xs,n1,rfl,_,hlen,hxl,hf⟩:=DataW.trod_struct Tryz.underlying29 h;rw [Zmp] at hlen
  match cs,hlen with
  | [c0,c1,c2],_=>
   have hx3:xs.length=3:=hxl;have h0:DataW.trod enc Tryz.prog W 0 (fun _=>true) true n1 3 (([c0,c1,c2].drop 0).take (Tryz.prog.cellsOf 3))=xs[0]?:=hf 0 _ rfl;have h1:DataW.trod enc Tryz.prog W 0 (fun _=>true) true n1 26 (([c0,c1,c2].drop 1).take (Tryz.prog.cellsOf 26))=xs[1]?:=hf 1 _ rfl;have h2:DataW.trod enc Tryz.prog W 0 (fun _=>true) true n1 27 (([c0,c1,c2].drop 2).take (Tryz.prog.cellsOf 27))=xs[2]?:=hf 2 _ rfl;rw [Zgs,List.getElem?_eq_getElem (by omega)] at h0;rw [Znv,List.getElem?_eq_getElem (by omega)] at h1;rw [Zzq,List.getElem?_eq_getElem (by omega)] at h2;simp only [List.drop,List.take] at h0 h1 h2;obtain ⟨k,e0,_,wk⟩:=DataW.trod_int Tryz.underlying3 h0;injection e0 with e0
   subst e0;have hk:-9223372036854775808<=k/\k<=9223372036854775807:=by simpa [Lit.wf,IntKind.min,IntKind.max,IntKind.signed,IntKind.bits] using wk
   obtain ⟨L,c,ls,rfl,l1,l2,l3⟩:=Zkj h1
   rcases DataW.trod_slice Tryz.underlying27 h2 with ⟨e2,_⟩|⟨a,len,cap,elems,rest,n2,hn2,e2,_,_,hl,hm,hel,hcell,_,_⟩
   ·injection e2 with e2
    subst e2;have hr:Reads Zsq 3 W (.node ⟨k,ls⟩ []) ([.int .i64 k,.slice L ls.length c] ++ [.slice none ([]:List Ty).length 0]):=
     .node _ _ _ none 0 (fun _=>[]) ⟨L,c,rfl,l3,hk.1,hk.2,l1,l2⟩ rfl (by simp) (fun j hj=>by simp at hj) (fun j t hj=>by simp at hj) (by simp)
    exact ⟨_,hr⟩
   ·injection e2 with e2
    subst e2;have hall:∀ i,∃ p:Ty×List Value,i < len->RTy W p.1 p.2/\p.2.length=3/\∀ j u,p.2[j]?=some u->W.cell? (a.add (i * 3+j))=some u:=by
     intro i
     by_cases hi:i < len
     ·have hc:=hcell i hi
      rw [Zmp,List.getElem?_eq_getElem (by omega)] at hc;obtain ⟨ds,hd,ht⟩:=Option.bind_eq_some_iff.1 hc;obtain ⟨t,ht⟩:=ihn n2 (by omega) ds _ ht;obtain ⟨_,hdl,hat⟩:=World.cells?_some hd;refine ⟨(t,ds),fun _=>⟨ht,hdl,fun j u hj=>?_⟩⟩;have hj3:j < 3:=by rw [<-hdl];exact (List.getElem?_eq_some_iff.1 hj).1
      rw [<-Go.Deep.add_add,hat j hj3];exact hj
     ·exact ⟨(.node ⟨0,[]⟩ [],[]),fun h=>absurd h hi⟩
    obtain ⟨f,hfp⟩:=Classical.skolem.1 hall;have hkl:((List.range len).map fun i=>(f i).1).length=len:=by simp
    have hr:Reads Zsq 3 W (.node ⟨k,ls⟩ ((List.range len).map fun i=>(f i).1)) ([.int .i64 k,.slice L ls.length c] ++ [.slice (some a) ((List.range len).map fun i=>(f i).1).length cap]):=by
     refine .node _ _ _ (some a) cap (fun i=>(f i).2) ⟨L,c,rfl,l3,hk.1,hk.2,l1,l2⟩ rfl (by rw [hkl];unfold maxLen at hm;omega) (fun j hj=>?_) (fun j t hj=>?_) (by rw [hkl];exact hl)
     ·rw [hkl] at hj
      exact ⟨(hfp j hj).2.1,a,rfl,(hfp j hj).2.2⟩
     ·rw [List.getElem?_map] at hj
      obtain ⟨i,hi,rfl⟩:=Option.map_eq_some_iff.1 hj;have hjl:j < len:=by have:=(List.getElem?_eq_some_iff.1 hi).1;simpa using this
      have hij:i=j:=by rw [List.getElem?_range hjl] at hi;injection hi with hi;exact hi.symm
      subst hij;exact (hfp i hjl).1
    rw [hkl] at hr;exact ⟨_,hr⟩
def ReadK {α:Type}(a:Kd α)(T:TypeId):Prop:=
 Tryz.prog.cellsOf T=a.n/\∀ (H:Type) (enc:TypeId×Value->H) (W:World) (n:Nat) (cs:List Value) (x:DataW H×List MemPlace),DataW.trod enc Tryz.prog W 0 (fun _=>true) true n T cs=some x->∃ t,a.R W t cs
theorem Zun {α:Type}(z:α) {a:Kd α}{T S:TypeId}(e:TypeId)(hu:Tryz.prog.underlying S=some (.slice T))(hc:Tryz.prog.cellsOf S=1)(h:ReadK a T):ReadK (a.list e) S:=by
 refine ⟨hc,fun H enc W n cs x hx=>?_⟩
 rcases DataW.trod_slice hu hx with ⟨rfl,_⟩|⟨A,len,cap,elems,rest,n2,_,rfl,_,_,hl,hm,hel,hcell,_,_⟩
 ·exact ⟨[],none,0,rfl,by simp,by simp,Zagc a W none⟩
 ·have hall:∀ i,∃ p:α×List Value,i < len->a.R W p.1 p.2/\∀ j u,p.2[j]?=some u->W.cell? (A.add (i * a.n+j))=some u:=by
   intro i
   by_cases hi:i < len
   ·have hq:=hcell i hi
    rw [h.1,List.getElem?_eq_getElem (by omega)] at hq;obtain ⟨ds,hd,ht⟩:=Option.bind_eq_some_iff.1 hq;obtain ⟨t,ht⟩:=h.2 _ _ _ _ _ _ ht;obtain ⟨_,hdl,hat⟩:=World.cells?_some hd;refine ⟨(t,ds),fun _=>⟨ht,fun j u hj=>?_⟩⟩;have hjn:j < a.n:=by rw [<-hdl];exact (List.getElem?_eq_some_iff.1 hj).1
    rw [<-Go.Deep.add_add,hat j hjn];exact hj
   ·exact ⟨(z,[]),fun h=>absurd h hi⟩
  obtain ⟨f,hf⟩:=Classical.skolem.1 hall;have hkl:((List.range len).map fun i=>(f i).1).length=len:=by simp
  refine ⟨(List.range len).map fun i=>(f i).1,some A,cap,by rw [hkl],by rw [hkl];unfold maxLen at hm;omega,by rw [hkl];exact hl,fun i=>(f i).2,fun j t hj=>?_⟩;rw [List.getElem?_map] at hj;obtain ⟨i,hi,rfl⟩:=Option.map_eq_some_iff.1 hj;have hjl:j < len:=by have:=(List.getElem?_eq_some_iff.1 hi).1;simpa using this
  have hij:i=j:=by rw [List.getElem?_range hjl] at hi;injection hi with hi;exact hi.symm
  subst hij;exact ⟨(hf i hjl).1,A,rfl,(hf i hjl).2⟩
theorem Zyc {T:TypeId}(hu:Tryz.prog.underlying T=some .string)(hc:Tryz.prog.cellsOf T=1):ReadK kStr T:=by
 refine ⟨hc,fun H enc W n cs x hx=>?_⟩;obtain ⟨s,rfl,_,hw⟩:=DataW.trod_string hu hx;exact ⟨s,rfl,by simpa [Lit.wf,maxLen] using hw⟩
theorem Zyb {α:Type}{a:Kd α}{T:TypeId}{f:Field}(hu:Tryz.prog.underlying T=some (.struct #[f]))(hc:Tryz.prog.cellsOf T=a.n)(h0:f.offset=0)(h:ReadK a f.type):ReadK a T:=by
 refine ⟨hc,fun H enc W n cs x hx=>?_⟩;obtain ⟨y0,n2,_,hlen,hf⟩:=trod_struct1 hu hx;rw [h0,h.1,List.drop_zero,List.take_of_length_le (by omega)] at hf;exact h.2 _ _ _ _ _ _ hf
theorem Zyd {α β:Type}{a:Kd α}{b:Kd β}{T:TypeId}{f g:Field}(hu:Tryz.prog.underlying T=some (.struct #[f,g]))(hc:Tryz.prog.cellsOf T=a.n+b.n)(h0:f.offset=0)(h1:g.offset=a.n)(ha:ReadK a f.type)(hb:ReadK b g.type):ReadK (a.prod b) T:=by
 refine ⟨hc,fun H enc W n cs x hx=>?_⟩;obtain ⟨y0,y1,n2,_,hlen,hf,hg⟩:=trod_struct2 hu hx;rw [h0,ha.1,List.drop_zero] at hf;rw [h1,hb.1,List.take_of_length_le (by rw [List.length_drop];omega)] at hg;obtain ⟨t,ht⟩:=ha.2 _ _ _ _ _ _ hf;obtain ⟨u,hu⟩:=hb.2 _ _ _ _ _ _ hg;exact ⟨(t,u),_,_,(List.take_append_drop a.n cs).symm,ht,hu⟩
theorem Zabe:ReadK kTy 29:=⟨Zmp,fun _ _ _ n cs x h=>Zye n cs x h⟩
theorem Zadz {α:Type}{a:Kd α}{T:TypeId}{fs:Array Field}{H:Type}{enc:TypeId×Value->H}{W:World}{r:Reach}{b0:Nat}{v:Value}{d:DataW H}{ps:List MemPlace}(hu:Tryz.prog.underlying T=some (.struct fs))(h:ReadK a T)
  (hval:Value.okWide Tryz.prog W r b0 T v) (hd:DataW.Trod enc Tryz.prog W 0 (fun _=>true) true T v d ps):∃ (t:α) (cs:List Value),v=.agg cs.toArray/\a.R W t cs:=by
 obtain ⟨cs,rfl,hsz⟩:=okWide_struct hu hval;obtain ⟨fuel,hf⟩:=hd;obtain ⟨t,ht⟩:=h.2 _ _ _ _ _ _ hf;exact ⟨t,_,rfl,ht⟩
theorem Zabc:ReadK kDc 97:=Zyd Tryz.underlying97 (by kernel_rfl) rfl rfl (Zyc Tryz.underlying9 Zjm) Zabe
theorem Zabd:ReadK (kDc.list 101) 24:=Zyb Tryz.underlying24 (by kernel_rfl) rfl (Zun (⟨#[]⟩,.node ⟨0,[]⟩ []) _ Tryz.underlying22 (by kernel_rfl) Zabc)
theorem Zaea {H:Type}{enc:TypeId×Value->H}{W:World}{r:Reach}{b0:Nat}{v:Value}{d:DataW H}{ps:List MemPlace}(hval:Value.okWide Tryz.prog W r b0 24 v)(hd:DataW.Trod enc Tryz.prog W 0 (fun _=>true) true 24 v d ps) :
  ∃ (t:Sc) (cs:List Value),v=.agg cs.toArray/\RSc W t cs:=Zadz Tryz.underlying24 Zabd hval hd
end Go.Proofs.YtlcedleebbgebaaGreatDoor
namespace Go.Proofs.YtlcedleebbgebaaGreatDoor
open Go.ChangeShapes Go.WideShapes Go.ChangeAt Go.RowKit Go.Extern.Stop Go.Stop Go.Extern
theorem Zagi:ownKnob Tryz.prog.godebug=none:=by kernel_rfl
theorem Zaep:laidOutB Tryz.prog=true:=by kernel_rfl
theorem gErr:Tryz.prog.globalNamed "loop.example/g00587/impl.errNoType" =some 0:=by kernel_rfl
theorem Zaab:(Tryz.prog.globals[0]?).map (·.type)=some 80:=by kernel_rfl
theorem Zzo:Tryz.prog.cellsOf 241=1:=by kernel_rfl
theorem Zwd:Tryz.prog.cellsOf 9=1:=by kernel_rfl
theorem Zyn: "*" ++ "errors.errorString" = "*errors.errorString" :=by decide
theorem Zagd (u:TypeId)(h:Tryz.prog.typeName? 3 u=some "*errors.errorString"):u=215:=
 typeName_ptr_named (nm:= "errors.errorString") (by rw [Zyn];kernel_rfl) (by kernel_rfl) (by decide) u (by rw [Zyn];exact h)
abbrev Zacu:ByteArray:={ data:=#[116,104,101,32,116,101,114,109,32,104,97,115,32,110,111,32,116,121,112,101] }
noncomputable def Zack:Nat:=(World.holding Tryz.prog default ⟨#[],#[],[]⟩).heap.size
noncomputable def Zno (os:Os):World:=
 let w0:=World.holding Tryz.prog os ⟨#[.cells #[.string Zacu] 241],#[],[]⟩
 { w0 with heap:=Zsj (Zsj w0.heap 1 (Zpr Rows.laid_loop_example_g00587_impl_termArities)) 0 #[.iface 215 (.pointer (some ⟨Zack,0,none⟩))] }
theorem Zxc {P:Program}{x:String×DataW Unit}{r:List (String×DataW Unit)}{W:World}(h:laidMet P (x :: r) W):laidMet P r W:=h.tail
theorem Zpn {W:World}(h:laidMet Tryz.prog [("loop.example/g00587/impl.termArities",Rows.laid_loop_example_g00587_impl_termArities),("loop.example/g00587/impl.errNoType",Rows.laid_loop_example_g00587_impl_errNoType)] W):Zlk W:=by
 have har:=Zsv h;obtain ⟨a,s,hv,_⟩:=laid_sentinel (show laidMet Tryz.prog (("loop.example/g00587/impl.errNoType",.iface "*errors.errorString" (.ptr (.agg [.lit (.string [116,104,101,32,116,101,114,109,32,104,97,115,32,110,111,32,116,121,112,101])]))) :: []) W from Zxc h) gErr Zaab Tryz.underlying80 Zagd Tryz.underlying215 Tryz.underlying241 rfl rfl Tryz.underlying9 Zzo Zwd;refine ⟨⟨har,World.block_lt_of_cell? W _ (har.cell gAr 0 (by decide))⟩,a,?_⟩;unfold ErrAt
 simpa using World.var?_cell gErr hv 0
end Go.Proofs.YtlcedleebbgebaaGreatDoor
namespace Go.Proofs.YtlcedleebbgebaaGreatDoor
open Go.ChangeShapes Go.WideShapes Go.ChangeAt Go.RowKit
theorem Zwc:Tryz.prog.cellsOf 32=8:=by kernel_rfl
theorem Zzp:Tryz.prog.cellsOf 30=1:=by kernel_rfl
theorem RTy.topOut {w:World}{t:Ty}{cs:List Value}(h:RTy w t cs):∃ TL tc TA td,cs=[.int .i64 t.top.kind,.slice TL t.top.labels.length tc,.slice TA t.kids.length td]:=by
 cases t with
 | node a ks=>
  obtain ⟨L,c,A,d,rfl,_⟩:=h.out;exact ⟨L,c,A,d,rfl⟩
theorem Zaei {H:Type}{enc:TypeId×Value->H}{W:World}:∀ (n:Nat)(cs:List Value)(x:DataW H×List MemPlace),DataW.trod enc Tryz.prog W 0 (fun _=>true) true n 32 cs=some x->∃ t:Te,RTe W t cs:=by
 intro n
 induction n using Nat.strongRecOn with
 | _ n ihn=>
  intro cs x h
  obtain ⟨xs,n1,rfl,_,hlen,hxl,hf⟩:=DataW.trod_struct Tryz.underlying32 h;rw [Zwc] at hlen
  match cs,hlen with
  | [c0,c1,c2,c3,c4,c5,c6,c7],_=>
   have hx6:xs.length=6:=hxl;have h0:DataW.trod enc Tryz.prog W 0 (fun _=>true) true n1 3 (([c0,c1,c2,c3,c4,c5,c6,c7].drop 0).take (Tryz.prog.cellsOf 3))=xs[0]?:=hf 0 _ rfl;have h1:DataW.trod enc Tryz.prog W 0 (fun _=>true) true n1 9 (([c0,c1,c2,c3,c4,c5,c6,c7].drop 1).take (Tryz.prog.cellsOf 9))=xs[1]?:=hf 1 _ rfl;have h2:DataW.trod enc Tryz.prog W 0 (fun _=>true) true n1 3 (([c0,c1,c2,c3,c4,c5,c6,c7].drop 2).take (Tryz.prog.cellsOf 3))=xs[2]?:=hf 2 _ rfl;have h3:DataW.trod enc Tryz.prog W 0 (fun _=>true) true n1 29 (([c0,c1,c2,c3,c4,c5,c6,c7].drop 3).take (Tryz.prog.cellsOf 29))=xs[3]?:=hf 3 _ rfl;have h4:DataW.trod enc Tryz.prog W 0 (fun _=>true) true n1 26 (([c0,c1,c2,c3,c4,c5,c6,c7].drop 6).take (Tryz.prog.cellsOf 26))=xs[4]?:=hf 4 _ rfl;have h5:DataW.trod enc Tryz.prog W 0 (fun _=>true) true n1 30 (([c0,c1,c2,c3,c4,c5,c6,c7].drop 7).take (Tryz.prog.cellsOf 30))=xs[5]?:=hf 5 _ rfl;rw [Zgs,List.getElem?_eq_getElem (by omega)] at h0;rw [Zjm,List.getElem?_eq_getElem (by omega)] at h1;rw [Zgs,List.getElem?_eq_getElem (by omega)] at h2;rw [Zmp,List.getElem?_eq_getElem (by omega)] at h3;rw [Znv,List.getElem?_eq_getElem (by omega)] at h4;rw [Zzp,List.getElem?_eq_getElem (by omega)] at h5;simp only [List.drop,List.take] at h0 h1 h2 h3 h4 h5;obtain ⟨k,e0,_,wk⟩:=DataW.trod_int Tryz.underlying3 h0;injection e0 with e0
   subst e0;have hk:-9223372036854775808<=k/\k<=9223372036854775807:=by simpa [Lit.wf,IntKind.min,IntKind.max,IntKind.signed,IntKind.bits] using wk
   obtain ⟨s,e1,_,ws⟩:=DataW.trod_string Tryz.underlying9 h1;injection e1 with e1
   subst e1;obtain ⟨m,e2,_,wm⟩:=DataW.trod_int Tryz.underlying3 h2;injection e2 with e2
   subst e2;have hm':-9223372036854775808<=m/\m<=9223372036854775807:=by simpa [Lit.wf,IntKind.min,IntKind.max,IntKind.signed,IntKind.bits] using wm
   have hs':s.size<=9223372036854775807:=by unfold maxLen at ws;omega
   obtain ⟨ty,hty⟩:=Zye n1 _ _ h3;obtain ⟨TL,tc,TA,td,ety⟩:=hty.topOut;simp only [List.cons.injEq,and_true] at ety;obtain ⟨rfl,rfl,rfl⟩:=ety;obtain ⟨L,c,ls,rfl,l1,l2,l3⟩:=Zkj h4
   rcases DataW.trod_slice Tryz.underlying30 h5 with ⟨e2,_⟩|⟨a,len,cap,elems,rest,n2,hn2,e2,_,_,hl,hm,hel,hcell,_,_⟩
   ·injection e2 with e2
    subst e2;have hr:RTe W (.node ⟨k,s,m,ty,ls⟩ []) [.int .i64 k,.string s,.int .i64 m,.int .i64 ty.top.kind,.slice TL ty.top.labels.length tc,.slice TA ty.kids.length td,.slice L ls.length c,.slice none ([]:List Te).length 0]:=
     RTe.make hty l3 ⟨hk.1,hk.2,hs',hm'.1,hm'.2,l1,l2⟩ (by simp) (by simp) ⟨fun _=>[],fun j t hj=>by simp at hj⟩
    exact ⟨_,hr⟩
   ·injection e2 with e2
    subst e2;have hall:∀ i,∃ p:Te×List Value,i < len->RTe W p.1 p.2/\p.2.length=8/\∀ j u,p.2[j]?=some u->W.cell? (a.add (i * 8+j))=some u:=by
     intro i
     by_cases hi:i < len
     ·have hc:=hcell i hi
      rw [Zwc,List.getElem?_eq_getElem (by omega)] at hc;obtain ⟨ds,hd,ht⟩:=Option.bind_eq_some_iff.1 hc;obtain ⟨t,ht⟩:=ihn n2 (by omega) ds _ ht;obtain ⟨_,hdl,hat⟩:=World.cells?_some hd;refine ⟨(t,ds),fun _=>⟨ht,hdl,fun j u hj=>?_⟩⟩;have hj3:j < 8:=by rw [<-hdl];exact (List.getElem?_eq_some_iff.1 hj).1
      rw [<-Go.Deep.add_add,hat j hj3];exact hj
     ·exact ⟨(.node ⟨0,⟨#[]⟩,0,.node ⟨0,[]⟩ [],[]⟩ [],[]),fun h=>absurd h hi⟩
    obtain ⟨f,hfp⟩:=Classical.skolem.1 hall;have hkl:((List.range len).map fun i=>(f i).1).length=len:=by simp
    have hr:RTe W (.node ⟨k,s,m,ty,ls⟩ ((List.range len).map fun i=>(f i).1)) [.int .i64 k,.string s,.int .i64 m,.int .i64 ty.top.kind,.slice TL ty.top.labels.length tc,.slice TA ty.kids.length td,.slice L ls.length c,.slice (some a) ((List.range len).map fun i=>(f i).1).length cap]:=by
     refine RTe.make hty l3 ⟨hk.1,hk.2,hs',hm'.1,hm'.2,l1,l2⟩ (by rw [hkl];unfold maxLen at hm;omega) (by rw [hkl];exact hl) ⟨fun i=>(f i).2,fun j t hj=>?_⟩;rw [List.getElem?_map] at hj;obtain ⟨i,hi,rfl⟩:=Option.map_eq_some_iff.1 hj;have hjl:j < len:=by have:=(List.getElem?_eq_some_iff.1 hi).1;simpa using this
     have hij:i=j:=by rw [List.getElem?_range hjl] at hi;injection hi with hi;exact hi.symm
     subst hij;exact ⟨(hfp i hjl).1,a,rfl,(hfp i hjl).2.2⟩
    rw [hkl] at hr;exact ⟨_,hr⟩
theorem Zaeb {H:Type}{enc:TypeId×Value->H}{W:World}{r:Reach}{b0:Nat}{v:Value}{d:DataW H}{ps:List MemPlace}(hval:Value.okWide Tryz.prog W r b0 32 v)(hd:DataW.Trod enc Tryz.prog W 0 (fun _=>true) true 32 v d ps) :
  ∃ (t:Te) (cs:List Value),v=.agg cs.toArray/\RTe W t cs:=by
 obtain ⟨cs,rfl,hsz⟩:=okWide_struct Tryz.underlying32 hval;obtain ⟨fuel,hf⟩:=hd;obtain ⟨t,ht⟩:=Zaei fuel _ _ hf;exact ⟨t,_,rfl,ht⟩
end Go.Proofs.YtlcedleebbgebaaGreatDoor
