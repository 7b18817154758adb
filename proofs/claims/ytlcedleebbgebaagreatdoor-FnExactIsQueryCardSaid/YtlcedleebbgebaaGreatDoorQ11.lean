/-
  Merged by program: TeFieldsBoo, TeFieldsNam, TeFieldsNon, TeLeft, TeDeep, TeForm.
-/
import Derived.Test.YtlcedleebbgebaaGreatDoorQ10
set_option maxRecDepth 100000
set_option maxHeartbeats 3200000
namespace Go.Proofs.YtlcedleebbgebaaGreatDoor
open Go.RowKit
theorem Ztd {w W1:World}{q tk:Int}{s:ByteArray}{TL TA L A:Option Addr}{tl tc ta td l c m d H:Nat}{ar:Int}{nm v lb N:Bool}(hc:Zby W1 3 q tk s TL TA L A tl tc ta td l c m d H ar nm v lb)
  (hW1:w.alloc (.cells #[.int .i64 3,.string s,.int .i64 q,.int .i64 tk,.slice TL tl tc,.slice TA ta td,.slice L l c,.slice A m d] 49)=W1) (hb1:Below w.heap.size w W1) (hV:N=(Zct 3 ar nm (s.toList == []) && (Zdi 3 v tk tl ta && (labOk 3 lb l && numOk 3 q)))) (hH:w.heap.size=H) :
  Calls Tryz.prog 99 #[.agg #[.int .i64 3,.string s,.int .i64 q,.int .i64 tk,.slice TL tl tc,.slice TA ta td,.slice L l c,.slice A m d]] w (Truth N w):=by
 subst hH;rw [Zfq (by decide) (by decide)] at hV;rw [Zeu (by decide)] at hV;rw [Zfb (by decide)] at hV;have hM:mostN 3=1:=by decide
 unfold numOk at hV;rw [hM] at hV;have HV:=hQ hV;have HR:Hid (∀ (b:Bool) W,b=N->Below W1.heap.size W1 W->Truth N w (.returned (.bool b)) W):=hQ (fun b W hb hB=>⟨by rw [hb],hb1.trans (hB.mono hb1.size)⟩);have HB1:=hQ hb1;have HC:=hQ hc;have HW1:=hQ hW1;have bx:=hc.box W1 bQ;have x0:=bx.c0;have x1:=bx.c1;have HNM:Hid (∀ W,Calls Tryz.prog 123 #[.int .i64 3] W (fun e w'=>e=.returned (.bool false)/\w'=W)):=hQ (fun W=>by have h:=hc.named W;rw [show nmB 3=false by decide] at h;exact h);clear hc hW1 hb1 hV hM bx;cases nm with
 | true=>
  go_enter Tryz.func99,Tryz.ntmps99
  go_wp2_with fail
  rw [HW1.out];go_wp2_with fail;go_quiet (first | (go_at_call 123;exact Calls.quiet_of_same (HNM.out _)) | (go_at_call 61;exact Calls.quiet_of_same (HC.out.name _)));have HF:=hQ (HR.out false (W1.drewN nq) (by rw [HV.out];rfl) (Zab bQ nq));go_wp2_with fail;go_ret;exact HF.out
 | false=>
  cases nz:(s.toList == []) with
  | false=>
   rw [nz] at HV;go_enter Tryz.func99,Tryz.ntmps99;go_wp2_with fail;rw [HW1.out];go_wp2_with fail;go_quiet (first | (go_at_call 123;exact Calls.quiet_of_same (HNM.out _)) | (go_at_call 61;exact Calls.quiet_of_same (HC.out.name _)));have HF:=hQ (HR.out false (W1.drewN nq) (by rw [HV.out];rfl) (Zab bQ nq));go_wp2_with fail;go_ret;exact HF.out
  | true=>
   rw [nz] at HV;go_enter Tryz.func99,Tryz.ntmps99;go_wp2_with fail;rw [HW1.out];go_wp2_with fail;go_quiet (first | (go_at_call 123;exact Calls.quiet_of_same (HNM.out _)) | (go_at_call 61;exact Calls.quiet_of_same (HC.out.name _)));have bx:=HC.out.box (W1.drewN nq) (Zab bQ nq);have z0:=bx.c0;have z3:=bx.c3;have z4:=bx.c4;have z5:=bx.c5;have HT:=hQ (HC.out.type (W1.drewN nq) (Zab bQ nq));have HBW:Hid (Below W1.heap.size W1 (W1.drewN nq)):=hQ (Zab bQ nq);clear bx;go_wp2_with fail;refine HT.out.mono ?_;rintro e w4 ⟨rfl,hb4⟩;have HB4:=hQ (HBW.out.trans (hb4.mono HBW.out.size));have by4:=HC.out.box w4 HB4.out;have y0:=by4.c0;have y2:=by4.c2;have y3:=by4.c3;have y4:=by4.c4;have y5:=by4.c5;have y6:=by4.c6;clear hb4 by4 z0 z3 z4 z5 HT;cases v with
   | true=>
    have HF:=hQ (HR.out false w4 (by rw [HV.out];rfl) HB4.out);go_wp2_with fail;go_ret;exact HF.out
   | false=>
    by_cases t0:tk=0
    ·subst t0
     by_cases t1:tl=0
     ·subst t1
      by_cases t2:ta=0
      ·subst t2
       by_cases l0:l=0
       ·subst l0
        have HIN:=hQ (HC.out.inside 1 w4);have HE:Hid (∀ b,b=(decide (0<=q) && decide (q<=1))->Truth N w (.returned (.bool b)) w4):=hQ (fun b hb=>HR.out b w4 (by rw [hb,HV.out];simp) HB4.out);generalize (decide (0<=q) && decide (q<=1))=bb at HIN HE;go_wp2_with fail;refine HIN.out.mono ?_;rintro e w6 ⟨rfl,hw6⟩;have HF:=hQ (HE.out _ rfl);rw [<-hw6] at HF;clear hw6;go_wp2_with fail;go_ret;exact HF.out
       ·have u6:(0:Int) < (l:Int):=by omega
        have HF:=hQ (HR.out false w4 (by rw [HV.out];simp [l0]) HB4.out);go_wp2_with fail;go_ret;exact HF.out
      ·have u2:(0:Int) < (ta:Int):=by omega
       have HF:=hQ (HR.out false w4 (by rw [HV.out];simp [t2]) HB4.out);go_wp2_with fail;go_ret;exact HF.out
     ·have u1:(0:Int) < (tl:Int):=by omega
      have HF:=hQ (HR.out false w4 (by rw [HV.out];simp [t1]) HB4.out);go_wp2_with fail;go_ret;exact HF.out
    ·have u0:(tk == 0)=false:=by simp [t0]
     have HF:=hQ (HR.out false w4 (by rw [HV.out];simp [t0]) HB4.out);go_wp2_with fail;go_ret;exact HF.out
theorem Zth {w W1:World}{p q tk:Int}{s:ByteArray}{TL TA L A:Option Addr}{tl tc ta td l c m d H:Nat}{ar:Int}{nm v lb N:Bool}(hc:Zby W1 p q tk s TL TA L A tl tc ta td l c m d H ar nm v lb)
  (hW1:w.alloc (.cells #[.int .i64 p,.string s,.int .i64 q,.int .i64 tk,.slice TL tl tc,.slice TA ta td,.slice L l c,.slice A m d] 49)=W1) (hb1:Below w.heap.size w W1) (hV:N=(Zct p ar nm (s.toList == []) && (Zdi p v tk tl ta && (labOk p lb l && numOk p q)))) (hnm:nmB p=true) (h4:p≠4) (h7:p≠7) (h13:p≠13) (h5:p≠5) (h2:p≠2) (h3:p≠3) (hH:w.heap.size=H) :
  Calls Tryz.prog 99 #[.agg #[.int .i64 p,.string s,.int .i64 q,.int .i64 tk,.slice TL tl tc,.slice TA ta td,.slice L l c,.slice A m d]] w (Truth N w):=by
 subst hH;rw [Ziq (hnm) (h4)] at hV;rw [Zeu (by unfold tyB;simp [h7,h13])] at hV;rw [Zfb (h5)] at hV;have hM:mostN p=0:=by unfold mostN;rw [if_neg h2,if_neg h3]
 unfold numOk at hV;rw [hM] at hV;have HV:=hQ hV;have HR:Hid (∀ (b:Bool) W,b=N->Below W1.heap.size W1 W->Truth N w (.returned (.bool b)) W):=hQ (fun b W hb hB=>⟨by rw [hb],hb1.trans (hB.mono hb1.size)⟩);have HB1:=hQ hb1;have HC:=hQ hc;have HW1:=hQ hW1;have bx:=hc.box W1 bQ;have x0:=bx.c0;have x1:=bx.c1;have HNM:Hid (∀ W,Calls Tryz.prog 123 #[.int .i64 p] W (fun e w'=>e=.returned (.bool true)/\w'=W)):=hQ (fun W=>by have h:=hc.named W;rw [hnm] at h;exact h);have g5:¬ p=5:=h5;have n5:(p != 5)=true:=by simp [h5]
 have f4:(p == 4)=false:=by simp [h4]
 have f7:(p == 7)=false:=by simp [h7]
 have f13:(p == 13)=false:=by simp [h13]
 have f5:(p == 5)=false:=by simp [h5]
 have f2:(p == 2)=false:=by simp [h2]
 have f3:(p == 3)=false:=by simp [h3]
 clear hc hW1 hb1 hV hM bx hnm h4 h7 h13 h5 h2 h3;cases nm with
 | false=>
  go_enter Tryz.func99,Tryz.ntmps99
  go_wp2_with fail
  rw [HW1.out];go_wp2_with fail;go_quiet (first | (go_at_call 123;exact Calls.quiet_of_same (HNM.out _)) | (go_at_call 61;exact Calls.quiet_of_same (HC.out.name _)));have HF:=hQ (HR.out false (W1.drewN nq) (by rw [HV.out];rfl) (Zab bQ nq));go_wp2_with fail;go_ret;exact HF.out
 | true=>
  go_enter Tryz.func99,Tryz.ntmps99
  go_wp2_with fail
  rw [HW1.out];go_wp2_with fail;go_quiet (first | (go_at_call 123;exact Calls.quiet_of_same (HNM.out _)) | (go_at_call 61;exact Calls.quiet_of_same (HC.out.name _)));have bx:=HC.out.box (W1.drewN nq) (Zab bQ nq);have z0:=bx.c0;have z3:=bx.c3;have z4:=bx.c4;have z5:=bx.c5;have HT:=hQ (HC.out.type (W1.drewN nq) (Zab bQ nq));have HBW:Hid (Below W1.heap.size W1 (W1.drewN nq)):=hQ (Zab bQ nq);clear bx;go_wp2_with fail;refine HT.out.mono ?_;rintro e w4 ⟨rfl,hb4⟩;have HB4:=hQ (HBW.out.trans (hb4.mono HBW.out.size));have by4:=HC.out.box w4 HB4.out;have y0:=by4.c0;have y2:=by4.c2;have y3:=by4.c3;have y4:=by4.c4;have y5:=by4.c5;have y6:=by4.c6;clear hb4 by4 z0 z3 z4 z5 HT;cases v with
  | true=>
   have HF:=hQ (HR.out false w4 (by rw [HV.out];rfl) HB4.out);go_wp2_with fail;go_ret;exact HF.out
  | false=>
   by_cases t0:tk=0
   ·subst t0
    by_cases t1:tl=0
    ·subst t1
     by_cases t2:ta=0
     ·subst t2
      by_cases l0:l=0
      ·subst l0
       have HIN:=hQ (HC.out.inside 0 w4);have HE:Hid (∀ b,b=(decide (0<=q) && decide (q<=0))->Truth N w (.returned (.bool b)) w4):=hQ (fun b hb=>HR.out b w4 (by rw [hb,HV.out];simp) HB4.out);generalize (decide (0<=q) && decide (q<=0))=bb at HIN HE;go_wp2_with fail;refine HIN.out.mono ?_;rintro e w6 ⟨rfl,hw6⟩;have HF:=hQ (HE.out _ rfl);rw [<-hw6] at HF;clear hw6;go_wp2_with fail;go_ret;exact HF.out
      ·have u6:(0:Int) < (l:Int):=by omega
       have HF:=hQ (HR.out false w4 (by rw [HV.out];simp [l0]) HB4.out);go_wp2_with fail;go_ret;exact HF.out
     ·have u2:(0:Int) < (ta:Int):=by omega
      have HF:=hQ (HR.out false w4 (by rw [HV.out];simp [t2]) HB4.out);go_wp2_with fail;go_ret;exact HF.out
    ·have u1:(0:Int) < (tl:Int):=by omega
     have HF:=hQ (HR.out false w4 (by rw [HV.out];simp [t1]) HB4.out);go_wp2_with fail;go_ret;exact HF.out
   ·have u0:(tk == 0)=false:=by simp [t0]
    have HF:=hQ (HR.out false w4 (by rw [HV.out];simp [t0]) HB4.out);go_wp2_with fail;go_ret;exact HF.out
theorem Zti {w W1:World}{p q tk:Int}{s:ByteArray}{TL TA L A:Option Addr}{tl tc ta td l c m d H:Nat}{ar:Int}{nm v lb N:Bool}(hc:Zby W1 p q tk s TL TA L A tl tc ta td l c m d H ar nm v lb)
  (hW1:w.alloc (.cells #[.int .i64 p,.string s,.int .i64 q,.int .i64 tk,.slice TL tl tc,.slice TA ta td,.slice L l c,.slice A m d] 49)=W1) (hb1:Below w.heap.size w W1) (hV:N=(Zct p ar nm (s.toList == []) && (Zdi p v tk tl ta && (labOk p lb l && numOk p q)))) (hnm:nmB p=false) (h4:p≠4) (h7:p≠7) (h13:p≠13) (h5:p≠5) (h2:p≠2) (h3:p≠3) (hH:w.heap.size=H) :
  Calls Tryz.prog 99 #[.agg #[.int .i64 p,.string s,.int .i64 q,.int .i64 tk,.slice TL tl tc,.slice TA ta td,.slice L l c,.slice A m d]] w (Truth N w):=by
 subst hH;rw [Zfq (hnm) (h4)] at hV;rw [Zeu (by unfold tyB;simp [h7,h13])] at hV;rw [Zfb (h5)] at hV;have hM:mostN p=0:=by unfold mostN;rw [if_neg h2,if_neg h3]
 unfold numOk at hV;rw [hM] at hV;have HV:=hQ hV;have HR:Hid (∀ (b:Bool) W,b=N->Below W1.heap.size W1 W->Truth N w (.returned (.bool b)) W):=hQ (fun b W hb hB=>⟨by rw [hb],hb1.trans (hB.mono hb1.size)⟩);have HB1:=hQ hb1;have HC:=hQ hc;have HW1:=hQ hW1;have bx:=hc.box W1 bQ;have x0:=bx.c0;have x1:=bx.c1;have HNM:Hid (∀ W,Calls Tryz.prog 123 #[.int .i64 p] W (fun e w'=>e=.returned (.bool false)/\w'=W)):=hQ (fun W=>by have h:=hc.named W;rw [hnm] at h;exact h);have g5:¬ p=5:=h5;have n5:(p != 5)=true:=by simp [h5]
 have f4:(p == 4)=false:=by simp [h4]
 have f7:(p == 7)=false:=by simp [h7]
 have f13:(p == 13)=false:=by simp [h13]
 have f5:(p == 5)=false:=by simp [h5]
 have f2:(p == 2)=false:=by simp [h2]
 have f3:(p == 3)=false:=by simp [h3]
 clear hc hW1 hb1 hV hM bx hnm h4 h7 h13 h5 h2 h3;cases nm with
 | true=>
  go_enter Tryz.func99,Tryz.ntmps99
  go_wp2_with fail
  rw [HW1.out];go_wp2_with fail;go_quiet (first | (go_at_call 123;exact Calls.quiet_of_same (HNM.out _)) | (go_at_call 61;exact Calls.quiet_of_same (HC.out.name _)));have HF:=hQ (HR.out false (W1.drewN nq) (by rw [HV.out];rfl) (Zab bQ nq));go_wp2_with fail;go_ret;exact HF.out
 | false=>
  cases nz:(s.toList == []) with
  | false=>
   rw [nz] at HV;go_enter Tryz.func99,Tryz.ntmps99;go_wp2_with fail;rw [HW1.out];go_wp2_with fail;go_quiet (first | (go_at_call 123;exact Calls.quiet_of_same (HNM.out _)) | (go_at_call 61;exact Calls.quiet_of_same (HC.out.name _)));have HF:=hQ (HR.out false (W1.drewN nq) (by rw [HV.out];rfl) (Zab bQ nq));go_wp2_with fail;go_ret;exact HF.out
  | true=>
   rw [nz] at HV;go_enter Tryz.func99,Tryz.ntmps99;go_wp2_with fail;rw [HW1.out];go_wp2_with fail;go_quiet (first | (go_at_call 123;exact Calls.quiet_of_same (HNM.out _)) | (go_at_call 61;exact Calls.quiet_of_same (HC.out.name _)));have bx:=HC.out.box (W1.drewN nq) (Zab bQ nq);have z0:=bx.c0;have z3:=bx.c3;have z4:=bx.c4;have z5:=bx.c5;have HT:=hQ (HC.out.type (W1.drewN nq) (Zab bQ nq));have HBW:Hid (Below W1.heap.size W1 (W1.drewN nq)):=hQ (Zab bQ nq);clear bx;go_wp2_with fail;refine HT.out.mono ?_;rintro e w4 ⟨rfl,hb4⟩;have HB4:=hQ (HBW.out.trans (hb4.mono HBW.out.size));have by4:=HC.out.box w4 HB4.out;have y0:=by4.c0;have y2:=by4.c2;have y3:=by4.c3;have y4:=by4.c4;have y5:=by4.c5;have y6:=by4.c6;clear hb4 by4 z0 z3 z4 z5 HT;cases v with
   | true=>
    have HF:=hQ (HR.out false w4 (by rw [HV.out];rfl) HB4.out);go_wp2_with fail;go_ret;exact HF.out
   | false=>
    by_cases t0:tk=0
    ·subst t0
     by_cases t1:tl=0
     ·subst t1
      by_cases t2:ta=0
      ·subst t2
       by_cases l0:l=0
       ·subst l0
        have HIN:=hQ (HC.out.inside 0 w4);have HE:Hid (∀ b,b=(decide (0<=q) && decide (q<=0))->Truth N w (.returned (.bool b)) w4):=hQ (fun b hb=>HR.out b w4 (by rw [hb,HV.out];simp) HB4.out);generalize (decide (0<=q) && decide (q<=0))=bb at HIN HE;go_wp2_with fail;refine HIN.out.mono ?_;rintro e w6 ⟨rfl,hw6⟩;have HF:=hQ (HE.out _ rfl);rw [<-hw6] at HF;clear hw6;go_wp2_with fail;go_ret;exact HF.out
       ·have u6:(0:Int) < (l:Int):=by omega
        have HF:=hQ (HR.out false w4 (by rw [HV.out];simp [l0]) HB4.out);go_wp2_with fail;go_ret;exact HF.out
      ·have u2:(0:Int) < (ta:Int):=by omega
       have HF:=hQ (HR.out false w4 (by rw [HV.out];simp [t2]) HB4.out);go_wp2_with fail;go_ret;exact HF.out
     ·have u1:(0:Int) < (tl:Int):=by omega
      have HF:=hQ (HR.out false w4 (by rw [HV.out];simp [t1]) HB4.out);go_wp2_with fail;go_ret;exact HF.out
    ·have u0:(tk == 0)=false:=by simp [t0]
     have HF:=hQ (HR.out false w4 (by rw [HV.out];simp [t0]) HB4.out);go_wp2_with fail;go_ret;exact HF.out
theorem Ztw:∀ (t:Te)(w:World)(cs:List Value)(left:Int),RTe w t cs->0<=left->left<=1048577->Calls Tryz.prog 65 #[.agg cs.toArray,.int .i64 left] w (Left t.size left w):=by
 refine Tr.ind ?_
 intro a ks ih w cs left h hl0 hl1
 obtain ⟨TL,tc,TA,td,L,c,A,d,rfl,hT,k1,k2,k6,_,hp⟩:=h.out;rw [Zik];obtain ⟨W1,hW1⟩:∃ W1,w.alloc (.cells #[.int .i64 a.kind,.string a.name,.int .i64 a.num,.int .i64 a.type.top.kind,.slice TL a.type.top.labels.length tc,.slice TA a.type.kids.length td,.slice L a.labels.length c,.slice A ks.length d] 49)=W1:=⟨_,rfl⟩;have hb0:Below w.heap.size w W1:=by rw [<-hW1];exact bQ.alloc nQ _
 obtain ⟨H,hH⟩:∃ H,w.heap.size=H:=⟨_,rfl⟩;have b0:Box8 W1 H 49 (.int .i64 a.kind) (.string a.name) (.int .i64 a.num) (.int .i64 a.type.top.kind) (.slice TL a.type.top.labels.length tc) (.slice TA a.type.kids.length td) (.slice L a.labels.length c) (.slice A ks.length d):=by rw [<-hW1,<-hH];exact Box8.new w _ _ _ _ _ _ _ _ _
 have HP:=hQ hp;have HI:=hQ ih;have HB0:=hQ hb0;have B0:=hQ b0;have HW1:=hQ hW1;clear hp ih hb0 b0 hW1 k1 k2 h hT;go_enter Tryz.func65,Tryz.ntmps65;go_wp2_with fail;rw [HW1.out];go_loopw [1,5] (fun l i wr=>∃ (k:Nat) (r:Int),k<=ks.length/\i=.int .i64 k/\l=.int .i64 r/\-1<=r/\r < left/\(0<=r->r+1+((ks.take k).map Tr.size).sum=left)/\(r < 0->left < 1+(((ks.take k).map Tr.size).sum:Nat))/\Below W1.heap.size W1 wr) (fun _ i _=>ks.length - (intOf i).toNat)
 case atStart=>exact ⟨0,_,Nat.zero_le _,rfl,rfl,by omega,by omega,by intro _;simp,by intro _;simp;omega,Below.refl _ _⟩
 case round=>
  obtain ⟨k,r,hk,rfl,rfl,hr1,hr2,hr3,hr4,hb⟩:=hrel;have hbw:=HB0.out.trans (hb.mono HB0.out.size);have bk:=B0.out.under hb B0.out.lt;have hbx:=bk.c7;by_cases hlt:k < ks.length
  ·by_cases hr0:0<=r
   ·obtain ⟨ad,p,c0,c1,c2,c3,c4,c5,c6,c7,rfl,hpe,hr,q0,q1,q2,q3,q4,q5,q6,q7⟩:=Zfj HP.out hbw hlt
    have hc:=HI.out ks[k] (List.getElem_mem hlt) wr [c0,c1,c2,c3,c4,c5,c6,c7] r hr hr0 (by omega);have hst:=Zax Tr.size ks k hlt;have HC:=hQ hc;have HST:=hQ hst;have HR3:=hQ (hr3 hr0);clear hc hr hst bk hr3 hr4;go_wp2_with fail;refine HC.out.mono ?_;rintro e w2 ⟨r2,rfl,hq1,hq2,hq3,hq4,hb2⟩;have hb3:=hb.trans (hb2.mono hb.size);have h3:=HR3.out;have h4:=HST.out;have HQ3:Hid (0<=r2->r2+1+((ks.take (k+1)).map Tr.size).sum=left):=fun h=>by have:=hq3 h;omega
    have HQ4:Hid (r2 < 0->left < 1+(((ks.take (k+1)).map Tr.size).sum:Nat)):=fun h=>by have:=hq4 h;omega
    clear hq3 hq4 h3 h4;go_wp2_with fail;go_roundw
    case rel=>exact ⟨k+1,r2,hlt,by go_num,rfl,hq1,by omega,HQ3.out,HQ4.out,hb3⟩
    case measure=>simp [intOf];omega
   ·have hle:=Zde Tr.size ks k
    have HR:Hid (Left (1+(ks.map Tr.size).sum) left w (.returned (.int .i64 r)) wr):=⟨r,rfl,hr1,by omega,fun h=>absurd h hr0,fun h=>by have:=hr4 h;omega,hbw⟩;clear bk hr3 hr4 hle;go_wp2_with fail;go_ret;exact HR.out
  ·have he:k=ks.length:=by omega
   have HR:Hid (Left (1+(ks.map Tr.size).sum) left w (.returned (.int .i64 r)) wr):=by
    rw [he,List.take_length] at hr3 hr4;exact ⟨r,rfl,hr1,by omega,fun h=>by have:=hr3 h;omega,fun h=>by have:=hr4 h;omega,hbw⟩
   clear he bk hr3 hr4;go_wp2_with fail;go_ret;exact HR.out
theorem Zma {α:Type}(a:α)(ks:List (Tr α)):(Tr.node a ks).size=1+(ks.map Tr.size).sum:=Tr.sum_node _ a ks
theorem Zdz {α:Type}{a:α}{ks:List (Tr α)}{t:Tr α}(h:t∈ks):t.size < (Tr.node a ks).size:=by
 rw [Zma]
 have:=Zbh Tr.size h
 omega
theorem Zgu {α:Type}:∀ t:Tr α,t.deep<=t.size:=by
 refine Tr.ind ?_
 intro a ks ih
 rw [Zfn,Zma]
 have:=Zbt (m:=(ks.map Tr.size).sum) (ks.map Tr.deep) 0 (Nat.zero_le _) (by
  intro x hx
  obtain ⟨t,ht,rfl⟩:=List.mem_map.1 hx;exact Nat.le_trans (ih t ht) (Zbh Tr.size ht))
 omega
theorem Zld:∀ (t:Te)(w:World)(cs:List Value),RTe w t cs->t.size<=1048577->Calls Tryz.prog 66 #[.agg cs.toArray] w (Zjj t.deep w):=by
 refine Tr.ind ?_
 intro a ks ih w cs h hs
 obtain ⟨TL,tc,TA,td,L,c,A,d,rfl,hT,k1,k2,k6,_,hp⟩:=h.out;have hle:=Zgu (.node a ks);have hkd:∀ k,k<=ks.length->Zdf ks k < 1048577:=by
  intro k hk
  have:=Zbt (m:=(ks.map Tr.size).sum) ((ks.take k).map Tr.deep) 0 (Nat.zero_le _) (by
   intro x hx
   obtain ⟨t,ht,rfl⟩:=List.mem_map.1 hx;exact Nat.le_trans (Zgu t) (Zbh Tr.size (List.mem_of_mem_take ht)))
  rw [Zik] at hs;unfold Zdf
  omega
 have hall:=Zlp a ks;obtain ⟨W1,hW1⟩:∃ W1,w.alloc (.cells #[.int .i64 a.kind,.string a.name,.int .i64 a.num,.int .i64 a.type.top.kind,.slice TL a.type.top.labels.length tc,.slice TA a.type.kids.length td,.slice L a.labels.length c,.slice A ks.length d] 49)=W1:=⟨_,rfl⟩;have hb0:Below w.heap.size w W1:=by rw [<-hW1];exact bQ.alloc nQ _
 have hbox:W1.cell? ⟨w.heap.size,7,none⟩=some (.slice A ks.length d):=by rw [<-hW1];exact cell_of_row _ _ 7 _ _ _ (heap_alloc_new w _)
 have HP:=hQ hp;have HI:=hQ ih;have HB0:=hQ hb0;have HBOX:=hQ hbox;have HW1:=hQ hW1;have HS:=hQ hs;have HKD:=hQ hkd;have HALL:=hQ hall;clear hp ih hb0 hbox hW1 k1 k2 h hkd hall hle hs hT;go_enter Tryz.func66,Tryz.ntmps66;go_wp2_with fail;rw [HW1.out];go_loopw [3,4] (fun n i wr=>∃ k:Nat,k<=ks.length/\i=.int .i64 k/\n=.int .i64 ((Zdf ks k:Nat):Int)/\Below W1.heap.size W1 wr) (fun _ i _=>ks.length - (intOf i).toNat)
 case atStart=>exact ⟨0,Nat.zero_le _,rfl,rfl,Below.refl _ _⟩
 case round=>
  obtain ⟨k,hk,rfl,rfl,hb⟩:=hrel;have hbw:=HB0.out.trans (hb.mono HB0.out.size);have hbx:wr.cell? ⟨w.heap.size,7,none⟩=some (.slice A ks.length d):=(hb.cell (World.block_lt_of_cell? W1 _ HBOX.out)).trans HBOX.out;by_cases hlt:k < ks.length
  ·obtain ⟨ad,p,c0,c1,c2,c3,c4,c5,c6,c7,rfl,hpe,hr,q0,q1,q2,q3,q4,q5,q6,q7⟩:=Zfj HP.out hbw hlt
   have hst:=Zjn ks k hlt;have hd1:=HKD.out k hk;have hd2:=HKD.out (k+1) hlt;have hc:=HI.out ks[k] (List.getElem_mem hlt) wr [c0,c1,c2,c3,c4,c5,c6,c7] hr (by have:=Zdz (a:=a) (List.getElem_mem hlt);have:=HS.out;omega);obtain ⟨n,hn⟩:∃ n,Zdf ks k=n:=⟨_,rfl⟩;obtain ⟨m,hm⟩:∃ m,ks[k].deep=m:=⟨_,rfl⟩;rw [hst] at hd2;rw [hn,hm] at hst hd2;rw [hn] at hd1;rw [hm] at hc;rw [hn];have hmx:=fun W=>Zoj (w:=W) (a:=n) (b:=m)
   have HC:=hQ hc;have HST:=hQ hst;have HMX:=hQ hmx;have hmm:m < 1048577:=by omega
   clear hc hr hst hn hm hd2 hmx;go_wp2_with fail;refine HC.out.mono ?_;rintro e w2 ⟨rfl,hb2⟩;have hb3:=hb.trans (hb2.mono hb.size);go_wp2_with fail;refine (HMX.out w2).mono ?_;rintro e w3 ⟨rfl,hb4⟩;have hb5:=hb3.trans (hb4.mono hb3.size);go_wp2_with fail;go_roundw
   case rel=>exact ⟨k+1,hlt,by go_num,by rw [HST.out],hb5⟩
   case measure=>simp [intOf];omega
  ·have he:k=ks.length:=by omega
   have hd1:=HKD.out k hk;have HR:Hid (Zjj (((Tr.node a ks).deep:Nat):Int) w (.returned (.int .i64 (((Zdf ks k:Nat):Int)+1))) wr):=by
    rw [HALL.out,he];exact ⟨by rw [Int.natCast_add];rfl,hbw⟩
   obtain ⟨n,hn⟩:∃ n,Zdf ks k=n:=⟨_,rfl⟩;rw [hn] at HR hd1 ⊢;clear he hn;go_wp2_with fail;go_ret;exact HR.out
theorem Zqy {b:Bool}{w:World}{e:Ending}{w':World}(h:Tells b w e w'):Truth b w e w':=by
 obtain ⟨h1,n,rfl⟩:=h;exact ⟨h1,Zab bQ n⟩
theorem Zok (a:TeA)(m:Nat)(TL TA L A:Option Addr)(tc td c d:Nat)(w:World)(hT:RTy w a.type [.int .i64 a.type.top.kind,.slice TL a.type.top.labels.length tc,.slice TA a.type.kids.length td])(hwt:wt a.type<=1048576)
  (hl:Sl w L (a.labels.map Value.string)) (hln:a.labels.length<=1048576) (hls:∀ x∈a.labels,x.size<=1048576) (hns:a.name.size<=1048576) :
  Calls Tryz.prog 99 #[.agg #[.int .i64 a.kind,.string a.name,.int .i64 a.num,.int .i64 a.type.top.kind,.slice TL a.type.top.labels.length tc,.slice TA a.type.kids.length td,.slice L a.labels.length c,.slice A m d]] w (Truth (Zdb a) w):=by
 obtain ⟨W1,hW1⟩:∃ W1,w.alloc (.cells #[.int .i64 a.kind,.string a.name,.int .i64 a.num,.int .i64 a.type.top.kind,.slice TL a.type.top.labels.length tc,.slice TA a.type.kids.length td,.slice L a.labels.length c,.slice A m d] 49)=W1:=⟨_,rfl⟩;obtain ⟨H,hH⟩:∃ H,w.heap.size=H:=⟨_,rfl⟩;have hb1:Below w.heap.size w W1:=by rw [<-hW1];exact bQ.alloc nQ _
 have hbx:Box8 W1 H 49 (.int .i64 a.kind) (.string a.name) (.int .i64 a.num) (.int .i64 a.type.top.kind) (.slice TL a.type.top.labels.length tc) (.slice TA a.type.kids.length td) (.slice L a.labels.length c) (.slice A m d):=by rw [<-hW1,<-hH];exact Box8.new w _ _ _ _ _ _ _ _ _
 have hc:Zby W1 a.kind a.num a.type.top.kind a.name TL TA L A a.type.top.labels.length tc a.type.kids.length td a.labels.length c m d H (arB a.name) (nameB a.name) (Zae a.type) (labB a.labels):=
  ⟨fun W hB=>hbx.under hB hbx.lt,fun W=>(Zhs a.name W).mono fun _ _ ⟨h1,h2⟩=>⟨h1,h2.symm⟩,fun W=>Zij (Zqh a.kind W),fun W=>Zij (Zee a.name W hns),
   fun W hB=>Zcf a.type W _ ((hT.keep hb1).keep hB) hwt,fun W hB=>(Zip L c a.labels W ((hl.below hb1).below hB) hln hls).mono fun _ _ h=>Zqy h,fun hi W=>Zij (Zsb a.num 0 hi W)⟩
 have hV:Zdb a=(Zct a.kind (arB a.name) (nameB a.name) (a.name.toList == []) && (Zdi a.kind (Zae a.type) a.type.top.kind a.type.top.labels.length a.type.kids.length && (labOk a.kind (labB a.labels) a.labels.length && numOk a.kind a.num))):=rfl;clear hT hwt hl hln hls hns hbx;generalize Zdb a=N at hV ⊢;generalize a.kind=p at hc hV hW1 ⊢;by_cases p4:p=4
 ·subst p4;exact Zwj hc hW1 hb1 hV hH
 by_cases p13:p=13
 ·subst p13;exact Ztg hc hW1 hb1 hV hH
 by_cases p7:p=7
 ·subst p7;exact Zte hc hW1 hb1 hV hH
 by_cases p5:p=5
 ·subst p5;exact Ztj hc hW1 hb1 hV hH
 by_cases p2:p=2
 ·subst p2;exact Ztf hc hW1 hb1 hV hH
 by_cases p3:p=3
 ·subst p3;exact Ztd hc hW1 hb1 hV hH
 cases hn:nmB p with
 | true=>exact Zth hc hW1 hb1 hV hn p4 p7 p13 p5 p2 p3 hH
 | false=>exact Zti hc hW1 hb1 hV hn p4 p7 p13 p5 p2 p3 hH
def nodeE (a:TeA)(n:Nat):Bool:=Zdb a && decide ((n:Int)=arN a.kind a.name a.labels.length)
def Tr.formE:Te->Bool
 | .node a ks=>(ks.attach.all fun ⟨t,_⟩=>t.formE) && nodeE a ks.length
theorem Zib (a:TeA)(ks:List Te):Tr.formE (.node a ks)=(ks.all Tr.formE && nodeE a ks.length):=by
 rw [Tr.formE]
 congr 1
 rw [Bool.eq_iff_iff,List.all_eq_true,List.all_eq_true]
 constructor
 ·intro h t ht;exact h ⟨t,ht⟩ (List.mem_attach _ _)
 ·rintro h ⟨t,ht⟩ _;exact h t ht
def Zcx (t:Te):Bool:=decide (t.size<=60) && (decide (t.deep<=16) && t.formE)
theorem Zig {a:TeA}{ks:List Te}{t:Te}(h:t∈ks):wte t<=wte (.node a ks):=by
 rw [Zds]
 have:=Zbh wte h
 unfold wteK
 omega
theorem Zhw {a:TeA}{ks:List Te}{B:Nat}(h:wte (.node a ks)<=B):wt a.type<=B/\a.name.size<=B/\a.labels.length<=B/\∀ x∈a.labels,x.size<=B:=by
 rw [Zds] at h;unfold wteA at h;exact ⟨by omega,by omega,by omega,fun x hx=>by have:=Zks hx;omega⟩
theorem Ztv:∀ (t:Te)(w:World)(cs:List Value),RTe w t cs->wte t<=1048576->Calls Tryz.prog 67 #[.agg cs.toArray] w (Truth t.formE w):=by
 refine Tr.ind ?_
 intro a ks ih w cs h hwt
 obtain ⟨TL,tc,TA,td,L,c,A,d,rfl,hT,k1,k2,k6,_,hp⟩:=h.out;obtain ⟨lT,lN,l1,l2⟩:=Zhw hwt;have hkl:ks.length<=1048576:=by rw [Zds] at hwt;unfold wteK at hwt;omega
 have hFA:=fun (W:World) (hB:Below w.heap.size w W)=>Zok a ks.length TL TA L A tc td c d W (hT.keep hB) lT (k1.below hB) l1 l2 lN
 rw [Zib];obtain ⟨N,hN⟩:∃ N,(ks.all Tr.formE && nodeE a ks.length)=N:=⟨_,rfl⟩;rw [hN];have HN0:=hQ hN;clear hN;obtain ⟨W1,hW1⟩:∃ W1,w.alloc (.cells #[.int .i64 a.kind,.string a.name,.int .i64 a.num,.int .i64 a.type.top.kind,.slice TL a.type.top.labels.length tc,.slice TA a.type.kids.length td,.slice L a.labels.length c,.slice A ks.length d] 49)=W1:=⟨_,rfl⟩;have hb0:Below w.heap.size w W1:=by rw [<-hW1];exact bQ.alloc nQ _
 obtain ⟨H,hH⟩:∃ H,w.heap.size=H:=⟨_,rfl⟩;have b0:Box8 W1 H 49 (.int .i64 a.kind) (.string a.name) (.int .i64 a.num) (.int .i64 a.type.top.kind) (.slice TL a.type.top.labels.length tc) (.slice TA a.type.kids.length td) (.slice L a.labels.length c) (.slice A ks.length d):=by rw [<-hW1,<-hH];exact Box8.new w _ _ _ _ _ _ _ _ _
 have HP:=hQ hp;have HFA:=hQ hFA;have HI:=hQ ih;have HB0:=hQ hb0;have B0:=hQ b0;have HW1:=hQ hW1;have HWT:=hQ hwt;clear hp ih hb0 b0 hW1 k1 h l2 hwt hT hFA lT lN l1;go_enter Tryz.func67,Tryz.ntmps67;go_wp2_with fail;rw [HW1.out];go_loopw [3] (fun i wr=>∃ k:Nat,k<=ks.length/\i=.int .i64 k/\AllTo Tr.formE ks k/\Below W1.heap.size W1 wr) (fun i _=>ks.length - (intOf i).toNat)
 case atStart=>exact ⟨0,Nat.zero_le _,rfl,Zca _ _,Below.refl _ _⟩
 case round=>
  obtain ⟨k,hk,rfl,hno,hb⟩:=hrel;have hbw:=HB0.out.trans (hb.mono HB0.out.size);have bk:=B0.out.under hb B0.out.lt;have hbx:=bk.c7;by_cases hlt:k < ks.length
  ·obtain ⟨ad,p,c0,c1,c2,c3,c4,c5,c6,c7,rfl,hpe,hr,q0,q1,q2,q3,q4,q5,q6,q7⟩:=Zfj HP.out hbw hlt
   have hc:=HI.out ks[k] (List.getElem_mem hlt) wr [c0,c1,c2,c3,c4,c5,c6,c7] hr (Nat.le_trans (Zig (List.getElem_mem hlt)) HWT.out);have HC:=hQ hc;have HN:=hQ hno;have HBW:=hQ hbw;clear hc hr hno bk;go_wp2_with fail;refine HC.out.mono ?_;rintro e w2 ⟨rfl,hb2⟩;have hb3:=hb.trans (hb2.mono hb.size);have HB4:=hQ (HBW.out.trans (hb2.mono HBW.out.size));by_cases hf:Tr.formE ks[k]=true
   ·have HN2:=hQ (Zbz HN.out hlt hf)
    rw [hf];clear hf;go_wp2_with fail;go_roundw
    case rel=>exact ⟨k+1,hlt,by go_num,HN2.out,hb3⟩
    case measure=>simp [intOf];omega
   ·have hf':Tr.formE ks[k]=false:=by simpa using hf
    have HR:=hQ (Zag (a:=N) (b:=false) (by rw [<-HN0.out,Zex hlt hf'];rfl) HB4.out);rw [hf'];clear hf hf';go_wp2_with fail;go_ret;exact HR.out
  ·have he:k=ks.length:=by omega
   have hall:=Zcp (he ▸ hno);have hdr:Below wr.heap.size wr wr.drew:=bQ.drew;have HC:=hQ (HFA.out wr.drew (hbw.trans (hdr.mono hbw.size)));have HE:Hid (N=nodeE a ks.length):=hQ (by rw [<-HN0.out,hall,Bool.true_and]);have HBW:=hQ hbw;have BK:=hQ bk;have hbx0:=bk.c0;have hbx1:=bk.c1;have hbx2:=bk.c2;have hbx3:=bk.c3;have hbx4:=bk.c4;have hbx5:=bk.c5;have hbx6:=bk.c6;subst he;clear hall hno bk hb hbw hdr HP HI HWT HFA HN0;have HBD:Hid (Below w.heap.size w wr.drew):=hQ HBW.out.drew;have BD:Hid (Box8 wr.drew H 49 (.int .i64 a.kind) (.string a.name) (.int .i64 a.num) (.int .i64 a.type.top.kind) (.slice TL a.type.top.labels.length tc) (.slice TA a.type.kids.length td) (.slice L a.labels.length c) (.slice A ks.length d)):=hQ BK.out;cases hf:Zdb a with
   | false=>
    rw [hf] at HC;have HF:Hid (∀ w2,Below wr.drew.heap.size wr.drew w2->Truth N w (.returned (.bool false)) w2):=hQ (fun w2 hb2=>Zag (by rw [HE.out];unfold nodeE;rw [hf];rfl) (HBD.out.trans (hb2.mono HBD.out.size)));clear hf;go_wp2_with fail;have d0:=BD.out.c0;have d1:=BD.out.c1;have d2:=BD.out.c2;have d3:=BD.out.c3;have d4:=BD.out.c4;have d5:=BD.out.c5;have d6:=BD.out.c6;have d7:=BD.out.c7;refine wp_region_noPanic ?_;refine wp_region_held_drew (S:=(fun W=>W.cell? ⟨H,0,none⟩=some (.int .i64 a.kind)/\W.cell? ⟨H,1,none⟩=some (.string a.name)/\W.cell? ⟨H,2,none⟩=some (.int .i64 a.num)/\W.cell? ⟨H,3,none⟩=some (.int .i64 a.type.top.kind)/\W.cell? ⟨H,4,none⟩=some (.slice TL a.type.top.labels.length tc)/\W.cell? ⟨H,5,none⟩=some (.slice TA a.type.kids.length td)/\W.cell? ⟨H,6,none⟩=some (.slice L a.labels.length c)/\W.cell? ⟨H,7,none⟩=some (.slice A ks.length d))) (by kernel_rfl) ?_ (fun hHeld=>?_)
    ·(try dsimp only);(refine ⟨?_,?_,?_,?_,?_,?_,?_,?_⟩ <;> assumption)
    refine wpAnyH_take (i:=0) (oi:=⟨some 18,.load 49 (.tmp 1),49, "l07_term.go:86",#[],none⟩) (v:=?v0) rfl (by kernel_rfl) (by kernel_rfl) (by kernel_rfl) (fun _ _ _ h=>h) (Or.inl ⟨by rfl,?y0⟩) (by assumption) ?r0
    case y0=>(intro w' hSw;(try dsimp only at hSw);go_simp;all_goals with_reducible rfl)
    try simp only [Act.put,sQ,tQ,vQ]
    refine wpAnyH_ready (rs:=[1]) (by kernel_rfl) (by simp) ?_;refine AllReadyH.cons (o:=⟨some 19,.call ⟨.value (.func 99),#[.tmp 18],#[49]⟩,4, "l07_term.go:86",#[⟨0,.data⟩],none⟩) rfl (fun K hK=>?_) AllReadyH.nil;clear hHeld;go_simp;go_at_call 99;refine HC.out.mono ?_;rintro e w2 ⟨rfl,hb2⟩;have HG:=hQ (HF.out w2 hb2);have B2:=BD.out.under hb2 BD.out.lt;have y0:=B2.c0;have y1:=B2.c1;have y2:=B2.c2;have y3:=B2.c3;have y4:=B2.c4;have y5:=B2.c5;have y6:=B2.c6;have y7:=B2.c7;clear hb2 B2;go_wp2_with fail;refine hK.out _ _ ?_ (fun hHeld=>?_)
    ·(try dsimp only);(refine ⟨?_,?_,?_,?_,?_,?_,?_,?_⟩ <;> assumption)
    clear hK K
    try simp only [Act.put,sQ,tQ,vQ]
    refine wpAnyH_take (i:=2) (oi:=⟨some 20,.move (.tmp 19),4, "l07_term.go:86",#[⟨1,.data⟩,⟨1,.chain⟩],none⟩) (v:=?v2) rfl (by kernel_rfl) (by kernel_rfl) (by kernel_rfl) (fun _ _ _ h=>h) (Or.inl ⟨by rfl,?y2⟩) (by assumption) ?r2
    case y2=>(intro w' hSw;(try dsimp only at hSw);go_simp;all_goals with_reducible rfl)
    try simp only [Act.put,sQ,tQ,vQ]
    refine wpAnyH_take (i:=3) (oi:=⟨some 21,.fieldAddr 49 (.tmp 1) 5,0, "l07_term.go:86",#[⟨2,.guard⟩],some (2,true)⟩) (v:=undef) rfl (by kernel_rfl) (by kernel_rfl) (by kernel_rfl) (fun _ _ _ h=>h) (Or.inr ⟨by rfl,rfl⟩) (by assumption) ?_
    try simp only [Act.put,sQ,tQ,vQ]
    refine wpAnyH_take (i:=4) (oi:=⟨some 22,.load 47 (.tmp 21),47, "l07_term.go:86",#[⟨3,.data⟩,⟨2,.guard⟩],some (2,true)⟩) (v:=undef) rfl (by kernel_rfl) (by kernel_rfl) (by kernel_rfl) (fun _ _ _ h=>h) (Or.inr ⟨by rfl,rfl⟩) (by assumption) ?_
    try simp only [Act.put,sQ,tQ,vQ]
    refine wpAnyH_take (i:=5) (oi:=⟨some 23,.call { callee:=Callee.builtin Builtin.len,args:=#[.tmp 22],argTypes:=#[47] },3, "l07_term.go:86",#[⟨4,.data⟩,⟨2,.guard⟩],some (2,true)⟩) (v:=undef) rfl (by kernel_rfl) (by kernel_rfl) (by kernel_rfl) (fun _ _ _ h=>h) (Or.inr ⟨by rfl,rfl⟩) (by assumption) ?_
    try simp only [Act.put,sQ,tQ,vQ]
    refine wpAnyH_take (i:=6) (oi:=⟨some 24,.load 49 (.tmp 1),49, "l07_term.go:86",#[⟨2,.guard⟩],some (2,true)⟩) (v:=undef) rfl (by kernel_rfl) (by kernel_rfl) (by kernel_rfl) (fun _ _ _ h=>h) (Or.inr ⟨by rfl,rfl⟩) (by assumption) ?_
    try simp only [Act.put,sQ,tQ,vQ]
    refine wpAnyH_take (i:=7) (oi:=⟨some 25,.call ⟨.value (.func 100),#[.tmp 24],#[49]⟩,3, "l07_term.go:86",#[⟨6,.data⟩,⟨2,.chain⟩,⟨2,.guard⟩],some (2,true)⟩) (v:=undef) rfl (by kernel_rfl) (by kernel_rfl) (by kernel_rfl) (fun _ _ _ h=>h) (Or.inr ⟨by rfl,rfl⟩) (by assumption) ?_
    try simp only [Act.put,sQ,tQ,vQ]
    refine wpAnyH_take (i:=8) (oi:=⟨some 26,.binOp .eql 3 (.tmp 23) (.tmp 25) 3,4, "l07_term.go:86",#[⟨5,.data⟩,⟨7,.data⟩,⟨2,.guard⟩],some (2,true)⟩) (v:=undef) rfl (by kernel_rfl) (by kernel_rfl) (by kernel_rfl) (fun _ _ _ h=>h) (Or.inr ⟨by rfl,rfl⟩) (by assumption) ?_
    try simp only [Act.put,sQ,tQ,vQ]
    refine wpAnyH_take (i:=9) (oi:=⟨some 27,.pick (.tmp 20) (.tmp 26) (.const (.bool false)),4, "l07_term.go:86",#[⟨2,.data⟩,⟨8,.data⟩],none⟩) (v:=?v9) rfl (by kernel_rfl) (by kernel_rfl) (by kernel_rfl) (fun _ _ _ h=>h) (Or.inl ⟨by rfl,?y9⟩) (by assumption) ?r9
    case y9=>(intro w' hSw;(try dsimp only at hSw);go_simp;all_goals with_reducible rfl)
    try simp only [Act.put,sQ,tQ,vQ]
    refine wpAnyH_take (i:=10) (oi:=⟨some 2,.assign (.tmp 27),4, "l07_term.go:86",#[⟨9,.data⟩,⟨7,.chain⟩,⟨0,.phase⟩,⟨1,.phase⟩,⟨2,.phase⟩,⟨3,.phase⟩,⟨4,.phase⟩,⟨5,.phase⟩,⟨6,.phase⟩,⟨7,.phase⟩,⟨8,.phase⟩,⟨9,.phase⟩],none⟩) (v:=?v10) rfl (by kernel_rfl) (by kernel_rfl) (by kernel_rfl) (fun _ _ _ h=>h) (Or.inl ⟨by rfl,?y10⟩) (by assumption) ?r10
    case y10=>(intro w' hSw;(try dsimp only at hSw);go_simp;all_goals with_reducible rfl)
    try simp only [Act.put,sQ,tQ,vQ]
    refine wpAnyH_done (by kernel_rfl) ?_ _;refine NoPanic.normal ?_;go_wp2_with fail;go_ret;exact HG.out
   | true=>
    rw [hf] at HC;have HAR:Hid (∀ W,Calls Tryz.prog 100 #[.agg #[.int .i64 a.kind,.string a.name,.int .i64 a.num,.int .i64 a.type.top.kind,.slice TL a.type.top.labels.length tc,.slice TA a.type.kids.length td,.slice L a.labels.length c,.slice A ks.length d]] W (Zvj a.kind a.name a.labels.length W)):=hQ (fun W=>Zqg a.kind a.num a.type.top.kind a.name TL TA L A a.type.top.labels.length tc a.type.kids.length td a.labels.length c ks.length d W);have HF:Hid (∀ w3,Below w.heap.size w w3->Truth N w (.returned (.bool ((ks.length:Int) == arN a.kind a.name a.labels.length))) w3):=hQ (fun w3 hB=>by
     have e:((ks.length:Int) == arN a.kind a.name a.labels.length)=decide ((ks.length:Int)=arN a.kind a.name a.labels.length):=by
      by_cases h:(ks.length:Int)=arN a.kind a.name a.labels.length
      ·rw [decide_eq_true h,<-h];simp
      ·rw [decide_eq_false h];simp [h]
     rw [e];exact Zag (by rw [HE.out];unfold nodeE;rw [hf];rfl) hB)
    obtain ⟨ar,har⟩:∃ ar,arN a.kind a.name a.labels.length=ar:=⟨_,rfl⟩;have HAR2:Hid (∀ W,Calls Tryz.prog 100 #[.agg #[.int .i64 a.kind,.string a.name,.int .i64 a.num,.int .i64 a.type.top.kind,.slice TL a.type.top.labels.length tc,.slice TA a.type.kids.length td,.slice L a.labels.length c,.slice A ks.length d]] W (fun e w'=>e=.returned (.int .i64 ar)/\Below W.heap.size W w')):=hQ (fun W=>(HAR.out W).mono fun e w' ⟨h1,h2⟩=>⟨by rw [h1,har],h2⟩);rw [har] at HF;clear hf har HAR;go_wp2_with fail;go_region_held3 (fun W=>W.cell? ⟨H,0,none⟩=some (.int .i64 a.kind)/\W.cell? ⟨H,1,none⟩=some (.string a.name)/\W.cell? ⟨H,2,none⟩=some (.int .i64 a.num)/\W.cell? ⟨H,3,none⟩=some (.int .i64 a.type.top.kind)/\W.cell? ⟨H,4,none⟩=some (.slice TL a.type.top.labels.length tc)/\W.cell? ⟨H,5,none⟩=some (.slice TA a.type.kids.length td)/\W.cell? ⟨H,6,none⟩=some (.slice L a.labels.length c)/\W.cell? ⟨H,7,none⟩=some (.slice A ks.length d))
     (first | (refine ⟨?_,?_,?_,?_,?_,?_,?_,?_⟩ <;> assumption) | go_keep)
     (first
      | (go_at_call 100;refine (HAR2.out w2).mono ?_;rintro e w3 ⟨rfl,hb3⟩;have b3:=B2.out.under hb3 B2.out.lt;have v0:=b3.c0;have v1:=b3.c1;have v2:=b3.c2;have v3:=b3.c3;have v4:=b3.c4;have v5:=b3.c5;have v6:=b3.c6;have v7:=b3.c7;have HG:=hQ (HF.out w3 (HB2.out.trans (hb3.mono HB2.out.size)));clear hb3 b3)
      | (go_at_call 99;refine HC.out.mono ?_;rintro e w2 ⟨rfl,hb2⟩;have HB2:=hQ (HBD.out.trans (hb2.mono HBD.out.size));have B2:=hQ (BD.out.under hb2 BD.out.lt);have y0:=B2.out.c0;have y1:=B2.out.c1;have y2:=B2.out.c2;have y3:=B2.out.c3;have y4:=B2.out.c4;have y5:=B2.out.c5;have y6:=B2.out.c6;have y7:=B2.out.c7;clear hb2))
    go_wp2_with fail
    go_ret
    exact HG.out
theorem Zlf (t:Te)(w:World)(cs:List Value)(h:RTe w t cs)(hw:wte t<=1048576):Calls Tryz.prog 31 #[.agg cs.toArray] w (Truth (Zcx t) w):=by
 have hs:t.size<=1048577:=by have:=Znh t;omega
 obtain ⟨c0,c1,c2,c3,c4,c5,c6,c7,rfl⟩:=h.eight;obtain ⟨W1,hW1⟩:∃ W1,w.alloc (.cells #[c0,c1,c2,c3,c4,c5,c6,c7] 49)=W1:=⟨_,rfl⟩;obtain ⟨H,hH⟩:∃ H,w.heap.size=H:=⟨_,rfl⟩;have b0:Box8 W1 H 49 c0 c1 c2 c3 c4 c5 c6 c7:=by rw [<-hW1,<-hH];exact Box8.new w _ _ _ _ _ _ _ _ _
 have hb1:Below w.heap.size w W1:=by rw [<-hW1];exact bQ.alloc nQ _
 have HC:=hQ (Ztw t W1 _ 60 (h.keep hb1) (by decide) (by decide));have HD:=hQ (fun W (hB:Below w.heap.size w W)=>Zld t W _ (h.keep hB) hs);have HH:=hQ (fun W (hB:Below w.heap.size w W)=>Ztv t W _ (h.keep hB) hw);have hV:Zcx t=(decide (t.size<=60) && (decide (t.deep<=16) && t.formE)):=rfl;obtain ⟨N,hN⟩:∃ N,Zcx t=N:=⟨_,rfl⟩;rw [hN] at hV ⊢;have HV:=hQ hV;have HW1:=hQ hW1;have HB1:=hQ hb1;have B0:=hQ b0;have x0:=b0.c0;have x1:=b0.c1;have x2:=b0.c2;have x3:=b0.c3;have x4:=b0.c4;have x5:=b0.c5;have x6:=b0.c6;have x7:=b0.c7;clear h hw b0 hb1 hW1 hN hV hs;go_enter Tryz.func31,Tryz.ntmps31;go_wp2_with fail;rw [HW1.out];go_wp2_with fail;refine HC.out.mono ?_;rintro e w2 ⟨r,rfl,r1,r2,r3,r4,hb⟩;have HB3:=hQ (HB1.out.trans (hb.mono HB1.out.size));have D0:=hQ (B0.out.under hb B0.out.lt);clear x0 x1 x2 x3 x4 x5 x6 x7 hb HC;by_cases hr:0<=r
 ·have HV3:Hid (N=(decide (t.deep<=16) && t.formE)):=by
   show _=_
   have:=r3 hr
   rw [HV.out,decide_eq_true (show t.size<=60 by omega),Bool.true_and]
  have HC:=hQ (HD.out w2 HB3.out);have x0:=D0.out.c0;have x1:=D0.out.c1;have x2:=D0.out.c2;have x3:=D0.out.c3;have x4:=D0.out.c4;have x5:=D0.out.c5;have x6:=D0.out.c6;have x7:=D0.out.c7;clear HV HD r3 r4;obtain ⟨dp,hdp⟩:∃ dp,t.deep=dp:=⟨_,rfl⟩;rw [hdp] at HC HV3;clear hdp;go_wp2_with fail;refine HC.out.mono ?_;rintro e w3 ⟨rfl,hb⟩;have HB4:=hQ (HB3.out.trans (hb.mono HB3.out.size));have E0:=hQ (D0.out.under hb D0.out.lt);clear x0 x1 x2 x3 x4 x5 x6 x7 hb HC;by_cases hd:dp<=16
  ·have HV4:Hid (N=t.formE):=by show _=_;rw [HV3.out,decide_eq_true hd,Bool.true_and]
   have hd':(dp:Int)<=16:=by omega
   have HC:=hQ (HH.out w3 HB4.out);have x0:=E0.out.c0;have x1:=E0.out.c1;have x2:=E0.out.c2;have x3:=E0.out.c3;have x4:=E0.out.c4;have x5:=E0.out.c5;have x6:=E0.out.c6;have x7:=E0.out.c7;clear HV3 HH;go_wp2_with fail;refine HC.out.mono ?_;rintro e w4 ⟨rfl,hb⟩;have HR:Hid (Truth N w (.returned (.bool t.formE)) w4):=Zag HV4.out (HB4.out.trans (hb.mono HB4.out.size));clear hb;go_wp2_with fail;go_ret;exact HR.out
  ·have HR:Hid (Truth N w (.returned (.bool false)) w3):=Zag (by rw [HV3.out,decide_eq_false hd];rfl) HB4.out
   have hd':¬ (dp:Int)<=16:=by omega
   clear HV3;go_wp2_with fail;go_ret;exact HR.out
 ·have HR:Hid (Truth N w (.returned (.bool false)) w2):=by
   have:=r4 (by omega)
   exact Zag (by rw [HV.out,decide_eq_false (show ¬ t.size<=60 by omega)];rfl) HB3.out
  clear r3 r4;go_wp2_with fail;go_ret;exact HR.out
end Go.Proofs.YtlcedleebbgebaaGreatDoor
