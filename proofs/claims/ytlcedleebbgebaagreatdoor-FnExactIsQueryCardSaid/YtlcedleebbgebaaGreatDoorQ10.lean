/-
  Merged by program: TeNode, TeFieldsD, TeFieldsOp, TeFieldsLam, TeFieldsEmp, TeFieldsRec, TeFieldsInt.
-/
import Derived.Test.YtlcedleebbgebaaGreatDoorQ9
set_option maxRecDepth 100000
set_option maxHeartbeats 3200000
namespace Go.Proofs.YtlcedleebbgebaaGreatDoor
open Go.RowKit
def nmB (p:Int):Bool:=decide (p=1∨p=6∨p=10∨p=12∨p=13)
def arN (p:Int)(s:ByteArray)(l:Nat):Int:=
 if p=1∨p=2∨p=3∨p=7∨p=12 then 0 else if p=4 then arB s else if p=5 then l else if p=6∨p=8∨p=13∨p=15∨p=16 then 1 else if p=9∨p=10∨p=14 then 2 else if p=11 then 3 else -1
theorem Zqh (p:Int)(w:World):Calls Tryz.prog 123 #[.int .i64 p] w (Says (nmB p) w):=by
 by_cases e1:p=1
 ·subst e1
  go_enter Tryz.func123,Tryz.ntmps123
  go_wp2_with fail
  go_ret
  exact ⟨rfl,rfl⟩
 by_cases e6:p=6
 ·subst e6
  go_enter Tryz.func123,Tryz.ntmps123
  go_wp2_with fail
  go_ret
  exact ⟨rfl,rfl⟩
 by_cases e10:p=10
 ·subst e10
  go_enter Tryz.func123,Tryz.ntmps123
  go_wp2_with fail
  go_ret
  exact ⟨rfl,rfl⟩
 by_cases e12:p=12
 ·subst e12
  go_enter Tryz.func123,Tryz.ntmps123
  go_wp2_with fail
  go_ret
  exact ⟨rfl,rfl⟩
 by_cases e13:p=13
 ·subst e13
  go_enter Tryz.func123,Tryz.ntmps123
  go_wp2_with fail
  go_ret
  exact ⟨rfl,rfl⟩
 have HV:Hid (Says (nmB p) w (.returned (.bool false)) w):=hQ ⟨by unfold nmB;rw [decide_eq_false (by omega)],rfl⟩;have f1:(p == 1)=false:=by simp [e1]
 have f6:(p == 6)=false:=by simp [e6]
 have f10:(p == 10)=false:=by simp [e10]
 have f12:(p == 12)=false:=by simp [e12]
 have f13:(p == 13)=false:=by simp [e13]
 clear e1 e6 e10 e12 e13;go_enter Tryz.func123,Tryz.ntmps123;go_wp2_with fail;go_ret;exact HV.out
def Zvj (p:Int)(s:ByteArray)(l:Nat)(w:World)(e:Ending)(w':World):Prop:=e=.returned (.int .i64 (arN p s l))/\Below w.heap.size w w'
theorem Zqg (p q tk:Int)(s:ByteArray)(TL TA L A:Option Addr)(tl tc ta td l c m d:Nat)(w:World):Calls Tryz.prog 100 #[.agg #[.int .i64 p,.string s,.int .i64 q,.int .i64 tk,.slice TL tl tc,.slice TA ta td,.slice L l c,.slice A m d]] w (Zvj p s l w):=by
 obtain ⟨W1,hW1⟩:∃ W1,w.alloc (.cells #[.int .i64 p,.string s,.int .i64 q,.int .i64 tk,.slice TL tl tc,.slice TA ta td,.slice L l c,.slice A m d] 49)=W1:=⟨_,rfl⟩;obtain ⟨H,hH⟩:∃ H,w.heap.size=H:=⟨_,rfl⟩;have hb1:Below w.heap.size w W1:=by rw [<-hW1];exact bQ.alloc nQ _
 have hbx:Box8 W1 H 49 (.int .i64 p) (.string s) (.int .i64 q) (.int .i64 tk) (.slice TL tl tc) (.slice TA ta td) (.slice L l c) (.slice A m d):=by rw [<-hW1,<-hH];exact Box8.new w _ _ _ _ _ _ _ _ _
 have HA:=hQ (Zhs s W1);have HR:Hid (∀ k,k=arN p s l->Zvj p s l w (.returned (.int .i64 k)) W1):=hQ (fun k hk=>⟨by rw [hk],hb1⟩);have HW1:=hQ hW1;have x0:=hbx.c0;have x1:=hbx.c1;have x6:=hbx.c6;clear hW1 hb1 hbx;by_cases e1:p=1
 ·subst e1
  have HF:=hQ (HR.out 0 (by simp [arN]));clear HR HA;go_enter Tryz.func100,Tryz.ntmps100;go_wp2_with fail;rw [HW1.out];go_wp2_with fail;go_ret;exact HF.out
 by_cases e2:p=2
 ·subst e2
  have HF:=hQ (HR.out 0 (by simp [arN]));clear HR HA;go_enter Tryz.func100,Tryz.ntmps100;go_wp2_with fail;rw [HW1.out];go_wp2_with fail;go_ret;exact HF.out
 by_cases e3:p=3
 ·subst e3
  have HF:=hQ (HR.out 0 (by simp [arN]));clear HR HA;go_enter Tryz.func100,Tryz.ntmps100;go_wp2_with fail;rw [HW1.out];go_wp2_with fail;go_ret;exact HF.out
 by_cases e4:p=4
 ·subst e4
  have HF:=hQ (HR.out (arB s) (by simp [arN]));clear HR;go_enter Tryz.func100,Tryz.ntmps100;go_wp2_with fail;rw [HW1.out];go_wp2_with fail;refine HA.out.mono ?_;rintro e w2 ⟨rfl,rfl⟩;go_wp2_with fail;go_ret;exact HF.out
 by_cases e5:p=5
 ·subst e5
  have HF:=hQ (HR.out (l:Int) (by simp [arN]));clear HR HA;go_enter Tryz.func100,Tryz.ntmps100;go_wp2_with fail;rw [HW1.out];go_wp2_with fail;go_ret;exact HF.out
 by_cases e6:p=6
 ·subst e6
  have HF:=hQ (HR.out 1 (by simp [arN]));clear HR HA;go_enter Tryz.func100,Tryz.ntmps100;go_wp2_with fail;rw [HW1.out];go_wp2_with fail;go_ret;exact HF.out
 by_cases e7:p=7
 ·subst e7
  have HF:=hQ (HR.out 0 (by simp [arN]));clear HR HA;go_enter Tryz.func100,Tryz.ntmps100;go_wp2_with fail;rw [HW1.out];go_wp2_with fail;go_ret;exact HF.out
 by_cases e8:p=8
 ·subst e8
  have HF:=hQ (HR.out 1 (by simp [arN]));clear HR HA;go_enter Tryz.func100,Tryz.ntmps100;go_wp2_with fail;rw [HW1.out];go_wp2_with fail;go_ret;exact HF.out
 by_cases e9:p=9
 ·subst e9
  have HF:=hQ (HR.out 2 (by simp [arN]));clear HR HA;go_enter Tryz.func100,Tryz.ntmps100;go_wp2_with fail;rw [HW1.out];go_wp2_with fail;go_ret;exact HF.out
 by_cases e10:p=10
 ·subst e10
  have HF:=hQ (HR.out 2 (by simp [arN]));clear HR HA;go_enter Tryz.func100,Tryz.ntmps100;go_wp2_with fail;rw [HW1.out];go_wp2_with fail;go_ret;exact HF.out
 by_cases e11:p=11
 ·subst e11
  have HF:=hQ (HR.out 3 (by simp [arN]));clear HR HA;go_enter Tryz.func100,Tryz.ntmps100;go_wp2_with fail;rw [HW1.out];go_wp2_with fail;go_ret;exact HF.out
 by_cases e12:p=12
 ·subst e12
  have HF:=hQ (HR.out 0 (by simp [arN]));clear HR HA;go_enter Tryz.func100,Tryz.ntmps100;go_wp2_with fail;rw [HW1.out];go_wp2_with fail;go_ret;exact HF.out
 by_cases e13:p=13
 ·subst e13
  have HF:=hQ (HR.out 1 (by simp [arN]));clear HR HA;go_enter Tryz.func100,Tryz.ntmps100;go_wp2_with fail;rw [HW1.out];go_wp2_with fail;go_ret;exact HF.out
 by_cases e14:p=14
 ·subst e14
  have HF:=hQ (HR.out 2 (by simp [arN]));clear HR HA;go_enter Tryz.func100,Tryz.ntmps100;go_wp2_with fail;rw [HW1.out];go_wp2_with fail;go_ret;exact HF.out
 by_cases e15:p=15
 ·subst e15
  have HF:=hQ (HR.out 1 (by simp [arN]));clear HR HA;go_enter Tryz.func100,Tryz.ntmps100;go_wp2_with fail;rw [HW1.out];go_wp2_with fail;go_ret;exact HF.out
 by_cases e16:p=16
 ·subst e16
  have HF:=hQ (HR.out 1 (by simp [arN]));clear HR HA;go_enter Tryz.func100,Tryz.ntmps100;go_wp2_with fail;rw [HW1.out];go_wp2_with fail;go_ret;exact HF.out
 have HF:=hQ (HR.out (-1) (by simp [arN,e1,e2,e3,e4,e5,e6,e7,e8,e9,e10,e11,e12,e13,e14,e15,e16]));have f1:(p == 1)=false:=by simp [e1]
 have f2:(p == 2)=false:=by simp [e2]
 have f3:(p == 3)=false:=by simp [e3]
 have f4:(p == 4)=false:=by simp [e4]
 have f5:(p == 5)=false:=by simp [e5]
 have f6:(p == 6)=false:=by simp [e6]
 have f7:(p == 7)=false:=by simp [e7]
 have f8:(p == 8)=false:=by simp [e8]
 have f9:(p == 9)=false:=by simp [e9]
 have f10:(p == 10)=false:=by simp [e10]
 have f11:(p == 11)=false:=by simp [e11]
 have f12:(p == 12)=false:=by simp [e12]
 have f13:(p == 13)=false:=by simp [e13]
 have f14:(p == 14)=false:=by simp [e14]
 have f15:(p == 15)=false:=by simp [e15]
 have f16:(p == 16)=false:=by simp [e16]
 clear HR HA e1 e2 e3 e4 e5 e6 e7 e8 e9 e10 e11 e12 e13 e14 e15 e16;go_enter Tryz.func100,Tryz.ntmps100;go_wp2_with fail;rw [HW1.out];go_wp2_with fail;go_ret;exact HF.out
def tyB (p:Int):Bool:=decide (p=7∨p=13)
def Zct (p:Int)(ar:Int)(nm:Bool)(z:Bool):Bool:=if p=4 then !(decide (ar=0)) else (nmB p == nm) && (nmB p || z)
def Zdi (p:Int)(v:Bool)(tk:Int)(tl ta:Nat):Bool:=(tyB p == v) && (tyB p || (decide (tk=0) && (decide (tl=0) && decide (ta=0))))
def labOk (p:Int)(lb:Bool)(l:Nat):Bool:=if p=5 then lb else decide (l=0)
def mostN (p:Int):Int:=if p=2 then 999 else if p=3 then 1 else 0
def numOk (p q:Int):Bool:=decide (0<=q) && decide (q<=mostN p)
def Zdb (a:TeA):Bool:=Zct a.kind (arB a.name) (nameB a.name) (a.name.toList == []) && (Zdi a.kind (Zae a.type) a.type.top.kind a.type.top.labels.length a.type.kids.length && (labOk a.kind (labB a.labels) a.labels.length && numOk a.kind a.num))
theorem Zxi (ar:Int)(nm z:Bool):Zct 4 ar nm z=!(decide (ar=0)):=by unfold Zct;rw [if_pos rfl]
theorem Ziq {p:Int}(h:nmB p=true)(h4:p≠4)(ar:Int)(nm z:Bool):Zct p ar nm z=nm:=by unfold Zct;rw [if_neg h4,h];cases nm <;> rfl
theorem Zfq {p:Int}(h:nmB p=false)(h4:p≠4)(ar:Int)(nm z:Bool):Zct p ar nm z=(!nm && z):=by unfold Zct;rw [if_neg h4,h];cases nm <;> rfl
theorem Zmg {p:Int}(h:tyB p=true)(v:Bool)(tk:Int)(tl ta:Nat):Zdi p v tk tl ta=v:=by unfold Zdi;rw [h];cases v <;> rfl
theorem Zeu {p:Int}(h:tyB p=false)(v:Bool)(tk:Int)(tl ta:Nat):Zdi p v tk tl ta=(!v && (decide (tk=0) && (decide (tl=0) && decide (ta=0)))):=by unfold Zdi;rw [h];cases v <;> rfl
theorem Zxb (lb:Bool)(l:Nat):labOk 5 lb l=lb:=by unfold labOk;rw [if_pos rfl]
theorem Zfb {p:Int}(h:p≠5)(lb:Bool)(l:Nat):labOk p lb l=decide (l=0):=by unfold labOk;rw [if_neg h]
theorem Zij {f:Nat}{args:Array Value}{b:Bool}{W:World}(h:Calls Tryz.prog f args W (Says b W)):Calls Tryz.prog f args W fun e w'=>e=.returned (.bool b)/\w'=W:=h.mono fun _ _ ⟨h1,h2⟩=>⟨h1,h2.symm⟩
structure Zby (W1:World) (p q tk:Int) (s:ByteArray) (TL TA L A:Option Addr) (tl tc ta td l c m d H:Nat) (ar:Int) (nm v lb:Bool):Prop where
 box:∀ W,Below W1.heap.size W1 W->Box8 W H 49 (.int .i64 p) (.string s) (.int .i64 q) (.int .i64 tk) (.slice TL tl tc) (.slice TA ta td) (.slice L l c) (.slice A m d)
 arity:∀ W,Calls Tryz.prog 122 #[.string s] W (fun e w'=>e=.returned (.int .i64 ar)/\w'=W)
 named:∀ W,Calls Tryz.prog 123 #[.int .i64 p] W (fun e w'=>e=.returned (.bool (nmB p))/\w'=W)
 name:∀ W,Calls Tryz.prog 61 #[.string s] W (fun e w'=>e=.returned (.bool nm)/\w'=W)
 type:∀ W,Below W1.heap.size W1 W->Calls Tryz.prog 64 #[.agg #[.int .i64 tk,.slice TL tl tc,.slice TA ta td]] W (Truth v W)
 labels:∀ W,Below W1.heap.size W1 W->Calls Tryz.prog 121 #[.slice L l c] W (Truth lb W)
 inside:∀ hi W,Calls Tryz.prog 93 #[.int .i64 q,.int .i64 0,.int .i64 hi] W (fun e w'=>e=.returned (.bool (decide (0<=q) && decide (q<=hi)))/\w'=W)
theorem Zwj {w W1:World}{q tk:Int}{s:ByteArray}{TL TA L A:Option Addr}{tl tc ta td l c m d H:Nat}{ar:Int}{nm v lb N:Bool}(hc:Zby W1 4 q tk s TL TA L A tl tc ta td l c m d H ar nm v lb)
  (hW1:w.alloc (.cells #[.int .i64 4,.string s,.int .i64 q,.int .i64 tk,.slice TL tl tc,.slice TA ta td,.slice L l c,.slice A m d] 49)=W1) (hb1:Below w.heap.size w W1) (hV:N=(Zct 4 ar nm (s.toList == []) && (Zdi 4 v tk tl ta && (labOk 4 lb l && numOk 4 q)))) (hH:w.heap.size=H) :
  Calls Tryz.prog 99 #[.agg #[.int .i64 4,.string s,.int .i64 q,.int .i64 tk,.slice TL tl tc,.slice TA ta td,.slice L l c,.slice A m d]] w (Truth N w):=by
 subst hH;rw [Zxi] at hV;rw [Zeu (by decide)] at hV;rw [Zfb (by decide)] at hV;have hM:mostN 4=0:=by decide
 unfold numOk at hV;rw [hM] at hV;have HV:=hQ hV;have HR:Hid (∀ (b:Bool) W,b=N->Below W1.heap.size W1 W->Truth N w (.returned (.bool b)) W):=hQ (fun b W hb hB=>⟨by rw [hb],hb1.trans (hB.mono hb1.size)⟩);have HB1:=hQ hb1;have HC:=hQ hc;have HW1:=hQ hW1;have bx:=hc.box W1 bQ;have x0:=bx.c0;have x1:=bx.c1;clear hc hW1 hb1 hV hM bx;have HO:=hQ (HC.out.arity W1);by_cases a0:ar=0
 ·subst a0
  go_enter Tryz.func99,Tryz.ntmps99
  go_wp2_with fail
  rw [HW1.out];go_wp2_with fail;refine HO.out.mono ?_;rintro e w2 ⟨rfl,hw2⟩;rw [hw2];clear hw2;have HF:=hQ (HR.out false W1 (by rw [HV.out];rfl) bQ);go_wp2_with fail;go_ret;exact HF.out
 ·have a1:(ar == 0)=false:=by simp [a0]
  rw [decide_eq_false a0] at HV;go_enter Tryz.func99,Tryz.ntmps99;go_wp2_with fail;rw [HW1.out];go_wp2_with fail;refine HO.out.mono ?_;rintro e w2 ⟨rfl,hw2⟩;rw [hw2];clear hw2;clear HO a0;have bx:=HC.out.box W1 bQ;have z0:=bx.c0;have z3:=bx.c3;have z4:=bx.c4;have z5:=bx.c5;have HT:=hQ (HC.out.type W1 bQ);have HBW:Hid (Below W1.heap.size W1 W1):=hQ bQ;clear bx;go_wp2_with fail;refine HT.out.mono ?_;rintro e w4 ⟨rfl,hb4⟩;have HB4:=hQ (HBW.out.trans (hb4.mono HBW.out.size));have by4:=HC.out.box w4 HB4.out;have y0:=by4.c0;have y2:=by4.c2;have y3:=by4.c3;have y4:=by4.c4;have y5:=by4.c5;have y6:=by4.c6;clear hb4 by4 z0 z3 z4 z5 HT;cases v with
  | true=>
   have HF:=hQ (HR.out false w4 (by rw [HV.out];rfl) HB4.out);go_wp2_with fail;go_ret;exact HF.out
  | false=>
   by_cases t0:tk=0
   ·subst t0
    by_cases t1:tl=0
    ·subst t1
     by_cases t2:ta=0
     ·subst t2
      by_cases l0:l=0
      ·subst l0
       have HIN:=hQ (HC.out.inside 0 w4);have HE:Hid (∀ b,b=(decide (0<=q) && decide (q<=0))->Truth N w (.returned (.bool b)) w4):=hQ (fun b hb=>HR.out b w4 (by rw [hb,HV.out];simp) HB4.out);generalize (decide (0<=q) && decide (q<=0))=bb at HIN HE;go_wp2_with fail;refine HIN.out.mono ?_;rintro e w6 ⟨rfl,hw6⟩;have HF:=hQ (HE.out _ rfl);rw [<-hw6] at HF;clear hw6;go_wp2_with fail;go_ret;exact HF.out
      ·have u6:(0:Int) < (l:Int):=by omega
       have HF:=hQ (HR.out false w4 (by rw [HV.out];simp [l0]) HB4.out);go_wp2_with fail;go_ret;exact HF.out
     ·have u2:(0:Int) < (ta:Int):=by omega
      have HF:=hQ (HR.out false w4 (by rw [HV.out];simp [t2]) HB4.out);go_wp2_with fail;go_ret;exact HF.out
    ·have u1:(0:Int) < (tl:Int):=by omega
     have HF:=hQ (HR.out false w4 (by rw [HV.out];simp [t1]) HB4.out);go_wp2_with fail;go_ret;exact HF.out
   ·have u0:(tk == 0)=false:=by simp [t0]
    have HF:=hQ (HR.out false w4 (by rw [HV.out];simp [t0]) HB4.out);go_wp2_with fail;go_ret;exact HF.out
theorem Ztg {w W1:World}{q tk:Int}{s:ByteArray}{TL TA L A:Option Addr}{tl tc ta td l c m d H:Nat}{ar:Int}{nm v lb N:Bool}(hc:Zby W1 13 q tk s TL TA L A tl tc ta td l c m d H ar nm v lb)
  (hW1:w.alloc (.cells #[.int .i64 13,.string s,.int .i64 q,.int .i64 tk,.slice TL tl tc,.slice TA ta td,.slice L l c,.slice A m d] 49)=W1) (hb1:Below w.heap.size w W1) (hV:N=(Zct 13 ar nm (s.toList == []) && (Zdi 13 v tk tl ta && (labOk 13 lb l && numOk 13 q)))) (hH:w.heap.size=H) :
  Calls Tryz.prog 99 #[.agg #[.int .i64 13,.string s,.int .i64 q,.int .i64 tk,.slice TL tl tc,.slice TA ta td,.slice L l c,.slice A m d]] w (Truth N w):=by
 subst hH;rw [Ziq (by decide) (by decide)] at hV;rw [Zmg (by decide)] at hV;rw [Zfb (by decide)] at hV;have hM:mostN 13=0:=by decide
 unfold numOk at hV;rw [hM] at hV;have HV:=hQ hV;have HR:Hid (∀ (b:Bool) W,b=N->Below W1.heap.size W1 W->Truth N w (.returned (.bool b)) W):=hQ (fun b W hb hB=>⟨by rw [hb],hb1.trans (hB.mono hb1.size)⟩);have HB1:=hQ hb1;have HC:=hQ hc;have HW1:=hQ hW1;have bx:=hc.box W1 bQ;have x0:=bx.c0;have x1:=bx.c1;have HNM:Hid (∀ W,Calls Tryz.prog 123 #[.int .i64 13] W (fun e w'=>e=.returned (.bool true)/\w'=W)):=hQ (fun W=>by have h:=hc.named W;rw [show nmB 13=true by decide] at h;exact h);clear hc hW1 hb1 hV hM bx;cases nm with
 | false=>
  go_enter Tryz.func99,Tryz.ntmps99
  go_wp2_with fail
  rw [HW1.out];go_wp2_with fail;go_quiet (first | (go_at_call 123;exact Calls.quiet_of_same (HNM.out _)) | (go_at_call 61;exact Calls.quiet_of_same (HC.out.name _)));have HF:=hQ (HR.out false (W1.drewN nq) (by rw [HV.out];rfl) (Zab bQ nq));go_wp2_with fail;go_ret;exact HF.out
 | true=>
  go_enter Tryz.func99,Tryz.ntmps99
  go_wp2_with fail
  rw [HW1.out];go_wp2_with fail;go_quiet (first | (go_at_call 123;exact Calls.quiet_of_same (HNM.out _)) | (go_at_call 61;exact Calls.quiet_of_same (HC.out.name _)));have bx:=HC.out.box (W1.drewN nq) (Zab bQ nq);have z0:=bx.c0;have z3:=bx.c3;have z4:=bx.c4;have z5:=bx.c5;have HT:=hQ (HC.out.type (W1.drewN nq) (Zab bQ nq));have HBW:Hid (Below W1.heap.size W1 (W1.drewN nq)):=hQ (Zab bQ nq);clear bx;go_wp2_with fail;refine HT.out.mono ?_;rintro e w4 ⟨rfl,hb4⟩;have HB4:=hQ (HBW.out.trans (hb4.mono HBW.out.size));have by4:=HC.out.box w4 HB4.out;have y0:=by4.c0;have y2:=by4.c2;have y3:=by4.c3;have y4:=by4.c4;have y5:=by4.c5;have y6:=by4.c6;clear hb4 by4 z0 z3 z4 z5 HT;cases v with
  | false=>
   have HF:=hQ (HR.out false w4 (by rw [HV.out];rfl) HB4.out);go_wp2_with fail;go_ret;exact HF.out
  | true=>
   by_cases l0:l=0
   ·subst l0
    have HIN:=hQ (HC.out.inside 0 w4);have HE:Hid (∀ b,b=(decide (0<=q) && decide (q<=0))->Truth N w (.returned (.bool b)) w4):=hQ (fun b hb=>HR.out b w4 (by rw [hb,HV.out];simp) HB4.out);generalize (decide (0<=q) && decide (q<=0))=bb at HIN HE;go_wp2_with fail;refine HIN.out.mono ?_;rintro e w6 ⟨rfl,hw6⟩;have HF:=hQ (HE.out _ rfl);rw [<-hw6] at HF;clear hw6;go_wp2_with fail;go_ret;exact HF.out
   ·have u6:(0:Int) < (l:Int):=by omega
    have HF:=hQ (HR.out false w4 (by rw [HV.out];simp [l0]) HB4.out);go_wp2_with fail;go_ret;exact HF.out
theorem Zte {w W1:World}{q tk:Int}{s:ByteArray}{TL TA L A:Option Addr}{tl tc ta td l c m d H:Nat}{ar:Int}{nm v lb N:Bool}(hc:Zby W1 7 q tk s TL TA L A tl tc ta td l c m d H ar nm v lb)
  (hW1:w.alloc (.cells #[.int .i64 7,.string s,.int .i64 q,.int .i64 tk,.slice TL tl tc,.slice TA ta td,.slice L l c,.slice A m d] 49)=W1) (hb1:Below w.heap.size w W1) (hV:N=(Zct 7 ar nm (s.toList == []) && (Zdi 7 v tk tl ta && (labOk 7 lb l && numOk 7 q)))) (hH:w.heap.size=H) :
  Calls Tryz.prog 99 #[.agg #[.int .i64 7,.string s,.int .i64 q,.int .i64 tk,.slice TL tl tc,.slice TA ta td,.slice L l c,.slice A m d]] w (Truth N w):=by
 subst hH;rw [Zfq (by decide) (by decide)] at hV;rw [Zmg (by decide)] at hV;rw [Zfb (by decide)] at hV;have hM:mostN 7=0:=by decide
 unfold numOk at hV;rw [hM] at hV;have HV:=hQ hV;have HR:Hid (∀ (b:Bool) W,b=N->Below W1.heap.size W1 W->Truth N w (.returned (.bool b)) W):=hQ (fun b W hb hB=>⟨by rw [hb],hb1.trans (hB.mono hb1.size)⟩);have HB1:=hQ hb1;have HC:=hQ hc;have HW1:=hQ hW1;have bx:=hc.box W1 bQ;have x0:=bx.c0;have x1:=bx.c1;have HNM:Hid (∀ W,Calls Tryz.prog 123 #[.int .i64 7] W (fun e w'=>e=.returned (.bool false)/\w'=W)):=hQ (fun W=>by have h:=hc.named W;rw [show nmB 7=false by decide] at h;exact h);clear hc hW1 hb1 hV hM bx;cases nm with
 | true=>
  go_enter Tryz.func99,Tryz.ntmps99
  go_wp2_with fail
  rw [HW1.out];go_wp2_with fail;go_quiet (first | (go_at_call 123;exact Calls.quiet_of_same (HNM.out _)) | (go_at_call 61;exact Calls.quiet_of_same (HC.out.name _)));have HF:=hQ (HR.out false (W1.drewN nq) (by rw [HV.out];rfl) (Zab bQ nq));go_wp2_with fail;go_ret;exact HF.out
 | false=>
  cases nz:(s.toList == []) with
  | false=>
   rw [nz] at HV;go_enter Tryz.func99,Tryz.ntmps99;go_wp2_with fail;rw [HW1.out];go_wp2_with fail;go_quiet (first | (go_at_call 123;exact Calls.quiet_of_same (HNM.out _)) | (go_at_call 61;exact Calls.quiet_of_same (HC.out.name _)));have HF:=hQ (HR.out false (W1.drewN nq) (by rw [HV.out];rfl) (Zab bQ nq));go_wp2_with fail;go_ret;exact HF.out
  | true=>
   rw [nz] at HV;go_enter Tryz.func99,Tryz.ntmps99;go_wp2_with fail;rw [HW1.out];go_wp2_with fail;go_quiet (first | (go_at_call 123;exact Calls.quiet_of_same (HNM.out _)) | (go_at_call 61;exact Calls.quiet_of_same (HC.out.name _)));have bx:=HC.out.box (W1.drewN nq) (Zab bQ nq);have z0:=bx.c0;have z3:=bx.c3;have z4:=bx.c4;have z5:=bx.c5;have HT:=hQ (HC.out.type (W1.drewN nq) (Zab bQ nq));have HBW:Hid (Below W1.heap.size W1 (W1.drewN nq)):=hQ (Zab bQ nq);clear bx;go_wp2_with fail;refine HT.out.mono ?_;rintro e w4 ⟨rfl,hb4⟩;have HB4:=hQ (HBW.out.trans (hb4.mono HBW.out.size));have by4:=HC.out.box w4 HB4.out;have y0:=by4.c0;have y2:=by4.c2;have y3:=by4.c3;have y4:=by4.c4;have y5:=by4.c5;have y6:=by4.c6;clear hb4 by4 z0 z3 z4 z5 HT;cases v with
   | false=>
    have HF:=hQ (HR.out false w4 (by rw [HV.out];rfl) HB4.out);go_wp2_with fail;go_ret;exact HF.out
   | true=>
    by_cases l0:l=0
    ·subst l0
     have HIN:=hQ (HC.out.inside 0 w4);have HE:Hid (∀ b,b=(decide (0<=q) && decide (q<=0))->Truth N w (.returned (.bool b)) w4):=hQ (fun b hb=>HR.out b w4 (by rw [hb,HV.out];simp) HB4.out);generalize (decide (0<=q) && decide (q<=0))=bb at HIN HE;go_wp2_with fail;refine HIN.out.mono ?_;rintro e w6 ⟨rfl,hw6⟩;have HF:=hQ (HE.out _ rfl);rw [<-hw6] at HF;clear hw6;go_wp2_with fail;go_ret;exact HF.out
    ·have u6:(0:Int) < (l:Int):=by omega
     have HF:=hQ (HR.out false w4 (by rw [HV.out];simp [l0]) HB4.out);go_wp2_with fail;go_ret;exact HF.out
theorem Ztj {w W1:World}{q tk:Int}{s:ByteArray}{TL TA L A:Option Addr}{tl tc ta td l c m d H:Nat}{ar:Int}{nm v lb N:Bool}(hc:Zby W1 5 q tk s TL TA L A tl tc ta td l c m d H ar nm v lb)
  (hW1:w.alloc (.cells #[.int .i64 5,.string s,.int .i64 q,.int .i64 tk,.slice TL tl tc,.slice TA ta td,.slice L l c,.slice A m d] 49)=W1) (hb1:Below w.heap.size w W1) (hV:N=(Zct 5 ar nm (s.toList == []) && (Zdi 5 v tk tl ta && (labOk 5 lb l && numOk 5 q)))) (hH:w.heap.size=H) :
  Calls Tryz.prog 99 #[.agg #[.int .i64 5,.string s,.int .i64 q,.int .i64 tk,.slice TL tl tc,.slice TA ta td,.slice L l c,.slice A m d]] w (Truth N w):=by
 subst hH;rw [Zfq (by decide) (by decide)] at hV;rw [Zeu (by decide)] at hV;rw [Zxb] at hV;have hM:mostN 5=0:=by decide
 unfold numOk at hV;rw [hM] at hV;have HV:=hQ hV;have HR:Hid (∀ (b:Bool) W,b=N->Below W1.heap.size W1 W->Truth N w (.returned (.bool b)) W):=hQ (fun b W hb hB=>⟨by rw [hb],hb1.trans (hB.mono hb1.size)⟩);have HB1:=hQ hb1;have HC:=hQ hc;have HW1:=hQ hW1;have bx:=hc.box W1 bQ;have x0:=bx.c0;have x1:=bx.c1;have HNM:Hid (∀ W,Calls Tryz.prog 123 #[.int .i64 5] W (fun e w'=>e=.returned (.bool false)/\w'=W)):=hQ (fun W=>by have h:=hc.named W;rw [show nmB 5=false by decide] at h;exact h);clear hc hW1 hb1 hV hM bx;cases nm with
 | true=>
  go_enter Tryz.func99,Tryz.ntmps99
  go_wp2_with fail
  rw [HW1.out];go_wp2_with fail;go_quiet (first | (go_at_call 123;exact Calls.quiet_of_same (HNM.out _)) | (go_at_call 61;exact Calls.quiet_of_same (HC.out.name _)));have HF:=hQ (HR.out false (W1.drewN nq) (by rw [HV.out];rfl) (Zab bQ nq));go_wp2_with fail;go_ret;exact HF.out
 | false=>
  cases nz:(s.toList == []) with
  | false=>
   rw [nz] at HV;go_enter Tryz.func99,Tryz.ntmps99;go_wp2_with fail;rw [HW1.out];go_wp2_with fail;go_quiet (first | (go_at_call 123;exact Calls.quiet_of_same (HNM.out _)) | (go_at_call 61;exact Calls.quiet_of_same (HC.out.name _)));have HF:=hQ (HR.out false (W1.drewN nq) (by rw [HV.out];rfl) (Zab bQ nq));go_wp2_with fail;go_ret;exact HF.out
  | true=>
   rw [nz] at HV;go_enter Tryz.func99,Tryz.ntmps99;go_wp2_with fail;rw [HW1.out];go_wp2_with fail;go_quiet (first | (go_at_call 123;exact Calls.quiet_of_same (HNM.out _)) | (go_at_call 61;exact Calls.quiet_of_same (HC.out.name _)));have bx:=HC.out.box (W1.drewN nq) (Zab bQ nq);have z0:=bx.c0;have z3:=bx.c3;have z4:=bx.c4;have z5:=bx.c5;have HT:=hQ (HC.out.type (W1.drewN nq) (Zab bQ nq));have HBW:Hid (Below W1.heap.size W1 (W1.drewN nq)):=hQ (Zab bQ nq);clear bx;go_wp2_with fail;refine HT.out.mono ?_;rintro e w4 ⟨rfl,hb4⟩;have HB4:=hQ (HBW.out.trans (hb4.mono HBW.out.size));have by4:=HC.out.box w4 HB4.out;have y0:=by4.c0;have y2:=by4.c2;have y3:=by4.c3;have y4:=by4.c4;have y5:=by4.c5;have y6:=by4.c6;clear hb4 by4 z0 z3 z4 z5 HT;cases v with
   | true=>
    have HF:=hQ (HR.out false w4 (by rw [HV.out];rfl) HB4.out);go_wp2_with fail;go_ret;exact HF.out
   | false=>
    by_cases t0:tk=0
    ·subst t0
     by_cases t1:tl=0
     ·subst t1
      by_cases t2:ta=0
      ·subst t2
       have HL:=hQ (HC.out.labels w4 HB4.out);go_wp2_with fail;refine HL.out.mono ?_;rintro e w5 ⟨rfl,hb5⟩;have HB5:=hQ (HB4.out.trans (hb5.mono HB4.out.size));have by5:=HC.out.box w5 HB5.out;have v0:=by5.c0;have v2:=by5.c2;clear hb5 by5 y0 y2 y3 y4 y5 y6;cases lb with
       | false=>
        have HF:=hQ (HR.out false w5 (by rw [HV.out];rfl) HB5.out);go_wp2_with fail;go_ret;exact HF.out
       | true=>
        have HIN:=hQ (HC.out.inside 0 w5);have HE:Hid (∀ b,b=(decide (0<=q) && decide (q<=0))->Truth N w (.returned (.bool b)) w5):=hQ (fun b hb=>HR.out b w5 (by rw [hb,HV.out];simp) HB5.out);generalize (decide (0<=q) && decide (q<=0))=bb at HIN HE;go_wp2_with fail;refine HIN.out.mono ?_;rintro e w6 ⟨rfl,hw6⟩;have HF:=hQ (HE.out _ rfl);rw [<-hw6] at HF;clear hw6;go_wp2_with fail;go_ret;exact HF.out
      ·have u2:(0:Int) < (ta:Int):=by omega
       have HF:=hQ (HR.out false w4 (by rw [HV.out];simp [t2]) HB4.out);go_wp2_with fail;go_ret;exact HF.out
     ·have u1:(0:Int) < (tl:Int):=by omega
      have HF:=hQ (HR.out false w4 (by rw [HV.out];simp [t1]) HB4.out);go_wp2_with fail;go_ret;exact HF.out
    ·have u0:(tk == 0)=false:=by simp [t0]
     have HF:=hQ (HR.out false w4 (by rw [HV.out];simp [t0]) HB4.out);go_wp2_with fail;go_ret;exact HF.out
theorem Ztf {w W1:World}{q tk:Int}{s:ByteArray}{TL TA L A:Option Addr}{tl tc ta td l c m d H:Nat}{ar:Int}{nm v lb N:Bool}(hc:Zby W1 2 q tk s TL TA L A tl tc ta td l c m d H ar nm v lb)
  (hW1:w.alloc (.cells #[.int .i64 2,.string s,.int .i64 q,.int .i64 tk,.slice TL tl tc,.slice TA ta td,.slice L l c,.slice A m d] 49)=W1) (hb1:Below w.heap.size w W1) (hV:N=(Zct 2 ar nm (s.toList == []) && (Zdi 2 v tk tl ta && (labOk 2 lb l && numOk 2 q)))) (hH:w.heap.size=H) :
  Calls Tryz.prog 99 #[.agg #[.int .i64 2,.string s,.int .i64 q,.int .i64 tk,.slice TL tl tc,.slice TA ta td,.slice L l c,.slice A m d]] w (Truth N w):=by
 subst hH;rw [Zfq (by decide) (by decide)] at hV;rw [Zeu (by decide)] at hV;rw [Zfb (by decide)] at hV;have hM:mostN 2=999:=by decide
 unfold numOk at hV;rw [hM] at hV;have HV:=hQ hV;have HR:Hid (∀ (b:Bool) W,b=N->Below W1.heap.size W1 W->Truth N w (.returned (.bool b)) W):=hQ (fun b W hb hB=>⟨by rw [hb],hb1.trans (hB.mono hb1.size)⟩);have HB1:=hQ hb1;have HC:=hQ hc;have HW1:=hQ hW1;have bx:=hc.box W1 bQ;have x0:=bx.c0;have x1:=bx.c1;have HNM:Hid (∀ W,Calls Tryz.prog 123 #[.int .i64 2] W (fun e w'=>e=.returned (.bool false)/\w'=W)):=hQ (fun W=>by have h:=hc.named W;rw [show nmB 2=false by decide] at h;exact h);clear hc hW1 hb1 hV hM bx;cases nm with
 | true=>
  go_enter Tryz.func99,Tryz.ntmps99
  go_wp2_with fail
  rw [HW1.out];go_wp2_with fail;go_quiet (first | (go_at_call 123;exact Calls.quiet_of_same (HNM.out _)) | (go_at_call 61;exact Calls.quiet_of_same (HC.out.name _)));have HF:=hQ (HR.out false (W1.drewN nq) (by rw [HV.out];rfl) (Zab bQ nq));go_wp2_with fail;go_ret;exact HF.out
 | false=>
  cases nz:(s.toList == []) with
  | false=>
   rw [nz] at HV;go_enter Tryz.func99,Tryz.ntmps99;go_wp2_with fail;rw [HW1.out];go_wp2_with fail;go_quiet (first | (go_at_call 123;exact Calls.quiet_of_same (HNM.out _)) | (go_at_call 61;exact Calls.quiet_of_same (HC.out.name _)));have HF:=hQ (HR.out false (W1.drewN nq) (by rw [HV.out];rfl) (Zab bQ nq));go_wp2_with fail;go_ret;exact HF.out
  | true=>
   rw [nz] at HV;go_enter Tryz.func99,Tryz.ntmps99;go_wp2_with fail;rw [HW1.out];go_wp2_with fail;go_quiet (first | (go_at_call 123;exact Calls.quiet_of_same (HNM.out _)) | (go_at_call 61;exact Calls.quiet_of_same (HC.out.name _)));have bx:=HC.out.box (W1.drewN nq) (Zab bQ nq);have z0:=bx.c0;have z3:=bx.c3;have z4:=bx.c4;have z5:=bx.c5;have HT:=hQ (HC.out.type (W1.drewN nq) (Zab bQ nq));have HBW:Hid (Below W1.heap.size W1 (W1.drewN nq)):=hQ (Zab bQ nq);clear bx;go_wp2_with fail;refine HT.out.mono ?_;rintro e w4 ⟨rfl,hb4⟩;have HB4:=hQ (HBW.out.trans (hb4.mono HBW.out.size));have by4:=HC.out.box w4 HB4.out;have y0:=by4.c0;have y2:=by4.c2;have y3:=by4.c3;have y4:=by4.c4;have y5:=by4.c5;have y6:=by4.c6;clear hb4 by4 z0 z3 z4 z5 HT;cases v with
   | true=>
    have HF:=hQ (HR.out false w4 (by rw [HV.out];rfl) HB4.out);go_wp2_with fail;go_ret;exact HF.out
   | false=>
    by_cases t0:tk=0
    ·subst t0
     by_cases t1:tl=0
     ·subst t1
      by_cases t2:ta=0
      ·subst t2
       by_cases l0:l=0
       ·subst l0
        have HIN:=hQ (HC.out.inside 999 w4);have HE:Hid (∀ b,b=(decide (0<=q) && decide (q<=999))->Truth N w (.returned (.bool b)) w4):=hQ (fun b hb=>HR.out b w4 (by rw [hb,HV.out];simp) HB4.out);generalize (decide (0<=q) && decide (q<=999))=bb at HIN HE;go_wp2_with fail;refine HIN.out.mono ?_;rintro e w6 ⟨rfl,hw6⟩;have HF:=hQ (HE.out _ rfl);rw [<-hw6] at HF;clear hw6;go_wp2_with fail;go_ret;exact HF.out
       ·have u6:(0:Int) < (l:Int):=by omega
        have HF:=hQ (HR.out false w4 (by rw [HV.out];simp [l0]) HB4.out);go_wp2_with fail;go_ret;exact HF.out
      ·have u2:(0:Int) < (ta:Int):=by omega
       have HF:=hQ (HR.out false w4 (by rw [HV.out];simp [t2]) HB4.out);go_wp2_with fail;go_ret;exact HF.out
     ·have u1:(0:Int) < (tl:Int):=by omega
      have HF:=hQ (HR.out false w4 (by rw [HV.out];simp [t1]) HB4.out);go_wp2_with fail;go_ret;exact HF.out
    ·have u0:(tk == 0)=false:=by simp [t0]
     have HF:=hQ (HR.out false w4 (by rw [HV.out];simp [t0]) HB4.out);go_wp2_with fail;go_ret;exact HF.out
end Go.Proofs.YtlcedleebbgebaaGreatDoor
