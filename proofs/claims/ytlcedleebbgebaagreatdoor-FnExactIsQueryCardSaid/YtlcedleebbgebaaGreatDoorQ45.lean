/-
  Merged by program: TnI.
-/
import Derived.Test.YtlcedleebbgebaaGreatDoorQ44
import Derived.Test.YtlcedleebbgebaaGreatDoorRows
import Derived.Lib.LaidTab
set_option maxRecDepth 100000
set_option maxHeartbeats 3200000
set_option linter.all false
namespace Go.Proofs.YtlcedleebbgebaaGreatDoor
open Go.RowKit
theorem gAr:Tryz.prog.globalNamed "loop.example/g00587/impl.termArities" =some 1:=by kernel_rfl
theorem Zadb:(Tryz.prog.globals[1]?).map (·.type)=some 198:=by kernel_rfl
theorem Zacr:Tryz.prog.cellsOf 198=17:=by kernel_rfl
theorem Zgs:Tryz.prog.cellsOf 3=1:=by kernel_rfl
theorem Zsv {W:World}{rest:List (String×DataW Unit)}(h:laidMet Tryz.prog (("loop.example/g00587/impl.termArities",Rows.laid_loop_example_g00587_impl_termArities) :: rest) W):Lib.TabIs Tryz.prog W "loop.example/g00587/impl.termArities" .i64 arTab:=
 Lib.tabIs_of_head gAr Zadb Tryz.underlying198 Tryz.underlying3 Zgs Zacr (show laidMet Tryz.prog (("loop.example/g00587/impl.termArities",Lib.tabData .i64 arTab) :: rest) W from h)
def ArOk (w:World):Prop:=Lib.TabIs Tryz.prog w "loop.example/g00587/impl.termArities" .i64 arTab/\1 < w.heap.size
theorem ArOk.keep {w w':World}(h:ArOk w)(hb:Below w.heap.size w w'):ArOk w':=by
 refine ⟨?_,Nat.lt_of_lt_of_le h.2 hb.size⟩;have h1:=h.1;unfold Lib.TabIs World.var? at h1 ⊢;rw [gAr] at h1 ⊢
 simpa [hb.block _ h.2] using h1
theorem Zbs (n:Nat)(v:Int):decide ((n:Int)=v)=((n:Int) == v):=by
 rw [Bool.eq_iff_iff]
 simp
theorem Zvf (w:World):RTy w Zap [.int .i64 0,.slice none 0 0,.slice none 0 0]:=by
 have h:Reads Zsq 3 w (.node ⟨0,[]⟩ []) ([.int .i64 0,.slice none ([]:List ByteArray).length 0] ++ [.slice none ([]:List Ty).length 0]):=
  .node _ _ _ none 0 (fun _=>[]) ⟨none,0,rfl,fun j u hj=>by simp at hj,by decide,by decide,by simp,by simp⟩ rfl (by simp) (fun j hj=>by simp at hj) (fun j t hj=>by simp at hj) (by simp)
 exact h
theorem Zyr (t:Te)(w:World)(cs:List Value)(h:RTe w t cs)(hw:wte t<=1048576):Calls Tryz.prog 141 #[.agg cs.toArray] w (Truth (tName t.top.kind t.top.name) w):=by
 obtain ⟨TL,tc,TA,td,L,c,A,d,rfl,hty,hlab,hok,hk,_,_⟩:=h.open;have hname:t.top.name.size<=1048576:=Nat.le_trans (Zke t) hw;obtain ⟨W1,hW1⟩:∃ W1,w.alloc (.cells #[.int .i64 t.top.kind,.string t.top.name,.int .i64 t.top.num,.int .i64 t.top.type.top.kind,.slice TL t.top.type.top.labels.length tc,.slice TA t.top.type.kids.length td,.slice L t.top.labels.length c,.slice A t.kids.length d] 49)=W1:=⟨_,rfl⟩;obtain ⟨H,hH⟩:∃ H,w.heap.size=H:=⟨_,rfl⟩;have hb1:Below w.heap.size w W1:=by rw [<-hW1];exact bQ.alloc nQ _
 have hbx:Box8 W1 H 49 (.int .i64 t.top.kind) (.string t.top.name) (.int .i64 t.top.num) (.int .i64 t.top.type.top.kind) (.slice TL t.top.type.top.labels.length tc) (.slice TA t.top.type.kids.length td) (.slice L t.top.labels.length c) (.slice A t.kids.length d):=by rw [<-hW1,<-hH];exact Box8.new w 49 (.int .i64 t.top.kind) (.string t.top.name) (.int .i64 t.top.num) (.int .i64 t.top.type.top.kind) (.slice TL t.top.type.top.labels.length tc) (.slice TA t.top.type.kids.length td) (.slice L t.top.labels.length c) (.slice A t.kids.length d)
 have HNM:=hQ (Zdy t.top.name W1 hname);have HAR:=hQ (Zmw t.top.name W1);obtain ⟨r,hr⟩:∃ r,tName t.top.kind t.top.name=r:=⟨_,rfl⟩;have HR:Hid (∀ b W,b=tName t.top.kind t.top.name->Below W1.heap.size W1 W->Truth r w (.returned (.bool b)) W):=hQ (fun b W e hb=>⟨by rw [e,hr],hb1.trans (hb.mono hb1.size)⟩);rw [hr];clear h hw hty hlab hok hk hname hr;generalize t.top.type.top.labels.length=g1 at hW1 hbx ⊢;generalize t.top.type.kids.length=g2 at hW1 hbx ⊢;generalize t.top.type.top.kind=g3 at hW1 hbx ⊢;generalize t.top.labels.length=g4 at hW1 hbx ⊢;generalize t.kids.length=g5 at hW1 hbx ⊢;generalize t.top.num=g6 at hW1 hbx ⊢;generalize t.top.name=s at hW1 hbx HNM HAR HR ⊢;generalize t.top.kind=p at hW1 hbx HR ⊢;have HW1:=hQ hW1;have x0:=hbx.c0;have x1:=hbx.c1;clear hW1 hbx hb1;by_cases e1:p=1
 ·subst e1
  have HF:Hid (∀ W,Below W1.heap.size W1 W->Truth r w (.returned (.bool (nameB s))) W):=hQ (fun W hb=>HR.out _ W (by simp [tName,nmB]) hb);clear HR HAR;generalize nameB s=b at HNM HF;go_enter Tryz.func141,Tryz.ntmps141;go_wp2_with fail;rw [HW1.out];go_wp2_with fail;refine HNM.out.mono ?_;rintro e w2 ⟨rfl,hb2⟩;have HG:=hQ (HF.out w2 hb2);clear hb2 x0 x1;go_wp2_with fail;go_ret;exact HG.out
 by_cases e6:p=6
 ·subst e6
  have HF:Hid (∀ W,Below W1.heap.size W1 W->Truth r w (.returned (.bool (nameB s))) W):=hQ (fun W hb=>HR.out _ W (by simp [tName,nmB]) hb);clear HR HAR;generalize nameB s=b at HNM HF;go_enter Tryz.func141,Tryz.ntmps141;go_wp2_with fail;rw [HW1.out];go_wp2_with fail;refine HNM.out.mono ?_;rintro e w2 ⟨rfl,hb2⟩;have HG:=hQ (HF.out w2 hb2);clear hb2 x0 x1;go_wp2_with fail;go_ret;exact HG.out
 by_cases e10:p=10
 ·subst e10
  have HF:Hid (∀ W,Below W1.heap.size W1 W->Truth r w (.returned (.bool (nameB s))) W):=hQ (fun W hb=>HR.out _ W (by simp [tName,nmB]) hb);clear HR HAR;generalize nameB s=b at HNM HF;go_enter Tryz.func141,Tryz.ntmps141;go_wp2_with fail;rw [HW1.out];go_wp2_with fail;refine HNM.out.mono ?_;rintro e w2 ⟨rfl,hb2⟩;have HG:=hQ (HF.out w2 hb2);clear hb2 x0 x1;go_wp2_with fail;go_ret;exact HG.out
 by_cases e12:p=12
 ·subst e12
  have HF:Hid (∀ W,Below W1.heap.size W1 W->Truth r w (.returned (.bool (nameB s))) W):=hQ (fun W hb=>HR.out _ W (by simp [tName,nmB]) hb);clear HR HAR;generalize nameB s=b at HNM HF;go_enter Tryz.func141,Tryz.ntmps141;go_wp2_with fail;rw [HW1.out];go_wp2_with fail;refine HNM.out.mono ?_;rintro e w2 ⟨rfl,hb2⟩;have HG:=hQ (HF.out w2 hb2);clear hb2 x0 x1;go_wp2_with fail;go_ret;exact HG.out
 by_cases e13:p=13
 ·subst e13
  have HF:Hid (∀ W,Below W1.heap.size W1 W->Truth r w (.returned (.bool (nameB s))) W):=hQ (fun W hb=>HR.out _ W (by simp [tName,nmB]) hb);clear HR HAR;generalize nameB s=b at HNM HF;go_enter Tryz.func141,Tryz.ntmps141;go_wp2_with fail;rw [HW1.out];go_wp2_with fail;refine HNM.out.mono ?_;rintro e w2 ⟨rfl,hb2⟩;have HG:=hQ (HF.out w2 hb2);clear hb2 x0 x1;go_wp2_with fail;go_ret;exact HG.out
 have hn:nmB p=false:=by unfold nmB;simp [e1,e6,e10,e12,e13]
 have f1:(p == 1)=false:=by simp [e1]
 have f6:(p == 6)=false:=by simp [e6]
 have f10:(p == 10)=false:=by simp [e10]
 have f12:(p == 12)=false:=by simp [e12]
 have f13:(p == 13)=false:=by simp [e13]
 clear e1 e6 e10 e12 e13 HNM;by_cases e4:p=4
 ·subst e4
  have HF:Hid (∀ W,Below W1.heap.size W1 W->Truth r w (.returned (.bool (decide (0 < arB s)))) W):=hQ (fun W hb=>HR.out _ W (by simp [tName,nmB]) hb);clear HR hn;go_enter Tryz.func141,Tryz.ntmps141;go_wp2_with fail;rw [HW1.out];go_wp2_with fail;refine HAR.out.mono ?_;rintro e w2 ⟨rfl,hb2⟩;have HG:=hQ (HF.out w2 hb2);clear hb2 x0 x1;go_wp2_with fail;go_ret;exact HG.out
 ·have f4:(p == 4)=false:=by simp [e4]
  have HF:Hid (Truth r w (.returned (.bool s.toList.isEmpty)) W1):=hQ (HR.out _ W1 (by unfold tName;rw [hn,if_neg (by simp),if_neg e4];cases s.toList <;> rfl) bQ);clear HR HAR hn e4;go_enter Tryz.func141,Tryz.ntmps141;go_wp2_with fail;rw [HW1.out];go_wp2_with fail;go_ret;exact HF.out
theorem Zabl (t:Te)(w:World)(cs:List Value)(h:RTe w t cs)(hw:wte t<=1048576):Calls Tryz.prog 142 #[.agg cs.toArray] w (Truth (numOk t.top.kind t.top.num) w):=by
 obtain ⟨TL,tc,TA,td,L,c,A,d,rfl,hty,hlab,hok,hk,_,_⟩:=h.open;have hname:t.top.name.size<=1048576:=Nat.le_trans (Zke t) hw;obtain ⟨W1,hW1⟩:∃ W1,w.alloc (.cells #[.int .i64 t.top.kind,.string t.top.name,.int .i64 t.top.num,.int .i64 t.top.type.top.kind,.slice TL t.top.type.top.labels.length tc,.slice TA t.top.type.kids.length td,.slice L t.top.labels.length c,.slice A t.kids.length d] 49)=W1:=⟨_,rfl⟩;obtain ⟨H,hH⟩:∃ H,w.heap.size=H:=⟨_,rfl⟩;have hb1:Below w.heap.size w W1:=by rw [<-hW1];exact bQ.alloc nQ _
 have hbx:Box8 W1 H 49 (.int .i64 t.top.kind) (.string t.top.name) (.int .i64 t.top.num) (.int .i64 t.top.type.top.kind) (.slice TL t.top.type.top.labels.length tc) (.slice TA t.top.type.kids.length td) (.slice L t.top.labels.length c) (.slice A t.kids.length d):=by rw [<-hW1,<-hH];exact Box8.new w 49 (.int .i64 t.top.kind) (.string t.top.name) (.int .i64 t.top.num) (.int .i64 t.top.type.top.kind) (.slice TL t.top.type.top.labels.length tc) (.slice TA t.top.type.kids.length td) (.slice L t.top.labels.length c) (.slice A t.kids.length d)
 obtain ⟨r,hr⟩:∃ r,numOk t.top.kind t.top.num=r:=⟨_,rfl⟩;have HR:Hid (∀ b W,b=numOk t.top.kind t.top.num->Below W1.heap.size W1 W->Truth r w (.returned (.bool b)) W):=hQ (fun b W e hb=>⟨by rw [e,hr],hb1.trans (hb.mono hb1.size)⟩);rw [hr];clear h hw hty hlab hok hk hname hr;generalize t.top.type.top.labels.length=g1 at hW1 hbx ⊢;generalize t.top.type.kids.length=g2 at hW1 hbx ⊢;generalize t.top.type.top.kind=g3 at hW1 hbx ⊢;generalize t.top.labels.length=g4 at hW1 hbx ⊢;generalize t.kids.length=g5 at hW1 hbx ⊢;generalize t.top.name=s at hW1 hbx ⊢;generalize t.top.num=q at hW1 hbx HR ⊢;generalize t.top.kind=p at hW1 hbx HR ⊢;have HW1:=hQ hW1;have x0:=hbx.c0;have x2:=hbx.c2;clear hW1 hbx hb1;by_cases e2:p=2
 ·subst e2
  have hm:∀ b:Bool,b=(decide (0<=q) && decide (q<=999))->b=numOk 2 q:=fun b e=>e.trans (by unfold numOk mostN;simp)
  by_cases h0:q < 0
  ·have HF:Hid (Truth r w (.returned (.bool false)) W1):=hQ (HR.out _ W1 (hm _ (by rw [decide_eq_false (by omega)];rfl)) bQ)
   have g0:¬ (0:Int)<=q:=by omega
   clear HR hm h0;go_enter Tryz.func142,Tryz.ntmps142;go_wp2_with fail;rw [HW1.out];go_wp2_with fail;go_ret;exact HF.out
  ·have g0:(0:Int)<=q:=by omega
   by_cases h9:q<=999
   ·have HF:Hid (Truth r w (.returned (.bool true)) W1):=hQ (HR.out _ W1 (hm _ (by rw [decide_eq_true g0,decide_eq_true h9];rfl)) bQ)
    clear HR hm h0;go_enter Tryz.func142,Tryz.ntmps142;go_wp2_with fail;rw [HW1.out];go_wp2_with fail;go_ret;exact HF.out
   ·have HF:Hid (Truth r w (.returned (.bool false)) W1):=hQ (HR.out _ W1 (hm _ (by rw [decide_eq_false h9,Bool.and_false])) bQ)
    clear HR hm h0;go_enter Tryz.func142,Tryz.ntmps142;go_wp2_with fail;rw [HW1.out];go_wp2_with fail;go_ret;exact HF.out
 by_cases e3:p=3
 ·subst e3
  clear e2;have hm:∀ b:Bool,b=(decide (0<=q) && decide (q<=1))->b=numOk 3 q:=fun b e=>e.trans (by unfold numOk mostN;simp)
  by_cases h0:q < 0
  ·have HF:Hid (Truth r w (.returned (.bool false)) W1):=hQ (HR.out _ W1 (hm _ (by rw [decide_eq_false (by omega)];rfl)) bQ)
   have g0:¬ (0:Int)<=q:=by omega
   clear HR hm h0;go_enter Tryz.func142,Tryz.ntmps142;go_wp2_with fail;rw [HW1.out];go_wp2_with fail;go_ret;exact HF.out
  ·have g0:(0:Int)<=q:=by omega
   by_cases h9:q<=1
   ·have HF:Hid (Truth r w (.returned (.bool true)) W1):=hQ (HR.out _ W1 (hm _ (by rw [decide_eq_true g0,decide_eq_true h9];rfl)) bQ)
    clear HR hm h0;go_enter Tryz.func142,Tryz.ntmps142;go_wp2_with fail;rw [HW1.out];go_wp2_with fail;go_ret;exact HF.out
   ·have HF:Hid (Truth r w (.returned (.bool false)) W1):=hQ (HR.out _ W1 (hm _ (by rw [decide_eq_false h9,Bool.and_false])) bQ)
    clear HR hm h0;go_enter Tryz.func142,Tryz.ntmps142;go_wp2_with fail;rw [HW1.out];go_wp2_with fail;go_ret;exact HF.out
 have f2:(p == 2)=false:=by simp [e2]
 have f3:(p == 3)=false:=by simp [e3]
 have hm:∀ b:Bool,b=(decide (0<=q) && decide (q<=0))->b=numOk p q:=fun b e=>e.trans (by unfold numOk mostN;simp [e2,e3])
 by_cases h0:q < 0
 ·have HF:Hid (Truth r w (.returned (.bool false)) W1):=hQ (HR.out _ W1 (hm _ (by rw [decide_eq_false (by omega)];rfl)) bQ)
  have g0:¬ (0:Int)<=q:=by omega
  clear HR hm h0 e2 e3;go_enter Tryz.func142,Tryz.ntmps142;go_wp2_with fail;rw [HW1.out];go_wp2_with fail;go_ret;exact HF.out
 ·have g0:(0:Int)<=q:=by omega
  by_cases h9:q<=0
  ·have HF:Hid (Truth r w (.returned (.bool true)) W1):=hQ (HR.out _ W1 (hm _ (by rw [decide_eq_true g0,decide_eq_true h9];rfl)) bQ)
   clear HR hm h0 e2 e3;go_enter Tryz.func142,Tryz.ntmps142;go_wp2_with fail;rw [HW1.out];go_wp2_with fail;go_ret;exact HF.out
  ·have HF:Hid (Truth r w (.returned (.bool false)) W1):=hQ (HR.out _ W1 (hm _ (by rw [decide_eq_false h9,Bool.and_false])) bQ)
   clear HR hm h0 e2 e3;go_enter Tryz.func142,Tryz.ntmps142;go_wp2_with fail;rw [HW1.out];go_wp2_with fail;go_ret;exact HF.out
theorem Zys (t:Te)(w:World)(cs:List Value)(h:RTe w t cs)(hw:wte t<=1048576):Calls Tryz.prog 143 #[.agg cs.toArray] w (Truth (tType t.top.kind t.top.type) w):=by
 obtain ⟨TL,tc,TA,td,L,c,A,d,rfl,hty,hlab,hok,hk,_,_⟩:=h.open;have hname:t.top.name.size<=1048576:=Nat.le_trans (Zke t) hw;obtain ⟨W1,hW1⟩:∃ W1,w.alloc (.cells #[.int .i64 t.top.kind,.string t.top.name,.int .i64 t.top.num,.int .i64 t.top.type.top.kind,.slice TL t.top.type.top.labels.length tc,.slice TA t.top.type.kids.length td,.slice L t.top.labels.length c,.slice A t.kids.length d] 49)=W1:=⟨_,rfl⟩;obtain ⟨H,hH⟩:∃ H,w.heap.size=H:=⟨_,rfl⟩;have hb1:Below w.heap.size w W1:=by rw [<-hW1];exact bQ.alloc nQ _
 have hbx:Box8 W1 H 49 (.int .i64 t.top.kind) (.string t.top.name) (.int .i64 t.top.num) (.int .i64 t.top.type.top.kind) (.slice TL t.top.type.top.labels.length tc) (.slice TA t.top.type.kids.length td) (.slice L t.top.labels.length c) (.slice A t.kids.length d):=by rw [<-hW1,<-hH];exact Box8.new w 49 (.int .i64 t.top.kind) (.string t.top.name) (.int .i64 t.top.num) (.int .i64 t.top.type.top.kind) (.slice TL t.top.type.top.labels.length tc) (.slice TA t.top.type.kids.length td) (.slice L t.top.labels.length c) (.slice A t.kids.length d)
 have hwt:wt t.top.type<=1048576:=Nat.le_trans (Zvc t) hw;have HV:=hQ (Zcs t.top.type W1 _ (hty.keep hb1) hwt);have HE:=hQ (Zcb t.top.type Zap W1 _ _ (hty.keep hb1) (Zvf W1) (by have:=Zkn t.top.type;omega));obtain ⟨r,hr⟩:∃ r,tType t.top.kind t.top.type=r:=⟨_,rfl⟩;have HR:Hid (∀ b W,b=tType t.top.kind t.top.type->Below W1.heap.size W1 W->Truth r w (.returned (.bool b)) W):=hQ (fun b W e hb=>⟨by rw [e,hr],hb1.trans (hb.mono hb1.size)⟩);rw [hr];clear h hw hty hlab hok hk hname hr hwt;generalize t.top.type.top.labels.length=g1 at hW1 hbx HV HE ⊢;generalize t.top.type.kids.length=g2 at hW1 hbx HV HE ⊢;generalize t.top.type.top.kind=g3 at hW1 hbx HV HE ⊢;generalize t.top.labels.length=g4 at hW1 hbx ⊢;generalize t.kids.length=g5 at hW1 hbx ⊢;generalize t.top.name=s at hW1 hbx ⊢;generalize t.top.num=q at hW1 hbx ⊢;generalize t.top.type=ty at HV HE HR;generalize t.top.kind=p at hW1 hbx HR ⊢;have HW1:=hQ hW1;have x0:=hbx.c0;have x3:=hbx.c3;have x4:=hbx.c4;have x5:=hbx.c5;clear hW1 hbx hb1;by_cases e7:p=7
 ·subst e7
  have HF:Hid (∀ W,Below W1.heap.size W1 W->Truth r w (.returned (.bool (Zae ty))) W):=hQ (fun W hb=>HR.out _ W (by simp [tType,tyB]) hb);clear HR HE;generalize Zae ty=b at HV HF;go_enter Tryz.func143,Tryz.ntmps143;go_wp2_with fail;rw [HW1.out];go_wp2_with fail;refine HV.out.mono ?_;rintro e w2 ⟨rfl,hb2⟩;have HG:=hQ (HF.out w2 hb2);clear hb2 x0 x3 x4 x5;go_wp2_with fail;go_ret;exact HG.out
 by_cases e13:p=13
 ·subst e13
  have HF:Hid (∀ W,Below W1.heap.size W1 W->Truth r w (.returned (.bool (Zae ty))) W):=hQ (fun W hb=>HR.out _ W (by simp [tType,tyB]) hb);clear HR HE;generalize Zae ty=b at HV HF;go_enter Tryz.func143,Tryz.ntmps143;go_wp2_with fail;rw [HW1.out];go_wp2_with fail;refine HV.out.mono ?_;rintro e w2 ⟨rfl,hb2⟩;have HG:=hQ (HF.out w2 hb2);clear hb2 x0 x3 x4 x5;go_wp2_with fail;go_ret;exact HG.out
 have f7:(p == 7)=false:=by simp [e7]
 have f13:(p == 13)=false:=by simp [e13]
 have HF:Hid (∀ W,Below W1.heap.size W1 W->Truth r w (.returned (.bool (same ty Zap))) W):=hQ (fun W hb=>HR.out _ W (by unfold tType tyB;simp [e7,e13]) hb);clear HR HV e7 e13;generalize same ty Zap=b at HE HF;go_enter Tryz.func143,Tryz.ntmps143;go_wp2_with fail;rw [HW1.out];go_wp2_with fail;refine HE.out.mono ?_;rintro e w2 ⟨rfl,hb2⟩;have HG:=hQ (HF.out w2 hb2);clear hb2 x0 x3 x4 x5;go_wp2_with fail;go_ret;exact HG.out
theorem Zabk (t:Te)(w:World)(cs:List Value)(h:RTe w t cs)(hw:wte t<=1048576):Calls Tryz.prog 144 #[.agg cs.toArray] w (Truth (tLab t.top.kind t.top.labels) w):=by
 obtain ⟨TL,tc,TA,td,L,c,A,d,rfl,hty,hlab,hok,hk,_,_⟩:=h.open;have hname:t.top.name.size<=1048576:=Nat.le_trans (Zke t) hw;obtain ⟨W1,hW1⟩:∃ W1,w.alloc (.cells #[.int .i64 t.top.kind,.string t.top.name,.int .i64 t.top.num,.int .i64 t.top.type.top.kind,.slice TL t.top.type.top.labels.length tc,.slice TA t.top.type.kids.length td,.slice L t.top.labels.length c,.slice A t.kids.length d] 49)=W1:=⟨_,rfl⟩;obtain ⟨H,hH⟩:∃ H,w.heap.size=H:=⟨_,rfl⟩;have hb1:Below w.heap.size w W1:=by rw [<-hW1];exact bQ.alloc nQ _
 have hbx:Box8 W1 H 49 (.int .i64 t.top.kind) (.string t.top.name) (.int .i64 t.top.num) (.int .i64 t.top.type.top.kind) (.slice TL t.top.type.top.labels.length tc) (.slice TA t.top.type.kids.length td) (.slice L t.top.labels.length c) (.slice A t.kids.length d):=by rw [<-hW1,<-hH];exact Box8.new w 49 (.int .i64 t.top.kind) (.string t.top.name) (.int .i64 t.top.num) (.int .i64 t.top.type.top.kind) (.slice TL t.top.type.top.labels.length tc) (.slice TA t.top.type.kids.length td) (.slice L t.top.labels.length c) (.slice A t.kids.length d)
 have hwl:=Zvd hw;have HL:=hQ (Zhl L t.top.labels c W1 (hlab.below hb1) hwl.1 hwl.2);obtain ⟨r,hr⟩:∃ r,tLab t.top.kind t.top.labels=r:=⟨_,rfl⟩;have HR:Hid (∀ b W,b=tLab t.top.kind t.top.labels->Below W1.heap.size W1 W->Truth r w (.returned (.bool b)) W):=hQ (fun b W e hb=>⟨by rw [e,hr],hb1.trans (hb.mono hb1.size)⟩);rw [hr];have HN:Hid (∀ p,p≠5->tLab p t.top.labels=decide ((t.top.labels.length:Int)=0)):=hQ (fun p hp=>by
  unfold tLab;rw [if_neg hp,Bool.eq_iff_iff,decide_eq_true_iff,decide_eq_true_iff]
  omega)
 clear h hw hty hlab hok hk hname hr hwl;generalize t.top.type.top.labels.length=g1 at hW1 hbx ⊢;generalize t.top.type.kids.length=g2 at hW1 hbx ⊢;generalize t.top.type.top.kind=g3 at hW1 hbx ⊢;generalize t.kids.length=g5 at hW1 hbx ⊢;generalize t.top.name=s at hW1 hbx ⊢;generalize t.top.num=q at hW1 hbx ⊢;generalize t.top.labels.length=g4 at hW1 hbx HL HN ⊢;generalize t.top.labels=ls at HL HR HN;generalize t.top.kind=p at hW1 hbx HR ⊢;have HW1:=hQ hW1;have x0:=hbx.c0;have x6:=hbx.c6;clear hW1 hbx hb1;by_cases e5:p=5
 ·subst e5
  have HF:Hid (∀ W,Below W1.heap.size W1 W->Truth r w (.returned (.bool (labB ls))) W):=hQ (fun W hb=>HR.out _ W (by simp [tLab]) hb);clear HR HN;generalize labB ls=b at HL HF;go_enter Tryz.func144,Tryz.ntmps144;go_wp2_with fail;rw [HW1.out];go_wp2_with fail;refine HL.out.mono ?_;rintro e w2 ⟨rfl,hb2⟩;have HG:=hQ (HF.out w2 hb2);clear hb2 x0 x6;go_wp2_with fail;go_ret;exact HG.out
 ·have f5:(p == 5)=false:=by simp [e5]
  have HF:Hid (Truth r w (.returned (.bool ((g4:Int) == 0))) W1):=hQ (HR.out _ W1 (by rw [HN.out p e5,Zbs]) bQ);clear HR HL HN e5;go_enter Tryz.func144,Tryz.ntmps144;go_wp2_with fail;rw [HW1.out];go_wp2_with fail;go_ret;exact HF.out
theorem Zyq (t:Te)(w:World)(cs:List Value)(h:RTe w t cs)(hw:wte t<=1048576)(htab:ArOk w)(h1:1<=t.top.kind)(h16:t.top.kind<=16):Calls Tryz.prog 145 #[.agg cs.toArray] w (Truth (tArgs t.top.kind t.top.name t.top.labels.length t.kids.length) w):=by
 obtain ⟨TL,tc,TA,td,L,c,A,d,rfl,hty,hlab,hok,hk,_,_⟩:=h.open;have hname:t.top.name.size<=1048576:=Nat.le_trans (Zke t) hw;obtain ⟨W1,hW1⟩:∃ W1,w.alloc (.cells #[.int .i64 t.top.kind,.string t.top.name,.int .i64 t.top.num,.int .i64 t.top.type.top.kind,.slice TL t.top.type.top.labels.length tc,.slice TA t.top.type.kids.length td,.slice L t.top.labels.length c,.slice A t.kids.length d] 49)=W1:=⟨_,rfl⟩;obtain ⟨H,hH⟩:∃ H,w.heap.size=H:=⟨_,rfl⟩;have hb1:Below w.heap.size w W1:=by rw [<-hW1];exact bQ.alloc nQ _
 have hbx:Box8 W1 H 49 (.int .i64 t.top.kind) (.string t.top.name) (.int .i64 t.top.num) (.int .i64 t.top.type.top.kind) (.slice TL t.top.type.top.labels.length tc) (.slice TA t.top.type.kids.length td) (.slice L t.top.labels.length c) (.slice A t.kids.length d):=by rw [<-hW1,<-hH];exact Box8.new w 49 (.int .i64 t.top.kind) (.string t.top.name) (.int .i64 t.top.num) (.int .i64 t.top.type.top.kind) (.slice TL t.top.type.top.labels.length tc) (.slice TA t.top.type.kids.length td) (.slice L t.top.labels.length c) (.slice A t.kids.length d)
 have HAR:Hid (∀ W,Calls Tryz.prog 157 #[.string t.top.name] W (fun e w'=>e=.returned (.int .i64 (arB t.top.name))/\w'=W)):=hQ (fun W=>(Zjt t.top.name W).mono fun _ _ ⟨a,b⟩=>⟨a,b.symm⟩);have HTB:=hQ (htab.keep hb1);obtain ⟨r,hr⟩:∃ r,tArgs t.top.kind t.top.name t.top.labels.length t.kids.length=r:=⟨_,rfl⟩;have HR:Hid (∀ b W,b=tArgs t.top.kind t.top.name t.top.labels.length t.kids.length->Below W1.heap.size W1 W->Truth r w (.returned (.bool b)) W):=hQ (fun b W e hb=>⟨by rw [e,hr],hb1.trans (hb.mono hb1.size)⟩);rw [hr];clear h hw hty hlab hok hname hr htab;generalize t.top.type.top.labels.length=g1 at hW1 hbx ⊢;generalize t.top.type.kids.length=g2 at hW1 hbx ⊢;generalize t.top.type.top.kind=g3 at hW1 hbx ⊢;generalize t.top.num=q at hW1 hbx ⊢;generalize t.kids.length=n at hW1 hbx HR hk ⊢;generalize t.top.labels.length=l at hW1 hbx HR ⊢;generalize t.top.name=s at hW1 hbx HR HAR ⊢;generalize t.top.kind=p at hW1 hbx HR h1 h16 ⊢;have HW1:=hQ hW1;have x0:=hbx.c0;have x1:=hbx.c1;have x4:=hbx.c6;have x7:=hbx.c7;clear hW1 hbx hb1;by_cases e4:p=4
 ·subst e4
  have HF:Hid (∀ W,Below W1.heap.size W1 W->Truth r w (.returned (.bool ((n:Int) == arB s))) W):=hQ (fun W hb=>HR.out _ W (by rw [<-Zbs];rfl) hb);clear HR HTB h1 h16;generalize arB s=y at HAR HF;go_enter Tryz.func145,Tryz.ntmps145;go_wp2_with fail;rw [HW1.out];go_wp2_with fail;go_quiet (first | (go_at_call 157;exact Calls.quiet_of_same (HAR.out _)));go_wp2_with fail;go_ret;exact HF.out _ (Zab bQ _)
 by_cases e5:p=5
 ·subst e5
  have HF:Hid (Truth r w (.returned (.bool ((n:Int) == (l:Int)))) W1):=hQ (HR.out _ W1 (by rw [<-Zbs];rfl) bQ);clear HR HTB h1 h16 HAR e4;go_enter Tryz.func145,Tryz.ntmps145;go_wp2_with fail;rw [HW1.out];go_wp2_with fail;go_ret;exact HF.out
 have hp:p=1∨p=2∨p=3∨p=6∨p=7∨p=8∨p=9∨p=10∨p=11∨p=12∨p=13∨p=14∨p=15∨p=16:=by omega
 clear h1 h16 e4 e5 HAR
 rcases hp with rfl|rfl|rfl|rfl|rfl|rfl|rfl|rfl|rfl|rfl|rfl|rfl|rfl|rfl
 ·have HF:Hid (∀ W,Below W1.heap.size W1 W->Truth r w (.returned (.bool ((n:Int) == 0))) W):=hQ (fun W hb=>HR.out _ W (by rw [<-Zbs];rfl) hb)
  have y0:W1.cell? ⟨1,1,none⟩=some (.int .i64 0):=HTB.out.1.cell gAr 1 (by decide);clear HR HTB;go_enter Tryz.func145,Tryz.ntmps145;go_wp2_with fail;rw [HW1.out];go_wp2_with fail;go_quiet (fail);go_wp2_with fail;go_ret;exact HF.out _ (Zab bQ _)
 ·have HF:Hid (∀ W,Below W1.heap.size W1 W->Truth r w (.returned (.bool ((n:Int) == 0))) W):=hQ (fun W hb=>HR.out _ W (by rw [<-Zbs];rfl) hb)
  have y0:W1.cell? ⟨1,2,none⟩=some (.int .i64 0):=HTB.out.1.cell gAr 2 (by decide);clear HR HTB;go_enter Tryz.func145,Tryz.ntmps145;go_wp2_with fail;rw [HW1.out];go_wp2_with fail;go_quiet (fail);go_wp2_with fail;go_ret;exact HF.out _ (Zab bQ _)
 ·have HF:Hid (∀ W,Below W1.heap.size W1 W->Truth r w (.returned (.bool ((n:Int) == 0))) W):=hQ (fun W hb=>HR.out _ W (by rw [<-Zbs];rfl) hb)
  have y0:W1.cell? ⟨1,3,none⟩=some (.int .i64 0):=HTB.out.1.cell gAr 3 (by decide);clear HR HTB;go_enter Tryz.func145,Tryz.ntmps145;go_wp2_with fail;rw [HW1.out];go_wp2_with fail;go_quiet (fail);go_wp2_with fail;go_ret;exact HF.out _ (Zab bQ _)
 ·have HF:Hid (∀ W,Below W1.heap.size W1 W->Truth r w (.returned (.bool ((n:Int) == 1))) W):=hQ (fun W hb=>HR.out _ W (by rw [<-Zbs];rfl) hb)
  have y0:W1.cell? ⟨1,6,none⟩=some (.int .i64 1):=HTB.out.1.cell gAr 6 (by decide);clear HR HTB;go_enter Tryz.func145,Tryz.ntmps145;go_wp2_with fail;rw [HW1.out];go_wp2_with fail;go_quiet (fail);go_wp2_with fail;go_ret;exact HF.out _ (Zab bQ _)
 ·have HF:Hid (∀ W,Below W1.heap.size W1 W->Truth r w (.returned (.bool ((n:Int) == 0))) W):=hQ (fun W hb=>HR.out _ W (by rw [<-Zbs];rfl) hb)
  have y0:W1.cell? ⟨1,7,none⟩=some (.int .i64 0):=HTB.out.1.cell gAr 7 (by decide);clear HR HTB;go_enter Tryz.func145,Tryz.ntmps145;go_wp2_with fail;rw [HW1.out];go_wp2_with fail;go_quiet (fail);go_wp2_with fail;go_ret;exact HF.out _ (Zab bQ _)
 ·have HF:Hid (∀ W,Below W1.heap.size W1 W->Truth r w (.returned (.bool ((n:Int) == 1))) W):=hQ (fun W hb=>HR.out _ W (by rw [<-Zbs];rfl) hb)
  have y0:W1.cell? ⟨1,8,none⟩=some (.int .i64 1):=HTB.out.1.cell gAr 8 (by decide);clear HR HTB;go_enter Tryz.func145,Tryz.ntmps145;go_wp2_with fail;rw [HW1.out];go_wp2_with fail;go_quiet (fail);go_wp2_with fail;go_ret;exact HF.out _ (Zab bQ _)
 ·have HF:Hid (∀ W,Below W1.heap.size W1 W->Truth r w (.returned (.bool ((n:Int) == 2))) W):=hQ (fun W hb=>HR.out _ W (by rw [<-Zbs];rfl) hb)
  have y0:W1.cell? ⟨1,9,none⟩=some (.int .i64 2):=HTB.out.1.cell gAr 9 (by decide);clear HR HTB;go_enter Tryz.func145,Tryz.ntmps145;go_wp2_with fail;rw [HW1.out];go_wp2_with fail;go_quiet (fail);go_wp2_with fail;go_ret;exact HF.out _ (Zab bQ _)
 ·have HF:Hid (∀ W,Below W1.heap.size W1 W->Truth r w (.returned (.bool ((n:Int) == 2))) W):=hQ (fun W hb=>HR.out _ W (by rw [<-Zbs];rfl) hb)
  have y0:W1.cell? ⟨1,10,none⟩=some (.int .i64 2):=HTB.out.1.cell gAr 10 (by decide);clear HR HTB;go_enter Tryz.func145,Tryz.ntmps145;go_wp2_with fail;rw [HW1.out];go_wp2_with fail;go_quiet (fail);go_wp2_with fail;go_ret;exact HF.out _ (Zab bQ _)
 ·have HF:Hid (∀ W,Below W1.heap.size W1 W->Truth r w (.returned (.bool ((n:Int) == 3))) W):=hQ (fun W hb=>HR.out _ W (by rw [<-Zbs];rfl) hb)
  have y0:W1.cell? ⟨1,11,none⟩=some (.int .i64 3):=HTB.out.1.cell gAr 11 (by decide);clear HR HTB;go_enter Tryz.func145,Tryz.ntmps145;go_wp2_with fail;rw [HW1.out];go_wp2_with fail;go_quiet (fail);go_wp2_with fail;go_ret;exact HF.out _ (Zab bQ _)
 ·have HF:Hid (∀ W,Below W1.heap.size W1 W->Truth r w (.returned (.bool ((n:Int) == 0))) W):=hQ (fun W hb=>HR.out _ W (by rw [<-Zbs];rfl) hb)
  have y0:W1.cell? ⟨1,12,none⟩=some (.int .i64 0):=HTB.out.1.cell gAr 12 (by decide);clear HR HTB;go_enter Tryz.func145,Tryz.ntmps145;go_wp2_with fail;rw [HW1.out];go_wp2_with fail;go_quiet (fail);go_wp2_with fail;go_ret;exact HF.out _ (Zab bQ _)
 ·have HF:Hid (∀ W,Below W1.heap.size W1 W->Truth r w (.returned (.bool ((n:Int) == 1))) W):=hQ (fun W hb=>HR.out _ W (by rw [<-Zbs];rfl) hb)
  have y0:W1.cell? ⟨1,13,none⟩=some (.int .i64 1):=HTB.out.1.cell gAr 13 (by decide);clear HR HTB;go_enter Tryz.func145,Tryz.ntmps145;go_wp2_with fail;rw [HW1.out];go_wp2_with fail;go_quiet (fail);go_wp2_with fail;go_ret;exact HF.out _ (Zab bQ _)
 ·have HF:Hid (∀ W,Below W1.heap.size W1 W->Truth r w (.returned (.bool ((n:Int) == 2))) W):=hQ (fun W hb=>HR.out _ W (by rw [<-Zbs];rfl) hb)
  have y0:W1.cell? ⟨1,14,none⟩=some (.int .i64 2):=HTB.out.1.cell gAr 14 (by decide);clear HR HTB;go_enter Tryz.func145,Tryz.ntmps145;go_wp2_with fail;rw [HW1.out];go_wp2_with fail;go_quiet (fail);go_wp2_with fail;go_ret;exact HF.out _ (Zab bQ _)
 ·have HF:Hid (∀ W,Below W1.heap.size W1 W->Truth r w (.returned (.bool ((n:Int) == 1))) W):=hQ (fun W hb=>HR.out _ W (by rw [<-Zbs];rfl) hb)
  have y0:W1.cell? ⟨1,15,none⟩=some (.int .i64 1):=HTB.out.1.cell gAr 15 (by decide);clear HR HTB;go_enter Tryz.func145,Tryz.ntmps145;go_wp2_with fail;rw [HW1.out];go_wp2_with fail;go_quiet (fail);go_wp2_with fail;go_ret;exact HF.out _ (Zab bQ _)
 ·have HF:Hid (∀ W,Below W1.heap.size W1 W->Truth r w (.returned (.bool ((n:Int) == 1))) W):=hQ (fun W hb=>HR.out _ W (by rw [<-Zbs];rfl) hb)
  have y0:W1.cell? ⟨1,16,none⟩=some (.int .i64 1):=HTB.out.1.cell gAr 16 (by decide);clear HR HTB;go_enter Tryz.func145,Tryz.ntmps145;go_wp2_with fail;rw [HW1.out];go_wp2_with fail;go_quiet (fail);go_wp2_with fail;go_ret;exact HF.out _ (Zab bQ _)
theorem Zpf (t:Te)(w:World)(cs:List Value)(h:RTe w t cs)(hw:wte t<=1048576)(htab:ArOk w):Calls Tryz.prog 108 #[.agg cs.toArray] w (Truth (nodeE t.top t.kids.length) w):=by
 have hle:-9223372036854775808<=t.top.kind/\t.top.kind<=9223372036854775807:=by
  obtain ⟨_,_,_,_,_,_,_,_,_,_,_,hok,_⟩:=h.open;exact ⟨hok.1,hok.2.1⟩
 have hrd:∃ c1 c2 c3 c4 c5 c6 c7,cs=[.int .i64 t.top.kind,c1,c2,c3,c4,c5,c6,c7]:=by
  obtain ⟨TL,tc,TA,td,L,c,A,d,rfl,_⟩:=h.open;exact ⟨_,_,_,_,_,_,_,rfl⟩
 obtain ⟨c1,c2,c3,c4,c5,c6,c7,rfl⟩:=hrd;obtain ⟨W1,hW1⟩:∃ W1,w.alloc (.cells #[.int .i64 t.top.kind,c1,c2,c3,c4,c5,c6,c7] 49)=W1:=⟨_,rfl⟩;obtain ⟨H,hH⟩:∃ H,w.heap.size=H:=⟨_,rfl⟩;have hb1:Below w.heap.size w W1:=by rw [<-hW1];exact bQ.alloc nQ _
 have hbx:Box8 W1 H 49 (.int .i64 t.top.kind) c1 c2 c3 c4 c5 c6 c7:=by rw [<-hW1,<-hH];exact Box8.new w _ _ _ _ _ _ _ _ _
 have H1:=hQ (fun W (hB:Below w.heap.size w W)=>Zyr t W _ (h.keep hB) hw);have H2:=hQ (fun W (hB:Below w.heap.size w W)=>Zabl t W _ (h.keep hB) hw);have H3:=hQ (fun W (hB:Below w.heap.size w W)=>Zys t W _ (h.keep hB) hw);have H4:=hQ (fun W (hB:Below w.heap.size w W)=>Zabk t W _ (h.keep hB) hw);have H5:=hQ (fun (h1:1<=t.top.kind) (h16:t.top.kind<=16) W (hB:Below w.heap.size w W)=>Zyq t W _ (h.keep hB) hw (htab.keep hB) h1 h16);obtain ⟨r,hr⟩:∃ r,nodeE t.top t.kids.length=r:=⟨_,rfl⟩;have HO:Hid (t.top.kind < 1∨16 < t.top.kind->r=false):=hQ (fun h=>by rw [<-hr];exact Zaaq h);have HI:Hid (1<=t.top.kind->t.top.kind<=16->r=(tName t.top.kind t.top.name && (numOk t.top.kind t.top.num && (tType t.top.kind t.top.type && (tLab t.top.kind t.top.labels && tArgs t.top.kind t.top.name t.top.labels.length t.kids.length))))):=hQ (fun a b=>by rw [<-hr];exact Zadw a b);rw [hr];have HW1:=hQ hW1;have HB1:=hQ hb1;have B1:=hQ hbx;have x0:=hbx.c0;have x1:=hbx.c1;have x2:=hbx.c2;have x3:=hbx.c3;have x4:=hbx.c4;have x5:=hbx.c5;have x6:=hbx.c6;have x7:=hbx.c7;clear h hw htab hW1 hb1 hbx hr;generalize tName t.top.kind t.top.name=b1 at H1 HI;generalize numOk t.top.kind t.top.num=b2 at H2 HI;generalize tType t.top.kind t.top.type=b3 at H3 HI;generalize tLab t.top.kind t.top.labels=b4 at H4 HI;generalize tArgs t.top.kind t.top.name t.top.labels.length t.kids.length=b5 at H5 HI;generalize t.top.kind=p at *
 by_cases hp1:p < 1
 ·have HF:Hid (Truth r w (.returned (.bool false)) W1):=hQ ⟨by rw [HO.out (.inl hp1)],HB1.out⟩
  have g1:¬ (1:Int)<=p:=by omega
  clear H1 H2 H3 H4 H5 HO HI;go_enter Tryz.func108,Tryz.ntmps108;go_wp2_with fail;rw [HW1.out];go_wp2_with fail;go_ret;exact HF.out
 have g1:(1:Int)<=p:=by omega
 by_cases hp16:16 < p
 ·have HF:Hid (Truth r w (.returned (.bool false)) W1):=hQ ⟨by rw [HO.out (.inr hp16)],HB1.out⟩
  have g16:¬ p<=(16:Int):=by omega
  clear H1 H2 H3 H4 H5 HO HI;go_enter Tryz.func108,Tryz.ntmps108;go_wp2_with fail;rw [HW1.out];go_wp2_with fail;go_ret;exact HF.out
 have g16:p<=(16:Int):=by omega
 have H5:=hQ (H5.out g1 g16);have HI:=hQ (HI.out g1 g16);clear HO hp1 hp16;go_enter Tryz.func108,Tryz.ntmps108;go_wp2_with fail;rw [HW1.out];go_wp2_with fail;refine (H1.out W1 HB1.out).mono ?_;rintro e w2 ⟨rfl,hb2⟩;have HB2:=hQ (HB1.out.trans (hb2.mono HB1.out.size));have B2:=hQ (B1.out.under hb2 B1.out.lt);clear hb2 x0 x1 x2 x3 x4 x5 x6 x7;cases b1 with
 | false=>
  have HF:Hid (Truth r w (.returned (.bool false)) w2):=hQ ⟨by rw [HI.out];simp,HB2.out⟩;go_wp2_with fail;go_ret;exact HF.out
 | true=>
  have x0:=B2.out.c0;have x1:=B2.out.c1;have x2:=B2.out.c2;have x3:=B2.out.c3;have x4:=B2.out.c4;have x5:=B2.out.c5;have x6:=B2.out.c6;have x7:=B2.out.c7;go_wp2_with fail;refine (H2.out w2 HB2.out).mono ?_;rintro e w3 ⟨rfl,hb3⟩;have HB3:=hQ (HB2.out.trans (hb3.mono HB2.out.size));have B3:=hQ (B2.out.under hb3 B2.out.lt);clear hb3 x0 x1 x2 x3 x4 x5 x6 x7;cases b2 with
  | false=>
   have HF:Hid (Truth r w (.returned (.bool false)) w3):=hQ ⟨by rw [HI.out];simp,HB3.out⟩;go_wp2_with fail;go_ret;exact HF.out
  | true=>
   have x0:=B3.out.c0;have x1:=B3.out.c1;have x2:=B3.out.c2;have x3:=B3.out.c3;have x4:=B3.out.c4;have x5:=B3.out.c5;have x6:=B3.out.c6;have x7:=B3.out.c7;go_wp2_with fail;refine (H3.out w3 HB3.out).mono ?_;rintro e w4 ⟨rfl,hb4⟩;have HB4:=hQ (HB3.out.trans (hb4.mono HB3.out.size));have B4:=hQ (B3.out.under hb4 B3.out.lt);clear hb4 x0 x1 x2 x3 x4 x5 x6 x7;cases b3 with
   | false=>
    have HF:Hid (Truth r w (.returned (.bool false)) w4):=hQ ⟨by rw [HI.out];simp,HB4.out⟩;go_wp2_with fail;go_ret;exact HF.out
   | true=>
    have x0:=B4.out.c0;have x1:=B4.out.c1;have x2:=B4.out.c2;have x3:=B4.out.c3;have x4:=B4.out.c4;have x5:=B4.out.c5;have x6:=B4.out.c6;have x7:=B4.out.c7;go_wp2_with fail;refine (H4.out w4 HB4.out).mono ?_;rintro e w5 ⟨rfl,hb5⟩;have HB5:=hQ (HB4.out.trans (hb5.mono HB4.out.size));have B5:=hQ (B4.out.under hb5 B4.out.lt);clear hb5 x0 x1 x2 x3 x4 x5 x6 x7;cases b4 with
    | false=>
     have HF:Hid (Truth r w (.returned (.bool false)) w5):=hQ ⟨by rw [HI.out];simp,HB5.out⟩;go_wp2_with fail;go_ret;exact HF.out
    | true=>
     have x0:=B5.out.c0;have x1:=B5.out.c1;have x2:=B5.out.c2;have x3:=B5.out.c3;have x4:=B5.out.c4;have x5:=B5.out.c5;have x6:=B5.out.c6;have x7:=B5.out.c7;go_wp2_with fail;refine (H5.out w5 HB5.out).mono ?_;rintro e w6 ⟨rfl,hb6⟩;have HB6:=hQ (HB5.out.trans (hb6.mono HB5.out.size));have B6:=hQ (B5.out.under hb6 B5.out.lt);clear hb6 x0 x1 x2 x3 x4 x5 x6 x7;have HF:Hid (Truth r w (.returned (.bool b5)) w6):=hQ ⟨by rw [HI.out];simp,HB6.out⟩;go_wp2_with fail;go_ret;exact HF.out
end Go.Proofs.YtlcedleebbgebaaGreatDoor
