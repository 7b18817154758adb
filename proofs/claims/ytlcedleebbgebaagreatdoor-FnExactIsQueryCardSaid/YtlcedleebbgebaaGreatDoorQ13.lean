/-
  Merged by program: Well.
-/
import Derived.Test.YtlcedleebbgebaaGreatDoorQ12
set_option maxRecDepth 100000
set_option maxHeartbeats 2000000
namespace Go.Proofs.YtlcedleebbgebaaGreatDoor
open Go.RowKit
def wellB (t:Ty)(b:Bool):Bool:=t.form && (b || !(Tr.has 5 t))
def Zea (a:TyA)(ks:List Ty):Bool:=
 if a.kind=1 then Zbj a.labels.length ks.length 0 else if a.kind=2 then Zbj a.labels.length ks.length 0 else if a.kind=3 then recB a.labels ks.length
 else if a.kind=4 then Zbj a.labels.length ks.length 1 else if a.kind=5 then Zbj a.labels.length ks.length 2 else false
theorem Zzc (ks:List Ty)(b:Bool):(ks.all fun t=>wellB t b)=(ks.all Tr.form && (b || !(ks.any (Tr.has 5)))):=by
 induction ks with
 | nil=>simp
 | cons t ks ih=>
  rw [List.all_cons,ih,List.all_cons,List.any_cons];unfold wellB;cases t.form <;> cases Tr.has 5 t <;> cases b <;> cases ks.all Tr.form <;> cases ks.any (Tr.has 5) <;> rfl
theorem Zps {m k:Nat}:decide ((m:Int)=(k:Int))=decide (m=k):=by
 by_cases h:m=k
 ·subst h;simp
 ·rw [decide_eq_false h,decide_eq_false (by omega)]
theorem Zeo (a:TyA)(ks:List Ty)(b:Bool):wellB (.node a ks) b =
  ((!(decide (a.kind=5)) || b) && (Zea a ks && ks.all fun t=>wellB t (b && !(decide (a.kind=3) || decide (a.kind=4))))):=by
 rw [Zzc];unfold wellB;rw [Zcr,Zmv];generalize hF:ks.all Tr.form=F;generalize hS:ks.any (Tr.has 5)=S;have h0:decide ((ks.length:Int)=0)=decide (ks.length=0):=Zps (k:=0);have h1':decide ((ks.length:Int)=1)=decide (ks.length=1):=Zps (k:=1);have h2':decide ((ks.length:Int)=2)=decide (ks.length=2):=Zps (k:=2);have hn:decide ((ks.length:Int)=-1)=false:=decide_eq_false (by omega);unfold formA Zea Zgg;rw [Zmv,hS];by_cases h1:a.kind=1
 ·rw [h1]
  simp only [want,Zbj];generalize decide (a.labels.length=0)=X;cases F <;> cases S <;> cases b <;> cases X <;> simp
 by_cases h2:a.kind=2
 ·rw [h2]
  simp only [want,Zbj];generalize decide (a.labels.length=0)=X;cases F <;> cases S <;> cases b <;> cases X <;> simp
 by_cases h3:a.kind=3
 ·rw [h3]
  simp only [recB];generalize decide (ks.length=a.labels.length)=X;generalize labB a.labels=Y;cases F <;> cases S <;> cases b <;> cases X <;> cases Y <;> simp
 by_cases h4:a.kind=4
 ·rw [h4]
  simp only [want,Zbj];by_cases hl:ks.length=1
  ·rw [hl]
   generalize decide (a.labels.length=0)=X;cases F <;> cases S <;> cases b <;> cases X <;> simp
  ·have hl':¬ (ks.length:Int)=1:=by omega
   simp [hl,hl']
 by_cases h5:a.kind=5
 ·rw [h5]
  simp only [want,Zbj];by_cases hl:ks.length=2
  ·rw [hl]
   generalize decide (a.labels.length=0)=X;cases F <;> cases S <;> cases b <;> cases X <;> simp
  ·have hl':¬ (ks.length:Int)=2:=by omega
   simp [hl,hl']
 ·have hw:want a.kind=-1:=by simp [want,h1,h2,h4,h5]
  have hl:¬ (ks.length:Int)=-1:=by omega
  simp [h1,h2,h3,h4,h5,hw,hl]
theorem RTy.shape {w:World}{t:Ty}{cs:List Value}(h:RTy w t cs):∃ q L n c A m d,cs=[.int .i64 q,.slice L n c,.slice A m d]:=by
 cases t with
 | node a ks=>
  obtain ⟨L,c,A,d,rfl,_⟩:=h.out;exact ⟨_,_,_,_,_,_,_,rfl⟩
def WellK (t:Ty):Prop:=∀ (w:World)(cs:List Value)(b:Bool),RTy w t cs->wt t<=1048576->Calls Tryz.prog 91 #[.agg cs.toArray,.bool b] w (Truth (wellB t b) w)
theorem Zagj (a:TyA)(ks:List Ty)(ih:∀ t∈ks,WellK t)(hq:a.kind=1)(w:World)(cs:List Value)(b:Bool)(h:RTy w (.node a ks) cs)(hwt:wt (.node a ks)<=1048576) :
  Calls Tryz.prog 91 #[.agg cs.toArray,.bool b] w (Truth (wellB (.node a ks) b) w):=by
 obtain ⟨L,c,A,d,rfl,k1,k2,k3,k4,k5,k6,hp⟩:=h.out;obtain ⟨l1,l2⟩:=Zcy hwt;have hkw:∀ t∈ks,wt t<=1048576:=fun t ht=>Nat.le_trans (Zbn ht) hwt
 have hmn:=Zeo a ks b;rw [hq] at hmn ⊢;have hpb:Zea a ks=Zbj a.labels.length ks.length 0:=by unfold Zea;rw [hq];rfl
 obtain ⟨n,hn⟩:∃ n,a.labels.length=n:=⟨_,rfl⟩;obtain ⟨m,hm⟩:∃ m,ks.length=m:=⟨_,rfl⟩;obtain ⟨W1,hW1⟩:∃ W1,w.alloc (.cells #[.int .i64 1,.slice L n c,.slice A m d] 38)=W1:=⟨_,rfl⟩;obtain ⟨H,hH⟩:∃ H,w.heap.size=H:=⟨_,rfl⟩;have hb1:Below w.heap.size w W1:=by rw [<-hW1];exact bQ.alloc nQ _
 have hbox:Box3 W1 H 38 (.int .i64 1) (.slice L n c) (.slice A m d):=by rw [<-hW1,<-hH];exact Box3.new w _ _ _ _
 have HK:=hQ (Zdl 1 (.slice L n c) (.slice A m d) W1);have HP:=hQ (fun W=>Zaad (.int .i64 1) L A n c m d W);rw [hpb] at hmn;rw [hn,hm] at hmn;rw [hn,hm];have HMN:=hQ hmn;have HKD:=hQ (fun W (hB:Below w.heap.size w W)=>hp.keep hB);rw [hm] at k6;have HI:=hQ ih;have HKW:=hQ hkw;have HM:=hQ hm;have HW1:=hQ hW1;have HB1:=hQ hb1;have B1:=hQ hbox;have x0:=hbox.c0;have x1:=hbox.c1;have x2:=hbox.c2;have a1:=Zmj;have a2:=Zrl;have a3:=Zrr;have a4:=Zafn;clear h k1 k2 k3 k4 k5 l1 l2 hp hwt hkw hb1 hbox hW1 hmn hn hm ih hpb hq;go_enter Tryz.func91,Tryz.ntmps91;go_wp2_with fail;rw [HW1.out];go_wp2_with fail;refine HK.out.mono ?_;rintro e w1 ⟨rfl,hb2⟩;have HB2:=hQ (HB1.out.trans (hb2.mono HB1.out.size));have B2:=hQ (B1.out.under hb2 B1.out.lt);clear x0 x1 x2 hb2 HK HW1;rw [show kindT 1=169 from rfl];go_wp2_with fail;refine (HP.out w1).mono ?_;rintro e w2 ⟨rfl,hb3⟩;have HB3:=hQ (HB2.out.trans (hb3.mono HB2.out.size));have B3:=hQ (B2.out.under hb3 B2.out.lt);clear hb3 HP;generalize Zbj n m 0=pb at HMN ⊢;cases pb with
 | false=>
  have HF:Hid (Truth (wellB (.node a ks) b) w (.returned (.bool false)) w2):=by rw [HMN.out];exact ⟨by simp,HB3.out⟩
  go_wp2_with fail
  go_ret
  exact HF.out
 | true=>
  have HM2:Hid (wellB (.node a ks) b=ks.all fun t=>wellB t b):=hQ (by rw [HMN.out];simp);have x2:=B3.out.c2;clear HMN;go_wp2_with fail;go_loopw [29] (fun i wr=>∃ k:Nat,k<=m/\i=.int .i64 k/\AllTo (fun t=>wellB t b) ks k/\Below w2.heap.size w2 wr) (fun i _=>m - (intOf i).toNat)
  case atStart=>exact ⟨0,Nat.zero_le _,rfl,Zca _ _,Below.refl _ _⟩
  case round=>
   obtain ⟨k,hk,rfl,hto,hb⟩:=hrel;have HTO:=hQ hto;have HBW:=hQ (HB3.out.trans (hb.mono HB3.out.size));have HB:=hQ hb;clear hto hb x2;by_cases hlt:k < m
   ·have hlt':k < ks.length:=by rw [HM.out];exact hlt
    obtain ⟨ad,p,c0,c1,c2,rfl,hpe,hr,q0,q1,q2⟩:=Zal (HKD.out w bQ) HBW.out hlt';have hw:=HKW.out ks[k] (List.getElem_mem hlt');obtain ⟨d0,d1,d2,d3,d4,d5,d6,he⟩:=hr.shape;injection he with e0 he
    injection he with e1 he
    injection he with e2 _
    subst e0 e1 e2;obtain ⟨W5,hW5⟩:∃ W5,wr.alloc (.cells #[.int .i64 d0,.slice d1 d2 d3,.slice d4 d5 d6] 38)=W5:=⟨_,rfl⟩;have hb5:Below wr.heap.size wr W5:=by rw [<-hW5];exact bQ.alloc nQ _
    have HC:=hQ (HI.out ks[k] (List.getElem_mem hlt') W5 _ b (hr.keep hb5) hw);have HW5:=hQ hW5;have HB5:=hQ (HB.out.trans (hb5.mono HB.out.size));have HBW5:=hQ (HBW.out.trans (hb5.mono HBW.out.size));have hx5:=Box3.new wr 38 (.int .i64 d0) (.slice d1 d2 d3) (.slice d4 d5 d6);rw [hW5] at hx5;have y0:=hx5.c0;have y1:=hx5.c1;have y2:=hx5.c2;have HS:=hQ (fun hf=>Zbz (f:=fun t=>wellB t b) HTO.out hlt' hf);have HN:=hQ (fun hf=>Zex (f:=fun t=>wellB t b) hlt' hf);obtain ⟨v,hv⟩:∃ v,wellB ks[k] b=v:=⟨_,rfl⟩;simp only [hv] at HS HN;rw [hv] at HC;clear hr hw hb5 hW5 hx5 hv hlt';go_wp2_with fail;rw [HW5.out];go_wp2_with fail;refine HC.out.mono ?_;rintro e w6 ⟨rfl,hb6⟩;have HB6:=hQ (HB5.out.trans (hb6.mono HB5.out.size));have HBW6:=hQ (HBW5.out.trans (hb6.mono HBW5.out.size));clear hb6 y0 y1 y2 HC;cases v with
    | false=>
     have HF:Hid (Truth (wellB (.node a ks) b) w (.returned (.bool false)) w6):=by rw [HM2.out,HN.out rfl];exact ⟨rfl,HBW6.out⟩
     go_wp2_with fail
     go_ret
     exact HF.out
    | true=>
     have HT:=hQ (HS.out rfl);clear HS HN;go_wp2_with fail;go_roundw
     case rel=>exact ⟨k+1,hlt,by go_num,HT.out,HB6.out⟩
     case measure=>simp [intOf];omega
   ·have he:k=ks.length:=by rw [HM.out];omega
    have HF:Hid (Truth (wellB (.node a ks) b) w (.returned (.bool true)) wr):=by
     rw [HM2.out,Zcp (by rw [<-he];exact HTO.out)];exact ⟨rfl,HBW.out⟩
    clear he;go_wp2_with fail;go_ret;exact HF.out
theorem Zagk (a:TyA)(ks:List Ty)(ih:∀ t∈ks,WellK t)(hq:a.kind=2)(w:World)(cs:List Value)(b:Bool)(h:RTy w (.node a ks) cs)(hwt:wt (.node a ks)<=1048576) :
  Calls Tryz.prog 91 #[.agg cs.toArray,.bool b] w (Truth (wellB (.node a ks) b) w):=by
 obtain ⟨L,c,A,d,rfl,k1,k2,k3,k4,k5,k6,hp⟩:=h.out;obtain ⟨l1,l2⟩:=Zcy hwt;have hkw:∀ t∈ks,wt t<=1048576:=fun t ht=>Nat.le_trans (Zbn ht) hwt
 have hmn:=Zeo a ks b;rw [hq] at hmn ⊢;have hpb:Zea a ks=Zbj a.labels.length ks.length 0:=by unfold Zea;rw [hq];rfl
 obtain ⟨n,hn⟩:∃ n,a.labels.length=n:=⟨_,rfl⟩;obtain ⟨m,hm⟩:∃ m,ks.length=m:=⟨_,rfl⟩;obtain ⟨W1,hW1⟩:∃ W1,w.alloc (.cells #[.int .i64 2,.slice L n c,.slice A m d] 38)=W1:=⟨_,rfl⟩;obtain ⟨H,hH⟩:∃ H,w.heap.size=H:=⟨_,rfl⟩;have hb1:Below w.heap.size w W1:=by rw [<-hW1];exact bQ.alloc nQ _
 have hbox:Box3 W1 H 38 (.int .i64 2) (.slice L n c) (.slice A m d):=by rw [<-hW1,<-hH];exact Box3.new w _ _ _ _
 have HK:=hQ (Zdl 2 (.slice L n c) (.slice A m d) W1);have HP:=hQ (fun W=>Zwb (.int .i64 2) L A n c m d W);rw [hpb] at hmn;rw [hn,hm] at hmn;rw [hn,hm];have HMN:=hQ hmn;have HKD:=hQ (fun W (hB:Below w.heap.size w W)=>hp.keep hB);rw [hm] at k6;have HI:=hQ ih;have HKW:=hQ hkw;have HM:=hQ hm;have HW1:=hQ hW1;have HB1:=hQ hb1;have B1:=hQ hbox;have x0:=hbox.c0;have x1:=hbox.c1;have x2:=hbox.c2;have a1:=Zmk;have a2:=Zrm;have a3:=Zrs;have a4:=Zafo;clear h k1 k2 k3 k4 k5 l1 l2 hp hwt hkw hb1 hbox hW1 hmn hn hm ih hpb hq;go_enter Tryz.func91,Tryz.ntmps91;go_wp2_with fail;rw [HW1.out];go_wp2_with fail;refine HK.out.mono ?_;rintro e w1 ⟨rfl,hb2⟩;have HB2:=hQ (HB1.out.trans (hb2.mono HB1.out.size));have B2:=hQ (B1.out.under hb2 B1.out.lt);clear x0 x1 x2 hb2 HK HW1;rw [show kindT 2=170 from rfl];go_wp2_with fail;refine (HP.out w1).mono ?_;rintro e w2 ⟨rfl,hb3⟩;have HB3:=hQ (HB2.out.trans (hb3.mono HB2.out.size));have B3:=hQ (B2.out.under hb3 B2.out.lt);clear hb3 HP;generalize Zbj n m 0=pb at HMN ⊢;cases pb with
 | false=>
  have HF:Hid (Truth (wellB (.node a ks) b) w (.returned (.bool false)) w2):=by rw [HMN.out];exact ⟨by simp,HB3.out⟩
  go_wp2_with fail
  go_ret
  exact HF.out
 | true=>
  have HM2:Hid (wellB (.node a ks) b=ks.all fun t=>wellB t b):=hQ (by rw [HMN.out];simp);have x2:=B3.out.c2;clear HMN;go_wp2_with fail;go_loopw [29] (fun i wr=>∃ k:Nat,k<=m/\i=.int .i64 k/\AllTo (fun t=>wellB t b) ks k/\Below w2.heap.size w2 wr) (fun i _=>m - (intOf i).toNat)
  case atStart=>exact ⟨0,Nat.zero_le _,rfl,Zca _ _,Below.refl _ _⟩
  case round=>
   obtain ⟨k,hk,rfl,hto,hb⟩:=hrel;have HTO:=hQ hto;have HBW:=hQ (HB3.out.trans (hb.mono HB3.out.size));have HB:=hQ hb;clear hto hb x2;by_cases hlt:k < m
   ·have hlt':k < ks.length:=by rw [HM.out];exact hlt
    obtain ⟨ad,p,c0,c1,c2,rfl,hpe,hr,q0,q1,q2⟩:=Zal (HKD.out w bQ) HBW.out hlt';have hw:=HKW.out ks[k] (List.getElem_mem hlt');obtain ⟨d0,d1,d2,d3,d4,d5,d6,he⟩:=hr.shape;injection he with e0 he
    injection he with e1 he
    injection he with e2 _
    subst e0 e1 e2;obtain ⟨W5,hW5⟩:∃ W5,wr.alloc (.cells #[.int .i64 d0,.slice d1 d2 d3,.slice d4 d5 d6] 38)=W5:=⟨_,rfl⟩;have hb5:Below wr.heap.size wr W5:=by rw [<-hW5];exact bQ.alloc nQ _
    have HC:=hQ (HI.out ks[k] (List.getElem_mem hlt') W5 _ b (hr.keep hb5) hw);have HW5:=hQ hW5;have HB5:=hQ (HB.out.trans (hb5.mono HB.out.size));have HBW5:=hQ (HBW.out.trans (hb5.mono HBW.out.size));have hx5:=Box3.new wr 38 (.int .i64 d0) (.slice d1 d2 d3) (.slice d4 d5 d6);rw [hW5] at hx5;have y0:=hx5.c0;have y1:=hx5.c1;have y2:=hx5.c2;have HS:=hQ (fun hf=>Zbz (f:=fun t=>wellB t b) HTO.out hlt' hf);have HN:=hQ (fun hf=>Zex (f:=fun t=>wellB t b) hlt' hf);obtain ⟨v,hv⟩:∃ v,wellB ks[k] b=v:=⟨_,rfl⟩;simp only [hv] at HS HN;rw [hv] at HC;clear hr hw hb5 hW5 hx5 hv hlt';go_wp2_with fail;rw [HW5.out];go_wp2_with fail;refine HC.out.mono ?_;rintro e w6 ⟨rfl,hb6⟩;have HB6:=hQ (HB5.out.trans (hb6.mono HB5.out.size));have HBW6:=hQ (HBW5.out.trans (hb6.mono HBW5.out.size));clear hb6 y0 y1 y2 HC;cases v with
    | false=>
     have HF:Hid (Truth (wellB (.node a ks) b) w (.returned (.bool false)) w6):=by rw [HM2.out,HN.out rfl];exact ⟨rfl,HBW6.out⟩
     go_wp2_with fail
     go_ret
     exact HF.out
    | true=>
     have HT:=hQ (HS.out rfl);clear HS HN;go_wp2_with fail;go_roundw
     case rel=>exact ⟨k+1,hlt,by go_num,HT.out,HB6.out⟩
     case measure=>simp [intOf];omega
   ·have he:k=ks.length:=by rw [HM.out];omega
    have HF:Hid (Truth (wellB (.node a ks) b) w (.returned (.bool true)) wr):=by
     rw [HM2.out,Zcp (by rw [<-he];exact HTO.out)];exact ⟨rfl,HBW.out⟩
    clear he;go_wp2_with fail;go_ret;exact HF.out
theorem Zagl (a:TyA)(ks:List Ty)(ih:∀ t∈ks,WellK t)(hq:a.kind=3)(w:World)(cs:List Value)(b:Bool)(h:RTy w (.node a ks) cs)(hwt:wt (.node a ks)<=1048576) :
  Calls Tryz.prog 91 #[.agg cs.toArray,.bool b] w (Truth (wellB (.node a ks) b) w):=by
 obtain ⟨L,c,A,d,rfl,k1,k2,k3,k4,k5,k6,hp⟩:=h.out;obtain ⟨l1,l2⟩:=Zcy hwt;have hkw:∀ t∈ks,wt t<=1048576:=fun t ht=>Nat.le_trans (Zbn ht) hwt
 have hmn:=Zeo a ks b;rw [hq] at hmn ⊢;have hpb:Zea a ks=recB a.labels ks.length:=by unfold Zea;rw [hq];rfl
 obtain ⟨n,hn⟩:∃ n,a.labels.length=n:=⟨_,rfl⟩;obtain ⟨m,hm⟩:∃ m,ks.length=m:=⟨_,rfl⟩;obtain ⟨W1,hW1⟩:∃ W1,w.alloc (.cells #[.int .i64 3,.slice L n c,.slice A m d] 38)=W1:=⟨_,rfl⟩;obtain ⟨H,hH⟩:∃ H,w.heap.size=H:=⟨_,rfl⟩;have hb1:Below w.heap.size w W1:=by rw [<-hW1];exact bQ.alloc nQ _
 have hbox:Box3 W1 H 38 (.int .i64 3) (.slice L n c) (.slice A m d):=by rw [<-hW1,<-hH];exact Box3.new w _ _ _ _
 have HK:=hQ (Zdl 3 (.slice L n c) (.slice A m d) W1);have HP:=hQ (fun W (hB:Below w.heap.size w W)=>Zabf (.int .i64 3) L A a.labels c ks.length d W (k1.below hB) l1 l2);rw [hn,hm] at HP;rw [hpb] at hmn;rw [hm] at hmn;rw [hn,hm];have HMN:=hQ hmn;have HKD:=hQ (fun W (hB:Below w.heap.size w W)=>hp.keep hB);rw [hm] at k6;have HI:=hQ ih;have HKW:=hQ hkw;have HM:=hQ hm;have HW1:=hQ hW1;have HB1:=hQ hb1;have B1:=hQ hbox;have x0:=hbox.c0;have x1:=hbox.c1;have x2:=hbox.c2;have a1:=Zml;have a2:=Zrn;have a3:=Zrt;have a4:=Zafp;clear h k1 k2 k3 k4 k5 l1 l2 hp hwt hkw hb1 hbox hW1 hmn hn hm ih hpb hq;go_enter Tryz.func91,Tryz.ntmps91;go_wp2_with fail;rw [HW1.out];go_wp2_with fail;refine HK.out.mono ?_;rintro e w1 ⟨rfl,hb2⟩;have HB2:=hQ (HB1.out.trans (hb2.mono HB1.out.size));have B2:=hQ (B1.out.under hb2 B1.out.lt);clear x0 x1 x2 hb2 HK HW1;rw [show kindT 3=167 from rfl];go_wp2_with fail;refine (HP.out w1 HB2.out).mono ?_;rintro e w2 ⟨rfl,hb3⟩;have HB3:=hQ (HB2.out.trans (hb3.mono HB2.out.size));have B3:=hQ (B2.out.under hb3 B2.out.lt);clear hb3 HP;generalize recB a.labels m=pb at HMN ⊢;cases pb with
 | false=>
  have HF:Hid (Truth (wellB (.node a ks) b) w (.returned (.bool false)) w2):=by rw [HMN.out];exact ⟨by simp,HB3.out⟩
  go_wp2_with fail
  go_ret
  exact HF.out
 | true=>
  have HM2:Hid (wellB (.node a ks) b=ks.all fun t=>wellB t false):=hQ (by rw [HMN.out];simp);have x2:=B3.out.c2;clear HMN;go_wp2_with fail;go_loopw [29] (fun i wr=>∃ k:Nat,k<=m/\i=.int .i64 k/\AllTo (fun t=>wellB t false) ks k/\Below w2.heap.size w2 wr) (fun i _=>m - (intOf i).toNat)
  case atStart=>exact ⟨0,Nat.zero_le _,rfl,Zca _ _,Below.refl _ _⟩
  case round=>
   obtain ⟨k,hk,rfl,hto,hb⟩:=hrel;have HTO:=hQ hto;have HBW:=hQ (HB3.out.trans (hb.mono HB3.out.size));have HB:=hQ hb;clear hto hb x2;by_cases hlt:k < m
   ·have hlt':k < ks.length:=by rw [HM.out];exact hlt
    obtain ⟨ad,p,c0,c1,c2,rfl,hpe,hr,q0,q1,q2⟩:=Zal (HKD.out w bQ) HBW.out hlt';have hw:=HKW.out ks[k] (List.getElem_mem hlt');obtain ⟨d0,d1,d2,d3,d4,d5,d6,he⟩:=hr.shape;injection he with e0 he
    injection he with e1 he
    injection he with e2 _
    subst e0 e1 e2;obtain ⟨W5,hW5⟩:∃ W5,wr.alloc (.cells #[.int .i64 d0,.slice d1 d2 d3,.slice d4 d5 d6] 38)=W5:=⟨_,rfl⟩;have hb5:Below wr.heap.size wr W5:=by rw [<-hW5];exact bQ.alloc nQ _
    have HC:=hQ (HI.out ks[k] (List.getElem_mem hlt') W5 _ false (hr.keep hb5) hw);have HW5:=hQ hW5;have HB5:=hQ (HB.out.trans (hb5.mono HB.out.size));have HBW5:=hQ (HBW.out.trans (hb5.mono HBW.out.size));have hx5:=Box3.new wr 38 (.int .i64 d0) (.slice d1 d2 d3) (.slice d4 d5 d6);rw [hW5] at hx5;have y0:=hx5.c0;have y1:=hx5.c1;have y2:=hx5.c2;have HS:=hQ (fun hf=>Zbz (f:=fun t=>wellB t false) HTO.out hlt' hf);have HN:=hQ (fun hf=>Zex (f:=fun t=>wellB t false) hlt' hf);obtain ⟨v,hv⟩:∃ v,wellB ks[k] false=v:=⟨_,rfl⟩;simp only [hv] at HS HN;rw [hv] at HC;clear hr hw hb5 hW5 hx5 hv hlt';go_wp2_with fail;rw [HW5.out];go_wp2_with fail;refine HC.out.mono ?_;rintro e w6 ⟨rfl,hb6⟩;have HB6:=hQ (HB5.out.trans (hb6.mono HB5.out.size));have HBW6:=hQ (HBW5.out.trans (hb6.mono HBW5.out.size));clear hb6 y0 y1 y2 HC;cases v with
    | false=>
     have HF:Hid (Truth (wellB (.node a ks) b) w (.returned (.bool false)) w6):=by rw [HM2.out,HN.out rfl];exact ⟨rfl,HBW6.out⟩
     go_wp2_with fail
     go_ret
     exact HF.out
    | true=>
     have HT:=hQ (HS.out rfl);clear HS HN;go_wp2_with fail;go_roundw
     case rel=>exact ⟨k+1,hlt,by go_num,HT.out,HB6.out⟩
     case measure=>simp [intOf];omega
   ·have he:k=ks.length:=by rw [HM.out];omega
    have HF:Hid (Truth (wellB (.node a ks) b) w (.returned (.bool true)) wr):=by
     rw [HM2.out,Zcp (by rw [<-he];exact HTO.out)];exact ⟨rfl,HBW.out⟩
    clear he;go_wp2_with fail;go_ret;exact HF.out
theorem Zagm (a:TyA)(ks:List Ty)(ih:∀ t∈ks,WellK t)(hq:a.kind=4)(w:World)(cs:List Value)(b:Bool)(h:RTy w (.node a ks) cs)(hwt:wt (.node a ks)<=1048576) :
  Calls Tryz.prog 91 #[.agg cs.toArray,.bool b] w (Truth (wellB (.node a ks) b) w):=by
 obtain ⟨L,c,A,d,rfl,k1,k2,k3,k4,k5,k6,hp⟩:=h.out;obtain ⟨l1,l2⟩:=Zcy hwt;have hkw:∀ t∈ks,wt t<=1048576:=fun t ht=>Nat.le_trans (Zbn ht) hwt
 have hmn:=Zeo a ks b;rw [hq] at hmn ⊢;have hpb:Zea a ks=Zbj a.labels.length ks.length 1:=by unfold Zea;rw [hq];rfl
 obtain ⟨n,hn⟩:∃ n,a.labels.length=n:=⟨_,rfl⟩;obtain ⟨m,hm⟩:∃ m,ks.length=m:=⟨_,rfl⟩;obtain ⟨W1,hW1⟩:∃ W1,w.alloc (.cells #[.int .i64 4,.slice L n c,.slice A m d] 38)=W1:=⟨_,rfl⟩;obtain ⟨H,hH⟩:∃ H,w.heap.size=H:=⟨_,rfl⟩;have hb1:Below w.heap.size w W1:=by rw [<-hW1];exact bQ.alloc nQ _
 have hbox:Box3 W1 H 38 (.int .i64 4) (.slice L n c) (.slice A m d):=by rw [<-hW1,<-hH];exact Box3.new w _ _ _ _
 have HK:=hQ (Zdl 4 (.slice L n c) (.slice A m d) W1);have HP:=hQ (fun W=>Zzm (.int .i64 4) L A n c m d W);rw [hpb] at hmn;rw [hn,hm] at hmn;rw [hn,hm];have HMN:=hQ hmn;have HKD:=hQ (fun W (hB:Below w.heap.size w W)=>hp.keep hB);rw [hm] at k6;have HI:=hQ ih;have HKW:=hQ hkw;have HM:=hQ hm;have HW1:=hQ hW1;have HB1:=hQ hb1;have B1:=hQ hbox;have x0:=hbox.c0;have x1:=hbox.c1;have x2:=hbox.c2;have a1:=Zmm;have a2:=Zro;have a3:=Zru;have a4:=Zafq;clear h k1 k2 k3 k4 k5 l1 l2 hp hwt hkw hb1 hbox hW1 hmn hn hm ih hpb hq;go_enter Tryz.func91,Tryz.ntmps91;go_wp2_with fail;rw [HW1.out];go_wp2_with fail;refine HK.out.mono ?_;rintro e w1 ⟨rfl,hb2⟩;have HB2:=hQ (HB1.out.trans (hb2.mono HB1.out.size));have B2:=hQ (B1.out.under hb2 B1.out.lt);clear x0 x1 x2 hb2 HK HW1;rw [show kindT 4=132 from rfl];go_wp2_with fail;refine (HP.out w1).mono ?_;rintro e w2 ⟨rfl,hb3⟩;have HB3:=hQ (HB2.out.trans (hb3.mono HB2.out.size));have B3:=hQ (B2.out.under hb3 B2.out.lt);clear hb3 HP;generalize Zbj n m 1=pb at HMN ⊢;cases pb with
 | false=>
  have HF:Hid (Truth (wellB (.node a ks) b) w (.returned (.bool false)) w2):=by rw [HMN.out];exact ⟨by simp,HB3.out⟩
  go_wp2_with fail
  go_ret
  exact HF.out
 | true=>
  have HM2:Hid (wellB (.node a ks) b=ks.all fun t=>wellB t false):=hQ (by rw [HMN.out];simp);have x2:=B3.out.c2;clear HMN;go_wp2_with fail;go_loopw [29] (fun i wr=>∃ k:Nat,k<=m/\i=.int .i64 k/\AllTo (fun t=>wellB t false) ks k/\Below w2.heap.size w2 wr) (fun i _=>m - (intOf i).toNat)
  case atStart=>exact ⟨0,Nat.zero_le _,rfl,Zca _ _,Below.refl _ _⟩
  case round=>
   obtain ⟨k,hk,rfl,hto,hb⟩:=hrel;have HTO:=hQ hto;have HBW:=hQ (HB3.out.trans (hb.mono HB3.out.size));have HB:=hQ hb;clear hto hb x2;by_cases hlt:k < m
   ·have hlt':k < ks.length:=by rw [HM.out];exact hlt
    obtain ⟨ad,p,c0,c1,c2,rfl,hpe,hr,q0,q1,q2⟩:=Zal (HKD.out w bQ) HBW.out hlt';have hw:=HKW.out ks[k] (List.getElem_mem hlt');obtain ⟨d0,d1,d2,d3,d4,d5,d6,he⟩:=hr.shape;injection he with e0 he
    injection he with e1 he
    injection he with e2 _
    subst e0 e1 e2;obtain ⟨W5,hW5⟩:∃ W5,wr.alloc (.cells #[.int .i64 d0,.slice d1 d2 d3,.slice d4 d5 d6] 38)=W5:=⟨_,rfl⟩;have hb5:Below wr.heap.size wr W5:=by rw [<-hW5];exact bQ.alloc nQ _
    have HC:=hQ (HI.out ks[k] (List.getElem_mem hlt') W5 _ false (hr.keep hb5) hw);have HW5:=hQ hW5;have HB5:=hQ (HB.out.trans (hb5.mono HB.out.size));have HBW5:=hQ (HBW.out.trans (hb5.mono HBW.out.size));have hx5:=Box3.new wr 38 (.int .i64 d0) (.slice d1 d2 d3) (.slice d4 d5 d6);rw [hW5] at hx5;have y0:=hx5.c0;have y1:=hx5.c1;have y2:=hx5.c2;have HS:=hQ (fun hf=>Zbz (f:=fun t=>wellB t false) HTO.out hlt' hf);have HN:=hQ (fun hf=>Zex (f:=fun t=>wellB t false) hlt' hf);obtain ⟨v,hv⟩:∃ v,wellB ks[k] false=v:=⟨_,rfl⟩;simp only [hv] at HS HN;rw [hv] at HC;clear hr hw hb5 hW5 hx5 hv hlt';go_wp2_with fail;rw [HW5.out];go_wp2_with fail;refine HC.out.mono ?_;rintro e w6 ⟨rfl,hb6⟩;have HB6:=hQ (HB5.out.trans (hb6.mono HB5.out.size));have HBW6:=hQ (HBW5.out.trans (hb6.mono HBW5.out.size));clear hb6 y0 y1 y2 HC;cases v with
    | false=>
     have HF:Hid (Truth (wellB (.node a ks) b) w (.returned (.bool false)) w6):=by rw [HM2.out,HN.out rfl];exact ⟨rfl,HBW6.out⟩
     go_wp2_with fail
     go_ret
     exact HF.out
    | true=>
     have HT:=hQ (HS.out rfl);clear HS HN;go_wp2_with fail;go_roundw
     case rel=>exact ⟨k+1,hlt,by go_num,HT.out,HB6.out⟩
     case measure=>simp [intOf];omega
   ·have he:k=ks.length:=by rw [HM.out];omega
    have HF:Hid (Truth (wellB (.node a ks) b) w (.returned (.bool true)) wr):=by
     rw [HM2.out,Zcp (by rw [<-he];exact HTO.out)];exact ⟨rfl,HBW.out⟩
    clear he;go_wp2_with fail;go_ret;exact HF.out
theorem Zagn (a:TyA)(ks:List Ty)(ih:∀ t∈ks,WellK t)(hq:a.kind=5)(w:World)(cs:List Value)(b:Bool)(h:RTy w (.node a ks) cs)(hwt:wt (.node a ks)<=1048576) :
  Calls Tryz.prog 91 #[.agg cs.toArray,.bool b] w (Truth (wellB (.node a ks) b) w):=by
 obtain ⟨L,c,A,d,rfl,k1,k2,k3,k4,k5,k6,hp⟩:=h.out;obtain ⟨l1,l2⟩:=Zcy hwt;have hkw:∀ t∈ks,wt t<=1048576:=fun t ht=>Nat.le_trans (Zbn ht) hwt
 have hmn:=Zeo a ks b;rw [hq] at hmn ⊢;have hpb:Zea a ks=Zbj a.labels.length ks.length 2:=by unfold Zea;rw [hq];rfl
 obtain ⟨n,hn⟩:∃ n,a.labels.length=n:=⟨_,rfl⟩;obtain ⟨m,hm⟩:∃ m,ks.length=m:=⟨_,rfl⟩;obtain ⟨W1,hW1⟩:∃ W1,w.alloc (.cells #[.int .i64 5,.slice L n c,.slice A m d] 38)=W1:=⟨_,rfl⟩;obtain ⟨H,hH⟩:∃ H,w.heap.size=H:=⟨_,rfl⟩;have hb1:Below w.heap.size w W1:=by rw [<-hW1];exact bQ.alloc nQ _
 have hbox:Box3 W1 H 38 (.int .i64 5) (.slice L n c) (.slice A m d):=by rw [<-hW1,<-hH];exact Box3.new w _ _ _ _
 have HK:=hQ (Zdl 5 (.slice L n c) (.slice A m d) W1);have HP:=hQ (fun W=>Zaaa (.int .i64 5) L A n c m d W);rw [hpb] at hmn;rw [hn,hm] at hmn;rw [hn,hm];have HMN:=hQ hmn;have HKD:=hQ (fun W (hB:Below w.heap.size w W)=>hp.keep hB);rw [hm] at k6;have HI:=hQ ih;have HKW:=hQ hkw;have HM:=hQ hm;have HW1:=hQ hW1;have HB1:=hQ hb1;have B1:=hQ hbox;have x0:=hbox.c0;have x1:=hbox.c1;have x2:=hbox.c2;have a1:=Zmn;have a2:=Zrp;have a3:=Zrv;have a4:=Zafr;clear h k1 k2 k3 k4 k5 l1 l2 hp hwt hkw hb1 hbox hW1 hmn hn hm ih hpb hq;go_enter Tryz.func91,Tryz.ntmps91;go_wp2_with fail;rw [HW1.out];go_wp2_with fail;refine HK.out.mono ?_;rintro e w1 ⟨rfl,hb2⟩;have HB2:=hQ (HB1.out.trans (hb2.mono HB1.out.size));have B2:=hQ (B1.out.under hb2 B1.out.lt);clear x0 x1 x2 hb2 HK HW1;rw [show kindT 5=168 from rfl];cases b with
 | false=>
  have HF:Hid (Truth (wellB (.node a ks) false) w (.returned (.bool false)) w1):=by rw [HMN.out];exact ⟨rfl,HB2.out⟩
  go_wp2_with fail
  go_ret
  exact HF.out
 | true=>
  go_wp2_with fail
  refine (HP.out w1).mono ?_;rintro e w2 ⟨rfl,hb3⟩;have HB3:=hQ (HB2.out.trans (hb3.mono HB2.out.size));have B3:=hQ (B2.out.under hb3 B2.out.lt);clear hb3 HP;generalize Zbj n m 2=pb at HMN ⊢;cases pb with
  | false=>
   have HF:Hid (Truth (wellB (.node a ks) true) w (.returned (.bool false)) w2):=by rw [HMN.out];exact ⟨by simp,HB3.out⟩
   go_wp2_with fail
   go_ret
   exact HF.out
  | true=>
   have HM2:Hid (wellB (.node a ks) true=ks.all fun t=>wellB t true):=hQ (by rw [HMN.out];simp);have x2:=B3.out.c2;clear HMN;go_wp2_with fail;go_loopw [29] (fun i wr=>∃ k:Nat,k<=m/\i=.int .i64 k/\AllTo (fun t=>wellB t true) ks k/\Below w2.heap.size w2 wr) (fun i _=>m - (intOf i).toNat)
   case atStart=>exact ⟨0,Nat.zero_le _,rfl,Zca _ _,Below.refl _ _⟩
   case round=>
    obtain ⟨k,hk,rfl,hto,hb⟩:=hrel;have HTO:=hQ hto;have HBW:=hQ (HB3.out.trans (hb.mono HB3.out.size));have HB:=hQ hb;clear hto hb x2;by_cases hlt:k < m
    ·have hlt':k < ks.length:=by rw [HM.out];exact hlt
     obtain ⟨ad,p,c0,c1,c2,rfl,hpe,hr,q0,q1,q2⟩:=Zal (HKD.out w bQ) HBW.out hlt';have hw:=HKW.out ks[k] (List.getElem_mem hlt');obtain ⟨d0,d1,d2,d3,d4,d5,d6,he⟩:=hr.shape;injection he with e0 he
     injection he with e1 he
     injection he with e2 _
     subst e0 e1 e2;obtain ⟨W5,hW5⟩:∃ W5,wr.alloc (.cells #[.int .i64 d0,.slice d1 d2 d3,.slice d4 d5 d6] 38)=W5:=⟨_,rfl⟩;have hb5:Below wr.heap.size wr W5:=by rw [<-hW5];exact bQ.alloc nQ _
     have HC:=hQ (HI.out ks[k] (List.getElem_mem hlt') W5 _ true (hr.keep hb5) hw);have HW5:=hQ hW5;have HB5:=hQ (HB.out.trans (hb5.mono HB.out.size));have HBW5:=hQ (HBW.out.trans (hb5.mono HBW.out.size));have hx5:=Box3.new wr 38 (.int .i64 d0) (.slice d1 d2 d3) (.slice d4 d5 d6);rw [hW5] at hx5;have y0:=hx5.c0;have y1:=hx5.c1;have y2:=hx5.c2;have HS:=hQ (fun hf=>Zbz (f:=fun t=>wellB t true) HTO.out hlt' hf);have HN:=hQ (fun hf=>Zex (f:=fun t=>wellB t true) hlt' hf);obtain ⟨v,hv⟩:∃ v,wellB ks[k] true=v:=⟨_,rfl⟩;simp only [hv] at HS HN;rw [hv] at HC;clear hr hw hb5 hW5 hx5 hv hlt';go_wp2_with fail;rw [HW5.out];go_wp2_with fail;refine HC.out.mono ?_;rintro e w6 ⟨rfl,hb6⟩;have HB6:=hQ (HB5.out.trans (hb6.mono HB5.out.size));have HBW6:=hQ (HBW5.out.trans (hb6.mono HBW5.out.size));clear hb6 y0 y1 y2 HC;cases v with
     | false=>
      have HF:Hid (Truth (wellB (.node a ks) true) w (.returned (.bool false)) w6):=by rw [HM2.out,HN.out rfl];exact ⟨rfl,HBW6.out⟩
      go_wp2_with fail
      go_ret
      exact HF.out
     | true=>
      have HT:=hQ (HS.out rfl);clear HS HN;go_wp2_with fail;go_roundw
      case rel=>exact ⟨k+1,hlt,by go_num,HT.out,HB6.out⟩
      case measure=>simp [intOf];omega
    ·have he:k=ks.length:=by rw [HM.out];omega
     have HF:Hid (Truth (wellB (.node a ks) true) w (.returned (.bool true)) wr):=by
      rw [HM2.out,Zcp (by rw [<-he];exact HTO.out)];exact ⟨rfl,HBW.out⟩
     clear he;go_wp2_with fail;go_ret;exact HF.out
theorem Zago (a:TyA)(ks:List Ty)(ih:∀ t∈ks,WellK t)(h1:a.kind≠1)(h2:a.kind≠2)(h3:a.kind≠3)(h4:a.kind≠4)(h5:a.kind≠5)(w:World)(cs:List Value)(b:Bool)(h:RTy w (.node a ks) cs)(hwt:wt (.node a ks)<=1048576) :
  Calls Tryz.prog 91 #[.agg cs.toArray,.bool b] w (Truth (wellB (.node a ks) b) w):=by
 obtain ⟨L,c,A,d,rfl,k1,k2,k3,k4,k5,k6,hp⟩:=h.out;obtain ⟨l1,l2⟩:=Zcy hwt;have hkw:∀ t∈ks,wt t<=1048576:=fun t ht=>Nat.le_trans (Zbn ht) hwt
 have hmn:=Zeo a ks b;have hpb:Zea a ks=false:=by unfold Zea;simp [h1,h2,h3,h4,h5]
 have hk6:kindT a.kind=171:=by unfold kindT;simp [h1,h2,h3,h4,h5]
 rw [hpb] at hmn;obtain ⟨q,hq⟩:∃ q,a.kind=q:=⟨_,rfl⟩;rw [hq] at hk6 ⊢;obtain ⟨n,hn⟩:∃ n,a.labels.length=n:=⟨_,rfl⟩;obtain ⟨m,hm⟩:∃ m,ks.length=m:=⟨_,rfl⟩;obtain ⟨W1,hW1⟩:∃ W1,w.alloc (.cells #[.int .i64 q,.slice L n c,.slice A m d] 38)=W1:=⟨_,rfl⟩;obtain ⟨H,hH⟩:∃ H,w.heap.size=H:=⟨_,rfl⟩;have hb1:Below w.heap.size w W1:=by rw [<-hW1];exact bQ.alloc nQ _
 have hbox:Box3 W1 H 38 (.int .i64 q) (.slice L n c) (.slice A m d):=by rw [<-hW1,<-hH];exact Box3.new w _ _ _ _
 have HK:=hQ (Zdl q (.slice L n c) (.slice A m d) W1);unfold Zgf at HK;rw [hk6] at HK;have HP:=hQ (fun W=>Zxo (.int .i64 q) (.slice L n c) (.slice A m d) W);rw [hn,hm];have HMN:=hQ hmn;have HKD:=hQ (fun W (hB:Below w.heap.size w W)=>hp.keep hB);rw [hm] at k6;have HI:=hQ ih;have HKW:=hQ hkw;have HM:=hQ hm;have HW1:=hQ hW1;have HB1:=hQ hb1;have B1:=hQ hbox;have x0:=hbox.c0;have x1:=hbox.c1;have x2:=hbox.c2;have a1:=Zmo;have a2:=Zrq;have a3:=Zrw;have a4:=Zafs;clear h k1 k2 k3 k4 k5 l1 l2 hp hwt hkw hb1 hbox hW1 hmn hn hm ih hpb h1 h2 h3 h4 h5 hq hk6;go_enter Tryz.func91,Tryz.ntmps91;go_wp2_with fail;rw [HW1.out];go_wp2_with fail;refine HK.out.mono ?_;rintro e w1 ⟨rfl,hb2⟩;have HB2:=hQ (HB1.out.trans (hb2.mono HB1.out.size));have B2:=hQ (B1.out.under hb2 B1.out.lt);clear x0 x1 x2 hb2 HK HW1;go_wp2_with fail;refine (HP.out w1).mono ?_;rintro e w2 ⟨rfl,hb3⟩;have HB3:=hQ (HB2.out.trans (hb3.mono HB2.out.size));have B3:=hQ (B2.out.under hb3 B2.out.lt);clear hb3 HP;have HF:Hid (Truth (wellB (.node a ks) b) w (.returned (.bool false)) w2):=by rw [HMN.out];exact ⟨by simp,HB3.out⟩
 go_wp2_with fail
 go_ret
 exact HF.out
theorem Zss:∀ t:Ty,WellK t:=by
 refine Tr.ind ?_
 intro a ks ih w cs b h hw
 by_cases h1:a.kind=1
 ·exact Zagj a ks ih h1 w cs b h hw
 by_cases h2:a.kind=2
 ·exact Zagk a ks ih h2 w cs b h hw
 by_cases h3:a.kind=3
 ·exact Zagl a ks ih h3 w cs b h hw
 by_cases h4:a.kind=4
 ·exact Zagm a ks ih h4 w cs b h hw
 by_cases h5:a.kind=5
 ·exact Zagn a ks ih h5 w cs b h hw
 exact Zago a ks ih h1 h2 h3 h4 h5 w cs b h hw
end Go.Proofs.YtlcedleebbgebaaGreatDoor
