/-
  Merged by program: EvTg, CtxI, EvDc, SchI, ValidD, TypU, TypX, TypY.
-/
import Derived.Test.YtlcedleebbgebaaGreatDoorQ43
import Derived.Test.YtlcedleebbgebaaGreatDoorQ47
set_option maxRecDepth 100000
set_option maxHeartbeats 8000000
set_option linter.all false
namespace Go.Proofs.YtlcedleebbgebaaGreatDoor
open Go.RowKit
theorem Zof (x:Tg)(w:World)(cs:List Value)(h:kTg.R w x cs)(h1:x.1.size<=1048576)(h2:wt x.2<=1048576):Calls Tryz.prog 76 #[.agg cs.toArray] w (Truth (tgB x) w):=by
 obtain ⟨tk,TL,TA,tl,tc,ta,td,rfl,hs,hy⟩:=Zdq h;obtain ⟨W1,hW1⟩:∃ W1,w.alloc (.cells #[.string x.1,.int .i64 tk,.slice TL tl tc,.slice TA ta td] 74)=W1:=⟨_,rfl⟩;obtain ⟨H,hH⟩:∃ H,w.heap.size=H:=⟨_,rfl⟩;have hb1:Below w.heap.size w W1:=by rw [<-hW1];exact bQ.alloc nQ _
 have hx:=Box4.new w 74 (.string x.1) (.int .i64 tk) (.slice TL tl tc) (.slice TA ta td);rw [hW1,hH] at hx;have HN:=hQ (Zdy x.1 W1 h1);have HR:=hQ (fun (W:World) (hB:Below w.heap.size w W)=>Zcs x.2 W _ (kTy.keep hy hB) h2);have HX:=hQ hx;have HB1:=hQ hb1;have HW1:=hQ hW1;have HT:Hid (∀ b W,b=tgB x->Below w.heap.size w W->Truth (tgB x) w (.returned (.bool b)) W):=hQ (fun b W hb hB=>⟨by rw [hb],hB⟩);have HD:Hid (tgB x=(nameB x.1 && Zae x.2)):=hQ rfl;have y0:=hx.c0;generalize tgB x=dB at HT HD ⊢;generalize x.1=nm at *
 generalize x.2=ty at *
 clear h hs hy hx hW1 hb1 h1 h2;cases hn:nameB nm
 ·rw [hn] at HN HD
  have HF:=hQ (fun W hB=>HT.out false W (by rw [HD.out];rfl) hB);clear HT hn HR;go_enter Tryz.func76,Tryz.ntmps76;go_wp2_with fail;rw [HW1.out];go_wp2_with fail;refine HN.out.mono ?_;rintro e w2 ⟨rfl,hb2⟩;have HB2:=hQ (HB1.out.trans (hb2.mono HB1.out.size));clear hb2 y0;go_wp2_with fail;go_ret;exact HF.out _ HB2.out
 ·rw [hn] at HN HD
  have HF:=hQ (fun W hB=>HT.out (Zae ty) W (by rw [HD.out];rfl) hB);clear HT hn;go_enter Tryz.func76,Tryz.ntmps76;go_wp2_with fail;rw [HW1.out];go_wp2_with fail;refine HN.out.mono ?_;rintro e w2 ⟨rfl,hb2⟩;have HB2:=hQ (HB1.out.trans (hb2.mono HB1.out.size));have x2:=HX.out.under hb2 HX.out.lt;have z1:=x2.c1;have z2:=x2.c2;have z3:=x2.c3;have HC:=hQ (HR.out w2 HB2.out);clear hb2 x2 y0;go_wp2_with fail;refine HC.out.mono ?_;rintro e w3 ⟨rfl,hb3⟩;have HB3:=hQ (HB2.out.trans (hb3.mono HB2.out.size));clear hb3 HC z1 z2 z3;go_wp2_with fail;go_ret;exact HF.out _ HB3.out
theorem Zpv (t:Cx)(w:World)(A:Option Addr)(d:Nat)(hp:RL kTg w A t)(hl:t.length<=9223372036854775807)(hw:wL wTg t<=1048576) :
  Calls Tryz.prog 75 #[.slice A t.length d,.func (.func 76) #[] #[]] w (Truth (t.all tgB) w):=by
 have HP:=hQ hp;have HW:=hQ hw;clear hp hw;go_enter Tryz.func75,Tryz.ntmps75;go_wp2_with fail;go_loopw [9] (fun i wr=>∃ k:Nat,k<=t.length/\i=.int .i64 k/\(t.take k).all tgB=true/\Below w.heap.size w wr) (fun i _=>t.length - (intOf i).toNat)
 case atStart=>exact ⟨0,Nat.zero_le _,rfl,by simp,Below.refl _ _⟩
 case round=>
  obtain ⟨k,hk,rfl,hto,hb⟩:=hrel;have HTO:=hQ hto;have HB:=hQ hb;clear hto;by_cases hlt:k < t.length
  ·obtain ⟨ad,p,c0,c1,c2,c3,rfl,hpe,hr,q0,q1,q2,q3⟩:=Zec kTg_n HP.out hb hlt
   obtain ⟨tk,TL,TA,tl,tc,ta,td,hcs,hs,hy⟩:=Zdq hr;obtain ⟨hn1,hn2,_⟩:=Zpg hlt HW.out;injection hcs with e0 hcs
   injection hcs with e1 hcs
   injection hcs with e2 hcs
   injection hcs with e3 hcs
   subst e0 e1 e2 e3;obtain ⟨W5,hW5⟩:∃ W5,wr.alloc (.cells #[.string t[k].1,.int .i64 tk,.slice TL tl tc,.slice TA ta td] 74)=W5:=⟨_,rfl⟩;have hb5:Below wr.heap.size wr W5:=by rw [<-hW5];exact bQ.alloc nQ _
   have hx5:=Box4.new wr 74 (.string t[k].1) (.int .i64 tk) (.slice TL tl tc) (.slice TA ta td);rw [hW5] at hx5;have HC:=hQ (Zof t[k] W5 _ (kTg.keep hr hb5) hn1 hn2);have HW5:=hQ hW5;have HB5:=hQ (HB.out.trans (hb5.mono HB.out.size));have y0:=hx5.c0;have y1:=hx5.c1;have y2:=hx5.c2;have y3:=hx5.c3;have HS:=hQ (fun hf=>Zjb (f:=tgB) HTO.out hlt hf);have HN:=hQ (fun hf=>Zrk (f:=tgB) hlt hf);obtain ⟨v,hv⟩:∃ v,tgB t[k]=v:=⟨_,rfl⟩;rw [hv] at HS HN HC;generalize t[k].1=nm at *
   clear hr hcs hs hy hb hb5 hW5 hx5 hv hn1 hn2;go_wp2_with fail;rw [HW5.out];go_wp2_with fail;refine HC.out.mono ?_;rintro e w6 ⟨rfl,hb6⟩;have HB6:=hQ (HB5.out.trans (hb6.mono HB5.out.size));clear hb6 y0 y1 y2 y3 HC;cases v with
   | false=>
    have HF:Hid (Truth (t.all tgB) w (.returned (.bool false)) w6):=by rw [HN.out rfl];exact ⟨rfl,HB6.out⟩
    go_wp2_with fail
    go_ret
    exact HF.out
   | true=>
    have HT:=hQ (HS.out rfl);clear HS HN;go_wp2_with fail;go_roundw
    case rel=>exact ⟨k+1,hlt,by go_num,HT.out,HB6.out⟩
    case measure=>simp [intOf];omega
  ·have he:k=t.length:=by omega
   have HF:Hid (Truth (t.all tgB) w (.returned (.bool true)) wr):=by
    have h1:=HTO.out;rw [he,List.take_length] at h1;rw [h1];exact ⟨rfl,HB.out⟩
   clear he hb;go_wp2_with fail;go_ret;exact HF.out
theorem Zpw (t:Cx)(w:World)(A:Option Addr)(d:Nat)(hp:RL kTg w A t)(hw:wL wTg t<=1048576):Calls Tryz.prog 39 #[.slice A t.length d] w (Truth (ctxB t) w):=by
 have hlen:t.length<=1048576:=by unfold wL at hw;omega
 have HE:=hQ (Zpv t w A d hp (by omega) hw);have HD:Hid (ctxB t=(decide (t.length<=16) && t.all tgB)):=hQ rfl;clear hp hw;generalize ctxB t=cb at HD ⊢;by_cases h4:(t.length:Int)<=16
 ·have HF:Hid (∀ W,Below w.heap.size w W->Truth cb w (.returned (.bool (t.all tgB))) W):=hQ (fun W hB=>⟨by rw [HD.out,decide_eq_true (by omega)];simp,hB⟩)
  generalize t.all tgB=al at HE HF;go_enter Tryz.func39,Tryz.ntmps39;go_wp2_with fail;refine HE.out.mono ?_;rintro e w2 ⟨rfl,hb2⟩;have HY:=hQ (HF.out w2 hb2);clear hb2;go_wp2_with fail;go_ret;exact HY.out
 ·have HF:Hid (Truth cb w (.returned (.bool false)) w):=hQ ⟨by rw [HD.out,decide_eq_false (by omega)];simp,Below.refl _ _⟩
  go_enter Tryz.func39,Tryz.ntmps39
  go_wp2_with fail
  go_ret
  exact HF.out
theorem Zto (x:Dc)(w:World)(cs:List Value)(h:kDc.R w x cs)(h1:x.1.size<=1048576)(h2:wt x.2<=1048576):Calls Tryz.prog 74 #[.agg cs.toArray] w (Truth (declB x) w):=by
 obtain ⟨tk,TL,TA,tl,tc,ta,td,rfl,hs,hy⟩:=Zcc h;obtain ⟨W1,hW1⟩:∃ W1,w.alloc (.cells #[.string x.1,.int .i64 tk,.slice TL tl tc,.slice TA ta td] 101)=W1:=⟨_,rfl⟩;obtain ⟨H,hH⟩:∃ H,w.heap.size=H:=⟨_,rfl⟩;have hb1:Below w.heap.size w W1:=by rw [<-hW1];exact bQ.alloc nQ _
 have hx:=Box4.new w 101 (.string x.1) (.int .i64 tk) (.slice TL tl tc) (.slice TA ta td);rw [hW1,hH] at hx;have HN:=hQ (Zdy x.1 W1 h1);have HR:=hQ (fun (W:World) (hB:Below w.heap.size w W)=>Zpx x.2 W _ (kTy.keep hy hB) h2);have HX:=hQ hx;have HB1:=hQ hb1;have HW1:=hQ hW1;have HT:Hid (∀ b W,b=declB x->Below w.heap.size w W->Truth (declB x) w (.returned (.bool b)) W):=hQ (fun b W hb hB=>⟨by rw [hb],hB⟩);have HD:Hid (declB x=(nameB x.1 && rowB x.2)):=hQ rfl;have y0:=hx.c0;generalize declB x=dB at HT HD ⊢;generalize x.1=nm at *
 generalize x.2=ty at *
 clear h hs hy hx hW1 hb1 h1 h2;cases hn:nameB nm
 ·rw [hn] at HN HD
  have HF:=hQ (fun W hB=>HT.out false W (by rw [HD.out];rfl) hB);clear HT hn HR;go_enter Tryz.func74,Tryz.ntmps74;go_wp2_with fail;rw [HW1.out];go_wp2_with fail;refine HN.out.mono ?_;rintro e w2 ⟨rfl,hb2⟩;have HB2:=hQ (HB1.out.trans (hb2.mono HB1.out.size));clear hb2 y0;go_wp2_with fail;go_ret;exact HF.out _ HB2.out
 ·rw [hn] at HN HD
  have HF:=hQ (fun W hB=>HT.out (rowB ty) W (by rw [HD.out];rfl) hB);clear HT hn;go_enter Tryz.func74,Tryz.ntmps74;go_wp2_with fail;rw [HW1.out];go_wp2_with fail;refine HN.out.mono ?_;rintro e w2 ⟨rfl,hb2⟩;have HB2:=hQ (HB1.out.trans (hb2.mono HB1.out.size));have x2:=HX.out.under hb2 HX.out.lt;have z1:=x2.c1;have z2:=x2.c2;have z3:=x2.c3;have HC:=hQ (HR.out w2 HB2.out);clear hb2 x2 y0;go_wp2_with fail;refine HC.out.mono ?_;rintro e w3 ⟨rfl,hb3⟩;have HB3:=hQ (HB2.out.trans (hb3.mono HB2.out.size));clear hb3 HC z1 z2 z3;go_wp2_with fail;go_ret;exact HF.out _ HB3.out
theorem Zms (t:Sc)(w:World)(A:Option Addr)(d:Nat)(hp:RL kDc w A t)(hl:t.length<=9223372036854775807)(hw:wSc t<=1048576) :
  Calls Tryz.prog 73 #[.slice A t.length d,.func (.func 74) #[] #[]] w (Truth (t.all declB) w):=by
 have HP:=hQ hp;have HW:=hQ hw;clear hp hw;go_enter Tryz.func73,Tryz.ntmps73;go_wp2_with fail;go_loopw [9] (fun i wr=>∃ k:Nat,k<=t.length/\i=.int .i64 k/\(t.take k).all declB=true/\Below w.heap.size w wr) (fun i _=>t.length - (intOf i).toNat)
 case atStart=>exact ⟨0,Nat.zero_le _,rfl,by simp,Below.refl _ _⟩
 case round=>
  obtain ⟨k,hk,rfl,hto,hb⟩:=hrel;have HTO:=hQ hto;have HB:=hQ hb;clear hto;by_cases hlt:k < t.length
  ·obtain ⟨ad,p,c0,c1,c2,c3,rfl,hpe,hr,q0,q1,q2,q3⟩:=Zec kDc_n HP.out hb hlt
   obtain ⟨tk,TL,TA,tl,tc,ta,td,hcs,hs,hy⟩:=Zcc hr;obtain ⟨hn1,hn2,_⟩:=Zia hlt HW.out;injection hcs with e0 hcs
   injection hcs with e1 hcs
   injection hcs with e2 hcs
   injection hcs with e3 hcs
   subst e0 e1 e2 e3;obtain ⟨W5,hW5⟩:∃ W5,wr.alloc (.cells #[.string t[k].1,.int .i64 tk,.slice TL tl tc,.slice TA ta td] 101)=W5:=⟨_,rfl⟩;have hb5:Below wr.heap.size wr W5:=by rw [<-hW5];exact bQ.alloc nQ _
   have hx5:=Box4.new wr 101 (.string t[k].1) (.int .i64 tk) (.slice TL tl tc) (.slice TA ta td);rw [hW5] at hx5;have HC:=hQ (Zto t[k] W5 _ (kDc.keep hr hb5) hn1 hn2);have HW5:=hQ hW5;have HB5:=hQ (HB.out.trans (hb5.mono HB.out.size));have y0:=hx5.c0;have y1:=hx5.c1;have y2:=hx5.c2;have y3:=hx5.c3;have HS:=hQ (fun hf=>Zjb (f:=declB) HTO.out hlt hf);have HN:=hQ (fun hf=>Zrk (f:=declB) hlt hf);obtain ⟨v,hv⟩:∃ v,declB t[k]=v:=⟨_,rfl⟩;rw [hv] at HS HN HC;generalize t[k].1=nm at *
   clear hr hcs hs hy hb hb5 hW5 hx5 hv hn1 hn2;go_wp2_with fail;rw [HW5.out];go_wp2_with fail;refine HC.out.mono ?_;rintro e w6 ⟨rfl,hb6⟩;have HB6:=hQ (HB5.out.trans (hb6.mono HB5.out.size));clear hb6 y0 y1 y2 y3 HC;cases v with
   | false=>
    have HF:Hid (Truth (t.all declB) w (.returned (.bool false)) w6):=by rw [HN.out rfl];exact ⟨rfl,HB6.out⟩
    go_wp2_with fail
    go_ret
    exact HF.out
   | true=>
    have HT:=hQ (HS.out rfl);clear HS HN;go_wp2_with fail;go_roundw
    case rel=>exact ⟨k+1,hlt,by go_num,HT.out,HB6.out⟩
    case measure=>simp [intOf];omega
  ·have he:k=t.length:=by omega
   have HF:Hid (Truth (t.all declB) w (.returned (.bool true)) wr):=by
    have h1:=HTO.out;rw [he,List.take_length] at h1;rw [h1];exact ⟨rfl,HB.out⟩
   clear he hb;go_wp2_with fail;go_ret;exact HF.out
theorem Zpy (t:Sc)(w:World)(cs:List Value)(h:RSc w t cs)(hw:wSc t<=1048576):Calls Tryz.prog 38 #[.agg cs.toArray] w (Truth (schB t) w):=by
 obtain ⟨A,d,rfl,hl,hld,hp⟩:=h.open;have hlen:t.length<=1048576:=Nat.le_trans (Zmz t) hw;obtain ⟨W1,hW1⟩:∃ W1,w.alloc (.cells #[.slice A t.length d] 43)=W1:=⟨_,rfl⟩;obtain ⟨H,hH⟩:∃ H,w.heap.size=H:=⟨_,rfl⟩;have hbox:Box1 W1 H 43 (.slice A t.length d):=by rw [<-hW1,<-hH];exact Box1.new w _ _
 have hb1:Below w.heap.size w W1:=by rw [<-hW1];exact bQ.alloc nQ _
 have HN:=hQ (Zoc t W1 _ (h.keep hb1) hw);have HE:=hQ (fun (W:World) (hB:Below w.heap.size w W)=>Zms t W A d (hp.keep hB) hl hw);have HT:Hid (∀ b W,b=(t.all declB && (decide (t.length<=4) && ascL (Zas t)))->Below w.heap.size w W->Truth (schB t) w (.returned (.bool b)) W):=hQ (fun b W hb hB=>⟨by rw [hb];rfl,hB⟩);have HB1:=hQ hb1;have HX:=hQ hbox;have HW1:=hQ hW1;have HAS:=hQ (fun (V:Option Addr) (lc:Nat) (W:World) (h:Sl W V ((Zas t).map Value.string))=>Zju V lc (Zas t) W h (by rw [Zgo];omega));have x0:=hbox.c0;clear h hp hld hW1 hbox hb1 hw;by_cases h4:(t.length:Int)<=4
 rotate_left
 ·have HF:=hQ (HT.out false W1 (by rw [decide_eq_false (by omega)];simp) HB1.out)
  clear HT HE HN HAS;go_enter Tryz.func38,Tryz.ntmps38;go_wp2_with fail;rw [HW1.out];go_wp2_with fail;go_ret;exact HF.out
 have HT4:=hQ (fun b W (hb:b=(t.all declB && ascL (Zas t))) hB=>HT.out b W (by rw [hb,decide_eq_true (by omega)];simp) hB);clear HT;go_enter Tryz.func38,Tryz.ntmps38;go_wp2_with fail;rw [HW1.out];go_wp2_with fail;refine HN.out.mono ?_;rintro e w2 ⟨V,lc,rfl,hown,hb2⟩;have hsl:=Sl.of_own hown;have HB2:=hQ (HB1.out.trans (hb2.mono HB1.out.size));have HX2:=hQ (HX.out.under hb2 HX.out.lt);have HC:=hQ (HAS.out V lc w2 hsl);generalize ascL (Zas t)=asc at HC HT4;generalize (Zas t).length=nl at HC ⊢;clear hown hsl hb2 x0 HAS HN;cases asc
 ·have HF:=hQ (fun W hB=>HT4.out false W (by simp) hB)
  clear HT4 HE;go_wp2_with fail;refine HC.out.mono ?_;rintro e w3 ⟨rfl,n,rfl⟩;go_wp2_with fail;go_ret;exact HF.out _ (Zab HB2.out n)
 ·have HF:=hQ (fun W hB=>HT4.out (t.all declB) W (by simp) hB)
  clear HT4;go_wp2_with fail;refine HC.out.mono ?_;rintro e w3 ⟨rfl,n,rfl⟩;have hb3:Below w.heap.size w (w2.drewN n):=Zab HB2.out n;have x3:(w2.drewN n).cell? ⟨H,0,none⟩=some (.slice A t.length d):=(HX2.out.under (Zab bQ n) HX2.out.lt).c0;have HC4:=hQ (HE.out (w2.drewN n) hb3);have HB3:=hQ hb3;clear hb3 HC HE;go_wp2_with fail;refine HC4.out.mono ?_;rintro e w4 ⟨rfl,hb4⟩;have HB4:=hQ (HB3.out.trans (hb4.mono HB3.out.size));clear hb4;go_wp2_with fail;go_ret;exact HF.out _ HB4.out
theorem Zob (t:Ty)(w:World)(cs:List Value)(h:RTy w t cs)(hw:wt t<=1048576):Calls Tryz.prog 57 #[.agg cs.toArray] w (Truth (dataB t) w):=by
 have hz:=Zkn t;obtain ⟨c0,c1,c2,W1,H,rfl,hH,hW1,hbox,hb0⟩:=boxed h;have HC:=hQ (Zgi t W1 _ (h.keep hb0) (by omega));have HD:=hQ (fun W (hB:Below w.heap.size w W)=>Zss t W _ false (h.keep hB) hw);have HE:=hQ (Zzv t);have HW1:=hQ hW1;have HB1:=hQ hb0;have B1:=hQ hbox;have x0:=hbox.c0;have x1:=hbox.c1;have x2:=hbox.c2;clear h hw hz hb0 hbox hW1;go_enter Tryz.func57,Tryz.ntmps57;go_wp2_with fail;rw [HW1.out];go_wp2_with fail;refine HC.out.mono ?_;rintro e w2 ⟨rfl,hb2⟩;have HB2:=hQ (HB1.out.trans (hb2.mono HB1.out.size));have B2:=hQ (B1.out.under hb2 B1.out.lt);clear x0 x1 x2 hb2 HC;generalize Zeh t=a at HE ⊢;cases a with
 | false=>
  have HF:Hid (Truth (dataB t) w (.returned (.bool false)) w2):=by rw [<-HE.out];exact ⟨rfl,HB2.out⟩
  go_wp2_with fail
  go_ret
  exact HF.out
 | true=>
  have HC:=hQ (HD.out w2 HB2.out);have HG:Hid (wellB t false=dataB t):=by rw [<-HE.out];exact rfl
  have x0:=B2.out.c0;have x1:=B2.out.c1;have x2:=B2.out.c2;clear HE HD;go_wp2_with fail;refine HC.out.mono ?_;rintro e w3 ⟨rfl,hb3⟩;have HF:Hid (Truth (dataB t) w (.returned (.bool (wellB t false))) w3):=⟨by rw [HG.out],HB2.out.trans (hb3.mono HB2.out.size)⟩;clear hb3 HG HC;generalize wellB t false=b at HF ⊢;go_wp2_with fail;go_ret;exact HF.out
theorem Zlb (xs:Sc)(c:Cx)(t:Te)(A:Option Addr)(d:Nat)(eb:Addr)(w:World)(ss cs:List Value)(hs:RSc w xs ss)(hc:RL kTg w A c)(hd:c.length<=d)(h:RTe w t cs)(hsw:wSc xs<=1048576)(hcw:wL wTg c<=1048576)(hwt:wte t<=1048576)(htab:ArOk w)(he:ErrAt (.iface 215 (.pointer (some eb))) w) :
  Calls Tryz.prog 12 #[.agg ss.toArray,.slice A c.length d,.agg cs.toArray] w (MadeP (optP (typeD xs c t)) w):=by
 have hrte:=h;have HTY:=hQ (fun (W:World) (hB:Below w.heap.size w W) (h1:schB xs=true) (h2:ctxB c=true) (h3:Zcx t=true)=>Zabn xs (Zox h1) t (fun _=>True) c A d (.iface 215 (.pointer (some eb))) w W ss cs hs hrte hB (fun _ _=>trivial) (fun _ _=>trivial) (Zeb hc (Sub.all hB fun _ _=>trivial)) hd (by have:=(Zgt h2).1;have:=(Zef h3).1;omega) (Zgt h2).2 (Zef h3).2 (he.keep hB) ⟨_,_,rfl⟩);have HSB:=hQ (fun (W:World) (hB:Below w.heap.size w W)=>Zpy xs W ss (hs.keep hB) hsw);have HCB:=hQ (fun (W:World) (hB:Below w.heap.size w W)=>Zpw c W A d (hc.keep hB) hcw);have HVB:=hQ (fun (W:World) (hB:Below w.heap.size w W)=>Zlc t W cs (hrte.keep hB) hwt (htab.keep hB));have HER:=hQ (fun (W:World) (hB:Below w.heap.size w W)=>he.keep hB);obtain ⟨a,ks⟩:=t;obtain ⟨SA,sd,rfl,hsl,hsd,hsp⟩:=hs.open;obtain ⟨TL,tc,TA,td,LE,lc0,KA,kd,rfl,hT,hLb,hok,_,_,hkp⟩:=h.out;obtain ⟨W1,hW1⟩:∃ W1,((w.alloc (.cells #[.slice SA xs.length sd] 43)).alloc (.cells #[.int .i64 a.kind,.string a.name,.int .i64 a.num,.int .i64 a.type.top.kind,.slice TL a.type.top.labels.length tc,.slice TA a.type.kids.length td,.slice LE a.labels.length lc0,.slice KA ks.length kd] 49)).alloc (.cells #[.int .i64 0,.slice none 0 0,.slice none 0 0] 38)=W1:=⟨_,rfl⟩;obtain ⟨H,hH⟩:∃ H,w.heap.size=H:=⟨_,rfl⟩;have bs:Box1 W1 H 43 (.slice SA xs.length sd):=by rw [<-hW1,<-hH];exact ((Box1.new w _ _).alloc _).alloc _
 have bt:Box8 W1 (H+1) 49 (.int .i64 a.kind) (.string a.name) (.int .i64 a.num) (.int .i64 a.type.top.kind) (.slice TL a.type.top.labels.length tc) (.slice TA a.type.kids.length td) (.slice LE a.labels.length lc0) (.slice KA ks.length kd):=by
  rw [<-hW1,<-hH]
  have:=(Box8.new (w.alloc (.cells #[.slice SA xs.length sd] 43)) 49 (.int .i64 a.kind) (.string a.name) (.int .i64 a.num) (.int .i64 a.type.top.kind) (.slice TL a.type.top.labels.length tc) (.slice TA a.type.kids.length td) (.slice LE a.labels.length lc0) (.slice KA ks.length kd)).alloc (.cells #[.int .i64 0,.slice none 0 0,.slice none 0 0] 38)
  simpa using this
 have br:Box3 W1 (H+1+1) 38 (.int .i64 0) (.slice none 0 0) (.slice none 0 0):=by
  rw [<-hW1,<-hH]
  have:=Box3.new ((w.alloc (.cells #[.slice SA xs.length sd] 43)).alloc (.cells #[.int .i64 a.kind,.string a.name,.int .i64 a.num,.int .i64 a.type.top.kind,.slice TL a.type.top.labels.length tc,.slice TA a.type.kids.length td,.slice LE a.labels.length lc0,.slice KA ks.length kd] 49)) 38 (.int .i64 0) (.slice none 0 0) (.slice none 0 0)
  simpa using this
 have hb1:Below w.heap.size w W1:=by rw [<-hW1];exact ((bQ.alloc nQ _).alloc (by simp) _).alloc (by simp;omega) _
 have hs1:W1.heap.size=H+3:=by rw [<-hW1,<-hH];simp
 have HB1:=hQ hb1;have HS1:=hQ hs1;have HH:=hQ hH;have HW1:=hQ hW1;have BR:=hQ br;have UP:Hid (∀ W,Below W1.heap.size W1 W->W.cell? ⟨H+1,0,none⟩=some (.int .i64 a.kind)/\W.cell? ⟨H+1,1,none⟩=some (.string a.name)/\W.cell? ⟨H+1,2,none⟩=some (.int .i64 a.num)/\W.cell? ⟨H+1,3,none⟩=some (.int .i64 a.type.top.kind)/\W.cell? ⟨H+1,4,none⟩=some (.slice TL a.type.top.labels.length tc)/\W.cell? ⟨H+1,5,none⟩=some (.slice TA a.type.kids.length td)/\W.cell? ⟨H+1,6,none⟩=some (.slice LE a.labels.length lc0)/\W.cell? ⟨H+1,7,none⟩=some (.slice KA ks.length kd)/\W.cell? ⟨H,0,none⟩=some (.slice SA xs.length sd)):=hQ (fun W hB=>⟨(bt.under hB bt.lt).c0,(bt.under hB bt.lt).c1,(bt.under hB bt.lt).c2,(bt.under hB bt.lt).c3,(bt.under hB bt.lt).c4,(bt.under hB bt.lt).c5,(bt.under hB bt.lt).c6,(bt.under hB bt.lt).c7,(bs.under hB bs.lt).c0⟩);generalize ht:(Tr.node a ks:Te)=t at *
 obtain ⟨x0,x1,x2,x3,x4,x5,x6,x7,z0⟩:=UP.out W1 bQ;clear hs hc hd h hrte hsp hT hLb hok hkp hW1 bs bt br hs1 hsl hsd hsw hcw hwt ht htab he;have HBW:=hQ (fun (W:World) (hB:Below W1.heap.size W1 W)=>HB1.out.trans (hB.mono HB1.out.size));have HBR:=hQ (fun (W:World) (hB:Below W1.heap.size W1 W)=>BR.out.under hB BR.out.lt);have HSZ:=hQ (fun (W:World) (hB:Below W1.heap.size W1 W)=>(by have:=hB.size;have:=HS1.out;omega:H+1+1 < W.heap.size));have HD:Hid (typeD xs c t=if schB xs=true/\ctxB c=true/\Zcx t=true then Tr.typ xs t c else none):=hQ rfl;have HTV:=hQ (fun (W:World) (hB:Below w.heap.size w W) (h1:schB xs=true) (h2:ctxB c=true) (h3:Zcx t=true)=>(HTY.out W hB h1 h2 h3));clear HTY hb1;obtain ⟨b1,hb1⟩:∃ b,schB xs=b:=⟨_,rfl⟩;obtain ⟨b2,hb2⟩:∃ b,ctxB c=b:=⟨_,rfl⟩;obtain ⟨b3,hb3⟩:∃ b,Zcx t=b:=⟨_,rfl⟩;rw [hb1] at HSB HD HTV;rw [hb2] at HCB HD HTV;rw [hb3] at HVB HD HTV;clear hb1 hb2 hb3;have hb0:Below W1.heap.size W1 W1:=Below.refl _ _;go_enter Tryz.func12,Tryz.ntmps12;go_wp2_with fail;rw [HW1.out];go_wp2_with fail;refine (HSB.out W1 (HBW.out W1 hb0)).mono ?_;rintro e W2 ⟨rfl,hb⟩;have B2:=hQ (hb0.trans (hb.mono (hb0).size));clear hb;obtain ⟨x0,x1,x2,x3,x4,x5,x6,x7,z0⟩:=UP.out W2 B2.out;cases b1
 ·have HNO:Hid (optP (typeD xs c t)=(Zap,false)):=hQ (by rw [HD.out];rfl)
  have HB5:=hQ (HBW.out W2 B2.out);have BR5:=hQ (HBR.out W2 B2.out);have HZZ:Hid (∀ U:World,W2.grownBy U (some (H+1+1))->MadeP (optP (typeD xs c t)) w (.returned (.tuple #[.agg #[.int .i64 0,.slice none 0 0,.slice none 0 0],.bool false])) U):=hQ (fun U hU=>(fun h=>by rw [HNO.out];exact h) <| (Zaj (HB5.out.grown hU HB5.out.size (fun k hk=>by injection hk with hk;have:=HH.out;omega))));have r0:=BR5.out.c0;have r1:=BR5.out.c1;have r2:=BR5.out.c2;have s0:=BR5.out.free 0;have s1:=BR5.out.free 1;have s2:=BR5.out.free 2;go_wp2_with fail;generalize hU:((W2.setCell ⟨H+1+1,0,none⟩ (.int .i64 0)).setCell ⟨H+1+1,1,none⟩ (.slice none 0 0)).setCell ⟨H+1+1,2,none⟩ (.slice none 0 0)=U;have hgU:W2.grownBy U (some (H+1+1)):=by rw [<-hU];exact Zaa (Zaa (Zaa (gQ) _) _) _
  have u1:Box3 U (H+1+1) 38 (.int .i64 0) (.slice none 0 0) (.slice none 0 0):=by
   rw [<-hU];exact ((BR5.out.set0 _).set1 _).set2 _
  have HRR:=hQ (HZZ.out U hgU);have tt0:=u1.c0;have tt1:=u1.c1;have tt2:=u1.c2;clear hU hgU u1 r0 r1 r2 s0 s1 s2;exact bodyPost_ret (v:=.tuple #[.agg #[.int .i64 0,.slice none 0 0,.slice none 0 0],.bool false]) (by simp [results,Tryz.results12,go_sem,tt0,tt1,tt2]) rfl HRR.out
 ·go_wp2_with fail
  refine (HCB.out W2 (HBW.out W2 B2.out)).mono ?_;rintro e W3 ⟨rfl,hb⟩;have B3:=hQ (B2.out.trans (hb.mono (B2.out).size));clear hb;obtain ⟨x0,x1,x2,x3,x4,x5,x6,x7,z0⟩:=UP.out W3 B3.out;cases b2
  ·have HNO:Hid (optP (typeD xs c t)=(Zap,false)):=hQ (by rw [HD.out];rfl)
   have HB5:=hQ (HBW.out W3 B3.out);have BR5:=hQ (HBR.out W3 B3.out);have HZZ:Hid (∀ U:World,W3.grownBy U (some (H+1+1))->MadeP (optP (typeD xs c t)) w (.returned (.tuple #[.agg #[.int .i64 0,.slice none 0 0,.slice none 0 0],.bool false])) U):=hQ (fun U hU=>(fun h=>by rw [HNO.out];exact h) <| (Zaj (HB5.out.grown hU HB5.out.size (fun k hk=>by injection hk with hk;have:=HH.out;omega))));have r0:=BR5.out.c0;have r1:=BR5.out.c1;have r2:=BR5.out.c2;have s0:=BR5.out.free 0;have s1:=BR5.out.free 1;have s2:=BR5.out.free 2;go_wp2_with fail;generalize hU:((W3.setCell ⟨H+1+1,0,none⟩ (.int .i64 0)).setCell ⟨H+1+1,1,none⟩ (.slice none 0 0)).setCell ⟨H+1+1,2,none⟩ (.slice none 0 0)=U;have hgU:W3.grownBy U (some (H+1+1)):=by rw [<-hU];exact Zaa (Zaa (Zaa (gQ) _) _) _
   have u1:Box3 U (H+1+1) 38 (.int .i64 0) (.slice none 0 0) (.slice none 0 0):=by
    rw [<-hU];exact ((BR5.out.set0 _).set1 _).set2 _
   have HRR:=hQ (HZZ.out U hgU);have tt0:=u1.c0;have tt1:=u1.c1;have tt2:=u1.c2;clear hU hgU u1 r0 r1 r2 s0 s1 s2;exact bodyPost_ret (v:=.tuple #[.agg #[.int .i64 0,.slice none 0 0,.slice none 0 0],.bool false]) (by simp [results,Tryz.results12,go_sem,tt0,tt1,tt2]) rfl HRR.out
  ·go_wp2_with fail
   refine (HVB.out W3 (HBW.out W3 B3.out)).mono ?_;rintro e W5 ⟨rfl,hb⟩;have B5:=hQ (B3.out.trans (hb.mono (B3.out).size));clear hb;obtain ⟨x0,x1,x2,x3,x4,x5,x6,x7,z0⟩:=UP.out W5 B5.out;cases b3
   ·have HNO:Hid (optP (typeD xs c t)=(Zap,false)):=hQ (by rw [HD.out];rfl)
    have HB5:=hQ (HBW.out W5 B5.out);have BR5:=hQ (HBR.out W5 B5.out);have HZZ:Hid (∀ U:World,W5.grownBy U (some (H+1+1))->MadeP (optP (typeD xs c t)) w (.returned (.tuple #[.agg #[.int .i64 0,.slice none 0 0,.slice none 0 0],.bool false])) U):=hQ (fun U hU=>(fun h=>by rw [HNO.out];exact h) <| (Zaj (HB5.out.grown hU HB5.out.size (fun k hk=>by injection hk with hk;have:=HH.out;omega))));have r0:=BR5.out.c0;have r1:=BR5.out.c1;have r2:=BR5.out.c2;have s0:=BR5.out.free 0;have s1:=BR5.out.free 1;have s2:=BR5.out.free 2;go_wp2_with fail;generalize hU:((W5.setCell ⟨H+1+1,0,none⟩ (.int .i64 0)).setCell ⟨H+1+1,1,none⟩ (.slice none 0 0)).setCell ⟨H+1+1,2,none⟩ (.slice none 0 0)=U;have hgU:W5.grownBy U (some (H+1+1)):=by rw [<-hU];exact Zaa (Zaa (Zaa (gQ) _) _) _
    have u1:Box3 U (H+1+1) 38 (.int .i64 0) (.slice none 0 0) (.slice none 0 0):=by
     rw [<-hU];exact ((BR5.out.set0 _).set1 _).set2 _
    have HRR:=hQ (HZZ.out U hgU);have tt0:=u1.c0;have tt1:=u1.c1;have tt2:=u1.c2;clear hU hgU u1 r0 r1 r2 s0 s1 s2;exact bodyPost_ret (v:=.tuple #[.agg #[.int .i64 0,.slice none 0 0,.slice none 0 0],.bool false]) (by simp [results,Tryz.results12,go_sem,tt0,tt1,tt2]) rfl HRR.out
   ·have HDD:Hid (typeD xs c t=Tr.typ xs t c):=hQ (by rw [HD.out,if_pos (by simp)])
    have HC:=hQ (HTV.out W5 (HBW.out W5 B5.out) (by simp) (by simp) (by simp));have HVT:=hQ (fun (u:Ty) (h:Tr.typ xs t c=some u)=>Nat.le_trans (Zbq (Zfy h)) (by decide:504<=1048576));generalize Tr.typ xs t c=o at HDD HC HVT;go_wp2_with fail;refine HC.out.mono ?_;rintro e w6 ⟨hb6,hm6⟩;have HB6:=hQ (B5.out.trans (hb6.mono B5.out.size));clear hb6 x0 x1 x2 x3 x4 x5 x6 x7 z0 HC;cases o with
    | none=>
     have hm7:e=.returned (.tuple #[.agg #[.int .i64 0,.slice none 0 0,.slice none 0 0],.iface 215 (.pointer (some eb))]):=hm6;clear hm6;subst hm7;have HNO:Hid (optP (typeD xs c t)=(Zap,false)):=hQ (by rw [HDD.out];rfl);obtain ⟨W7,hW7⟩:∃ W7,(w6.alloc (.cells #[.int .i64 0,.slice none 0 0,.slice none 0 0] 38))=W7:=⟨_,rfl⟩;have hal:Below W1.heap.size W1 W7:=by rw [<-hW7];exact HB6.out.alloc HB6.out.size _
     have HB5:=hQ (HBW.out W7 hal);have BR5:=hQ (HBR.out W7 hal);have ee:W7.cell? ⟨0,0,none⟩=some (.iface 215 (.pointer (some eb))):=HER.out W7 HB5.out;have e2:=ee;rw [<-hW7] at e2;have HIS:=hQ (Zade eb W7);have HW7:=hQ hW7;clear hW7 hal;go_wp2_with fail;rw [HW7.out];refine HIS.out.mono ?_;rintro e w8 ⟨rfl,hw8⟩;obtain rfl:W7=w8:=hw8.symm;have HZZ:Hid (∀ U:World,W7.grownBy U (some (H+1+1))->MadeP (optP (typeD xs c t)) w (.returned (.tuple #[.agg #[.int .i64 0,.slice none 0 0,.slice none 0 0],.bool false])) U):=hQ (fun U hU=>(fun h=>by rw [HNO.out];exact h) <| (Zaj (HB5.out.grown hU HB5.out.size (fun k hk=>by injection hk with hk;have:=HH.out;omega))));have r0:=BR5.out.c0;have r1:=BR5.out.c1;have r2:=BR5.out.c2;have s0:=BR5.out.free 0;have s1:=BR5.out.free 1;have s2:=BR5.out.free 2;go_wp2_with fail;generalize hU:((W7.setCell ⟨H+1+1,0,none⟩ (.int .i64 0)).setCell ⟨H+1+1,1,none⟩ (.slice none 0 0)).setCell ⟨H+1+1,2,none⟩ (.slice none 0 0)=U;have hgU:W7.grownBy U (some (H+1+1)):=by rw [<-hU];exact Zaa (Zaa (Zaa (gQ) _) _) _
     have u1:Box3 U (H+1+1) 38 (.int .i64 0) (.slice none 0 0) (.slice none 0 0):=by
      rw [<-hU];exact ((BR5.out.set0 _).set1 _).set2 _
     have HRR:=hQ (HZZ.out U hgU);have tt0:=u1.c0;have tt1:=u1.c1;have tt2:=u1.c2;clear ee e2 hU hgU u1 r0 r1 r2 s0 s1 s2;exact bodyPost_ret (v:=.tuple #[.agg #[.int .i64 0,.slice none 0 0,.slice none 0 0],.bool false]) (by simp [results,Tryz.results12,go_sem,tt0,tt1,tt2]) rfl HRR.out
    | some t1=>
     obtain ⟨y0,L9,y1,l9,A9,y2,d9,rfl,hr9⟩:=hm6;have HNO:Hid (optP (typeD xs c t)=(t1,true)):=hQ (by rw [HDD.out];rfl);obtain ⟨WX,hWX⟩:∃ WX,(w6.alloc (.cells #[.int .i64 y0,.slice L9 y1 l9,.slice A9 y2 d9] 38))=WX:=⟨_,rfl⟩;have hal6:Below w6.heap.size w6 WX:=by rw [<-hWX];exact bQ.alloc nQ _
     have hal:Below W1.heap.size W1 WX:=HB6.out.trans (hal6.mono HB6.out.size);have HB7:=hQ (HBW.out WX hal);have BR7:=hQ (HBR.out WX hal);have HS7:=hQ (HSZ.out WX hal);have ee:WX.cell? ⟨0,0,none⟩=some (.iface 215 (.pointer (some eb))):=HER.out WX HB7.out;have e2:=ee;rw [<-hWX] at e2;have bn:Box3 WX w6.heap.size 38 (.int .i64 y0) (.slice L9 y1 l9) (.slice A9 y2 d9):=by rw [<-hWX];exact Box3.new w6 38 _ _ _
     have n0:=bn.c0;have n1:=bn.c1;have n2:=bn.c2;have HIS:=hQ (Zafk eb WX);have HCP:=hQ (Zfa t1 WX _ (RTy.keep (RTy.sub hr9 (Sub.veil _ _)) hal6) (HVT.out t1 rfl));have HWX:=hQ hWX;clear hWX hal hal6 bn hr9;go_wp2_with fail;rw [HWX.out];refine HIS.out.mono ?_;rintro e w8 ⟨rfl,hw8⟩;obtain rfl:WX=w8:=hw8.symm;go_wp2_with fail;refine HCP.out.mono ?_;rintro e w9 hmade;have hb3:Below WX.heap.size WX w9:=by
      obtain ⟨_,_,_,_,_,_,_,_,hb3⟩:=hmade;exact hb3
     have HBX:=hQ (BR7.out.under hb3 BR7.out.lt);have HM:=hQ (fun (U:World) (hU:w9.grownBy U (some (H+1+1)))=>Zcz (b:=true) (w:=w) (U:=U) hmade HB7.out (by have:=HS7.out;omega) (by have:=HH.out;omega) hU);obtain ⟨LL,AA,lc,dd,rfl,_⟩:=HM.out w9 (gQ);have HM2:Hid (∀ U:World,w9.grownBy U (some (H+1+1))->MadeP (optP (typeD xs c t)) w (.returned (.tuple #[.agg #[.int .i64 (t1).top.kind,.slice LL (t1).top.labels.length lc,.slice AA (t1).kids.length dd],.bool true])) U):=hQ (by
      intro U hU
      obtain ⟨L9,A9,c9,d9,e9,h9⟩:=HM.out U hU;injection e9 with e9
      rw [<-e9] at h9;exact (fun h=>by rw [HNO.out];exact h) h9)
     have r0:=HBX.out.c0;have r1:=HBX.out.c1;have r2:=HBX.out.c2;have s0:=HBX.out.free 0;have s1:=HBX.out.free 1;have s2:=HBX.out.free 2;generalize (t1).top.kind=y0 at HM2 ⊢;generalize (t1).top.labels.length=y1 at HM2 ⊢;generalize (t1).kids.length=y2 at HM2 ⊢;clear hmade hb3 HM;go_wp2_with fail;generalize hU:((w9.setCell ⟨H+1+1,0,none⟩ (.int .i64 y0)).setCell ⟨H+1+1,1,none⟩ (.slice LL y1 lc)).setCell ⟨H+1+1,2,none⟩ (.slice AA y2 dd)=U;have hgU:w9.grownBy U (some (H+1+1)):=by rw [<-hU];exact Zaa (Zaa (Zaa (gQ) _) _) _
     have u1:Box3 U (H+1+1) 38 (.int .i64 y0) (.slice LL y1 lc) (.slice AA y2 dd):=by
      rw [<-hU];exact ((HBX.out.set0 _).set1 _).set2 _
     have HRR:=hQ (HM2.out U hgU);have tt0:=u1.c0;have tt1:=u1.c1;have tt2:=u1.c2;clear hU hgU u1 r0 r1 r2 s0 s1 s2;exact bodyPost_ret (v:=.tuple #[.agg #[.int .i64 y0,.slice LL y1 lc,.slice AA y2 dd],.bool true]) (by simp [results,Tryz.results12,go_sem,tt0,tt1,tt2]) rfl HRR.out
theorem Zjv (xs:Sc)(t:Te)(w:World)(ss cs:List Value)(hs:RSc w xs ss)(h:RTe w t cs)(hsw:wSc xs<=1048576)(hwt:wte t<=1048576)(eb:Addr)(htab:ArOk w)(he:ErrAt (.iface 215 (.pointer (some eb))) w) :
  Calls Tryz.prog 23 #[.agg ss.toArray,.agg cs.toArray] w (Truth (Ziy xs t) w):=by
 have hrte:=h;have HTO:=hQ (fun (W:World) (A:Option Addr) (d:Nat) (hB:Below w.heap.size w W)=>Zlb xs [] t A d eb W ss cs (hs.keep hB) (Zsk W A) (by simp) (hrte.keep hB) hsw (by unfold wL;simp) hwt (htab.keep hB) (he.keep hB));have HD:Hid (Ziy xs t=(match typeD xs [] t with|some u=>isBag u && dataB u|none=>false)):=hQ rfl;have HVA:=hQ (fun (u:Ty) (h:typeD xs [] t=some u)=>Nat.le_trans (Zbq (Zku h)) (by decide:504<=1048576));generalize typeD xs [] t=o at HTO HD HVA;generalize Ziy xs t=qb at HD ⊢;obtain ⟨a,ks⟩:=t;obtain ⟨SA,sd,rfl,hsl,hsd,hsp⟩:=hs.open;obtain ⟨TL,tc,TA,td,LE,lc0,KA,kd,rfl,hT,hLb,hok,_,_,hkp⟩:=h.out;obtain ⟨W1,hW1⟩:∃ W1,(w.alloc (.cells #[.slice SA xs.length sd] 43)).alloc (.cells #[.int .i64 a.kind,.string a.name,.int .i64 a.num,.int .i64 a.type.top.kind,.slice TL a.type.top.labels.length tc,.slice TA a.type.kids.length td,.slice LE a.labels.length lc0,.slice KA ks.length kd] 49)=W1:=⟨_,rfl⟩;obtain ⟨H,hH⟩:∃ H,w.heap.size=H:=⟨_,rfl⟩;have bs:Box1 W1 H 43 (.slice SA xs.length sd):=by rw [<-hW1,<-hH];exact (Box1.new w _ _).alloc _
 have bt:Box8 W1 (H+1) 49 (.int .i64 a.kind) (.string a.name) (.int .i64 a.num) (.int .i64 a.type.top.kind) (.slice TL a.type.top.labels.length tc) (.slice TA a.type.kids.length td) (.slice LE a.labels.length lc0) (.slice KA ks.length kd):=by
  rw [<-hW1,<-hH]
  have:=Box8.new (w.alloc (.cells #[.slice SA xs.length sd] 43)) 49 (.int .i64 a.kind) (.string a.name) (.int .i64 a.num) (.int .i64 a.type.top.kind) (.slice TL a.type.top.labels.length tc) (.slice TA a.type.kids.length td) (.slice LE a.labels.length lc0) (.slice KA ks.length kd)
  simpa using this
 have hb1:Below w.heap.size w W1:=by rw [<-hW1];exact (bQ.alloc nQ _).alloc (by simp) _
 have hs1:W1.heap.size=H+2:=by rw [<-hW1,<-hH];simp
 have HB1:=hQ hb1;have HS1:=hQ hs1;have HH:=hQ hH;have HW1:=hQ hW1;have hl0:([]:Cx).length=0:=rfl;rw [hl0] at HTO;have HC:=hQ (HTO.out W1 none 0 hb1);have x0:=bt.c0;have x1:=bt.c1;have x2:=bt.c2;have x3:=bt.c3;have x4:=bt.c4;have x5:=bt.c5;have x6:=bt.c6;have x7:=bt.c7;have z0:=bs.c0;clear hs h hrte hsp hT hLb hok hkp hW1 bs bt hb1 hs1 hsl hsd hsw hwt hl0 HTO htab he;go_enter Tryz.func23,Tryz.ntmps23;go_wp2_with fail;rw [HW1.out];go_wp2_with fail;refine HC.out.mono ?_;rintro e w3 ⟨LL,AA,lc,dd,fp,rfl,hot,hfp,hb3⟩;have HB3:=hQ ((HB1.out.trans (hb3.mono HB1.out.size)).alloc (HB1.out.trans (hb3.mono HB1.out.size)).size (.cells #[.int .i64 (optP o).1.top.kind,.slice LL (optP o).1.top.labels.length lc,.slice AA (optP o).1.kids.length dd] 38));have hal:Below w3.heap.size w3 (w3.alloc (.cells #[.int .i64 (optP o).1.top.kind,.slice LL (optP o).1.top.labels.length lc,.slice AA (optP o).1.kids.length dd] 38)):=bQ.alloc nQ _;have hdt:wt (optP o).1<=1048576->Calls Tryz.prog 57 #[.agg #[.int .i64 (optP o).1.top.kind,.slice LL (optP o).1.top.labels.length lc,.slice AA (optP o).1.kids.length dd]] _ _:=fun hw=>Zob (optP o).1 _ _ ((OTy.reads hot).keep hal) hw
 have bn:=Box3.new w3 38 (.int .i64 (optP o).1.top.kind) (.slice LL (optP o).1.top.labels.length lc) (.slice AA (optP o).1.kids.length dd);have n0:=bn.c0;have n1:=bn.c1;have n2:=bn.c2;have HDT:=hQ hdt;have HBN:=hQ bn;clear hot hfp hb3 hal hdt bn x0 x1 x2 x3 x4 x5 x6 x7 z0 HC;cases o with
 | none=>
  have HR:Hid (∀ U,Below w.heap.size w U->Truth qb w (.returned (.bool false)) U):=hQ (fun U hU=>⟨by rw [HD.out],hU⟩);have e0:(optP none).2=false:=rfl;rw [e0];clear e0;generalize (optP none).1.top.kind=q0 at *
  generalize (optP none).1.top.labels.length=q1 at *
  generalize (optP none).1.kids.length=q2 at *
  have HF:=hQ (HR.out _ HB3.out);clear HDT HR HBN;go_wp2_with fail;go_ret;exact HF.out
 | some u=>
  have e0:(optP (some u)).2=true:=rfl;have e1:(optP (some u)).1=u:=rfl;rw [e0];rw [e1] at HDT n0 n1 n2 HB3 HBN ⊢;clear e0 e1;have HR:Hid (qb=(isBag u && dataB u)):=hQ HD.out;have HQ:Hid (isBag u=decide (u.top.kind=4)):=hQ rfl;have HDC:=hQ (HDT.out (HVA.out u rfl));clear HDT HVA HD;generalize u.top.kind=q0 at *
  generalize u.top.labels.length=q1 at *
  generalize u.kids.length=q2 at *
  have HIB:=hQ (fun (W:World)=>Zbl q0 _ _ LL AA q1 lc q2 dd W rfl rfl);go_wp2_with fail;refine HDC.out.mono ?_;rintro e w5 ⟨rfl,hb5⟩;have b5:=HBN.out.under hb5 HBN.out.lt;have HB5:=hQ (HB3.out.trans (hb5.mono HB3.out.size));clear hb5 n0 n1 n2;have n0:=b5.c0;have n1:=b5.c1;have n2:=b5.c2;clear b5;cases hdb:dataB u
  ·have HF:Hid (Truth qb w (.returned (.bool false)) w5):=hQ ⟨by rw [HR.out,hdb,Bool.and_false],HB5.out⟩
   clear hdb;go_wp2_with fail;go_ret;exact HF.out
  ·have HF:Hid (qb=decide (q0=4)):=hQ (by rw [HR.out,hdb,HQ.out,Bool.and_true])
   have HC9:=hQ (HIB.out w5);clear hdb;go_wp2_with fail;refine HC9.out.mono ?_;rintro e w6 ⟨rfl,hb6⟩;have HFF:Hid (Truth qb w (.returned (.bool (decide (q0=4)))) w6):=hQ ⟨by rw [HF.out],HB5.out.trans (hb6.mono HB5.out.size)⟩;clear hb6 n0 n1 n2;generalize decide (q0=4)=bb at HFF ⊢;go_wp2_with fail;go_ret;exact HFF.out
def Zlk (w:World):Prop:=ArOk w/\∃ eb:Addr,ErrAt (.iface 215 (.pointer (some eb))) w
theorem Zlk.keep {w w':World}(h:Zlk w)(hb:Below w.heap.size w w'):Zlk w':=by
 obtain ⟨h1,eb,h2⟩:=h;exact ⟨h1.keep hb,eb,h2.keep hb⟩
theorem Zla (xs:Sc)(t:Te)(w:World)(ss cs:List Value)(hs:RSc w xs ss)(h:RTe w t cs)(hsw:wSc xs<=1048576)(hwt:wte t<=1048576)(hv:Zlk w) :
  Calls Tryz.prog 23 #[.agg ss.toArray,.agg cs.toArray] w (Truth (Ziy xs t) w):=by
 obtain ⟨h1,eb,h2⟩:=hv;exact Zjv xs t w ss cs hs h hsw hwt eb h1 h2
end Go.Proofs.YtlcedleebbgebaaGreatDoor
