/-
  Merged by program: TyValid, TyRow, TySame, Texts, TySameS, SchD, TgD, Te, Part8.
-/
import Derived.Test.YtlcedleebbgebaaGreatDoorQ6
set_option maxRecDepth 100000
set_option maxHeartbeats 1600000
namespace Go.Proofs.YtlcedleebbgebaaGreatDoor
open Go.RowKit
theorem RTy.three {w:World}{t:Ty}{cs:List Value}(h:RTy w t cs):∃ c0 c1 c2,cs=[c0,c1,c2]:=by
 have hl:cs.length=3:=Reads.len h
 match cs,hl with
 | [a,b,c],_=>exact ⟨a,b,c,rfl⟩
theorem boxed {w:World}{t:Ty}{cs:List Value}(h:RTy w t cs):∃ c0 c1 c2 W1 H,cs=[c0,c1,c2]/\w.heap.size=H/\w.alloc (.cells #[c0,c1,c2] 38)=W1/\Box3 W1 H 38 c0 c1 c2/\Below w.heap.size w W1:=by
 obtain ⟨c0,c1,c2,rfl⟩:=h.three;exact ⟨c0,c1,c2,_,_,rfl,rfl,rfl,Box3.new w _ _ _ _,bQ.alloc nQ _⟩
def Zae (t:Ty):Bool:=decide (t.size<=24) && (decide (t.deep<=7) && t.form)
theorem Zcf (t:Ty)(w:World)(cs:List Value)(h:RTy w t cs)(hw:wt t<=1048576):Calls Tryz.prog 64 #[.agg cs.toArray] w (Truth (Zae t) w):=by
 have hz:=Zkn t;obtain ⟨c0,c1,c2,W1,H,rfl,hH,hW1,hbox,hb0⟩:=boxed h;have HD:=hQ (fun W (hB:Below w.heap.size w W)=>Zni t W _ (h.keep hB) (by omega));have HF:=hQ (fun W (hB:Below w.heap.size w W)=>Ztt t W _ (h.keep hB) hw);have HL:=hQ (Ztu t W1 _ 24 (h.keep hb0) (by omega) (by omega));have hdz:t.deep<=1048577:=Nat.le_trans (Zfm t) (by omega);have HDZ:=hQ hdz;have HW1:=hQ hW1;have B0:=hQ hbox;have HB0:=hQ hb0;have x0:=hbox.c0;have x1:=hbox.c1;have x2:=hbox.c2;clear h hw hz hdz hW1 hbox hb0;go_enter Tryz.func64,Tryz.ntmps64;go_wp2_with fail;rw [HW1.out];go_wp2_with fail;refine HL.out.mono ?_;rintro e w1 ⟨r,rfl,r1,r2,r3,r4,hb1⟩;have HB1:=hQ (HB0.out.trans (hb1.mono HB0.out.size));have B1:=hQ (B0.out.under hb1 B0.out.lt);clear x0 x1 x2;by_cases hr:0<=r
 ·have hsz:t.size<=24:=by have:=r3 hr;omega
  have HV:Hid (Zae t=(decide (t.deep<=7) && t.form)):=hQ (by unfold Zae;simp [hsz]);have HC:=hQ (HD.out w1 HB1.out);have x0:=B1.out.c0;have x1:=B1.out.c1;have x2:=B1.out.c2;clear hsz hb1 r3 r4;have hdz:=HDZ.out;obtain ⟨dp,hdp⟩:∃ dp,t.deep=dp:=⟨_,rfl⟩;rw [hdp] at HV HC hdz;clear hdp;go_wp2_with fail;refine HC.out.mono ?_;rintro e w2 ⟨rfl,hb2⟩;have HB2:=hQ (HB1.out.trans (hb2.mono HB1.out.size));have B2:=hQ (B1.out.under hb2 B1.out.lt);clear x0 x1 x2;by_cases hd:dp<=7
  ·have HV2:Hid (Zae t=t.form):=hQ (by rw [HV.out];simp [hd])
   have HG:=hQ (HF.out w2 HB2.out);have x0:=B2.out.c0;have x1:=B2.out.c1;have x2:=B2.out.c2;clear hb2;go_wp2_with fail;refine HG.out.mono ?_;rintro e w3 ⟨rfl,hb3⟩;have HR:=hQ (Zag HV2.out (HB2.out.trans (hb3.mono HB2.out.size)));clear hb3;go_wp2_with fail;go_ret;exact HR.out
  ·have HR:=hQ (Zag (a:=Zae t) (b:=false) (by rw [HV.out];simp [hd]) HB2.out)
   clear hb2;go_wp2_with fail;go_ret;exact HR.out
 ·have HR:=hQ (Zag (a:=Zae t) (b:=false) (by unfold Zae;have:=r4 (by omega);simp;omega) HB1.out)
  clear hb1 r3 r4;go_wp2_with fail;go_ret;exact HR.out
def dataB (t:Ty):Bool:=Zae t && !(Tr.has 5 t)
def baseB (t:Ty):Bool:=decide (t.top.kind=1) || decide (t.top.kind=2)
def rowB (t:Ty):Bool:=Zae t && (decide (t.top.kind=3) && t.kids.all baseB)
theorem Zts (t:Ty)(w:World)(cs:List Value)(h:RTy w t cs):Calls Tryz.prog 94 #[.agg cs.toArray] w (Truth (baseB t) w):=by
 obtain ⟨a,ks⟩:=t;obtain ⟨L,c,A,d,rfl,k1,k2,k3,k4,k5,k6,hp⟩:=h.out;clear h hp k1 k5;have hR:∀ (b:Bool) (cs:Array Value),(decide (a.kind=1) || decide (a.kind=2))=b->Truth (baseB (.node a ks)) w (.returned (.bool b)) (w.alloc (.cells cs 38)):=fun b _ hb=>Zag hb (bQ.alloc nQ _)
 have HR:=hQ hR;clear hR;go_enter Tryz.func94,Tryz.ntmps94;have HR1:=hQ (fun cs=>HR.out (a.kind == 1 || a.kind == 2) cs rfl);clear HR;by_cases h1:a.kind=1
 ·have h1b:(a.kind == 1)=true:=by simp [h1]
  rw [h1b] at HR1;clear h1b;go_wp2_with fail;go_ret;exact HR1.out _
 ·go_wp2_with fail
  go_ret
  exact HR1.out _
theorem Zqv (t:Ty)(w:World)(cs:List Value)(h:RTy w t cs)(hw:wt t<=1048576):Calls Tryz.prog 62 #[.agg cs.toArray] w (Truth (rowB t) w):=by
 obtain ⟨a,ks⟩:=t;obtain ⟨L,c,A,d,rfl,k1,k2,k3,k4,k5,k6,hp⟩:=h.out;obtain ⟨W1,hW1⟩:∃ W1,w.alloc (.cells #[.int .i64 a.kind,.slice L a.labels.length c,.slice A ks.length d] 38)=W1:=⟨_,rfl⟩;have hb0:Below w.heap.size w W1:=by rw [<-hW1];exact bQ.alloc nQ _
 obtain ⟨H,hH⟩:∃ H,w.heap.size=H:=⟨_,rfl⟩;have b0:Box3 W1 H 38 (.int .i64 a.kind) (.slice L a.labels.length c) (.slice A ks.length d):=by rw [<-hW1,<-hH];exact Box3.new w _ _ _ _
 have HV:=hQ (Zcf (.node a ks) W1 _ (h.keep hb0) hw);have HW1:=hQ hW1;have HP:=hQ hp;have B0:=hQ b0;have HB0:=hQ hb0;have x0:=b0.c0;have x1:=b0.c1;have x2:=b0.c2;clear h hw hW1 b0 hb0 hp k1 k5;go_enter Tryz.func62,Tryz.ntmps62;go_wp2_with fail;rw [HW1.out];go_wp2_with fail;refine HV.out.mono ?_;rintro e w1 ⟨rfl,hb1⟩;have HB1:=hQ (HB0.out.trans (hb1.mono HB0.out.size));have b1:=B0.out.under hb1 B0.out.lt;have B1:=hQ b1;clear hb1 x0 x1 x2;have x0:=b1.c0;clear b1;cases hv:Zae (.node a ks)
 ·have HR:=hQ (Zag (a:=rowB (.node a ks)) (b:=false) (by unfold rowB;rw [hv];rfl) HB1.out)
  clear hv;go_wp2_with fail;go_ret;exact HR.out
 ·by_cases h3:a.kind=3
  ·have HE:Hid (rowB (.node a ks)=ks.all baseB):=hQ (by unfold rowB;rw [hv];simp [Tr.top,Tr.kids,h3])
   clear hv;go_wp2_with fail;go_loopw [3] (fun i wr=>∃ k:Nat,k<=ks.length/\i=.int .i64 k/\AllTo baseB ks k/\Below w1.heap.size w1 wr) (fun i _=>ks.length - (intOf i).toNat)
   case atStart=>exact ⟨0,Nat.zero_le _,rfl,Zca _ _,Below.refl _ _⟩
   case round=>
    obtain ⟨k,hk,rfl,hno,hb⟩:=hrel;have hbw:=HB1.out.trans (hb.mono HB1.out.size);have bk:=B1.out.under hb B1.out.lt;have hbx:=bk.c2;clear bk;by_cases hlt:k < ks.length
    ·obtain ⟨ad,p,c0,c1,c2,rfl,hpe,hr,q0,q1,q2⟩:=Zal HP.out hbw hlt
     have HC:=hQ (Zts ks[k] wr [c0,c1,c2] hr);have HN:=hQ hno;have HBW:=hQ hbw;clear hr hno;go_wp2_with fail;refine HC.out.mono ?_;rintro e w2 ⟨rfl,hb2⟩;have hb3:=hb.trans (hb2.mono hb.size);have HB4:=hQ (HBW.out.trans (hb2.mono HBW.out.size));cases hf:baseB ks[k]
     ·have HR:=hQ (Zag (a:=rowB (.node a ks)) (b:=false) (by rw [HE.out,Zex hlt hf]) HB4.out)
      clear hf;go_wp2_with fail;go_ret;exact HR.out
     ·have HN2:=hQ (Zbz HN.out hlt hf)
      clear hf;go_wp2_with fail;go_roundw
      case rel=>exact ⟨k+1,hlt,by go_num,HN2.out,hb3⟩
      case measure=>simp [intOf];omega
    ·have he:k=ks.length:=by omega
     have HR:=hQ (Zag (a:=rowB (.node a ks)) (b:=true) (by rw [HE.out];exact Zcp (he ▸ hno)) hbw);clear he hno;go_wp2_with fail;go_ret;exact HR.out
  ·have HR:=hQ (Zag (a:=rowB (.node a ks)) (b:=false) (by unfold rowB;simp [Tr.top,h3]) HB1.out)
   clear hv;go_wp2_with fail;go_ret;exact HR.out
noncomputable def same {β:Type}(x y:β):Bool:=@decide (x=y) (Classical.propDecidable _)
theorem Zhr {β:Type}{x y:β}(h:x=y):same x y=true:=by unfold same;simp [h]
theorem Zfx {β:Type}{x y:β}(h:x≠y):same x y=false:=by unfold same;simp [h]
def EqTo {β:Type}(xs ys:List β)(k:Nat):Prop:=∀ j,j < k->xs[j]?=ys[j]?
theorem Zjq {β:Type}(xs ys:List β):EqTo xs ys 0:=fun j h=>by omega
theorem Zjp {β:Type}{xs ys:List β}{k:Nat}(h:EqTo xs ys k)(h1:k < xs.length)(h2:k < ys.length)(he:xs[k]=ys[k]):EqTo xs ys (k+1):=by
 intro j hj
 by_cases e:j=k
 ·subst e
  rw [List.getElem?_eq_getElem h1,List.getElem?_eq_getElem h2,he]
 ·exact h j (by omega)
theorem Zmr {β:Type}{xs ys:List β}(h:EqTo xs ys xs.length)(hl:xs.length=ys.length):xs=ys:=by
 apply List.ext_getElem?
 intro j
 by_cases hj:j < xs.length
 ·exact h j hj
 ·rw [List.getElem?_eq_none (by omega),List.getElem?_eq_none (by omega)]
theorem ne_at {β:Type}{xs ys:List β}{k:Nat}(h1:k < xs.length)(h2:k < ys.length)(he:xs[k]≠ys[k]):xs≠ys:=by
 rintro rfl;exact he rfl
theorem ty_ne {a b:TyA}{ks js:List Ty}(h:a.kind≠b.kind∨a.labels≠b.labels∨ks≠js):same (Tr.node a ks) (Tr.node b js)=false:=by
 apply Zfx
 intro e
 injection e with e1 e2
 subst e1;subst e2
 rcases h with h|h|h <;> exact h rfl
theorem ty_eq {a b:TyA}{ks js:List Ty}(h1:a.kind=b.kind)(h2:a.labels=b.labels)(h3:ks=js):same (Tr.node a ks) (Tr.node b js)=true:=by
 apply Zhr
 obtain ⟨k,l⟩:=a;obtain ⟨k',l'⟩:=b;simp only at h1 h2;rw [h1,h2,h3]
theorem Zng {β:Type}{x y:β}:same x y=true↔x=y:=by unfold same;simp
theorem Zkm {β:Type}{x y:β}:same x y=false↔x≠y:=by unfold same;simp
theorem Zqf (A B:Option Addr)(c d:Nat)(xs ys:List ByteArray)(w:World)(hA:Sl w A (xs.map Value.string))(hB:Sl w B (ys.map Value.string))(hn:xs.length<=9223372036854775807) :
  Calls Tryz.prog 156 #[.slice A xs.length c,.slice B ys.length d] w (Tells (same xs ys) w):=by
 by_cases hl:xs.length=ys.length
 ·have HL:=hQ hl
  rw [<-hl];clear hl;go_enter Tryz.func156,Tryz.ntmps156;go_wp2_with fail;go_loopw [5] (fun i wr=>∃ k:Nat,k<=xs.length/\i=.int .i64 k/\EqTo xs ys k/\∃ n,wr=w.drewN n) (fun i _=>xs.length - (intOf i).toNat)
  case atStart=>exact ⟨0,Nat.zero_le _,rfl,Zjq _ _,0,rfl⟩
  case round=>
   obtain ⟨k,hk,rfl,hno,n,rfl⟩:=hrel;by_cases hlt:k < xs.length
   ·have hlt2:k < ys.length:=by have:=HL.out;omega
    obtain ⟨ad,rfl,hc⟩:=hA k (.string xs[k]) (by simp [hlt]);obtain ⟨bd,rfl,hd⟩:=hB k (.string ys[k]) (by simp [hlt2]);by_cases hx:xs[k]=ys[k]
    ·have HN:=hQ (Zjp hno hlt hlt2 hx)
     rw [<-hx] at hd;clear hx hno;go_wp2;go_quiet (fail);go_wp2;go_roundw
     case rel=>exact ⟨k+1,by omega,by go_num,HN.out,_,rfl⟩
     case measure=>simp [intOf];omega
    ·have HR:=hQ (Zfx (ne_at hlt hlt2 hx))
     have hb:=(Lib.bytes_beq_false_iff xs[k] ys[k]).2 hx;clear hx hno;go_wp2;go_quiet (fail);go_wp2;go_ret;exact ⟨Zce HR.out.symm,_,World.drewN_drewN _ _ _⟩
   ·have he:k=xs.length:=by omega
    have HR:=hQ (Zhr (Zmr (he ▸ hno) HL.out));clear he hno;go_wp2_with fail;go_ret;exact ⟨Zce HR.out.symm,n,rfl⟩
 ·have HR:=hQ (Zfx (x:=xs) (y:=ys) (fun e=>hl (by rw [e])))
  go_enter Tryz.func156,Tryz.ntmps156
  go_wp2_with fail
  go_ret
  exact ⟨Zce HR.out.symm,0,rfl⟩
theorem Zil:∀ (t s:Ty)(w:World)(cs ds:List Value),RTy w t cs->RTy w s ds->Calls Tryz.prog 134 #[.agg cs.toArray,.agg ds.toArray] w (Truth (same t s) w):=by
 refine Tr.ind ?_
 intro a ks ih s w cs ds h h'
 obtain ⟨b,js⟩:=s;obtain ⟨L,c,A,d,rfl,k1,k2,k3,k4,k5,k6,hp⟩:=h.out;obtain ⟨L',c',A',d',rfl,k1',k2',k3',k4',k5',k6',hp'⟩:=h'.out;obtain ⟨p,hp0⟩:∃ p,a.kind=p:=⟨_,rfl⟩;obtain ⟨q,hq0⟩:∃ q,b.kind=q:=⟨_,rfl⟩;obtain ⟨n,hn0⟩:∃ n,ks.length=n:=⟨_,rfl⟩;obtain ⟨m,hm0⟩:∃ m,js.length=m:=⟨_,rfl⟩;rw [hp0,hn0];rw [hq0,hm0];rw [hp0] at k2 k3;rw [hq0] at k2' k3';rw [hn0] at k6;rw [hm0] at k6';obtain ⟨W1,hW1⟩:∃ W1,(w.alloc (.cells #[.int .i64 p,.slice L a.labels.length c,.slice A n d] 38)).alloc (.cells #[.int .i64 q,.slice L' b.labels.length c',.slice A' m d'] 38)=W1:=⟨_,rfl⟩;obtain ⟨H,hH⟩:∃ H,w.heap.size=H:=⟨_,rfl⟩;have b0:Box3 W1 H 38 (.int .i64 p) (.slice L a.labels.length c) (.slice A n d):=by rw [<-hW1,<-hH];exact (Box3.new w _ _ _ _).alloc _
 have b1:Box3 W1 (H+1) 38 (.int .i64 q) (.slice L' b.labels.length c') (.slice A' m d'):=by
  rw [<-hW1,<-hH]
  have:=Box3.new (w.alloc (.cells #[.int .i64 p,.slice L a.labels.length c,.slice A n d] 38)) 38 (.int .i64 q) (.slice L' b.labels.length c') (.slice A' m d')
  simpa using this
 have hb1:Below w.heap.size w W1:=by rw [<-hW1];exact (bQ.alloc nQ _).alloc (by simp) _
 have HW1:=hQ hW1;have HP:=hQ (hp.keep hb1);have HP':=hQ (hp'.keep hb1);have HT:=hQ (Zqf L L' c c' a.labels b.labels W1 (k1.below hb1) (k1'.below hb1) k4);have HB1:=hQ hb1;have HI:=hQ ih;have HK:=hQ hp0;have HK':=hQ hq0;have HN:=hQ hn0;have HN':=hQ hm0;have B0:=hQ b0;have B1:=hQ b1;clear hp hp' ih k1 k1' k5 k5' h h' hb1 hp0 hq0 hn0 hm0;by_cases hpq:p=q
 ·subst hpq
  have x1:=b0.c1;have y1:=b1.c1;clear b0 b1 hW1;go_enter Tryz.func134,Tryz.ntmps134;go_wp2_with fail;rw [HW1.out];refine HT.out.mono ?_;rintro e W2 ⟨rfl,nd,hW2⟩;have hb2:Below W1.heap.size W1 W2:=by rw [hW2];exact Zab bQ nd
  have hz:H+1 < W1.heap.size:=B1.out.lt;have B20:=hQ (B0.out.under hb2 B0.out.lt);have B21:=hQ (B1.out.under hb2 hz);have HB2:=hQ (HB1.out.trans (hb2.mono HB1.out.size));have HP2:=hQ (HP.out.keep hb2);have HP2':=hQ (HP'.out.keep hb2);clear hb2 hW2 x1 y1 hz;cases hlb:same a.labels b.labels
  ·have HR:=hQ (Zag (a:=same (Tr.node a ks) (Tr.node b js)) (b:=false) (ty_ne (Or.inr (Or.inl (Zkm.1 hlb)))) HB2.out)
   clear hlb;go_wp2_with fail;go_ret;exact HR.out
  ·have HLB:=hQ (Zng.1 hlb)
   have x2:=B20.out.c2;have y2:=B21.out.c2;clear hlb;by_cases hnm:n=m
   ·subst hnm
    clear x2 y2;have x2:=B20.out.c2;have y2:=B21.out.c2;go_wp2_with fail;go_loopw [5] (fun i wr=>∃ k:Nat,k<=n/\i=.int .i64 k/\EqTo ks js k/\Below W2.heap.size W2 wr) (fun i _=>n - (intOf i).toNat)
    case atStart=>exact ⟨0,Nat.zero_le _,rfl,Zjq _ _,Below.refl _ _⟩
    case round=>
     obtain ⟨k,hk,rfl,hno,hb⟩:=hrel;have z2:=(B20.out.under hb B20.out.lt).c2;have v2:=(B21.out.under hb B21.out.lt).c2;have HBW:=hQ (HB2.out.trans (hb.mono HB2.out.size));have HBR:=hQ hb;by_cases hlt:k < n
     ·have hlk:k < ks.length:=by rw [HN.out];exact hlt
      have hlj:k < js.length:=by rw [HN'.out];exact hlt
      obtain ⟨ad,p1,c0,c1,c2,rfl,hpe,hr,q0,q1,q2⟩:=Zal HP2.out hb hlk;obtain ⟨bd,p2,d0,d1,d2,rfl,hpe',hr',q0',q1',q2'⟩:=Zal HP2'.out hb hlj;have HR:=hQ hr;have HR':=hQ hr';have HNO:=hQ hno;clear hr hr' hb hno;go_wp2_with fail;go_still_tail 10,(by kernel_rfl)
      change wpList _ _ _ _ _ wr.drew
      have hd:Below wr.heap.size wr wr.drew:=bQ.drew;have HC:=hQ (HI.out ks[k] (List.getElem_mem hlk) js[k] wr.drew [c0,c1,c2] [d0,d1,d2] (HR.out.keep hd) (HR'.out.keep hd));have HBW2:=hQ (HBW.out.trans (hd.mono HBW.out.size));have HBR2:=hQ (HBR.out.trans (hd.mono HBR.out.size));clear hd;go_wp2_with fail;refine HC.out.mono ?_;rintro e w3 ⟨rfl,hb3⟩;have HBW3:=hQ (HBW2.out.trans (hb3.mono HBW2.out.size));have HBR3:=hQ (HBR2.out.trans (hb3.mono HBR2.out.size));clear hb3;cases hf:same ks[k] js[k]
      ·have HR:=hQ (Zag (a:=same (Tr.node a ks) (Tr.node b js)) (b:=false) (ty_ne (Or.inr (Or.inr (ne_at hlk hlj (Zkm.1 hf))))) HBW3.out)
       clear hf;go_wp2_with fail;go_ret;exact HR.out
      ·have HN2:=hQ (Zjp HNO.out hlk hlj (Zng.1 hf))
       clear hf;go_wp2_with fail;go_roundw
       case rel=>exact ⟨k+1,hlt,by go_num,HN2.out,HBR3.out⟩
       case measure=>simp [intOf];omega
     ·have he:k=n:=by omega
      have hks:ks=js:=Zmr (by rw [HN.out,<-he];exact hno) (by rw [HN.out,HN'.out]);have HR:=hQ (Zag (a:=same (Tr.node a ks) (Tr.node b js)) (b:=true) (ty_eq (by rw [HK.out,HK'.out]) HLB.out hks) HBW.out);clear he hno hks hb;go_wp2_with fail;go_ret;exact HR.out
   ·have HR:=hQ (Zag (a:=same (Tr.node a ks) (Tr.node b js)) (b:=false) (ty_ne (Or.inr (Or.inr (fun e=>hnm (by rw [<-HN.out,<-HN'.out,e]))))) HB2.out)
    go_wp2_with fail
    go_ret
    exact HR.out
 ·have HR:=hQ (fun cs ds=>Zag (w:=w) (w':=(w.alloc (.cells cs 38)).alloc (.cells ds 38)) (a:=same (Tr.node a ks) (Tr.node b js)) (b:=false) (ty_ne (Or.inl (by rw [HK.out,HK'.out];exact hpq))) ((bQ.alloc nQ _).alloc (by simp) _))
  clear b0 b1 hW1;go_enter Tryz.func134,Tryz.ntmps134;go_wp2_with fail;go_ret;exact HR.out _ _
def declB (d:Dc):Bool:=nameB d.1 && rowB d.2
def Zas (xs:Sc):List ByteArray:=xs.map fun d=>d.1
def schB (xs:Sc):Bool:=xs.all declB && (decide (xs.length<=4) && ascL (Zas xs))
theorem Zjb {α:Type}{f:α->Bool}{xs:List α}{k:Nat}(h:(xs.take k).all f=true)(hk:k < xs.length)(hf:f xs[k]=true):(xs.take (k+1)).all f=true:=by
 rw [List.take_add_one,List.getElem?_eq_getElem hk,List.all_append,h];simp [hf]
theorem Zrk {α:Type}{f:α->Bool}{xs:List α}{k:Nat}(hk:k < xs.length)(hf:f xs[k]=false):xs.all f=false:=by
 rw [List.all_eq_false];exact ⟨xs[k],List.getElem_mem hk,by simp [hf]⟩
theorem Zage {xs:Sc}{k:Nat}(hk:k < xs.length)(hf:declB xs[k]=false):schB xs=false:=by unfold schB;rw [Zrk hk hf];rfl
theorem Zaem {xs:Sc}(h:(xs.take xs.length).all declB=true):schB xs=(decide (xs.length<=4) && ascL (Zas xs)):=by
 rw [List.take_length] at h;unfold schB;rw [h]
 rfl
theorem Zir (xs:Sc)(k:Nat)(hk:k < xs.length):(Zas (xs.take (k+1))).map Value.string=(Zas (xs.take k)).map Value.string ++ [.string xs[k].1]:=by
 unfold Zas;rw [List.take_add_one,List.getElem?_eq_getElem hk,List.map_append,List.map_append]
 rfl
abbrev Cx:=List Tg
def tgB (d:Tg):Bool:=nameB d.1 && Zae d.2
def ctxB (c:Cx):Bool:=decide (c.length<=16) && c.all tgB
theorem Zpg {t:Cx}{k:Nat}(hk:k < t.length)(hw:wL wTg t<=1048576):t[k].1.size<=1048576/\wt t[k].2<=1048576/\t.length<=1048576:=by
 have h:=wL_le (f:=wTg) hk hw;have h1:wTg t[k]=t[k].1.size+wt t[k].2:=rfl
 omega
structure TeA where
 kind:Int
 name:ByteArray
 num:Int
 type:Ty
 labels:List ByteArray
abbrev Te:=Tr TeA
def TeA.ok (a:TeA):Prop:=-9223372036854775808<=a.kind/\a.kind<=9223372036854775807/\a.name.size<=9223372036854775807/\-9223372036854775808<=a.num/\a.num<=9223372036854775807/\a.labels.length<=9223372036854775807/\∀ x∈a.labels,x.size<=9223372036854775807
inductive RTe (w:World):Te->List Value->Prop where
 | node (a:TeA) (ks:List Te) (TL TA L A:Option Addr) (tc td c d:Nat) (ps:Nat->List Value)
   (h0:RTy w a.type [.int .i64 a.type.top.kind,.slice TL a.type.top.labels.length tc,.slice TA a.type.kids.length td]) (h1:Sl w L (a.labels.map Value.string)) (h2:a.ok) (h3:ks.length<=9223372036854775807) (h4:ks.length<=d)
   (h5:∀ j t,ks[j]?=some t->RTe w t (ps j)) (h6:∀ j t,ks[j]?=some t->∃ ad,A=some ad/\∀ i u,(ps j)[i]?=some u->w.cell? (ad.add (j * 8+i))=some u) :
   RTe w (.node a ks) [.int .i64 a.kind,.string a.name,.int .i64 a.num,.int .i64 a.type.top.kind,.slice TL a.type.top.labels.length tc,.slice TA a.type.kids.length td,.slice L a.labels.length c,.slice A ks.length d]
theorem RTe.keep {w w':World}{t:Te}{cs:List Value}(h:RTe w t cs)(hb:Below w.heap.size w w'):RTe w' t cs:=by
 induction h with
 | node a ks TL TA L A tc td c d ps h0 h1 h2 h3 h4 _ h6 ih=>
  refine .node a ks TL TA L A tc td c d ps (h0.keep hb) (h1.below hb) h2 h3 h4 ih fun j t hj=>?_
  obtain ⟨ad,e,hc⟩:=h6 j t hj;exact ⟨ad,e,fun i u hi=>(hb.cell (World.block_lt_of_cell? w _ (hc i u hi))).trans (hc i u hi)⟩
def RTes (w:World)(A:Option Addr)(ks:List Te):Prop:=∃ ps:Nat->List Value,∀ j t,ks[j]?=some t->RTe w t (ps j)/\∃ ad,A=some ad/\∀ i u,(ps j)[i]?=some u->w.cell? (ad.add (j * 8+i))=some u
theorem RTes.keep {w w':World}{A:Option Addr}{ks:List Te}(h:RTes w A ks)(hb:Below w.heap.size w w'):RTes w' A ks:=by
 obtain ⟨ps,hp⟩:=h;refine ⟨ps,fun j t hj=>?_⟩;obtain ⟨h1,ad,h2,h3⟩:=hp j t hj;exact ⟨h1.keep hb,ad,h2,fun i u hi=>(hb.cell (World.block_lt_of_cell? w _ (h3 i u hi))).trans (h3 i u hi)⟩
theorem RTe.out {w:World}{a:TeA}{ks:List Te}{cs:List Value}(h:RTe w (.node a ks) cs):∃ TL tc TA td L c A d,cs=[.int .i64 a.kind,.string a.name,.int .i64 a.num,.int .i64 a.type.top.kind,.slice TL a.type.top.labels.length tc,.slice TA a.type.kids.length td,.slice L a.labels.length c,.slice A ks.length d]/\
  RTy w a.type [.int .i64 a.type.top.kind,.slice TL a.type.top.labels.length tc,.slice TA a.type.kids.length td]/\Sl w L (a.labels.map Value.string)/\a.ok/\ks.length<=9223372036854775807/\ks.length<=d/\RTes w A ks:=by
 cases h with
 | node a ks TL TA L A tc td c d ps h0 h1 h2 h3 h4 h5 h6=>exact ⟨TL,tc,TA,td,L,c,A,d,rfl,h0,h1,h2,h3,h4,ps,fun j t hj=>⟨h5 j t hj,h6 j t hj⟩⟩
theorem RTe.open {w:World}{t:Te}{cs:List Value}(h:RTe w t cs):∃ TL tc TA td L c A d,cs=[.int .i64 t.top.kind,.string t.top.name,.int .i64 t.top.num,.int .i64 t.top.type.top.kind,.slice TL t.top.type.top.labels.length tc,.slice TA t.top.type.kids.length td,.slice L t.top.labels.length c,.slice A t.kids.length d]/\
  RTy w t.top.type [.int .i64 t.top.type.top.kind,.slice TL t.top.type.top.labels.length tc,.slice TA t.top.type.kids.length td]/\Sl w L (t.top.labels.map Value.string)/\t.top.ok/\t.kids.length<=9223372036854775807/\t.kids.length<=d/\RTes w A t.kids:=by
 cases t with
 | node a ks=>exact h.out
theorem RTe.eight {w:World}{t:Te}{cs:List Value}(h:RTe w t cs):∃ c0 c1 c2 c3 c4 c5 c6 c7,cs=[c0,c1,c2,c3,c4,c5,c6,c7]:=by
 obtain ⟨_,_,_,_,_,_,_,_,rfl,_⟩:=h.open;exact ⟨_,_,_,_,_,_,_,_,rfl⟩
theorem RTe.shape {w:World}{t:Te}{c0 c1 c2 c3 c4 c5 c6 c7:Value}(h:RTe w t [c0,c1,c2,c3,c4,c5,c6,c7]):∃ k s n tk TL tl tc TA ta td L l c A m d,c0=.int .i64 k/\c1=.string s/\c2=.int .i64 n/\c3=.int .i64 tk/\c4=.slice TL tl tc/\c5=.slice TA ta td/\c6=.slice L l c/\c7=.slice A m d:=by
 obtain ⟨TL,tc,TA,td,L,c,A,d,e,_⟩:=h.open;simp only [List.cons.injEq,and_true] at e;exact ⟨_,_,_,_,_,_,_,_,_,_,_,_,_,_,_,_,e.1,e.2.1,e.2.2.1,e.2.2.2.1,e.2.2.2.2.1,e.2.2.2.2.2.1,e.2.2.2.2.2.2.1,e.2.2.2.2.2.2.2⟩
theorem RTe.make {w:World}{a:TeA}{ks:List Te}{TL TA L A:Option Addr}{tc td c d:Nat}(h0:RTy w a.type [.int .i64 a.type.top.kind,.slice TL a.type.top.labels.length tc,.slice TA a.type.kids.length td])(h1:Sl w L (a.labels.map Value.string))(h2:a.ok)(h3:ks.length<=9223372036854775807)(h4:ks.length<=d)(h5:RTes w A ks) :
  RTe w (.node a ks) [.int .i64 a.kind,.string a.name,.int .i64 a.num,.int .i64 a.type.top.kind,.slice TL a.type.top.labels.length tc,.slice TA a.type.kids.length td,.slice L a.labels.length c,.slice A ks.length d]:=by
 obtain ⟨ps,hp⟩:=h5;exact .node a ks TL TA L A tc td c d ps h0 h1 h2 h3 h4 (fun j t hj=>(hp j t hj).1) (fun j t hj=>(hp j t hj).2)
theorem Zik (a:TeA)(ks:List Te):(Tr.node a ks).size=1+(ks.map Tr.size).sum:=Tr.sum_node _ a ks
theorem Zfj {w wr:World}{A:Option Addr}{ks:List Te}(hp:RTes w A ks)(hb:Below w.heap.size w wr) {k:Nat}(hk:k < ks.length):∃ (ad p:Addr)(c0 c1 c2 c3 c4 c5 c6 c7:Value),A=some ad/\ad.add (k * 8)=p/\RTe wr ks[k] [c0,c1,c2,c3,c4,c5,c6,c7]/\wr.cell? p=some c0/\wr.cell? ⟨p.block,p.off+1,none⟩=some c1/\wr.cell? ⟨p.block,p.off+2,none⟩=some c2/\wr.cell? ⟨p.block,p.off+3,none⟩=some c3/\
  wr.cell? ⟨p.block,p.off+4,none⟩=some c4/\wr.cell? ⟨p.block,p.off+5,none⟩=some c5/\wr.cell? ⟨p.block,p.off+6,none⟩=some c6/\wr.cell? ⟨p.block,p.off+7,none⟩=some c7:=by
 obtain ⟨ps,hp⟩:=hp;obtain ⟨hr,ad,hA,hc⟩:=hp k ks[k] (List.getElem?_eq_getElem hk);have hcell:∀ i u,(ps k)[i]?=some u->wr.cell? (ad.add (k * 8+i))=some u:=fun i u hi=>(hb.cell (World.block_lt_of_cell? w _ (hc i u hi))).trans (hc i u hi)
 obtain ⟨c0,c1,c2,c3,c4,c5,c6,c7,he⟩:=hr.eight;rw [he] at hcell hr;refine ⟨ad,_,c0,c1,c2,c3,c4,c5,c6,c7,hA,rfl,hr.keep hb,hcell 0 _ rfl,?_,?_,?_,?_,?_,?_,?_⟩
 ·rw [<-Zao ad (k * 8) 1 (by omega)];exact hcell 1 _ rfl
 ·rw [<-Zao ad (k * 8) 2 (by omega)];exact hcell 2 _ rfl
 ·rw [<-Zao ad (k * 8) 3 (by omega)];exact hcell 3 _ rfl
 ·rw [<-Zao ad (k * 8) 4 (by omega)];exact hcell 4 _ rfl
 ·rw [<-Zao ad (k * 8) 5 (by omega)];exact hcell 5 _ rfl
 ·rw [<-Zao ad (k * 8) 6 (by omega)];exact hcell 6 _ rfl
 ·rw [<-Zao ad (k * 8) 7 (by omega)];exact hcell 7 _ rfl
theorem Zbv {a b c:World}{g:Nat}(h:a.grownBy b (some g))(k:b.grownBy c (some g)):a.grownBy c (some g):=
 ⟨k.os.trans h.os,k.tape.trans h.tape,k.output.trans h.output,Nat.le_trans h.size k.size,fun i hi hn=>(k.block i (Nat.lt_of_lt_of_le hi h.size) hn).trans (h.block i hi hn)⟩
def part8 {β:Type}(xs:List β)(j:Nat):List β:=(xs.drop (j * 8)).take 8
theorem Zhg {β:Type}(xs:List β)(j i:Nat)(hi:i < 8):(part8 xs j)[i]?=xs[j * 8+i]?:=by
 unfold part8;rw [List.getElem?_take_of_lt hi,List.getElem?_drop]
theorem Zor {β:Type}(xs:List β)(j:Nat)(h:j * 8+8<=xs.length):(part8 xs j).length=8:=by
 unfold part8;rw [List.length_take,List.length_drop]
 omega
theorem Zxy {β:Type}{xs ys:List β}{j:Nat}(h:∀ i,i < 8->xs[j * 8+i]?=ys[j * 8+i]?):part8 xs j=part8 ys j:=by
 apply List.ext_getElem?
 intro i
 by_cases hi:i < 8
 ·rw [Zhg _ _ _ hi,Zhg _ _ _ hi];exact h i hi
 ·unfold part8
  rw [List.getElem?_take_eq_none (by omega),List.getElem?_take_eq_none (by omega)]
def put8 {β:Type}(xs:List β)(j:Nat)(a0 a1 a2 a3 a4 a5 a6 a7:β):List β:=(((((((xs.set (j * 8) a0).set (j * 8+1) a1).set (j * 8+2) a2).set (j * 8+3) a3).set (j * 8+4) a4).set (j * 8+5) a5).set (j * 8+6) a6).set (j * 8+7) a7
theorem Zaba {β:Type}(xs:List β)(j:Nat)(a0 a1 a2 a3 a4 a5 a6 a7:β):(put8 xs j a0 a1 a2 a3 a4 a5 a6 a7).length=xs.length:=by simp [put8]
theorem Zaeh {β:Type}(xs:List β)(j:Nat)(a0 a1 a2 a3 a4 a5 a6 a7:β)(h:j * 8+8<=xs.length):part8 (put8 xs j a0 a1 a2 a3 a4 a5 a6 a7) j=[a0,a1,a2,a3,a4,a5,a6,a7]:=by
 apply List.ext_getElem?
 intro i
 by_cases hi:i < 8
 ·rw [Zhg _ _ _ hi]
  unfold put8
  match i,hi with
  | 0,_=>
   have h0:j * 8 < xs.length:=by omega
   simp [h0]
  | 1,_=>
   have h0:j * 8+1 < xs.length:=by omega
   simp [h0]
  | 2,_=>
   have h0:j * 8+2 < xs.length:=by omega
   simp [h0]
  | 3,_=>
   have h0:j * 8+3 < xs.length:=by omega
   simp [h0]
  | 4,_=>
   have h0:j * 8+4 < xs.length:=by omega
   simp [h0]
  | 5,_=>
   have h0:j * 8+5 < xs.length:=by omega
   simp [h0]
  | 6,_=>
   have h0:j * 8+6 < xs.length:=by omega
   simp [h0]
  | 7,_=>
   have h0:j * 8+7 < xs.length:=by omega
   simp [h0]
 ·rw [List.getElem?_eq_none (by rw [Zor _ _ (by rw [Zaba];exact h)];omega),List.getElem?_eq_none (by simp;omega)]
theorem Zum {β:Type}(xs:List β)(j k:Nat)(a0 a1 a2 a3 a4 a5 a6 a7:β)(h:k≠j):part8 (put8 xs j a0 a1 a2 a3 a4 a5 a6 a7) k=part8 xs k:=by
 refine Zxy fun i hi=>?_
 unfold put8;rw [List.getElem?_set_ne (by omega),List.getElem?_set_ne (by omega),List.getElem?_set_ne (by omega),List.getElem?_set_ne (by omega),List.getElem?_set_ne (by omega),List.getElem?_set_ne (by omega),List.getElem?_set_ne (by omega),List.getElem?_set_ne (by omega)]
def Zso (w:World)(g j:Nat)(a0 a1 a2 a3 a4 a5 a6 a7:Value):World:=(((((((w.setCell ⟨g,j * 8,none⟩ a0).setCell ⟨g,j * 8+1,none⟩ a1).setCell ⟨g,j * 8+2,none⟩ a2).setCell ⟨g,j * 8+3,none⟩ a3).setCell ⟨g,j * 8+4,none⟩ a4).setCell ⟨g,j * 8+5,none⟩ a5).setCell ⟨g,j * 8+6,none⟩ a6).setCell ⟨g,j * 8+7,none⟩ a7
theorem Zuh {w:World}{base g n cap:Nat}{e:TypeId}{xs:List Value}(h:w.ownsRow base e 8 (.slice (some ⟨g,0,none⟩) n cap) n xs)(j:Nat)(a0 a1 a2 a3 a4 a5 a6 a7:Value) :
  (Zso w g j a0 a1 a2 a3 a4 a5 a6 a7).ownsRow base e 8 (.slice (some ⟨g,0,none⟩) n cap) n (put8 xs j a0 a1 a2 a3 a4 a5 a6 a7)/\w.grownBy (Zso w g j a0 a1 a2 a3 a4 a5 a6 a7) (some g):=by
 have h1:=h.stored (j * 8) a0;have h2:=h1.1.stored (j * 8+1) a1;have h3:=h2.1.stored (j * 8+2) a2;have h4:=h3.1.stored (j * 8+3) a3;have h5:=h4.1.stored (j * 8+4) a4;have h6:=h5.1.stored (j * 8+5) a5;have h7:=h6.1.stored (j * 8+6) a6;have h8:=h7.1.stored (j * 8+7) a7;refine ⟨h8.1,?_⟩;have g1:=h1.2;have g2:=Zbv g1 h2.2;have g3:=Zbv g2 h3.2;have g4:=Zbv g3 h4.2;have g5:=Zbv g4 h5.2;have g6:=Zbv g5 h6.2;have g7:=Zbv g6 h7.2;have g8:=Zbv g7 h8.2;exact g8
end Go.Proofs.YtlcedleebbgebaaGreatDoor
