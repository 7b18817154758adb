/-
  Merged by program: TyHas, Name, Asc, Labels, TyForm.
-/
import Derived.Test.YtlcedleebbgebaaGreatDoorQ5
import Derived.Laws.RangeString
import Derived.Laws.RangeAny
import Derived.Lib.SlicesS
import Derived.IntWalk
set_option maxHeartbeats 1600000
namespace Go.Proofs.YtlcedleebbgebaaGreatDoor
open Go.RowKit
def Truth (b:Bool)(w:World)(e:Ending)(w':World):Prop:=e=.returned (.bool b)/\Below w.heap.size w w'
def Tr.has (q:Int):Ty->Bool
 | .node a ks=>(ks.attach.any fun ⟨t,_⟩=>t.has q) || decide (a.kind=q)
theorem Zmv (q:Int)(a:TyA)(ks:List Ty):Tr.has q (.node a ks)=(ks.any (Tr.has q) || decide (a.kind=q)):=by
 rw [Tr.has]
 congr 1
 rw [Bool.eq_iff_iff,List.any_eq_true,List.any_eq_true]
 constructor
 ·rintro ⟨⟨t,ht⟩,_,h⟩;exact ⟨t,ht,h⟩
 ·rintro ⟨t,ht,h⟩;exact ⟨⟨t,ht⟩,List.mem_attach _ _,h⟩
def NoTo {β:Type}(f:β->Bool)(ks:List β)(k:Nat):Prop:=∀ j (h:j < ks.length),j < k->f ks[j]=false
theorem Zxl {β:Type}(f:β->Bool)(ks:List β):NoTo f ks 0:=fun j _ h=>by omega
theorem Zxk {β:Type}{f:β->Bool}{ks:List β}{k:Nat}(h:NoTo f ks k)(hk:k < ks.length)(hf:f ks[k]=false):NoTo f ks (k+1):=by
 intro j hj hlt
 by_cases e:j=k
 ·subst e;exact hf
 ·exact h j hj (by omega)
theorem Zaao {β:Type}{f:β->Bool}{ks:List β}(h:NoTo f ks ks.length):ks.any f=false:=by
 rw [Bool.eq_false_iff,Ne,List.any_eq_true];rintro ⟨t,ht,hf⟩;obtain ⟨j,hj,rfl⟩:=List.getElem_of_mem ht;rw [h j hj hj] at hf;cases hf
theorem Zaex {β:Type}{f:β->Bool}{ks:List β}{k:Nat}(hk:k < ks.length)(hf:f ks[k]=true):ks.any f=true:=List.any_eq_true.2 ⟨_,List.getElem_mem hk,hf⟩
theorem Zkb (q:Int):∀ (t:Ty)(w:World)(cs:List Value),RTy w t cs->Calls Tryz.prog 89 #[.agg cs.toArray,.int .i64 q] w (Truth (t.has q) w):=by
 refine Tr.ind ?_
 intro a ks ih w cs h
 obtain ⟨L,c,A,d,rfl,k1,k2,k3,k4,k5,k6,hp⟩:=h.out;rw [Zmv];obtain ⟨W1,hW1⟩:∃ W1,w.alloc (.cells #[.int .i64 a.kind,.slice L a.labels.length c,.slice A ks.length d] 38)=W1:=⟨_,rfl⟩;have hb0:Below w.heap.size w W1:=by rw [<-hW1];exact bQ.alloc nQ _
 obtain ⟨H,hH⟩:∃ H,w.heap.size=H:=⟨_,rfl⟩;have b0:Box3 W1 H 38 (.int .i64 a.kind) (.slice L a.labels.length c) (.slice A ks.length d):=by rw [<-hW1,<-hH];exact Box3.new w _ _ _ _
 have HP:=hQ hp;have HI:=hQ ih;have HB0:=hQ hb0;have B0:=hQ b0;have HW1:=hQ hW1;clear hp ih hb0 b0 hW1 k1 k4 k5 h;go_enter Tryz.func89,Tryz.ntmps89;go_wp2_with fail;rw [HW1.out];go_loopw [5] (fun i wr=>∃ k:Nat,k<=ks.length/\i=.int .i64 k/\NoTo (Tr.has q) ks k/\Below W1.heap.size W1 wr) (fun i _=>ks.length - (intOf i).toNat)
 case atStart=>exact ⟨0,Nat.zero_le _,rfl,Zxl _ _,Below.refl _ _⟩
 case round=>
  obtain ⟨k,hk,rfl,hno,hb⟩:=hrel;have hbw:=HB0.out.trans (hb.mono HB0.out.size);have bk:=B0.out.under hb B0.out.lt;have hbx:=bk.c2;by_cases hlt:k < ks.length
  ·obtain ⟨ad,p,c0,c1,c2,rfl,hpe,hr,q0,q1,q2⟩:=Zal HP.out hbw hlt
   have hc:=HI.out ks[k] (List.getElem_mem hlt) wr [c0,c1,c2] hr;have HC:=hQ hc;have HN:=hQ hno;have HBW:=hQ hbw;clear hc hr hno bk;go_wp2_with fail;refine HC.out.mono ?_;rintro e w2 ⟨rfl,hb2⟩;have hb3:=hb.trans (hb2.mono hb.size);have HB4:=hQ (HBW.out.trans (hb2.mono HBW.out.size));by_cases hf:Tr.has q ks[k]=true
   ·have hR:Truth (ks.any (Tr.has q) || decide (a.kind=q)) w (.returned (.bool true)) w2:=⟨by rw [Zaex hlt hf];rfl,HB4.out⟩
    have HR:=hQ hR;rw [hf];clear hR hf;go_wp2_with fail;go_ret;exact HR.out
   ·have hf':Tr.has q ks[k]=false:=by simpa using hf
    have HN2:=hQ (Zxk HN.out hlt hf');rw [hf'];clear hf hf';go_wp2_with fail;go_roundw
    case rel=>exact ⟨k+1,hlt,by go_num,HN2.out,hb3⟩
    case measure=>simp [intOf];omega
  ·have he:k=ks.length:=by omega
   have HR:Hid (Truth (ks.any (Tr.has q) || decide (a.kind=q)) w (.returned (.bool (decide (a.kind=q)))) wr):=by
    rw [Zaao (he ▸ hno),Bool.false_or];exact ⟨rfl,hbw⟩
   have hbx0:=bk.c0;clear he hno bk;go_wp2_with fail;go_ret;exact HR.out
def Left (n:Nat)(left:Int)(w:World)(e:Ending)(w':World):Prop:=∃ r:Int,e=.returned (.int .i64 r)/\-1<=r/\r<=left/\(0<=r->r+n=left)/\(r < 0->left < n)/\Below w.heap.size w w'
theorem Ztu:∀ (t:Ty)(w:World)(cs:List Value)(left:Int),RTy w t cs->0<=left->left<=1048577->Calls Tryz.prog 95 #[.agg cs.toArray,.int .i64 left] w (Left t.size left w):=by
 refine Tr.ind ?_
 intro a ks ih w cs left h hl0 hl1
 obtain ⟨L,c,A,d,rfl,k1,k2,k3,k4,k5,k6,hp⟩:=h.out;rw [Zet];obtain ⟨W1,hW1⟩:∃ W1,w.alloc (.cells #[.int .i64 a.kind,.slice L a.labels.length c,.slice A ks.length d] 38)=W1:=⟨_,rfl⟩;have hb0:Below w.heap.size w W1:=by rw [<-hW1];exact bQ.alloc nQ _
 obtain ⟨H,hH⟩:∃ H,w.heap.size=H:=⟨_,rfl⟩;have b0:Box3 W1 H 38 (.int .i64 a.kind) (.slice L a.labels.length c) (.slice A ks.length d):=by rw [<-hW1,<-hH];exact Box3.new w _ _ _ _
 have HP:=hQ hp;have HI:=hQ ih;have HB0:=hQ hb0;have B0:=hQ b0;have HW1:=hQ hW1;clear hp ih hb0 b0 hW1 k1 k4 k5 h;go_enter Tryz.func95,Tryz.ntmps95;go_wp2_with fail;rw [HW1.out];go_loopw [1,5] (fun l i wr=>∃ (k:Nat) (r:Int),k<=ks.length/\i=.int .i64 k/\l=.int .i64 r/\-1<=r/\r < left/\(0<=r->r+1+((ks.take k).map Tr.size).sum=left)/\(r < 0->left < 1+(((ks.take k).map Tr.size).sum:Nat))/\Below W1.heap.size W1 wr) (fun _ i _=>ks.length - (intOf i).toNat)
 case atStart=>exact ⟨0,_,Nat.zero_le _,rfl,rfl,by omega,by omega,by intro _;simp,by intro _;simp;omega,Below.refl _ _⟩
 case round=>
  obtain ⟨k,r,hk,rfl,rfl,hr1,hr2,hr3,hr4,hb⟩:=hrel;have hbw:=HB0.out.trans (hb.mono HB0.out.size);have bk:=B0.out.under hb B0.out.lt;have hbx:=bk.c2;by_cases hlt:k < ks.length
  ·by_cases hr0:0<=r
   ·obtain ⟨ad,p,c0,c1,c2,rfl,hpe,hr,q0,q1,q2⟩:=Zal HP.out hbw hlt
    have hc:=HI.out ks[k] (List.getElem_mem hlt) wr [c0,c1,c2] r hr hr0 (by omega);have hst:=Zax Tr.size ks k hlt;have HC:=hQ hc;have HST:=hQ hst;have HR3:=hQ (hr3 hr0);clear hc hr hst bk hr3 hr4;go_wp2_with fail;refine HC.out.mono ?_;rintro e w2 ⟨r2,rfl,hq1,hq2,hq3,hq4,hb2⟩;have hb3:=hb.trans (hb2.mono hb.size);have h3:=HR3.out;have h4:=HST.out;have HQ3:Hid (0<=r2->r2+1+((ks.take (k+1)).map Tr.size).sum=left):=fun h=>by have:=hq3 h;omega
    have HQ4:Hid (r2 < 0->left < 1+(((ks.take (k+1)).map Tr.size).sum:Nat)):=fun h=>by have:=hq4 h;omega
    clear hq3 hq4 h3 h4;go_wp2_with fail;go_roundw
    case rel=>exact ⟨k+1,r2,hlt,by go_num,rfl,hq1,by omega,HQ3.out,HQ4.out,hb3⟩
    case measure=>simp [intOf];omega
   ·have hle:=Zde Tr.size ks k
    have HR:Hid (Left (1+(ks.map Tr.size).sum) left w (.returned (.int .i64 r)) wr):=⟨r,rfl,hr1,by omega,fun h=>absurd h hr0,fun h=>by have:=hr4 h;omega,hbw⟩;clear bk hr3 hr4 hle;go_wp2_with fail;go_ret;exact HR.out
  ·have he:k=ks.length:=by omega
   have HR:Hid (Left (1+(ks.map Tr.size).sum) left w (.returned (.int .i64 r)) wr):=by
    rw [he,List.take_length] at hr3 hr4;exact ⟨r,rfl,hr1,by omega,fun h=>by have:=hr3 h;omega,fun h=>by have:=hr4 h;omega,hbw⟩
   clear he bk hr3 hr4;go_wp2_with fail;go_ret;exact HR.out
def letN (u:Nat):Bool:=decide (97<=u) && decide (u<=122)
def digN (u:Nat):Bool:=decide (48<=u) && decide (u<=57)
def okN (k u:Nat):Bool:=letN u || (decide (k≠0) && digN u)
def nameB (s:ByteArray):Bool:=((List.range s.size).all fun k=>okN k (s.get! k).toNat) && (decide (1<=s.size) && (decide (s.size<=4) && (!(s.toList == [105,102]) && !(s.toList == [102,111,114]))))
def NmTo (s:ByteArray)(k:Nat):Prop:=∀ j,j < k->okN j (s.get! j).toNat=true
theorem Zry (s:ByteArray)(k:Nat)(h:k < s.size):s.get! k=s[k]'h:=by
 have:=get_at s k h
 simpa using this
theorem Zoo (s:ByteArray):NmTo s 0:=fun j h=>by omega
theorem Zagb {k u:Nat}(h:(97<=u/\u<=122)∨(k≠0/\48<=u/\u<=57)):okN k u=true:=by
 unfold okN letN digN
 rcases h with ⟨h1,h2⟩|⟨h1,h2,h3⟩
 ·simp [h1,h2]
 ·simp [h1,h2,h3]
theorem Zadx {k u:Nat}(h1:¬ (97<=u/\u<=122))(h2:k=0∨u < 48∨57 < u):okN k u=false:=by
 unfold okN letN digN;have e1:(decide (97<=u) && decide (u<=122))=false:=by simpa using h1
 rw [e1,Bool.false_or]
 simp
 omega
theorem Zhb {s:ByteArray}{k:Nat}(h:NmTo s k)(hk:k < s.size)(hg:(97<=(s[k]'hk).toNat/\(s[k]'hk).toNat<=122)∨(k≠0/\48<=(s[k]'hk).toNat/\(s[k]'hk).toNat<=57)):NmTo s (k+1):=by
 intro j hj
 by_cases e:j=k
 ·subst e
  rw [Zry s j hk];exact Zagb hg
 ·exact h j (by omega)
theorem Zfr {s:ByteArray}{k:Nat}(hk:k < s.size)(h1:¬ (97<=(s[k]'hk).toNat/\(s[k]'hk).toNat<=122))(h2:k=0∨(s[k]'hk).toNat < 48∨57 < (s[k]'hk).toNat):nameB s=false:=by
 have h:=Zadx h1 h2;rw [<-Zry s k hk] at h;unfold nameB;have e:((List.range s.size).all fun k=>okN k (s.get! k).toNat)=false:=by
  rw [Bool.eq_false_iff,Ne,List.all_eq_true]
  intro hall
  have:=hall k (by simpa using hk)
  rw [h] at this;cases this
 rw [e,Bool.false_and]
theorem Zse {s:ByteArray}(h:NmTo s s.size):nameB s=(decide (1<=s.size) && (decide (s.size<=4) && (!(s.toList == [105,102]) && !(s.toList == [102,111,114])))):=by
 unfold nameB;have e:((List.range s.size).all fun k=>okN k (s.get! k).toNat)=true:=by
  rw [List.all_eq_true]
  intro j hj
  exact h j (by simpa using hj)
 rw [e,Bool.true_and]
theorem Zda {a b:Bool}(h:a=b):Ending.returned (.bool a)=.returned (.bool b):=by rw [h]
def Says (b:Bool)(w:World)(e:Ending)(w':World):Prop:=e=.returned (.bool b)/\w=w'
theorem Zee (s:ByteArray)(w:World)(hs:s.size<=1048576):Calls Tryz.prog 61 #[.string s] w (Says (nameB s) w):=by
 go_enter Tryz.func61,Tryz.ntmps61
 go_wp2
 go_loop [3] (fun i=>∃ k:Nat,k<=s.size/\i=.int .i64 k/\NmTo s k) (fun i=>s.size - (intOf i).toNat)
 case atStart=>exact ⟨0,Nat.zero_le _,rfl,Zoo _⟩
 case round=>
  obtain ⟨k,hk,rfl,hno⟩:=hrel;by_cases hlt:k < s.size
  ·have HN:=hQ hno
   clear hno;by_cases hL:(97:Int)<=(s[k].toNat:Int)/\(s[k].toNat:Int)<=122
   ·obtain ⟨ha,hb⟩:=hL
    go_wp2
    go_round
    case rel=>exact ⟨k+1,by omega,by go_num,Zhb HN.out hlt (.inl ⟨by omega,by omega⟩)⟩
    case measure=>simp [intOf];omega
   ·rcases Nat.eq_zero_or_pos k with rfl|hkp
    ·have HX:=hQ (Zfr hlt (by omega) (.inl rfl))
     by_cases ha:(97:Int)<=(s[0].toNat:Int)
     ·have hb:(122:Int) < (s[0].toNat:Int):=by omega
      have hb':decide ((s[0].toNat:Int)<=122)=false:=by simpa using hb
      clear hL;go_wp2;go_ret;exact ⟨Zda HX.out.symm,rfl⟩
     ·clear hL
      go_wp2
      go_ret
      exact ⟨Zda HX.out.symm,rfl⟩
    ·have hk0:((k:Int) == 0)=false:=by simp;omega
     have hk1:¬ k=0:=by omega
     by_cases ha:(97:Int)<=(s[k].toNat:Int)
     ·have hb:(122:Int) < (s[k].toNat:Int):=by omega
      have hc:(57:Int) < (s[k].toNat:Int):=by omega
      have hd:(48:Int)<=(s[k].toNat:Int):=by omega
      have hb':decide ((s[k].toNat:Int)<=122)=false:=by simpa using hb
      have HX:=hQ (Zfr hlt (by omega) (.inr (.inr (by omega))));clear hL;go_wp2;go_ret;exact ⟨Zda HX.out.symm,rfl⟩
     ·clear hL
      by_cases hc:(48:Int)<=(s[k].toNat:Int)
      ·by_cases hd:(s[k].toNat:Int)<=57
       ·go_wp2
        go_round
        case rel=>exact ⟨k+1,by omega,by go_num,Zhb HN.out hlt (.inr ⟨by omega,by omega,by omega⟩)⟩
        case measure=>simp [intOf];omega
       ·have HX:=hQ (Zfr hlt (by omega) (.inr (.inr (by omega))))
        go_wp2
        go_ret
        exact ⟨Zda HX.out.symm,rfl⟩
      ·have HX:=hQ (Zfr hlt (by omega) (.inr (.inl (by omega))))
       go_wp2
       go_ret
       exact ⟨Zda HX.out.symm,rfl⟩
  ·have he:k=s.size:=by omega
   subst he;have HN:=hQ (Zse hno);clear hno;by_cases h1:(1:Int)<=(s.size:Int)
   ·by_cases h4:(s.size:Int)<=4
    ·cases e1:(s.toList == [105,102]) <;> cases e2:(s.toList == [102,111,114])
     all_goals
      have HX:Hid (nameB s=(!(s.toList == [105,102]) && !(s.toList == [102,111,114]))):=by
       rw [HN.out];simp [show 1<=s.size by omega,show s.size<=4 by omega,Hid]
      rw [e1,e2] at HX;go_wp2;go_ret;exact ⟨Zda HX.out.symm,rfl⟩
    ·have HX:Hid (nameB s=false):=by
      rw [HN.out];simp [show ¬ s.size<=4 by omega,Hid]
     go_wp2
     go_ret
     exact ⟨Zda HX.out.symm,rfl⟩
   ·have HX:Hid (nameB s=false):=by
     rw [HN.out];simp [show ¬ 1<=s.size by omega,Hid]
    go_wp2
    go_ret
    exact ⟨Zda HX.out.symm,rfl⟩
def ltS (x y:ByteArray):Bool:=Op.bytesLess x.toList y.toList
def okAt (xs:List ByteArray)(j:Nat):Bool:=ltS (xs.getD j ByteArray.empty) (xs.getD (j+1) ByteArray.empty)
def ascL (xs:List ByteArray):Bool:=(List.range (xs.length - 1)).all (okAt xs)
def AscTo (xs:List ByteArray)(k:Nat):Prop:=∀ j,j < k->okAt xs j=true
theorem Zln (xs:List ByteArray):AscTo xs 0:=fun j h=>by omega
theorem Zlm {xs:List ByteArray}{k:Nat}(h:AscTo xs k)(hk:okAt xs k=true):AscTo xs (k+1):=by
 intro j hj
 by_cases e:j=k
 ·subst e;exact hk
 ·exact h j (by omega)
theorem Zvz {xs:List ByteArray}{k:Nat}(h:AscTo xs k)(hk:xs.length<=k+1):ascL xs=true:=by
 unfold ascL;rw [List.all_eq_true]
 intro j hj
 exact h j (by simp at hj;omega)
theorem Zacb {xs:List ByteArray}{k:Nat}(hk:k+1 < xs.length)(h:okAt xs k=false):ascL xs=false:=by
 unfold ascL;rw [Bool.eq_false_iff,Ne,List.all_eq_true]
 intro hall
 have:=hall k (by simp;omega)
 rw [h] at this;cases this
theorem Zsf {xs:List ByteArray}{k:Nat}(hk:k+1 < xs.length):okAt xs k=Op.bytesLess (xs[k]'(by omega)).toList (xs[k+1]).toList:=by
 simp [okAt,ltS,List.getD,hk,show k < xs.length by omega]
theorem Zmu (t:TypeId)(x y:ByteArray) {b:Bool}(h:Op.bytesLess x.toList y.toList=b):binOp .geq t (.string x) (.string y)=pure (.bool !b):=by
 rw [<-h];simp [binOp,Op.stringOp]
theorem Zce {a b:Bool}(h:a=b):Ending.returned (.bool a)=.returned (.bool b):=by rw [h]
def Tells (b:Bool)(w:World)(e:Ending)(w':World):Prop:=e=.returned (.bool b)/\∃ n,w'=w.drewN n
theorem Zkp (A:Option Addr)(c:Nat)(xs:List ByteArray)(w:World)(h:Sl w A (xs.map Value.string))(hn:xs.length<=1048576) :
  Calls Tryz.prog 63 #[.slice A xs.length c] w (Tells (ascL xs) w):=by
 go_enter Tryz.func63,Tryz.ntmps63
 go_wp2
 go_loopw [3] (fun i wr=>∃ k:Nat,i=.int .i64 ((k:Int)+1)/\k<=xs.length/\AscTo xs k/\∃ n,wr=w.drewN n) (fun i _=>xs.length - (intOf i).toNat)
 case atStart=>exact ⟨0,rfl,Nat.zero_le _,Zln _,0,rfl⟩
 case round=>
  obtain ⟨k,rfl,hk,hasc,n,rfl⟩:=hrel;by_cases hlt:k+1 < xs.length
  ·have hk4:k < xs.length:=by omega
   obtain ⟨ad,rfl,hc0⟩:=h k (.string (xs[k]'hk4)) (by simp [hk4]);obtain ⟨m,hm⟩:∃ m,m=k+1:=⟨_,rfl⟩;have hk6:m < xs.length:=by omega
   obtain ⟨ad',e,hc1⟩:=h m (.string (xs[m]'hk6)) (by simp [hk6]);injection e with e
   subst e;have hg:Op.bytesLess (xs[k]'hk4).toList (xs[m]'hk6).toList=okAt xs k:=by subst hm;exact (Zsf hlt).symm
   have hk1:IntKind.i64.wrap (k:Int)=(k:Int):=IntWalk.i64_in _ (by omega);have hk2:(0:Int)<=(k:Int)+1:=by omega
   have hk5:(k:Int)+1 < (xs.length:Int):=by omega
   have hk3:((k:Int)+1).toNat=m:=by omega
   clear hm;cases hb:okAt xs k
   ·rw [hb] at hg
    have hq:=Zmu 9 _ _ hg;simp only [Bool.not_false] at hq;clear hg;have HA:=hQ (Zacb hlt hb);clear hb hasc;go_wp2;go_quiet (fail);clear hk1 hk2 hk3 hq;go_wp2;go_ret;exact ⟨Zce HA.out.symm,_,World.drewN_drewN _ _ _⟩
   ·rw [hb] at hg
    have hq:=Zmu 9 _ _ hg;simp only [Bool.not_true] at hq;clear hg;have HA:=hQ (Zlm hasc hb);clear hb hasc;go_wp2;go_quiet (fail);clear hk1 hk2 hk3 hq;go_wp2;go_roundw
    case rel=>exact ⟨k+1,by go_num,by omega,HA.out,_,rfl⟩
    case measure=>simp [intOf];omega
  ·have HA:=hQ (Zvz hasc (by omega))
   clear hasc;go_wp2;go_ret;exact ⟨Zce HA.out.symm,n,rfl⟩
def labB (ls:List ByteArray):Bool:=ls.all nameB && ((decide (1<=ls.length) && decide (ls.length<=4)) && ascL ls)
def Zhx (ls:List ByteArray)(k:Nat):Prop:=∀ j (h:j < ls.length),j < k->nameB ls[j]=true
theorem Zit (ls:List ByteArray):Zhx ls 0:=fun j _ h=>by omega
theorem Zis {ls:List ByteArray}{k:Nat}(h:Zhx ls k)(hk:k < ls.length)(hf:nameB ls[k]=true):Zhx ls (k+1):=by
 intro j hj hlt
 by_cases e:j=k
 ·subst e;exact hf
 ·exact h j hj (by omega)
theorem Zadm {ls:List ByteArray}(h:Zhx ls ls.length):labB ls=((decide (1<=ls.length) && decide (ls.length<=4)) && ascL ls):=by
 unfold labB;have e:ls.all nameB=true:=by
  rw [List.all_eq_true]
  intro x hx
  obtain ⟨j,hj,rfl⟩:=List.getElem_of_mem hx;exact h j hj hj
 rw [e,Bool.true_and]
theorem Zafm {ls:List ByteArray}{k:Nat}(hk:k < ls.length)(hf:nameB ls[k]=false):labB ls=false:=by
 unfold labB;have e:ls.all nameB=false:=by
  rw [Bool.eq_false_iff,Ne,List.all_eq_true]
  intro h
  have:=h _ (List.getElem_mem hk)
  rw [hf] at this;cases this
 rw [e,Bool.false_and]
theorem Zsb (x lo hi:Int)(w:World):Calls Tryz.prog 93 #[.int .i64 x,.int .i64 lo,.int .i64 hi] w (Says (decide (lo<=x) && decide (x<=hi)) w):=by
 go_enter Tryz.func93,Tryz.ntmps93
 by_cases h1:lo<=x
 ·have e1:(decide (lo<=x) && decide (x<=hi))=decide (x<=hi):=by simp [h1]
  rw [e1];go_wp2;go_ret;exact ⟨rfl,rfl⟩
 ·have e1:(decide (lo<=x) && decide (x<=hi))=false:=by simp [h1]
  rw [e1];go_wp2;go_ret;exact ⟨rfl,rfl⟩
theorem Zip (A:Option Addr)(c:Nat)(xs:List ByteArray)(w:World)(h:Sl w A (xs.map Value.string))(hn:xs.length<=1048576)(hx:∀ x∈xs,x.size<=1048576) :
  Calls Tryz.prog 121 #[.slice A xs.length c] w (Tells (labB xs) w):=by
 have HX:=hQ hx;have HS:=hQ h;clear hx;go_enter Tryz.func121,Tryz.ntmps121;go_wp2_with fail;go_loop [3] (fun i=>∃ k:Nat,k<=xs.length/\i=.int .i64 k/\Zhx xs k) (fun i=>xs.length - (intOf i).toNat)
 case atStart=>exact ⟨0,Nat.zero_le _,rfl,Zit _⟩
 case round=>
  obtain ⟨k,hk,rfl,hno⟩:=hrel;by_cases hlt:k < xs.length
  ·obtain ⟨ad,rfl,hc⟩:=h k (.string xs[k]) (by simp [hlt])
   have HN:=hQ hno;have HC:=hQ (Zee xs[k] w (HX.out _ (List.getElem_mem hlt)));clear hno;go_wp2_with fail;refine HC.out.mono ?_;rintro e w2 ⟨rfl,rfl⟩;by_cases hf:nameB xs[k]=true
   ·have HN2:=hQ (Zis HN.out hlt hf)
    rw [hf];clear hf;go_wp2_with fail;go_round
    case rel=>exact ⟨k+1,by omega,by go_num,HN2.out⟩
    case measure=>simp [intOf];omega
   ·have hf':nameB xs[k]=false:=by simpa using hf
    have HR:=hQ (Zafm hlt hf');rw [hf'];clear hf hf';go_wp2_with fail;go_ret;exact ⟨Zce HR.out.symm,0,rfl⟩
  ·have he:k=xs.length:=by omega
   have HL:=hQ (Zadm (he ▸ hno));clear he hno;have HI:=hQ (Zsb (xs.length:Nat) 1 4 w);have he2:(decide ((1:Int)<=(xs.length:Nat)) && decide (((xs.length:Nat):Int)<=4))=(decide (1<=xs.length) && decide (xs.length<=4)):=by
    congr 1
    ·simp;omega
    ·simp;omega
   have HE:=hQ he2;clear he2;go_wp2_with fail;refine HI.out.mono ?_;rintro e w2 ⟨rfl,rfl⟩;rw [HE.out];cases hin:(decide (1<=xs.length) && decide (xs.length<=4))
   ·have HR:Hid (labB xs=false):=by rw [HL.out,hin];rfl
    clear hin;go_wp2_with fail;go_ret;exact ⟨Zce HR.out.symm,0,rfl⟩
   ·have HR:Hid (labB xs=ascL xs):=by rw [HL.out,hin];rfl
    have HC:=hQ (Zkp A c xs w HS.out hn);clear hin;go_wp2_with fail;refine HC.out.mono ?_;rintro e w2 ⟨rfl,n,rfl⟩;go_wp2_with fail;go_ret;exact ⟨Zce HR.out.symm,n,rfl⟩
def want (k:Int):Int:=if k=1 then 0 else if k=2 then 0 else if k=4 then 1 else if k=5 then 2 else -1
def Zgg (a:TyA)(ks:List Ty):Bool:=decide (a.kind=4) && (decide (ks.length=1) && ks.any (Tr.has 5))
def formA (a:TyA)(ks:List Ty):Bool:=
 if a.kind=3 then decide (ks.length=a.labels.length) && (labB a.labels && !(Tr.has 5 (.node a ks)))
 else !(Zgg a ks) && (decide (a.labels.length=0) && decide ((ks.length:Int)=want a.kind))
def Tr.form:Ty->Bool
 | .node a ks=>(ks.attach.all fun ⟨t,_⟩=>t.form) && formA a ks
theorem Zcr (a:TyA)(ks:List Ty):Tr.form (.node a ks)=(ks.all Tr.form && formA a ks):=by
 rw [Tr.form]
 congr 1
 rw [Bool.eq_iff_iff,List.all_eq_true,List.all_eq_true]
 constructor
 ·intro h t ht;exact h ⟨t,ht⟩ (List.mem_attach _ _)
 ·rintro h ⟨t,ht⟩ _;exact h t ht
def AllTo {β:Type}(f:β->Bool)(ks:List β)(k:Nat):Prop:=∀ j (h:j < ks.length),j < k->f ks[j]=true
theorem Zca {β:Type}(f:β->Bool)(ks:List β):AllTo f ks 0:=fun j _ h=>by omega
theorem Zbz {β:Type}{f:β->Bool}{ks:List β}{k:Nat}(h:AllTo f ks k)(hk:k < ks.length)(hf:f ks[k]=true):AllTo f ks (k+1):=by
 intro j hj hlt
 by_cases e:j=k
 ·subst e;exact hf
 ·exact h j hj (by omega)
theorem Zcp {β:Type}{f:β->Bool}{ks:List β}(h:AllTo f ks ks.length):ks.all f=true:=by
 rw [List.all_eq_true]
 intro x hx
 obtain ⟨j,hj,rfl⟩:=List.getElem_of_mem hx;exact h j hj hj
theorem Zex {β:Type}{f:β->Bool}{ks:List β}{k:Nat}(hk:k < ks.length)(hf:f ks[k]=false):ks.all f=false:=by
 rw [Bool.eq_false_iff,Ne,List.all_eq_true]
 intro h
 have:=h _ (List.getElem_mem hk)
 rw [hf] at this;cases this
theorem Zbn {a:TyA}{ks:List Ty}{t:Ty}(h:t∈ks):wt t<=wt (.node a ks):=by
 rw [Zdn]
 have:=Zbh wt h
 unfold wtK
 omega
theorem Zks {xs:List ByteArray}{x:ByteArray}(h:x∈xs):x.size<=total xs:=Zbh (·.size) h
theorem Zcy {a:TyA}{ks:List Ty}{B:Nat}(h:wt (.node a ks)<=B):a.labels.length<=B/\∀ x∈a.labels,x.size<=B:=by
 rw [Zdn] at h;unfold wtA at h;exact ⟨by omega,fun x hx=>by have:=Zks hx;omega⟩
theorem Zag {a b:Bool}{w w':World}(h:a=b)(hb:Below w.heap.size w w'):Truth a w (.returned (.bool b)) w':=⟨by rw [h],hb⟩
theorem Ztt:∀ (t:Ty)(w:World)(cs:List Value),RTy w t cs->wt t<=1048576->Calls Tryz.prog 97 #[.agg cs.toArray] w (Truth t.form w):=by
 refine Tr.ind ?_
 intro a ks ih w cs h hwt
 obtain ⟨L,c,A,d,rfl,k1,k2,k3,k4,k5,k6,hp⟩:=h.out;obtain ⟨l1,l2⟩:=Zcy hwt;rw [Zcr];obtain ⟨W1,hW1⟩:∃ W1,w.alloc (.cells #[.int .i64 a.kind,.slice L a.labels.length c,.slice A ks.length d] 38)=W1:=⟨_,rfl⟩;have hb0:Below w.heap.size w W1:=by rw [<-hW1];exact bQ.alloc nQ _
 obtain ⟨H,hH⟩:∃ H,w.heap.size=H:=⟨_,rfl⟩;have b0:Box3 W1 H 38 (.int .i64 a.kind) (.slice L a.labels.length c) (.slice A ks.length d):=by rw [<-hW1,<-hH];exact Box3.new w _ _ _ _
 have HP:=hQ hp;have HT:=hQ h;have HLB:=hQ k1;have HI:=hQ ih;have HB0:=hQ hb0;have B0:=hQ b0;have HW1:=hQ hW1;have HL2:=hQ l2;have HWT:=hQ hwt;clear hp ih hb0 b0 hW1 k1 k5 h l2 hwt;go_enter Tryz.func97,Tryz.ntmps97;go_wp2_with fail;rw [HW1.out];go_loopw [3] (fun i wr=>∃ k:Nat,k<=ks.length/\i=.int .i64 k/\AllTo Tr.form ks k/\Below W1.heap.size W1 wr) (fun i _=>ks.length - (intOf i).toNat)
 case atStart=>exact ⟨0,Nat.zero_le _,rfl,Zca _ _,Below.refl _ _⟩
 case round=>
  obtain ⟨k,hk,rfl,hno,hb⟩:=hrel;have hbw:=HB0.out.trans (hb.mono HB0.out.size);have bk:=B0.out.under hb B0.out.lt;have hbx:=bk.c2;by_cases hlt:k < ks.length
  ·obtain ⟨ad,p,c0,c1,c2,rfl,hpe,hr,q0,q1,q2⟩:=Zal HP.out hbw hlt
   have hc:=HI.out ks[k] (List.getElem_mem hlt) wr [c0,c1,c2] hr (Nat.le_trans (Zbn (List.getElem_mem hlt)) HWT.out);have HC:=hQ hc;have HN:=hQ hno;have HBW:=hQ hbw;clear hc hr hno bk;go_wp2_with fail;refine HC.out.mono ?_;rintro e w2 ⟨rfl,hb2⟩;have hb3:=hb.trans (hb2.mono hb.size);have HB4:=hQ (HBW.out.trans (hb2.mono HBW.out.size));by_cases hf:Tr.form ks[k]=true
   ·have HN2:=hQ (Zbz HN.out hlt hf)
    rw [hf];clear hf;go_wp2_with fail;go_roundw
    case rel=>exact ⟨k+1,hlt,by go_num,HN2.out,hb3⟩
    case measure=>simp [intOf];omega
   ·have hf':Tr.form ks[k]=false:=by simpa using hf
    have HR:=hQ (Zag (a:=ks.all Tr.form && formA a ks) (b:=false) (by rw [Zex hlt hf'];rfl) HB4.out);rw [hf'];clear hf hf';go_wp2_with fail;go_ret;exact HR.out
  ·have he:k=ks.length:=by omega
   have HALL:=hQ (Zcp (he ▸ hno));have HBW:=hQ hbw;have BK:=hQ bk;have hbx0:=bk.c0;have hbx1:=bk.c1;clear he hno bk;by_cases h3:a.kind=3
   ·by_cases hlen:ks.length=a.labels.length
    ·have HFA:Hid (∀ b,(labB a.labels && !(Tr.has 5 (.node a ks)))=b->(ks.all Tr.form && formA a ks)=b):=by
      intro b hb
      rw [HALL.out,Bool.true_and,<-hb];unfold formA;rw [if_pos h3];simp [hlen]
     have HLA:=hQ (Zip L c a.labels wr (HLB.out.below HBW.out) l1 HL2.out);go_wp2_with fail;refine HLA.out.mono ?_;rintro e W2 ⟨rfl,n,hW2⟩;have hb2:Below wr.heap.size wr W2:=by rw [hW2];exact Zab bQ n
     clear hW2 hbx hbx0 hbx1;have HBW2:=hQ (HBW.out.trans (hb2.mono HBW.out.size));have bk2:=BK.out.under hb2 BK.out.lt;have hbx0:=bk2.c0;have hbx1:=bk2.c1;have hbx2:=bk2.c2;clear bk2 hb2;cases hlb:labB a.labels
     ·have HR:=hQ (Zag (b:=false) (HFA.out false (by rw [hlb];rfl)) HBW2.out)
      clear hlb;go_wp2_with fail;go_ret;exact HR.out
     ·have hT:=HT.out.keep HBW2.out
      rw [h3,hlen] at hT;have HC:=hQ (Zkb 5 (.node a ks) W2 _ hT);clear hT;have HR:=hQ (fun W (hB:Below w.heap.size w W)=>Zag (b:=!(Tr.has 5 (.node a ks))) (HFA.out _ (by rw [hlb];rfl)) hB);clear hlb;go_wp2_with fail;refine HC.out.mono ?_;rintro e W3 ⟨rfl,hb3⟩;have HB5:=hQ (HBW2.out.trans (hb3.mono HBW2.out.size));clear hb3;go_wp2_with fail;go_ret;exact HR.out _ HB5.out
    ·have HR:=hQ (Zag (a:=ks.all Tr.form && formA a ks) (b:=false) (by rw [HALL.out,Bool.true_and];unfold formA;rw [if_pos h3];simp [hlen]) HBW.out)
     go_wp2_with fail
     go_ret
     exact HR.out
   ·have HFA:Hid (∀ b,Zgg a ks=false->(decide (a.labels.length=0) && decide ((ks.length:Int)=want a.kind))=b->(ks.all Tr.form && formA a ks)=b):=by
     intro b hbf hb
     rw [HALL.out,Bool.true_and,<-hb];unfold formA;rw [if_neg h3,hbf]
     rfl
    by_cases h4:a.kind=4
    ·by_cases hl1:ks.length=1
     ·have hlt0:0 < ks.length:=by omega
      obtain ⟨ad,p,c0,c1,c2,hA,hpe,hr,q0,q1,q2⟩:=Zal HP.out HBW.out hlt0;subst hA;have HC:=hQ (Zkb 5 ks[0] wr [c0,c1,c2] hr);have hany:ks.any (Tr.has 5)=Tr.has 5 ks[0]:=by
       match ks,hl1 with
       | [x],_=>simp
      have HBFV:Hid (Zgg a ks=Tr.has 5 ks[0]):=hQ (by unfold Zgg;rw [hany];simp [h4,hl1]);have hpe0:ad=p:=by simpa [Addr.add] using hpe
      subst hpe0;clear hr hany hpe;go_wp2_with fail;refine HC.out.mono ?_;rintro e W2 ⟨rfl,hb2⟩;have HBW2:=hQ (HBW.out.trans (hb2.mono HBW.out.size));have bk2:=BK.out.under hb2 BK.out.lt;clear hbx hbx0 hbx1 q0 q1 q2;have hbx0:=bk2.c0;have hbx1:=bk2.c1;have hbx2:=bk2.c2;clear bk2 hb2;cases hh:Tr.has 5 ks[0]
      ·have HBF:Hid (Zgg a ks=false):=hQ (by rw [HBFV.out,hh])
       clear hh;by_cases hl0:a.labels.length=0
       ·have HR:=hQ (Zag (b:=true) (HFA.out _ HBF.out (by simp [want,h4,hl0,hl1])) HBW2.out)
        go_wp2_with fail
        go_ret
        exact HR.out
       ·have HR:=hQ (Zag (b:=false) (HFA.out _ HBF.out (by simp [hl0])) HBW2.out)
        go_wp2_with fail
        go_ret
        exact HR.out
      ·have HR:Hid (Truth (ks.all Tr.form && formA a ks) w (.returned (.bool false)) W2):=by
        refine Zag ?_ HBW2.out;rw [HALL.out,Bool.true_and];unfold formA;rw [if_neg h3,HBFV.out,hh]
        rfl
       clear hh;go_wp2_with fail;go_ret;exact HR.out
     ·have HBF:Hid (Zgg a ks=false):=hQ (by unfold Zgg;simp [hl1])
      by_cases hl0:a.labels.length=0
      ·have HR:=hQ (Zag (b:=((ks.length:Int) == 1)) (HFA.out _ HBF.out (by rw [hl0,show want a.kind=1 by simp [want,h4]];rfl)) HBW.out)
       go_wp2_with fail
       go_ret
       exact HR.out
      ·have HR:=hQ (Zag (b:=false) (HFA.out _ HBF.out (by simp [hl0])) HBW.out)
       go_wp2_with fail
       go_ret
       exact HR.out
    ·have HBF:Hid (Zgg a ks=false):=hQ (by unfold Zgg;simp [h4])
     by_cases h1:a.kind=1
     ·skip
      by_cases hl0:a.labels.length=0
      ·have HR:=hQ (Zag (b:=((ks.length:Int) == 0)) (HFA.out _ HBF.out (by rw [hl0,show want a.kind=0 by simp [want,h1]];rfl)) HBW.out)
       go_wp2_with fail
       go_ret
       exact HR.out
      ·have HR:=hQ (Zag (b:=false) (HFA.out _ HBF.out (by simp [hl0])) HBW.out)
       go_wp2_with fail
       go_ret
       exact HR.out
     ·by_cases h2:a.kind=2
      ·skip
       by_cases hl0:a.labels.length=0
       ·have HR:=hQ (Zag (b:=((ks.length:Int) == 0)) (HFA.out _ HBF.out (by rw [hl0,show want a.kind=0 by simp [want,h2]];rfl)) HBW.out)
        go_wp2_with fail
        go_ret
        exact HR.out
       ·have HR:=hQ (Zag (b:=false) (HFA.out _ HBF.out (by simp [hl0])) HBW.out)
        go_wp2_with fail
        go_ret
        exact HR.out
      ·by_cases h5:a.kind=5
       ·skip
        by_cases hl0:a.labels.length=0
        ·have HR:=hQ (Zag (b:=((ks.length:Int) == 2)) (HFA.out _ HBF.out (by rw [hl0,show want a.kind=2 by simp [want,h5]];rfl)) HBW.out)
         go_wp2_with fail
         go_ret
         exact HR.out
        ·have HR:=hQ (Zag (b:=false) (HFA.out _ HBF.out (by simp [hl0])) HBW.out)
         go_wp2_with fail
         go_ret
         exact HR.out
       ·skip
        by_cases hl0:a.labels.length=0
        ·have HR:=hQ (Zag (b:=false) (HFA.out _ HBF.out (by simp [want,h1,h2,h4,h5,hl0])) HBW.out)
         go_wp2_with fail
         go_ret
         exact HR.out
        ·have HR:=hQ (Zag (b:=false) (HFA.out _ HBF.out (by simp [hl0])) HBW.out)
         go_wp2_with fail
         go_ret
         exact HR.out
end Go.Proofs.YtlcedleebbgebaaGreatDoor
