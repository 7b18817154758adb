/-
  Merged by program: TeEq, TgM, Veil, DbD, TabS, SchS, NumW, Idx, TyField, RowTS, TeAr.
-/
import Derived.Test.YtlcedleebbgebaaGreatDoorQ8
import Derived.Sort.EncStr
set_option maxRecDepth 100000
set_option maxHeartbeats 3200000
namespace Go.Proofs.YtlcedleebbgebaaGreatDoor
open Go.RowKit
def EqTeK (t:Te):Prop:=∀ (w:World)(cs ds:List Value),RTe w t cs->RTe w t ds->Calls Tryz.prog 16 #[.agg cs.toArray,.agg ds.toArray] w (Zej w)
theorem Ztb (ks:List Te)(ih:∀ t∈ks,EqTeK t)(w:World)(A B:Option Addr)(c d:Nat)(hA:RTes w A ks)(hB:RTes w B ks)(hl:ks.length<=9223372036854775807) :
  Calls Tryz.prog 48 #[.slice A ks.length c,.slice B ks.length d] w (Zej w):=by
 have HA:=hQ hA;have HB:=hQ hB;have HI:=hQ ih;clear hA hB ih;go_enter Tryz.func48,Tryz.ntmps48;go_wp2_with fail;go_loopw [5] (fun i wr=>∃ k:Nat,k<=ks.length/\i=.int .i64 k/\Below w.heap.size w wr) (fun i _=>ks.length - (intOf i).toNat)
 case atStart=>exact ⟨0,Nat.zero_le _,rfl,Below.refl _ _⟩
 case round=>
  obtain ⟨k,hk,rfl,hb⟩:=hrel;by_cases hlt:k < ks.length
  ·obtain ⟨ad,p,c0,c1,c2,c3,c4,c5,c6,c7,rfl,hpe,hr,q0,q1,q2,q3,q4,q5,q6,q7⟩:=Zfj HA.out hb hlt
   obtain ⟨bd,p',d0,d1,d2,d3,d4,d5,d6,d7,rfl,hpe',hr',q0',q1',q2',q3',q4',q5',q6',q7'⟩:=Zfj HB.out hb hlt;have HR:=hQ hr;have HR':=hQ hr';have HBW:=hQ hb;clear hr hr' hb;go_wp2_with fail;go_still_tail 8,(by kernel_rfl)
   change wpList _ _ _ _ _ wr.drew
   have hd:Below wr.heap.size wr wr.drew:=bQ.drew;have HC:=hQ (HI.out ks[k] (List.getElem_mem hlt) wr.drew [c0,c1,c2,c3,c4,c5,c6,c7] [d0,d1,d2,d3,d4,d5,d6,d7] (HR.out.keep hd) (HR'.out.keep hd));have HB2:=hQ (HBW.out.trans (hd.mono HBW.out.size));clear hd;go_wp2_with fail;refine HC.out.mono ?_;rintro e w2 ⟨rfl,hb2⟩;have HB3:=hQ (HB2.out.trans (hb2.mono HB2.out.size));clear hb2;go_wp2_with fail;go_roundw
   case rel=>exact ⟨k+1,hlt,by go_num,HB3.out⟩
   case measure=>simp [intOf];omega
  ·go_wp2_with fail
   go_ret
   exact ⟨rfl,hb⟩
theorem Zpu:∀ t:Te,EqTeK t:=by
 refine Tr.ind ?_
 intro a ks ih w cs ds h h'
 obtain ⟨TL,tc,TA,td,L,c,A,d,rfl,hT,k1,⟨_,_,_,_,_,k4,k5⟩,k6,_,hp⟩:=h.out;obtain ⟨TL',tc',TA',td',L',c',A',d',rfl,hT',k1',_,_,_,hp'⟩:=h'.out;obtain ⟨W1,hW1⟩:∃ W1,(w.alloc (.cells #[.int .i64 a.kind,.string a.name,.int .i64 a.num,.int .i64 a.type.top.kind,.slice TL a.type.top.labels.length tc,.slice TA a.type.kids.length td,.slice L a.labels.length c,.slice A ks.length d] 49)).alloc (.cells #[.int .i64 a.kind,.string a.name,.int .i64 a.num,.int .i64 a.type.top.kind,.slice TL' a.type.top.labels.length tc',.slice TA' a.type.kids.length td',.slice L' a.labels.length c',.slice A' ks.length d'] 49)=W1:=⟨_,rfl⟩;obtain ⟨H,hH⟩:∃ H,w.heap.size=H:=⟨_,rfl⟩;have b0:Box8 W1 H 49 (.int .i64 a.kind) (.string a.name) (.int .i64 a.num) (.int .i64 a.type.top.kind) (.slice TL a.type.top.labels.length tc) (.slice TA a.type.kids.length td) (.slice L a.labels.length c) (.slice A ks.length d):=by rw [<-hW1,<-hH];exact (Box8.new w _ _ _ _ _ _ _ _ _).alloc _
 have b1:Box8 W1 (H+1) 49 (.int .i64 a.kind) (.string a.name) (.int .i64 a.num) (.int .i64 a.type.top.kind) (.slice TL' a.type.top.labels.length tc') (.slice TA' a.type.kids.length td') (.slice L' a.labels.length c') (.slice A' ks.length d'):=by
  rw [<-hW1,<-hH]
  have:=Box8.new (w.alloc (.cells #[.int .i64 a.kind,.string a.name,.int .i64 a.num,.int .i64 a.type.top.kind,.slice TL a.type.top.labels.length tc,.slice TA a.type.kids.length td,.slice L a.labels.length c,.slice A ks.length d] 49)) 49 (.int .i64 a.kind) (.string a.name) (.int .i64 a.num) (.int .i64 a.type.top.kind) (.slice TL' a.type.top.labels.length tc') (.slice TA' a.type.kids.length td') (.slice L' a.labels.length c') (.slice A' ks.length d')
  simpa using this
 have hb1:Below w.heap.size w W1:=by rw [<-hW1];exact (bQ.alloc nQ _).alloc (by simp) _
 have HW1:=hQ hW1;have HP:=hQ hp;have HP':=hQ hp';have HL:=hQ k1;have HL':=hQ k1';have HB1:=hQ hb1;have HI:=hQ ih;have HTE:=hQ (Zjr a.type W1 _ _ (hT.keep hb1) (hT'.keep hb1));have x0:=b0.c0;have x1:=b0.c1;have x2:=b0.c2;have x3:=b0.c3;have x4:=b0.c4;have x5:=b0.c5;have y0:=b1.c0;have y1:=b1.c1;have y2:=b1.c2;have y3:=b1.c3;have y4:=b1.c4;have y5:=b1.c5;have B0:=hQ b0;have B1:=hQ b1;clear hp hp' ih k1 k1' k5 h h' hW1 b0 b1 hb1 hT hT';generalize a.type.top.kind=g0 at HTE B0 B1 HW1 x3 y3 ⊢;generalize a.type.top.labels.length=g1 at HTE B0 B1 HW1 x4 y4 ⊢;generalize a.type.kids.length=g2 at HTE B0 B1 HW1 x5 y5 ⊢;go_enter Tryz.func16,Tryz.ntmps16;go_wp2_with fail;rw [HW1.out];go_wp2_with fail;refine HTE.out.mono ?_;rintro e w2 ⟨rfl,hb2⟩;have hz:H+1 < W1.heap.size:=B1.out.lt;have C0:=hQ (B0.out.under hb2 (by omega));have C1:=hQ (B1.out.under hb2 (by omega));have HB2:=hQ (HB1.out.trans (hb2.mono HB1.out.size));have z6:=C0.out.c6;have v6:=C1.out.c6;clear hb2 x0 x1 x2 x3 x4 x5 y0 y1 y2 y3 y4 y5;go_wp2_with fail;refine (Zwi _ _ _ _ a.labels w2 (HL.out.below HB2.out) (HL'.out.below HB2.out) k4).mono ?_;rintro e w3 ⟨rfl,hb3⟩;have HB3:=hQ (HB2.out.trans (hb3.mono HB2.out.size));have z7:=(C0.out.under hb3 C0.out.lt).c7;have v7:=(C1.out.under hb3 C1.out.lt).c7;clear hb3 z6 v6;go_wp2_with fail;refine (Ztb ks HI.out w3 A A' d d' (HP.out.keep HB3.out) (HP'.out.keep HB3.out) k6).mono ?_;rintro e w4 ⟨rfl,hb4⟩;have HB4:=hQ (HB3.out.trans (hb4.mono HB3.out.size));clear hb4 z7 v7;go_wp2_with fail;go_ret;exact ⟨rfl,HB4.out⟩
theorem Zyo {α:Type}(f:α->Nat)(ks:List α):(ks.map fun t=>4 * f t).sum=4 * (ks.map f).sum:=by
 induction ks with
 | nil=>rfl
 | cons k ks ih=>
  rw [List.map_cons,List.sum_cons,ih,List.map_cons,List.sum_cons]
  omega
theorem Zzt (t:Te):t.cntE<=4 * wte t+4:=by
 have:t.cntE<=4 * t.sum (fun a=>wteA a+1):=by
  refine Tr.ind (m:=fun t=>t.cntE<=4 * t.sum (fun a=>wteA a+1)) (fun a ks ih=>?_) t;rw [Zwe,Tr.sum_node];have h:=Zpd Tr.cntE (fun t:Te=>4 * t.sum fun a=>wteA a+1) ks ih;rw [Zyo] at h;have h2:cntEK ks=(ks.map Tr.cntE).sum:=rfl;have h3:wteA a=a.name.size+wt a.type+(a.labels.length+total a.labels):=rfl;have h4:=Zwf a.type
  omega
 unfold wte
 omega
def Zvp (t:Te)(w:World)(e:Ending)(w':World):Prop:=
 ∃ (TL TA L A:Option Addr) (tc td l d:Nat) (fp:List Nat),e=.returned (.agg #[.int .i64 t.top.kind,.string t.top.name,.int .i64 t.top.num,.int .i64 t.top.type.top.kind,.slice TL t.top.type.top.labels.length tc,.slice TA t.top.type.kids.length td,.slice L t.top.labels.length l,.slice A t.kids.length d])/\
  OTe w' t [.int .i64 t.top.kind,.string t.top.name,.int .i64 t.top.num,.int .i64 t.top.type.top.kind,.slice TL t.top.type.top.labels.length tc,.slice TA t.top.type.kids.length td,.slice L t.top.labels.length l,.slice A t.kids.length d] fp/\(∀ b∈fp,w.heap.size<=b/\b < w'.heap.size)/\Below w.heap.size w w'
theorem Zyw (t:Te)(w:World)(cs:List Value)(h:RTe w t cs)(hw:wte t<=1048576):Calls Tryz.prog 11 #[.agg cs.toArray] w (Zvp t w):=
 (Zuv t w cs h hw).mono fun _ _ ⟨TL,tc,TA,td,L,c,A,d,fp,he,ho,hf,hb⟩=>⟨TL,TA,L,A,tc,td,c,d,fp,he,ho,hf,hb⟩
noncomputable def veil (K:Nat->Prop)(w:World):World:={ w with heap:=Array.ofFn (n:=w.heap.size) fun i=>by classical exact if K i then w.heap[i] else .deferred none }
theorem Zdj (K:Nat->Prop)(w:World):(veil K w).heap.size=w.heap.size:=by simp [veil]
theorem Znp {K:Nat->Prop}(w:World) {i:Nat}(h:K i):(veil K w).heap[i]?=w.heap[i]?:=by
 unfold veil;by_cases hi:i < w.heap.size
 ·rw [Array.getElem?_eq_getElem (by simpa using hi),Array.getElem?_eq_getElem hi]
  simp [h]
 ·rw [Array.getElem?_eq_none (by simpa using Nat.le_of_not_lt hi),Array.getElem?_eq_none (Nat.le_of_not_lt hi)]
theorem Zabr {K:Nat->Prop}(w:World) {i:Nat}(h:¬ K i)(hi:i < w.heap.size):(veil K w).heap[i]?=some (.deferred none):=by
 unfold veil;rw [Array.getElem?_eq_getElem (by simpa using hi)];simp [h]
def Sub (w w':World):Prop:=w.heap.size<=w'.heap.size/\∀ p v,w.cell? p=some v->w'.cell? p=some v
theorem Sub.trans {a b c:World}(h:Sub a b)(k:Sub b c):Sub a c:=⟨Nat.le_trans h.1 k.1,fun p v hp=>k.2 p v (h.2 p v hp)⟩
theorem Sub.below {w w':World}(h:Below w.heap.size w w'):Sub w w':=⟨h.size,fun _ _ hp=>(h.cell (World.block_lt_of_cell? w _ hp)).trans hp⟩
theorem Zad {K:Nat->Prop}{w:World}{p:Addr}{v:Value}(h:(veil K w).cell? p=some v):K p.block/\w.cell? p=some v:=by
 by_cases hk:K p.block
 ·refine ⟨hk,?_⟩
  unfold World.cell? at h ⊢;rw [Znp w hk] at h;exact h
 ·exfalso
  have hl:=World.block_lt_of_cell? _ _ h;rw [Zdj] at hl;unfold World.cell? at h;rw [Zabr w hk hl] at h;cases h
theorem Zbg {K:Nat->Prop}{w:World}{p:Addr}{v:Value}(hk:K p.block)(h:w.cell? p=some v):(veil K w).cell? p=some v:=by
 unfold World.cell? at h ⊢;rw [Znp w hk];exact h
theorem Sub.veil (K:Nat->Prop)(w:World):Sub (veil K w) w:=⟨by rw [Zdj];exact Nat.le_refl _,fun _ _ h=>(Zad h).2⟩
theorem Sub.held {K L:Nat->Prop}{w u:World}(h:Held K w u)(hk:∀ i,i < w.heap.size->K i->L i):Sub (Go.Proofs.YtlcedleebbgebaaGreatDoor.veil K w) (Go.Proofs.YtlcedleebbgebaaGreatDoor.veil L u):=by
 refine ⟨by rw [Zdj,Zdj];exact h.size,fun p v hp=>?_⟩;obtain ⟨h1,h2⟩:=Zad hp;have h3:=World.block_lt_of_cell? w _ h2;exact Zbg (hk _ h3 h1) (h.cell h1 h2)
theorem Sub.all {K:Nat->Prop}{w u:World}(h:Below w.heap.size w u)(hk:∀ i,i < w.heap.size->K i):Sub w (Go.Proofs.YtlcedleebbgebaaGreatDoor.veil K u):=by
 refine ⟨by rw [Zdj];exact h.size,fun p v hp=>?_⟩;have h3:=World.block_lt_of_cell? w _ hp;exact Zbg (hk _ h3) ((h.cell h3).trans hp)
theorem Held.veil (K:Nat->Prop)(w:World):Held K w (Go.Proofs.YtlcedleebbgebaaGreatDoor.veil K w):=⟨rfl,rfl,rfl,by rw [Zdj];exact Nat.le_refl _,fun _ _ hk=>Znp w hk⟩
section
variable {w w':World}
theorem Sl.sub {A:Option Addr}{xs:List Value}(h:Sl w A xs)(hb:Sub w w'):Sl w' A xs:=by
 intro j u hj
 obtain ⟨ad,e,hc⟩:=h j u hj;exact ⟨ad,e,hb.2 _ _ hc⟩
theorem RTy.sub {t:Ty}{cs:List Value}(h:RTy w t cs)(hb:Sub w w'):RTy w' t cs:=by
 unfold RTy at h ⊢
 induction h with
 | node a ks hs A c cs h1 h2 h3 h4 _ h6 ih=>
  refine .node a ks hs A c cs ?_ h2 h3 (fun j hj=>?_) ih h6
  ·obtain ⟨L,c',e,hL,hok⟩:=h1
   exact ⟨L,c',e,hL.sub hb,hok⟩
  ·obtain ⟨g1,ad,g2,g3⟩:=h4 j hj
   exact ⟨g1,ad,g2,fun i u hi=>hb.2 _ _ (g3 i u hi)⟩
theorem RKids.sub {A:Option Addr}{ks:List Ty}(h:RKids w A ks)(hb:Sub w w'):RKids w' A ks:=by
 obtain ⟨ps,hp⟩:=h;refine ⟨ps,fun j t hj=>?_⟩;obtain ⟨h1,ad,h2,h3⟩:=hp j t hj;exact ⟨h1.sub hb,ad,h2,fun i u hi=>hb.2 _ _ (h3 i u hi)⟩
theorem Zqb {x:Tg}{cs:List Value}(h:kTg.R w x cs)(hb:Sub w w'):kTg.R w' x cs:=by
 obtain ⟨tk,TL,TA,tl,tc,ta,td,rfl,h1,h2⟩:=Zdq h;exact Zgx h1 (RTy.sub h2 hb)
theorem Zeb {A:Option Addr}{xs:List Tg}(h:RL kTg w A xs)(hb:Sub w w'):RL kTg w' A xs:=by
 obtain ⟨ps,hp⟩:=h;refine ⟨ps,fun j t hj=>?_⟩;obtain ⟨h1,ad,h2,h3⟩:=hp j t hj;exact ⟨Zqb h1 hb,ad,h2,fun i u hi=>hb.2 _ _ (h3 i u hi)⟩
end
theorem Zqx {s t:ByteArray}(h:s≠t):(s.toList == t.toList)=false:=by
 rw [beq_eq_false_iff_ne,ByteArray.toList_eq,ByteArray.toList_eq]
 intro e
 exact h (ByteArray.ext (Array.toList_inj.1 e))
def Zin {α:Type}(xs:List (ByteArray×α))(nm:ByteArray)(k:Nat):Prop:=∀ (j:Nat)(h:j < xs.length),j < k->xs[j].1≠nm
theorem Zqp {α:Type}(xs:List (ByteArray×α))(nm:ByteArray):Zin xs nm 0:=fun j _ h=>by omega
theorem Zqo {α:Type}{xs:List (ByteArray×α)}{nm:ByteArray}{k:Nat}(h:Zin xs nm k)(hk:k < xs.length)(hn:xs[k].1≠nm):Zin xs nm (k+1):=fun j hj hlt=>by
 by_cases e:j=k
 ·subst e;exact hn
 ·exact h j hj (by omega)
theorem Zzk {α:Type}{xs:List (ByteArray×α)}{nm:ByteArray}(h:Zin xs nm xs.length):xs.find? (fun d=>decide (d.1=nm))=none:=by
 rw [List.find?_eq_none]
 intro d hd
 obtain ⟨j,hj,rfl⟩:=List.getElem_of_mem hd
 have:=h j hj hj
 simpa using this
theorem Zzl {α:Type}{xs:List (ByteArray×α)}{nm:ByteArray}{k:Nat}(h:Zin xs nm k)(hk:k < xs.length)(hn:xs[k].1=nm):xs.find? (fun d=>decide (d.1=nm))=some xs[k]:=by
 rw [List.find?_eq_some_iff_getElem];refine ⟨by simp [hn],k,hk,rfl,fun j hj=>?_⟩
 have:=h j (by omega) hj
 simpa using this
def Zvq (xs:Sc)(w:World)(v i:Value)(wr:World):Prop:=
 ∃ k:Nat,k<=xs.length/\i=.int .i64 (k:Int)/\wr.ownsRow w.heap.size 9 1 v k ((Zas (xs.take k)).map Value.string)/\(xs.take k).all declB=true/\Below w.heap.size w wr
theorem Znz {t:Sc}{k:Nat}(hk:k < t.length)(hw:wSc t<=1048576):t[k].1.size<=1048576/\wt t[k].2<=1048576/\t.length<=1048576:=by
 have h:=wL_le (f:=wDc) hk hw;have h1:wDc t[k]=t[k].1.size+wt t[k].2:=rfl
 omega
theorem Zqw (t:Sc)(w:World)(cs:List Value)(h:RSc w t cs)(hw:wSc t<=1048576):Calls Tryz.prog 29 #[.agg cs.toArray] w (Truth (schB t) w):=by
 obtain ⟨A,d,rfl,hl,_,hp⟩:=h.open;obtain ⟨i0,hi,hz0,hz1,hz2⟩:=info_parts Zif;have hlen:t.length<=1048576:=Nat.le_trans (Zmz t) hw;obtain ⟨W1,hW1⟩:∃ W1,w.alloc (.cells #[.slice A t.length d] 43)=W1:=⟨_,rfl⟩;obtain ⟨W2,hW2⟩:∃ W2,W1.alloc (.cells #[] 9)=W2:=⟨_,rfl⟩;obtain ⟨H,hH⟩:∃ H,w.heap.size=H:=⟨_,rfl⟩;have hbox:Box1 W1 H 43 (.slice A t.length d):=by rw [<-hW1,<-hH];exact Box1.new w _ _
 have hb1:Below w.heap.size w W1:=by rw [<-hW1];exact bQ.alloc nQ _
 have hs1:W1.heap.size=H+1:=by rw [<-hW1,<-hH];simp
 have hb12:Below W1.heap.size W1 W2:=by rw [<-hW2];exact bQ.alloc nQ _
 have ho2:W2.ownsRow W1.heap.size 9 1 (.slice (some ⟨H+1,0,none⟩) 0 0) 0 []:=by
  rw [<-hW2,<-hs1];exact World.ownsRow_made (base:=W1.heap.size) (size:=1) (e:=9) W1 #[] 0 nQ (by unfold maxLen;omega) (by simp)
 have HBOX:=hQ (fun (W:World) (hB:Below W1.heap.size W1 W)=>hbox.under hB hbox.lt);have HB1:=hQ hb1;have HP:=hQ (hp.keep hb1);have HW:=hQ hw;have HW1:=hQ hW1;have HW2:=hQ hW2;have HS1:=hQ hs1;have HI0:Hid (Zvq t W1 (.slice (some ⟨H+1,0,none⟩) 0 0) (.int .i64 0) W2):=hQ ⟨0,Nat.zero_le _,rfl,by simpa [Zas] using ho2,by simp,hb12⟩;have x0:=(hbox.under hb12 hbox.lt).c0;clear h hp hl hW1 hW2 hbox hb1 hs1 hb12 ho2 hw;go_enter Tryz.func29,Tryz.ntmps29;go_wp2_with fail;rw [HW1.out,HW2.out];go_loopw [3,4] (fun v i wr=>Zvq t W1 v i wr) (fun _ i _=>t.length - (intOf i).toNat)
 case atStart=>exact HI0.out
 case round=>
  obtain ⟨k,hk,rfl,hown,hall,hb⟩:=hrel;obtain ⟨V,lc,rfl⟩:=Zhc hown;have HO:=hQ hown;have HB:=hQ hb;have HALL:=hQ hall;clear x0;have x0:=(HBOX.out wr hb).c0;by_cases hlt:k < t.length
  ·obtain ⟨ad,p,c0,c1,c2,c3,rfl,hpe,hr,q0,q1,q2,q3⟩:=Zec kDc_n HP.out hb hlt
   obtain ⟨tk,TL,TA,tl,tc,ta,td,hcs,hs,hy⟩:=Zcc hr;obtain ⟨hn1,hn2,_⟩:=Znz hlt HW.out;injection hcs with e0 hcs
   injection hcs with e1 hcs
   injection hcs with e2 hcs
   injection hcs with e3 hcs
   subst e0 e1 e2 e3;have HN:=hQ (Zee t[k].1 wr hn1);have HRW:=hQ (fun (W:World) (hB:Below wr.heap.size wr W)=>Zqv t[k].2 W _ (kTy.keep hy hB) hn2);have HNO:Hid (declB t[k]=false->schB t=false):=hQ (fun h=>Zage hlt h);have HDB:Hid (declB t[k]=(nameB t[k].1 && rowB t[k].2)):=hQ rfl;have HBW:Hid (∀ W,Below wr.heap.size wr W->Below w.heap.size w W):=hQ (fun W hB=>(HB1.out.trans (hb.mono HB1.out.size)).trans (hB.mono (HB1.out.trans (hb.mono HB1.out.size)).size));have HMORE:Hid (declB t[k]=true->∀ (W:World) (v' i:Value),Below wr.heap.size wr W->∀ w5:World,w5.ownsRow W1.heap.size 9 1 v' (k+1) ((Zas (t.take k)).map Value.string ++ [.string t[k].1])->(W.alloc (.cells #[.string t[k].1] 9)).grownBy w5 (Value.slice V k lc).ownBlock->i=.int .i64 ((k+1:Nat):Int)->Zvq t W1 v' i w5):=hQ (by
    intro hd W v' i hB w5 ho hg hi
    refine ⟨k+1,hlt,hi,by rw [Zir t k hlt];exact ho,Zjb HALL.out hlt hd,?_⟩;have hb5:=(HB.out.trans (hB.mono HB.out.size)).alloc (HB.out.trans (hB.mono HB.out.size)).size (.cells #[.string t[k].1] 9);exact hb5.grown hg hb5.size (fun q hq=>(HO.out.lt q hq).1))
   generalize t[k].2=ty at HRW HDB;generalize declB t[k]=dB at HNO HDB HMORE;generalize t[k].1=nm at HN HDB HMORE q0 hn1;clear hr hcs hs hy hn2 hown hall hb hk;cases hnb:nameB nm
   ·have HF:=hQ (HNO.out (by rw [HDB.out,hnb];rfl))
    rw [hnb] at HN;have HR:Hid (Truth (schB t) w (.returned (.bool false)) wr):=hQ ⟨by rw [HF.out],HBW.out wr bQ⟩;clear hnb HRW HMORE;go_wp2_with (go_at_call 61;refine HN.out.mono ?_;rintro e W ⟨rfl,rfl⟩);go_ret;exact HR.out
   ·rw [hnb] at HN
    go_wp2_with (go_at_call 61;refine HN.out.mono ?_;rintro e W ⟨rfl,rfl⟩)
    refine (HRW.out wr bQ).mono ?_;rintro e w2 ⟨rfl,hb2⟩;have HB2:=hQ hb2;have x2:=(HBOX.out w2 (HB.out.trans (hb2.mono HB.out.size))).c0;have q02:=uQ hb2 q0;clear hb2 x0 q0 q1 q2 q3;cases hrb:rowB ty
    ·have HF:=hQ (HNO.out (by rw [HDB.out,hnb,hrb];rfl))
     have HR:Hid (Truth (schB t) w (.returned (.bool false)) w2):=hQ ⟨by rw [HF.out],HBW.out w2 HB2.out⟩;clear hnb hrb HRW HMORE;go_wp2_with fail;go_ret;exact HR.out
    ·have HM:=hQ (HMORE.out (by rw [HDB.out,hnb,hrb];rfl) w2)
     have hsl:=hQ (Zaci w2 (.string nm) 9);have O3:=hQ ((Zkg HO.out HB2.out).alloc (.cells #[.string nm] 9));have HS3:Hid (W1.heap.size<=(w2.alloc (.cells #[.string nm] 9)).heap.size):=hQ (by have h1:=HB.out.size;have h2:=HB2.out.size;simp;omega);have HOC:Hid (∀ u∈[Value.string nm],u.oneCell'=true):=hQ (Zbx [nm]);clear hnb hrb HRW HMORE HNO HDB HN;go_wp2_with (at_builtin;refine Zdm _ rfl (.tmp 31) (.tmp 38) 26 rfl W1.heap.size 9 i0 _ 16 Tryz.underlying26 hi hz0 hz1 hz2 rfl (.slice V k lc) k ((Zas (t.take k)).map Value.string) rfl O3.out (some ⟨w2.heap.size,0,none⟩) 1 1 [.string nm] rfl rfl hsl.out HOC.out (by unfold maxLen;omega) (by omega) HS3.out ?_;intro v5 w5 hown5 hg5 hor5;have HMM:=hQ (fun i hi=>HM.out v5 i HB2.out w5 hown5 hg5 hi);clear hown5 hg5 hor5);go_roundw
     case rel=>exact HMM.out _ (by go_num)
     case measure=>simp [intOf];omega
  ·have he:k=t.length:=by omega
   subst he;have hlt:Hid (∀ W,Below wr.heap.size wr W->Below w.heap.size w W):=hQ (fun W hB=>(HB1.out.trans (hb.mono HB1.out.size)).trans (hB.mono (HB1.out.trans (hb.mono HB1.out.size)).size));have HE:=hQ (Zaem HALL.out);have hsl:Sl wr V ((Zas t).map Value.string):=by
    have:=Sl.of_own HO.out
    rwa [List.take_length] at this
   have hnl:(Zas t).length=t.length:=by simp [Zas]
   have HAS:=hQ (hnl ▸ Zkp V lc (Zas t) wr hsl (by rw [hnl];omega));have HT:Hid (∀ b (n:Nat),b=(decide (t.length<=4) && ascL (Zas t))->Truth (schB t) w (.returned (.bool b)) (wr.drewN n)):=hQ (fun b n hb'=>⟨by rw [HE.out,hb'],hlt.out _ (Zab bQ n)⟩);generalize ascL (Zas t)=asc at HAS HT;clear hown hall hb hsl hnl hk;by_cases h4:(t.length:Int)<=4
   ·have HR:=hQ (fun n=>HT.out asc n (by rw [decide_eq_true (by omega)];simp))
    go_wp2_with (go_at_call 63;refine HAS.out.mono ?_;rintro e W ⟨rfl,n,rfl⟩)
    go_ret
    exact HR.out n
   ·have HR:=hQ (HT.out false 0 (by rw [decide_eq_false (by omega)];rfl))
    go_wp2_with fail
    go_ret
    exact HR.out
def Num (n:Int)(w:World)(e:Ending)(w':World):Prop:=e=.returned (.int .i64 n)/\w=w'
def Zlh (xs:List ByteArray)(x:ByteArray)(k:Nat):Prop:=∀ j,j < k->xs.getD j ByteArray.empty≠x
theorem Zqr (xs:List ByteArray)(x:ByteArray):Zlh xs x 0:=fun j h=>by omega
theorem Zqq {xs:List ByteArray}{x:ByteArray}{k:Nat}(h:Zlh xs x k)(hk:k < xs.length)(hx:xs[k]≠x):Zlh xs x (k+1):=by
 intro j hj
 by_cases e:j=k
 ·subst e
  simpa [List.getD,hk] using hx
 ·exact h j (by omega)
theorem Zadc {xs:List ByteArray}{x:ByteArray}{k:Nat}(h:Zlh xs x k)(hk:k < xs.length)(hx:xs[k]=x):Lib.idxOfS xs x=k:=by
 have:=Lib.idxOfS_hit xs xs.length k x hk nQ (by simpa [List.getD,hk] using hx) h
 rwa [List.take_length] at this
theorem Zaac {xs:List ByteArray}{x:ByteArray}(h:Zlh xs x xs.length):Lib.idxOfS xs x=-1:=by
 have:=Lib.idxOfS_miss xs xs.length x h
 rwa [List.take_length] at this
theorem Zacc (xs:List ByteArray)(x:ByteArray):-1<=Lib.idxOfS xs x/\Lib.idxOfS xs x<=xs.length:=by
 have gen:∀ (zs:List ByteArray) (i:Nat),-1<=Lib.idxFromS zs x i/\Lib.idxFromS zs x i<=i+zs.length:=by
  intro zs
  induction zs with
  | nil=>intro i;simp [Lib.idxFromS]
  | cons z zs ih=>
   intro i
   unfold Lib.idxFromS
   split
   ·simp;omega
   ·have:=ih (i+1)
    simp at this ⊢
    omega
 have:=gen xs 0
 simpa [Lib.idxOfS] using this
theorem Zyf {k:IntKind}{a b:Int}(h:a=b):Ending.returned (.int k a)=.returned (.int k b):=by rw [h]
theorem Znk (A:Option Addr)(c:Nat)(xs:List ByteArray)(x:ByteArray)(w:World)(h:Sl w A (xs.map Value.string))(hn:xs.length<=9223372036854775807) :
  Calls Tryz.prog 155 #[.slice A xs.length c,.string x] w (Num (Lib.idxOfS xs x) w):=by
 go_enter Tryz.func155,Tryz.ntmps155
 go_wp2
 go_loop [5] (fun i=>∃ k:Nat,k<=xs.length/\i=.int .i64 k/\Zlh xs x k) (fun i=>xs.length - (intOf i).toNat)
 case atStart=>exact ⟨0,Nat.zero_le _,rfl,Zqr _ _⟩
 case round=>
  obtain ⟨k,hk,rfl,hno⟩:=hrel;by_cases hlt:k < xs.length
  ·obtain ⟨ad,rfl,hc⟩:=h k (.string xs[k]) (by simp [hlt])
   by_cases hx:xs[k]=x
   ·have HI:=hQ (Zadc hno hlt hx)
    have hb:=(Lib.bytes_beq_iff xs[k] x).2 hx;clear hx;go_wp2;go_ret;exact ⟨Zyf HI.out.symm,rfl⟩
   ·have HN:=hQ (Zqq hno hlt hx)
    have hb:=(Lib.bytes_beq_false_iff xs[k] x).2 hx;clear hx;go_wp2;go_round
    case rel=>exact ⟨k+1,by omega,by go_num,HN.out⟩
    case measure=>simp [intOf];omega
  ·have he:k=xs.length:=by omega
   subst he;have HI:=hQ (Zaac hno);go_wp2;go_ret;exact ⟨Zyf HI.out.symm,rfl⟩
def Zap:Ty:=.node ⟨0,[]⟩ []
def Zak (t:Ty)(x:ByteArray):Ty×Bool:=
 if Zae t=true/\t.top.kind=3/\0<=Lib.idxOfS t.top.labels x then (t.kids.getD (Lib.idxOfS t.top.labels x).toNat Zap,true) else (Zap,false)
def MadeP (p:Ty×Bool)(w:World)(e:Ending)(w':World):Prop:=
 ∃ (L A:Option Addr) (c d:Nat) (fp:List Nat),e=.returned (.tuple #[.agg #[.int .i64 p.1.top.kind,.slice L p.1.top.labels.length c,.slice A p.1.kids.length d],.bool p.2])/\
  OTy w' p.1 [.int .i64 p.1.top.kind,.slice L p.1.top.labels.length c,.slice A p.1.kids.length d] fp/\(∀ b∈fp,w.heap.size<=b/\b < w'.heap.size)/\Below w.heap.size w w'
theorem Zsu (w:World):OTy w Zap [.int .i64 0,.slice none 0 0,.slice none 0 0] []:=
 OTy.node ⟨0,[]⟩ [] none none 0 0 [] (fun _=>[]) ⟨by decide,by decide,by decide,by simp⟩ ⟨rfl,.inl ⟨rfl,rfl⟩⟩ (by decide) ⟨rfl,.inl ⟨rfl,rfl⟩⟩ (fun j t hj=>by simp at hj) (by simp [blk])
theorem Zaj {w w':World}(hb:Below w.heap.size w w'):MadeP (Zap,false) w (.returned (.tuple #[.agg #[.int .i64 0,.slice none 0 0,.slice none 0 0],.bool false])) w':=
 ⟨none,none,0,0,[],rfl,Zsu w',by simp,hb⟩
theorem Zpm {a:TyA}{ks:List Ty}(h:Zae (.node a ks)=true)(h3:a.kind=3):ks.length=a.labels.length:=by
 unfold Zae at h;rw [Zcr] at h;unfold formA at h;rw [if_pos h3] at h;simp at h
 omega
theorem Zgz {w W2 w3 U:World}{t:Ty}{e:Ending}{G:Nat}(h:MadeT t W2 e w3)(hb:Below w.heap.size w W2)(hG:G < W2.heap.size)(hwG:w.heap.size<=G)(hU:w3.grownBy U (some G)) :
  ∃ (L A:Option Addr) (c d:Nat),e=.returned (.agg #[.int .i64 t.top.kind,.slice L t.top.labels.length c,.slice A t.kids.length d])/\
   MadeP (t,true) w (.returned (.tuple #[.agg #[.int .i64 t.top.kind,.slice L t.top.labels.length c,.slice A t.kids.length d],.bool true])) U:=by
 obtain ⟨L,A,c,d,fp,rfl,hot,hfp,hb3⟩:=h;have hs:=hb.size;have hsU:=hU.size;refine ⟨L,A,c,d,rfl,L,A,c,d,fp,rfl,hot.keep hU (fun b hm e=>by injection e with e;have:=(hfp b hm).1;omega),fun b hm=>?_,(hb.trans (hb3.mono hs)).grown hU (by have:=hb3.size;omega) (fun k hk=>by injection hk with hk;omega)⟩
 have:=hfp b hm
 omega
theorem Zacd {xs:List ByteArray}{x:ByteArray}{m:Nat}(h:Lib.idxOfS xs x=(m:Int)):m < xs.length:=by
 have gen:∀ (zs:List ByteArray) (i:Nat),Lib.idxFromS zs x i=-1∨Lib.idxFromS zs x i < i+zs.length:=by
  intro zs
  induction zs with
  | nil=>intro i;simp [Lib.idxFromS]
  | cons z zs ih=>
   intro i
   unfold Lib.idxFromS
   split
   ·simp;omega
   ·have:=ih (i+1)
    simp at this ⊢
    omega
 have h2:=gen xs 0;unfold Lib.idxOfS at h
 omega
theorem Znj (t:Ty)(x:ByteArray)(w:World)(cs:List Value)(h:RTy w t cs)(hw:wt t<=1048576):Calls Tryz.prog 133 #[.agg cs.toArray,.string x] w (MadeP (Zak t x) w):=by
 obtain ⟨a,ks⟩:=t;obtain ⟨L,c,A,d,rfl,k1,k2,k3,k4,k5,k6,hp⟩:=h.out;have hidx:=Zacc a.labels x;have hll:=(Zcy hw).1;obtain ⟨W1,hW1⟩:∃ W1,(w.alloc (.cells #[.int .i64 a.kind,.slice L a.labels.length c,.slice A ks.length d] 38)).alloc (.cells #[.int .i64 0,.slice none 0 0,.slice none 0 0] 38)=W1:=⟨_,rfl⟩;obtain ⟨H,hH⟩:∃ H,w.heap.size=H:=⟨_,rfl⟩;have hz1s:W1.heap.size=H+2:=by rw [<-hW1,<-hH];simp
 have b0:Box3 W1 H 38 (.int .i64 a.kind) (.slice L a.labels.length c) (.slice A ks.length d):=by rw [<-hW1,<-hH];exact (Box3.new w _ _ _ _).alloc _
 have b1:Box3 W1 (H+1) 38 (.int .i64 0) (.slice none 0 0) (.slice none 0 0):=by
  rw [<-hW1,<-hH]
  have:=Box3.new (w.alloc (.cells #[.int .i64 a.kind,.slice L a.labels.length c,.slice A ks.length d] 38)) 38 (.int .i64 0) (.slice none 0 0) (.slice none 0 0)
  simpa using this
 have hb1:Below w.heap.size w W1:=by rw [<-hW1];exact (bQ.alloc nQ _).alloc (by simp) _
 have HIX:=hQ (Znk L c a.labels x W1 (k1.below hb1) k4);have HV:=hQ (Zcf (.node a ks) W1 _ (h.keep hb1) hw);have HWT:=hQ hw;have HW1:=hQ hW1;have HP:=hQ (hp.keep hb1);have HB1:=hQ hb1;have B0:=hQ b0;have B1:=hQ b1;have HH:=hQ hH;have HZ:=hQ hz1s;have x0:=b0.c0;have x1:=b0.c1;have x2:=b0.c2;obtain ⟨n,hn⟩:∃ n,Lib.idxOfS a.labels x=n:=⟨_,rfl⟩;rw [hn] at HIX hidx;have HNN:=hQ hn;clear h hw hW1 hp hb1 b0 b1 k1 k5 hz1s hn;go_enter Tryz.func133,Tryz.ntmps133;go_wp2_with fail;rw [HW1.out];refine HIX.out.mono ?_;rintro e w' ⟨rfl,rfl⟩;go_wp2_with fail;refine HV.out.mono ?_;rintro e W2 ⟨rfl,hb2⟩;have hz2:=hb2.size;have hzz:=HZ.out;have HB2:=hQ (HB1.out.trans (hb2.mono HB1.out.size));have HP2:=hQ (HP.out.keep hb2);have B20:=hQ (B0.out.under hb2 B0.out.lt);have B21:=hQ (B1.out.under hb2 B1.out.lt);clear hb2 x0 x1 x2;have x0:=B20.out.c0;have x2:=B20.out.c2;have r0:=B21.out.c0;have r1:=B21.out.c1;have r2:=B21.out.c2;have s0:=B21.out.free 0;have s1:=B21.out.free 1;have s2:=B21.out.free 2;cases hv:Zae (.node a ks)
 ·skip
  have HF:Hid (Zak (.node a ks) x=(Zap,false)):=hQ (by unfold Zak;rw [hv];simp);go_wp2_with fail;generalize hU:((W2.setCell ⟨H+1,0,none⟩ (.int .i64 0)).setCell ⟨H+1,1,none⟩ (.slice none 0 0)).setCell ⟨H+1,2,none⟩ (.slice none 0 0)=U;have hgU:W2.grownBy U (some (H+1)):=by rw [<-hU];exact Zaa (Zaa (Zaa (gQ) _) _) _
  have u1:Box3 U (H+1) 38 (.int .i64 0) (.slice none 0 0) (.slice none 0 0):=by
   rw [<-hU];exact ((B21.out.set0 _).set1 _).set2 _
  have HRR:Hid (MadeP (Zak (.node a ks) x) w (.returned (.tuple #[.agg #[.int .i64 0,.slice none 0 0,.slice none 0 0],.bool false])) U):=hQ (by
   rw [HF.out];exact Zaj (HB2.out.grown hgU HB2.out.size (fun k hk=>by injection hk with hk;have:=HH.out;omega)))
  have t0:=u1.c0;have t1:=u1.c1;have t2:=u1.c2;clear hU hgU u1 r0 r1 r2 s0 s1 s2;exact bodyPost_ret (v:=.tuple #[.agg #[.int .i64 0,.slice none 0 0,.slice none 0 0],.bool false]) (by simp [results,Tryz.results133,go_sem,t0,t1,t2]) rfl HRR.out
 ·by_cases h3:a.kind=3
  ·by_cases hn0:n < 0
   ·skip
    have HF:Hid (Zak (.node a ks) x=(Zap,false)):=hQ (by unfold Zak;rw [if_neg];rintro ⟨_,_,h⟩;have h':0<=Lib.idxOfS a.labels x:=h;rw [HNN.out] at h';omega);go_wp2_with fail;generalize hU:((W2.setCell ⟨H+1,0,none⟩ (.int .i64 0)).setCell ⟨H+1,1,none⟩ (.slice none 0 0)).setCell ⟨H+1,2,none⟩ (.slice none 0 0)=U;have hgU:W2.grownBy U (some (H+1)):=by rw [<-hU];exact Zaa (Zaa (Zaa (gQ) _) _) _
    have u1:Box3 U (H+1) 38 (.int .i64 0) (.slice none 0 0) (.slice none 0 0):=by
     rw [<-hU];exact ((B21.out.set0 _).set1 _).set2 _
    have HRR:Hid (MadeP (Zak (.node a ks) x) w (.returned (.tuple #[.agg #[.int .i64 0,.slice none 0 0,.slice none 0 0],.bool false])) U):=hQ (by
     rw [HF.out];exact Zaj (HB2.out.grown hgU HB2.out.size (fun k hk=>by injection hk with hk;have:=HH.out;omega)))
    have t0:=u1.c0;have t1:=u1.c1;have t2:=u1.c2;clear hU hgU u1 r0 r1 r2 s0 s1 s2;exact bodyPost_ret (v:=.tuple #[.agg #[.int .i64 0,.slice none 0 0,.slice none 0 0],.bool false]) (by simp [results,Tryz.results133,go_sem,t0,t1,t2]) rfl HRR.out
   ·have hvr:=Zpm hv h3
    obtain ⟨m,rfl⟩:∃ m:Nat,n=m:=⟨n.toNat,by omega⟩;have hnl:m < a.labels.length:=by
     have h2:=HNN.out;exact Zacd h2
    have hmk:m < ks.length:=by omega
    have HF:Hid (Zak (.node a ks) x=(ks[m],true)):=hQ (by
     unfold Zak;rw [if_pos ⟨hv,h3,by show 0<=Lib.idxOfS a.labels x;rw [HNN.out];omega⟩]
     show (ks.getD (Lib.idxOfS a.labels x).toNat Zap,true)=_
     rw [HNN.out];simp [List.getD,hmk])
    obtain ⟨ad,p,c0,c1,c2,rfl,hpe,hr,q0,q1,q2⟩:=Zal HP2.out bQ hmk;have hwk:wt ks[m]<=1048576:=Nat.le_trans (Zbn (List.getElem_mem hmk)) HWT.out;have HC:=hQ (Zcm ks[m] W2 [c0,c1,c2] hr hwk);clear hr hwk hv hvr;go_wp2_with fail;refine HC.out.mono ?_;rintro e w3 hmade;have hb3:Below W2.heap.size W2 w3:=by
     obtain ⟨_,_,_,_,_,_,_,_,hb3⟩:=hmade;exact hb3
    have HBX:=hQ (B21.out.under hb3 B21.out.lt);have HM:=hQ (fun (U:World) (hU:w3.grownBy U (some (H+1)))=>Zgz (w:=w) (U:=U) hmade HB2.out (by omega) (by have:=HH.out;omega) hU);obtain ⟨LL,AA,lc,dd,rfl,_⟩:=HM.out w3 (gQ);have HM2:Hid (∀ U:World,w3.grownBy U (some (H+1))->MadeP (Zak (.node a ks) x) w (.returned (.tuple #[.agg #[.int .i64 ks[m].top.kind,.slice LL ks[m].top.labels.length lc,.slice AA ks[m].kids.length dd],.bool true])) U):=hQ (by
     intro U hU
     obtain ⟨L9,A9,c9,d9,e9,h9⟩:=HM.out U hU;rw [HF.out];injection e9 with e9
     rw [<-e9] at h9;exact h9)
    clear HM hmade hb3 r0 r1 r2 s0 s1 s2 x0 x2 q0 q1 q2;generalize ks[m].top.kind=y0 at HM2 ⊢;generalize ks[m].top.labels.length=y1 at HM2 ⊢;generalize ks[m].kids.length=y2 at HM2 ⊢;have r0:=HBX.out.c0;have r1:=HBX.out.c1;have r2:=HBX.out.c2;have s0:=HBX.out.free 0;have s1:=HBX.out.free 1;have s2:=HBX.out.free 2;go_wp2_with fail;generalize hU:((w3.setCell ⟨H+1,0,none⟩ (.int .i64 y0)).setCell ⟨H+1,1,none⟩ (.slice LL y1 lc)).setCell ⟨H+1,2,none⟩ (.slice AA y2 dd)=U;have hgU:w3.grownBy U (some (H+1)):=by rw [<-hU];exact Zaa (Zaa (Zaa (gQ) _) _) _
    have u1:Box3 U (H+1) 38 (.int .i64 y0) (.slice LL y1 lc) (.slice AA y2 dd):=by
     rw [<-hU];exact ((HBX.out.set0 _).set1 _).set2 _
    have HRR:=hQ (HM2.out U hgU);have t0:=u1.c0;have t1:=u1.c1;have t2:=u1.c2;clear hU hgU u1 r0 r1 r2 s0 s1 s2;exact bodyPost_ret (v:=.tuple #[.agg #[.int .i64 y0,.slice LL y1 lc,.slice AA y2 dd],.bool true]) (by simp [results,Tryz.results133,go_sem,t0,t1,t2]) rfl HRR.out
  ·skip
   have HF:Hid (Zak (.node a ks) x=(Zap,false)):=hQ (by unfold Zak;rw [if_neg];rintro ⟨_,h,_⟩;exact h3 h);go_wp2_with fail;generalize hU:((W2.setCell ⟨H+1,0,none⟩ (.int .i64 0)).setCell ⟨H+1,1,none⟩ (.slice none 0 0)).setCell ⟨H+1,2,none⟩ (.slice none 0 0)=U;have hgU:W2.grownBy U (some (H+1)):=by rw [<-hU];exact Zaa (Zaa (Zaa (gQ) _) _) _
   have u1:Box3 U (H+1) 38 (.int .i64 0) (.slice none 0 0) (.slice none 0 0):=by
    rw [<-hU];exact ((B21.out.set0 _).set1 _).set2 _
   have HRR:Hid (MadeP (Zak (.node a ks) x) w (.returned (.tuple #[.agg #[.int .i64 0,.slice none 0 0,.slice none 0 0],.bool false])) U):=hQ (by
    rw [HF.out];exact Zaj (HB2.out.grown hgU HB2.out.size (fun k hk=>by injection hk with hk;have:=HH.out;omega)))
   have t0:=u1.c0;have t1:=u1.c1;have t2:=u1.c2;clear hU hgU u1 r0 r1 r2 s0 s1 s2;exact bodyPost_ret (v:=.tuple #[.agg #[.int .i64 0,.slice none 0 0,.slice none 0 0],.bool false]) (by simp [results,Tryz.results133,go_sem,t0,t1,t2]) rfl HRR.out
def Zai (xs:Sc)(nm:ByteArray):Ty×Bool:=
 match xs.find? (fun d=>decide (d.1=nm)) with
 | some d=>(d.2,true)
 | none=>(Zap,false)
theorem Zhn {xs:Sc}{nm:ByteArray}{d:Dc}(h:xs.find? (fun d=>decide (d.1=nm))=some d):Zai xs nm=(d.2,true):=by unfold Zai;rw [h]
theorem Zhm {xs:Sc}{nm:ByteArray}(h:xs.find? (fun d=>decide (d.1=nm))=none):Zai xs nm=(Zap,false):=by unfold Zai;rw [h]
theorem Zkk (xs:Sc)(nm:ByteArray):wt (Zai xs nm).1<=wSc xs:=by
 unfold Zai
 split
 ·rename_i d h
  have hm:=List.mem_of_find?_eq_some h;obtain ⟨j,hj,rfl⟩:=List.getElem_of_mem hm;have h1:=(wL_le (f:=wDc) hj (Nat.le_refl (wSc xs))).1;have h2:wDc xs[j]=xs[j].1.size+wt xs[j].2:=rfl
  show wt xs[j].2<=_
  omega
 ·simp [Zap,wt,Tr.sum,wtA,total]
theorem Zpc (t:Sc)(nm:ByteArray)(w:World)(cs:List Value)(h:RSc w t cs)(hw:wSc t<=1048576):Calls Tryz.prog 130 #[.agg cs.toArray,.string nm] w (MadeP (Zai t nm) w):=by
 obtain ⟨A,c,rfl,hl,_,hp⟩:=h.open;obtain ⟨W1,hW1⟩:∃ W1,(w.alloc (.cells #[.slice A t.length c] 43)).alloc (.cells #[.int .i64 0,.slice none 0 0,.slice none 0 0] 38)=W1:=⟨_,rfl⟩;obtain ⟨H,hH⟩:∃ H,w.heap.size=H:=⟨_,rfl⟩;have b0:Box1 W1 H 43 (.slice A t.length c):=by rw [<-hW1,<-hH];exact (Box1.new w _ _).alloc _
 have b1:Box3 W1 (H+1) 38 (.int .i64 0) (.slice none 0 0) (.slice none 0 0):=by
  rw [<-hW1,<-hH]
  have:=Box3.new (w.alloc (.cells #[.slice A t.length c] 43)) 38 (.int .i64 0) (.slice none 0 0) (.slice none 0 0)
  simpa using this
 have hb1:Below w.heap.size w W1:=by rw [<-hW1];exact (bQ.alloc nQ _).alloc (by simp) _
 have hs1:W1.heap.size=H+2:=by rw [<-hW1,<-hH];simp
 have HA:=hQ (fun (W:World) (hB:Below W1.heap.size W1 W)=>b0.under hB b0.lt);have HB:=hQ (fun (W:World) (hB:Below W1.heap.size W1 W)=>b1.under hB b1.lt);have HB1:=hQ hb1;have HS1:=hQ hs1;have HH:=hQ hH;have HWT:=hQ hw;have HP:=hQ (hp.keep hb1);have HW1:=hQ hW1;have x0:=b0.c0;have HI0:Hid (∃ k:Nat,k<=t.length/\Value.int .i64 0=.int .i64 (k:Int)/\Zin t nm k/\Below W1.heap.size W1 W1):=hQ ⟨0,Nat.zero_le _,rfl,Zqp _ _,Below.refl _ _⟩;clear h hp hW1 b0 b1 hb1 hs1 hw;go_enter Tryz.func130,Tryz.ntmps130;go_wp2_with fail;rw [HW1.out];go_wp2_with fail;go_loopw [6] (fun i wr=>∃ k:Nat,k<=t.length/\i=.int .i64 (k:Int)/\Zin t nm k/\Below W1.heap.size W1 wr) (fun i _=>t.length - (intOf i).toNat)
 case atStart=>exact HI0.out
 case round=>
  obtain ⟨k,hk,rfl,hno,hb⟩:=hrel;clear x0;have x0:=(HA.out wr hb).c0;have HBW:=hQ (HB1.out.trans (hb.mono HB1.out.size));have BR:=hQ (HB.out wr hb);have r0:=BR.out.c0;have r1:=BR.out.c1;have r2:=BR.out.c2;have s0:=BR.out.free 0;have s1:=BR.out.free 1;have s2:=BR.out.free 2;by_cases hlt:k < t.length
  ·obtain ⟨ad,p,c0,c1,c2,c3,rfl,hpe,hr,q0,q1,q2,q3⟩:=Zec kDc_n HP.out hb hlt
   obtain ⟨tk,TL,TA,tl,tc,ta,td,hcs,hs,hy⟩:=Zcc hr;simp only [List.cons.injEq,and_true] at hcs;obtain ⟨rfl,rfl,rfl,rfl⟩:=hcs;obtain ⟨_,hwty,_⟩:=Znz hlt HWT.out;have hz:=hb.size;by_cases hn:t[k].1=nm
   ·have HF:=hQ (Zhn (Zzl hno hlt hn))
    have HC:=hQ (Zcm t[k].2 wr _ hy hwty);rw [hn] at q0;generalize t[k].2=ty at *
    clear hr hs hy hno hk hn r0 r1 r2 s0 s1 s2 hwty;go_wp2_with fail;refine HC.out.mono ?_;rintro e w3 hmade;have hb3:Below wr.heap.size wr w3:=by
     obtain ⟨_,_,_,_,_,_,_,_,hb3⟩:=hmade;exact hb3
    have HBX:=hQ (BR.out.under hb3 BR.out.lt);have HM:=hQ (fun (U:World) (hU:w3.grownBy U (some (H+1)))=>Zgz (w:=w) (U:=U) hmade HBW.out (by have:=HS1.out;omega) (by have:=HH.out;omega) hU);obtain ⟨LL,AA,lc,dd,rfl,_⟩:=HM.out w3 (gQ);have HM2:Hid (∀ U:World,w3.grownBy U (some (H+1))->MadeP (Zai t nm) w (.returned (.tuple #[.agg #[.int .i64 ty.top.kind,.slice LL ty.top.labels.length lc,.slice AA ty.kids.length dd],.bool true])) U):=hQ (by
     intro U hU
     obtain ⟨L9,A9,c9,d9,e9,h9⟩:=HM.out U hU;rw [HF.out];injection e9 with e9
     rw [<-e9] at h9;exact h9)
    have r0:=HBX.out.c0;have r1:=HBX.out.c1;have r2:=HBX.out.c2;have s0:=HBX.out.free 0;have s1:=HBX.out.free 1;have s2:=HBX.out.free 2;generalize ty.top.kind=y0 at HM2 ⊢;generalize ty.top.labels.length=y1 at HM2 ⊢;generalize ty.kids.length=y2 at HM2 ⊢;clear hmade hb3 HM x0 q0 q1 q2 q3;go_wp2_with fail;generalize hU:((w3.setCell ⟨H+1,0,none⟩ (.int .i64 y0)).setCell ⟨H+1,1,none⟩ (.slice LL y1 lc)).setCell ⟨H+1,2,none⟩ (.slice AA y2 dd)=U;have hgU:w3.grownBy U (some (H+1)):=by rw [<-hU];exact Zaa (Zaa (Zaa (gQ) _) _) _
    have u1:Box3 U (H+1) 38 (.int .i64 y0) (.slice LL y1 lc) (.slice AA y2 dd):=by
     rw [<-hU];exact ((HBX.out.set0 _).set1 _).set2 _
    have HRR:=hQ (HM2.out U hgU);have t0:=u1.c0;have t1:=u1.c1;have t2:=u1.c2;clear hU hgU u1 r0 r1 r2 s0 s1 s2;exact bodyPost_ret (v:=.tuple #[.agg #[.int .i64 y0,.slice LL y1 lc,.slice AA y2 dd],.bool true]) (by simp [results,Tryz.results130,go_sem,t0,t1,t2]) rfl HRR.out
   ·have HR:Hid (∃ j:Nat,j<=t.length/\Value.int .i64 ((k:Int)+1)=.int .i64 (j:Int)/\Zin t nm j/\Below W1.heap.size W1 wr):=hQ ⟨k+1,hlt,by simp,Zqo hno hlt hn,hb⟩
    have f1:=Zqx hn;generalize t[k].1=nk at *
    clear hr hs hy hno hk hn hb r0 r1 r2 s0 s1 s2 hwty;go_wp2_with fail;go_roundw
    case rel=>exact HR.out
    case measure=>simp [intOf];omega
  ·have he:k=t.length:=by omega
   subst he;have HF:=hQ (Zhm (Zzk hno));have hz:=hb.size;clear hno hb hk;go_wp2_with fail;generalize hU:((wr.setCell ⟨H+1,0,none⟩ (.int .i64 0)).setCell ⟨H+1,1,none⟩ (.slice none 0 0)).setCell ⟨H+1,2,none⟩ (.slice none 0 0)=U;have hgU:wr.grownBy U (some (H+1)):=by rw [<-hU];exact Zaa (Zaa (Zaa (gQ) _) _) _
   have u1:Box3 U (H+1) 38 (.int .i64 0) (.slice none 0 0) (.slice none 0 0):=by
    rw [<-hU];exact ((BR.out.set0 _).set1 _).set2 _
   have HRR:Hid (MadeP (Zai t nm) w (.returned (.tuple #[.agg #[.int .i64 0,.slice none 0 0,.slice none 0 0],.bool false])) U):=hQ (by
    rw [HF.out];exact Zaj (HBW.out.grown hgU HBW.out.size (fun k hk=>by injection hk with hk;have:=HH.out;omega)))
   have t0:=u1.c0;have t1:=u1.c1;have t2:=u1.c2;clear hU hgU u1 r0 r1 r2 s0 s1 s2;exact bodyPost_ret (v:=.tuple #[.agg #[.int .i64 0,.slice none 0 0,.slice none 0 0],.bool false]) (by simp [results,Tryz.results130,go_sem,t0,t1,t2]) rfl HRR.out
def arB (s:ByteArray):Int:=if s.toList == [43] then 2 else if s.toList == [45] then 2 else if s.toList == [61] then 2 else if s.toList == [60] then 2 else if s.toList == [38] then 2 else if s.toList == [124] then 2 else if s.toList == [33] then 1 else 0
def Arity (s:ByteArray)(w:World)(e:Ending)(w':World):Prop:=e=.returned (.int .i64 (arB s))/\w=w'
theorem Zaey (s:ByteArray):0<=arB s/\arB s<=2:=by
 unfold arB
 repeat' split
 all_goals omega
theorem Zhs (s:ByteArray)(w:World):Calls Tryz.prog 122 #[.string s] w (Arity s w):=by
 have hR:∀ k,k=arB s->Arity s w (.returned (.int .i64 k)) w:=fun k h=>⟨by rw [h],rfl⟩
 have HR:=hQ hR;clear hR;cases e0:(s.toList == [43]) with
 | true=>
  have HV:Hid ((2:Int)=arB s):=hQ (by unfold arB;simp only [e0,if_true]);go_enter Tryz.func122,Tryz.ntmps122;go_wp2_with fail;go_ret;exact HR.out _ HV.out
 | false=>
  cases e1:(s.toList == [45]) with
  | true=>
   have HV:Hid ((2:Int)=arB s):=hQ (by unfold arB;simp only [e0,e1,if_true,Bool.false_eq_true,if_false]);go_enter Tryz.func122,Tryz.ntmps122;go_wp2_with fail;go_ret;exact HR.out _ HV.out
  | false=>
   cases e2:(s.toList == [61]) with
   | true=>
    have HV:Hid ((2:Int)=arB s):=hQ (by unfold arB;simp only [e0,e1,e2,if_true,Bool.false_eq_true,if_false]);go_enter Tryz.func122,Tryz.ntmps122;go_wp2_with fail;go_ret;exact HR.out _ HV.out
   | false=>
    cases e3:(s.toList == [60]) with
    | true=>
     have HV:Hid ((2:Int)=arB s):=hQ (by unfold arB;simp only [e0,e1,e2,e3,if_true,Bool.false_eq_true,if_false]);go_enter Tryz.func122,Tryz.ntmps122;go_wp2_with fail;go_ret;exact HR.out _ HV.out
    | false=>
     cases e4:(s.toList == [38]) with
     | true=>
      have HV:Hid ((2:Int)=arB s):=hQ (by unfold arB;simp only [e0,e1,e2,e3,e4,if_true,Bool.false_eq_true,if_false]);go_enter Tryz.func122,Tryz.ntmps122;go_wp2_with fail;go_ret;exact HR.out _ HV.out
     | false=>
      cases e5:(s.toList == [124]) with
      | true=>
       have HV:Hid ((2:Int)=arB s):=hQ (by unfold arB;simp only [e0,e1,e2,e3,e4,e5,if_true,Bool.false_eq_true,if_false]);go_enter Tryz.func122,Tryz.ntmps122;go_wp2_with fail;go_ret;exact HR.out _ HV.out
      | false=>
       cases e6:(s.toList == [33]) with
       | true=>
        have HV:Hid ((1:Int)=arB s):=hQ (by unfold arB;simp only [e0,e1,e2,e3,e4,e5,e6,if_true,Bool.false_eq_true,if_false]);go_enter Tryz.func122,Tryz.ntmps122;go_wp2_with fail;go_ret;exact HR.out _ HV.out
       | false=>
        have HV:Hid ((0:Int)=arB s):=hQ (by unfold arB;simp only [e0,e1,e2,e3,e4,e5,e6,Bool.false_eq_true,if_false]);go_enter Tryz.func122,Tryz.ntmps122;go_wp2_with fail;go_ret;exact HR.out _ HV.out
end Go.Proofs.YtlcedleebbgebaaGreatDoor
