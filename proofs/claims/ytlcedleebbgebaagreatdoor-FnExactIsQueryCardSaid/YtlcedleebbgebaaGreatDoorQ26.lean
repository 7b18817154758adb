/-
  Merged by program: PlcDc.
-/
import Derived.Test.YtlcedleebbgebaaGreatDoorQ25
set_option maxRecDepth 100000
set_option maxHeartbeats 4000000
set_option linter.all false
namespace Go.Proofs.YtlcedleebbgebaaGreatDoor
open Go.RowKit Go.Maps Go.Shelf
attribute [local go_sem] Oper.semAt_some
def Zvl (p:Nat)(s:Value)(w:World)(e:Ending)(w':World):Prop:=e=.returned (.func (.func 167) #[] #[.pointer (some ⟨p,0,none⟩)])/\w'=w.alloc (.cells #[s] 41)
theorem Zkw (w:World)(A:Option Addr)(n c:Nat):Calls Tryz.prog 163 #[.slice A n c] w (Zvl w.heap.size (.slice A n c) w):=by
 have HR:Hid (Zvl w.heap.size (.slice A n c) w (.returned (.func (.func 167) #[] #[.pointer (some ⟨w.heap.size,0,none⟩)])) (w.alloc (.cells #[.slice A n c] 41))):=⟨rfl,rfl⟩;go_enter Tryz.func163,Tryz.ntmps163;go_wp2_with fail;go_ret;exact HR.out
def Zri (s:ByteArray)(o:Obj)(w:World)(e:Ending)(w':World):Prop:=e=.returned (.string s)/\w'=w.alloc o
theorem Zaf (s:ByteArray)(c1 c2 c3:Value)(w:World):Calls Tryz.prog 153 #[.agg #[.string s,c1,c2,c3]] w (Zri s (.cells #[.string s,c1,c2,c3] 101) w):=by
 have HR:Hid (Zri s (.cells #[.string s,c1,c2,c3] 101) w (.returned (.string s)) (w.alloc (.cells #[.string s,c1,c2,c3] 101))):=⟨rfl,rfl⟩;go_enter Tryz.func153,Tryz.ntmps153;go_wp2_with fail;go_ret;exact HR.out
def BRdDc (t:Sc)(w0:World)(k:Nat)(v:Array Value):Prop:=∃ (j:Nat)(h:j < t.length)(cs:List Value),j+1+k=t.length/\v=#[.int .i64 (j:Int),.agg cs.toArray]/\kDc.R w0 t[j] cs
theorem BRdDc.size {t:Sc}{w0:World}{k:Nat}{v:Array Value}(h:BRdDc t w0 k v):v.size=2:=by
 obtain ⟨j,hj,cs,_,rfl,_⟩:=h
 rfl
theorem Zhy (t:Sc)(w0:World)(A:Option Addr)(c:Nat)(hp:RL kDc w0 A t)(hl:t.length<=1048576)(n Bx:Nat)(hn:2<=n)(Keep:Nat->Prop)(hk0:∀ b,b < w0.heap.size->Keep b)(hkx:Keep Bx)
  (W:World) (hkW:∀ b,Keep b->b < W.heap.size) (hw:Below w0.heap.size w0 W) (hbox:Boxed W Bx 41 (.slice A t.length c)) :
  Zco Fence.wide n Tryz.prog 167 #[.pointer (some ⟨Bx,0,none⟩)] t.length (BRdDc t w0) (fun _=>True) Keep W:=by
 intro l J Jx hJ hJB hY h0
 have h1:1<=n:=by omega
 have x0:=hbox.cell;refine callsIn_of_wp Tryz.func167 rfl trivial ?_ rfl;simp only [Tryz.ntmps167,List.size_toArray,List.length_cons,List.length_nil,Nat.reduceAdd,Nat.reduceSub,Array.replicate_succ,Array.replicate_zero,List.push_toArray,List.append_toArray,List.nil_append,List.cons_append];have HP:=hQ hp;have HJB:=hQ hJB;have HY:=hQ hY;have H0:=hQ h0;have HK0:=hQ hk0;have HKX:=hQ hkx;have HKW:=hQ hkW;have HW:=hQ hw;have HBX:=hQ hbox;obtain ⟨M,hM⟩:∃ M,t.length=M:=⟨_,rfl⟩;rw [hM] at x0 hl ⊢;clear hp hJ hJB hY h0 hk0 hkx hkW hw hbox
 gi_wp2
 gi_loopw [3] (fun i wr=>∃ (k:Nat) (F:Nat->Prop),k<=M/\i=.int .i64 ((M:Int) - 1 - (k:Int))/\J k F wr/\Held Keep W wr) (fun i _=>(intOf i+1).toNat)
 case atStart=>
  obtain ⟨F,hF⟩:=H0.out;exact ⟨0,F,Nat.zero_le _,by go_num,hF,Held.refl _ _⟩
 case round=>
  obtain ⟨k,F,hk,rfl,hj,hheld⟩:=hrel;clear x0;by_cases hlt:k < M
  ·obtain ⟨j,hjk⟩:∃ j,j+1+k=M:=⟨M - 1 - k,by omega⟩
   have hjl:j < t.length:=by omega
   have e1:(M:Int) - 1 - (k:Int)=(j:Int):=by omega
   rw [e1];have hbw:Below w0.heap.size w0 wr:=HW.out.trans (hheld.below HW.out.size fun i hi=>HK0.out i hi);obtain ⟨ad,p,c0,c1,c2,c3,rfl,hpe,hr,q0,q1,q2,q3⟩:=Zec kDc_n HP.out hbw hjl;have hr0:∃ cs,kDc.R w0 t[j] cs/\cs=[c0,c1,c2,c3]:=by
    obtain ⟨ps,hp⟩:=HP.out;obtain ⟨g1,ad',g2,g3⟩:=hp j t[j] (List.getElem?_eq_getElem hjl);refine ⟨ps j,g1,?_⟩;have hlen:(ps j).length=4:=kDc.len g1;injection g2 with g2
    subst g2;have hc:∀ i u,(ps j)[i]?=some u->wr.cell? (ad.add (j * 4+i))=some u:=fun i u hi=>(hbw.cell (World.block_lt_of_cell? w0 _ (g3 i u hi))).trans (g3 i u hi)
    match hps:ps j,hlen with
    | [z0,z1,z2,z3],_=>
     rw [hps] at hc;have d0:=hc 0 z0 rfl;rw [Nat.add_zero,hpe,q0] at d0;have d1:=hc 1 z1 rfl;rw [Zao ad (j * 4) 1 (by omega),hpe,q1] at d1;have d2:=hc 2 z2 rfl;rw [Zao ad (j * 4) 2 (by omega),hpe,q2] at d2;have d3:=hc 3 z3 rfl;rw [Zao ad (j * 4) 3 (by omega),hpe,q3] at d3;injection d0 with d0
     injection d1 with d1
     injection d2 with d2
     injection d3 with d3
     rw [d0,d1,d2,d3]
   obtain ⟨cs0,hr0,rfl⟩:=hr0;have HC:=hQ (HY.out k #[.int .i64 (j:Int),.agg [c0,c1,c2,c3].toArray] F wr (by omega) hj ⟨j,hjl,_,by omega,rfl,hr0⟩);have hx0:Boxed wr Bx 41 (.slice (some ad) t.length c):=(hheld.block Bx (HKW.out _ HKX.out) HKX.out).trans HBX.out;have x0:=hx0.cell;rw [hM] at x0;have HH:=hQ hheld;have HKF:=hQ (fun b hb=>(HJB.out k F wr hj b hb).1);obtain ⟨tk,TL,TA,tl,tc,ta,td,hcs,hs,hy⟩:=Zcc hr;simp only [List.cons.injEq,and_true] at hcs;obtain ⟨rfl,rfl,rfl,rfl⟩:=hcs;obtain ⟨fn,tmps,assign,body,hyd,hR⟩:=HC.out;generalize t[j].1=nm at *
   clear hr hr0 hs hy HC hheld hj hbw hx0
   gi_wp2
   refine hR.mono ?_;rintro e W3 (⟨rfl,_,hh3,F',hF',hj3⟩|⟨rfl,hjx⟩)
   ·have HJ3:=hQ hj3
    have HH3:Hid (Held Keep W W3):=hQ (HH.out.trans (hh3.mono fun i _ hi hf=>HKF.out i hf hi));clear hh3 hF' hj3 hR
    gi_wp2
    go_roundw
    case rel=>exact ⟨k+1,F',hlt,by go_num,HJ3.out,HH3.out⟩
    case measure=>simp [intOf]
   ·have HJX:=hQ hjx
    clear hjx hR
    gi_wp2
    refine bodyPost_ret (results_none rfl _ _ _) rfl ?_;exact ⟨⟨_,rfl⟩,.inr HJX.out⟩
  ·have he:k=M:=by omega
   subst he;have HJ0:=hQ hj;clear hj hheld
   gi_wp2
   go_end0
   exact ⟨⟨_,rfl⟩,.inl ⟨F,HJ0.out⟩⟩
def Zli (ns:List ByteArray)(w:World)(H k:Nat)(F:Nat->Prop)(W:World):Prop:=
 F=(fun q=>q=H+1)/\(∃ j,j+k=ns.length/\Plc W (H+1) k ns j)/\Boxed W (H+2) 193 (.map (some (H+1)))/\Boxed W H 195 (.func (.func 153) #[] #[])/\Below w.heap.size w W
theorem Zli.keep {ns:List ByteArray}{w A C:World}{H k D:Nat}{F:Nat->Prop}(h:Zli ns w H k F A)(hh:Held (fun i=>i < D∨F i) A C)(hD:w.heap.size<=D)(hHD:H+2 < D):Zli ns w H k F C:=by
 obtain ⟨rfl,⟨j,hj,h1⟩,h2,h3,h4⟩:=h;exact ⟨rfl,⟨j,hj,h1.at (hh.block _ h1.lt (.inr rfl))⟩,(hh.block _ h2.lt (.inl (by omega))).trans h2,(hh.block _ h3.lt (.inl (by omega))).trans h3,h4.trans (hh.below h4.size fun i hi=>.inl (by omega))⟩
def Zrg (v:Array Value)(q:Nat)(W:World):Prop:=∃ u cs,v=#[u,.agg cs]/\W.heap[q]?=some (.cells cs 101)
theorem Zrg.held {v:Array Value}{q:Nat}{A C:World}(h:Zrg v q A)(hh:Held (fun i=>q<=i) A C):Zrg v q C:=by
 obtain ⟨u,cs,h1,h2⟩:=h;exact ⟨u,cs,h1,(hh.block q (Array.getElem?_eq_some_iff.1 h2).1 nQ).trans h2⟩
theorem Zos (t:Sc)(w:World)(A:Option Addr)(c:Nat)(hp:RL kDc w A t)(hl:t.length<=1048576)(hs:∀ d∈t,d.1.size<=1048576):Calls Tryz.prog 152 #[.slice A t.length c,.func (.func 153) #[] #[]] w (PlcOf (t.map fun d=>d.1) w):=by
 obtain ⟨ns,hns⟩:∃ ns,(t.map fun d=>d.1)=ns:=⟨_,rfl⟩;have hnl:ns.length=t.length:=by rw [<-hns];simp
 have hmm:=@run_makeMap Tryz.prog;obtain ⟨H,hH⟩:∃ H,w.heap.size=H:=⟨_,rfl⟩;obtain ⟨W1,hW1⟩:∃ W1,((w.alloc (.cells #[.func (.func 153) #[] #[]] 195)).alloc (.map #[] 0)).alloc (.cells #[.map (some (H+1))] 193)=W1:=⟨_,rfl⟩;obtain ⟨W3,hW3⟩:∃ W3,W1.alloc (.cells #[.slice A t.length c] 41)=W3:=⟨_,rfl⟩;have hz1:W1.heap.size=H+3:=by rw [<-hW1,<-hH];simp
 have hz3:W3.heap.size=H+4:=by rw [<-hW3];simp;omega
 have hb1:Below w.heap.size w W1:=by rw [<-hW1];exact ((bQ.alloc nQ _).alloc (by simp) _).alloc (by simp;omega) _
 have hb3:Below W1.heap.size W1 W3:=by rw [<-hW3];exact bQ.alloc nQ _
 have hb13:=hb1.trans (hb3.mono hb1.size);have hxf:Boxed W1 H 195 (.func (.func 153) #[] #[]):=by rw [<-hW1,<-hH];exact ((Boxed.new w 195 (.func (.func 153) #[] #[])).alloc _).alloc _
 have hxm:Plc W1 (H+1) 0 ns ns.length:=by
  have h1:=Plc.made (w.alloc (.cells #[.func (.func 153) #[] #[]] 195)) ns;have e:(w.alloc (.cells #[.func (.func 153) #[] #[]] 195)).heap.size=H+1:=by rw [<-hH];simp
  rw [e] at h1;refine h1.at ?_;rw [<-hW1];exact Below.heap_alloc _ _ _ h1.lt
 have hxv:Boxed W1 (H+2) 193 (.map (some (H+1))):=by
  rw [<-hW1,<-hH]
  have:=Boxed.new ((w.alloc (.cells #[.func (.func 153) #[] #[]] 195)).alloc (.map #[] 0)) 193 (.map (some (w.heap.size+1)))
  rw [World.size_alloc,World.size_alloc] at this;exact this
 have hyb:Boxed W3 (H+3) 41 (.slice A t.length c):=by rw [<-hW3,<-hz1];exact Boxed.new W1 _ _
 have hI0:Zli ns w H 0 (fun q=>q=H+1) W3:=⟨rfl,⟨ns.length,by omega,hxm.at (hb3.block _ (by omega))⟩,(hb3.block _ (by omega)).trans hxv,(hb3.block _ (by omega)).trans hxf,hb13⟩;obtain ⟨Keep,hKeep⟩:∃ Keep:Nat->Prop,Keep=fun q=>q < w.heap.size∨q=H+3:=⟨_,rfl⟩
 have hkW:∀ q,Keep q->q < W3.heap.size:=by rw [hKeep];rintro q (h|h) <;> omega
 have HG:Hid (∀ W,Below W3.heap.size W3 W->Zco Fence.wide (9 - 1) Tryz.prog 167 #[.pointer (some ⟨H+3,0,none⟩)] t.length (BRdDc t w) (fun _=>True) Keep W):=hQ (fun W hW=>
  Zhy t w A c hp hl (9 - 1) (H+3) (by decide) Keep (fun q hq=>by rw [hKeep];exact .inl hq) (by rw [hKeep];exact .inr rfl) W (fun q hq=>by have:=hkW q hq;have:=hW.size;omega) (hb13.trans (hW.mono hb13.size)) ((hW.block _ (by omega)).trans hyb))
 have HP:=hQ (Zkw W1 A t.length c);have HKW:=hQ hkW;have HKE:=hQ hKeep;have HI0:=hQ hI0;have HW1:=hQ hW1;have HW3:=hQ hW3;have HZ1:=hQ hz1;have HZ3:=hQ hz3;have HH:=hQ hH;have HNS:=hQ hns;have HNL:=hQ hnl;have HS:=hQ hs;obtain ⟨M,hM⟩:∃ M,t.length=M:=⟨_,rfl⟩;rw [hM] at HP HW3 HG ⊢;have HM:=hQ hM;clear hp hs hW1 hz1 hb1 hxf hxm hxv hyb hW3 hz3 hb3 hb13 hI0 hKeep hkW hH hns hnl hM;rw [show (t.map fun d=>d.1)=ns from HNS.out];refine (callsIn_wide (n:=9)).1 ?_;refine callsIn_of_wp_marks Tryz.func152 rfl trivial ?_ rfl;simp only [Tryz.ntmps152,List.size_toArray,List.length_cons,List.length_nil,Nat.reduceAdd,Nat.reduceSub,Array.replicate_succ,Array.replicate_zero,List.push_toArray,List.append_toArray,List.nil_append,List.cons_append];have hHz:=HH.out
 gi_wp2_with (refine ⟨trivial,?_⟩;gi_at_call 163;rw [HW1.out];refine (callsIn_wide.2 HP.out).mono ?_;rintro e w3 ⟨rfl,hw3⟩;rw [HW3.out] at hw3;subst hw3;rw [HZ1.out])
 have hz3:=HZ3.out;have hz1:=HZ1.out;refine Zfg (n:=9) (w:=w3) rfl (by decide) (gf:=167) (lb:=#[.pointer (some ⟨H+3,0,none⟩)]) rfl trivial (enters_of Tryz.func167 (by kernel_rfl) rfl)
  (M:=M) (Rd:=BRdDc t w) (On:=fun _=>True) (Keep:=Keep) (fun _ _ h=>h.size) HKW.out (fun W hW hz=>HG.out W hW)
  (Zli ns w H) (fun _=>False) (fun k F A C hi hh=>hi.keep hh (by omega) (by omega)) (fun k F A hi q hq=>?bnd) (fun A C hx hh=>hx) _ HI0.out
  (fun v q=>{ tmps:=#[.slice A M c,.func (.func 153) #[] #[],undef,.pointer (some ⟨H,0,none⟩),.map none,.pointer (some ⟨H+2,0,none⟩),v.getD 0 undef,.pointer (some ⟨q,0,none⟩),.map (some (H+1)),.slice A M c,.func (.func 167) #[] #[.pointer (some ⟨H+3,0,none⟩)],v.getD 0 undef,v.getD 1 undef,undef,undef,undef,undef,undef,undef],defers:=[] }) Zrg (fun _ _ _ _ h hh=>h.held hh) ?assign ?body ?done ?stop
 case bnd=>
  obtain ⟨rfl,⟨j,_,h1⟩,_⟩:=hi;have e:q=H+1:=hq;subst e;rw [HKE.out];exact ⟨by omega,h1.lt⟩
 case assign=>
  rintro l k v W K ⟨j,hjl,cx,hjk,rfl,hr⟩ hK;obtain ⟨tk,TL,TA,tl,tc,ta,td,rfl,_⟩:=Zcc hr;have hal:Below W.heap.size W (W.alloc (.cells #[.string t[j].1,.int .i64 tk,.slice TL tl tc,.slice TA ta td] 101)):=bQ.alloc nQ _;have HK:=hQ (hK _ ⟨_,_,rfl,World.alloc_heap_new W (.cells #[.string t[j].1,.int .i64 tk,.slice TL tl tc,.slice TA ta td] 101)⟩ hal);generalize t[j].1=nm at *
  clear hK hr hal
  gi_wp2
  simpa using HK.out
 case body=>
  rintro l k s F W q hk ⟨rfl,⟨j',hj',h1⟩,h2,h3,h4⟩ ⟨j,hjl,cx,hjk,rfl,hr⟩ ⟨u,cs',eq1,hc1⟩ hq1 hq2 _ _ _;have e2:cx.toArray=cs':=by
   simp only [Array.mk.injEq,List.cons.injEq,Value.agg.injEq,and_true] at eq1;exact eq1.2
  subst e2;obtain ⟨tk,TL,TA,tl,tc,ta,td,rfl,_⟩:=Zcc hr;have bx:Box4 W q 101 (.string t[j].1) (.int .i64 tk) (.slice TL tl tc) (.slice TA ta td):=hc1;have hnl:=HNL.out;have hm:=HM.out;have hjn:j < ns.length:=by omega
  have hnj:ns[j]=t[j].1:=by
   have:ns[j]=(t.map fun d=>d.1)[j]'(by rw [HNS.out];exact hjn):=by congr 1;exact HNS.out.symm
   rw [this,List.getElem_map]
  have hj1:j'=j+1:=by omega
  subst hj1;have hsz:t[j].1.size<=1048576:=HS.out _ (List.getElem_mem hjl);obtain ⟨W6,hW6⟩:∃ W6,(W.alloc (.cells #[.string t[j].1,.int .i64 tk,.slice TL tl tc,.slice TA ta td] 101)).drew=W6:=⟨_,rfl⟩;have hb6:Below W.heap.size W W6:=by rw [<-hW6];exact (bQ.alloc nQ _).drew
  obtain ⟨W7,hrun,hp7,hg7⟩:=(h1.at (hb6.block _ h1.lt)).step hjn (by omega) (by unfold maxLen;omega) hnj (by unfold maxLen;omega);rw [<-hW6] at hrun;have hne:∀ i,i≠H+1->i < W.heap.size->W7.heap[i]?=W.heap[i]?:=fun i hi hlt=>(hg7.block i (by have:=hb6.size;omega) (fun e=>by injection e with e;exact hi e)).trans (hb6.block i hlt)
  have hs7:W.heap.size<=W7.heap.size:=Nat.le_trans hb6.size hg7.size;have hheld:Held (fun i=>i≠H+1) W W7:=⟨hg7.os.trans hb6.os,hg7.tape.trans hb6.tape,hg7.output.trans hb6.output,hs7,fun i hi hK=>hne i hK hi⟩;have HF:Hid (Zay (fun _=>True) (Zli ns w H) (fun _=>False) k (fun q=>q=H+1) W .normal { tmps:=#[],defers:=[] } W7):=hQ
   ⟨trivial,hheld,fun q=>q=H+1,fun b hb=>.inl hb,rfl,⟨j,by omega,hp7⟩,(hheld.block _ h2.lt (by omega)).trans h2,(hheld.block _ h3.lt (by omega)).trans h3,h4.trans (hheld.below h4.size fun i hi=>by show i≠H+1;omega)⟩
  have x0:=bx.c0;have x1:=bx.c1;have x2:=bx.c2;have x3:=bx.c3;have y0:=h2.cell;have z0:=h3.cell;have y1':(W.alloc (.cells #[.string t[j].1,.int .i64 tk,.slice TL tl tc,.slice TA ta td] 101)).cell? ⟨H+2,0,none⟩=some (.map (some (H+1))):=((bQ.alloc nQ _:Below W.heap.size W _).cell h2.lt).trans y0;generalize t[j].1=nm at *
  clear h1 h2 h3 h4 hr eq1 hc1 bx hnj hjn hsz hW6 hb6 hp7 hg7 hne hheld hs7 hjk hj' hmm
  gi_wp2
  refine wpIn_region_any (by kernel_rfl) ?_
  change wpAnyIn _ _ _ _ _ _ _ _ _ (World.drew _)
  refine wpAnyIn_ready (rs:=[0,1,2,4]) (by kernel_rfl) (by simp) ?_;refine AllReadyIn.cons rfl (fun K hK=>?_) ?_
  ·(go_simp;refine hK _ _ ?_;clear hK K)
   refine wpAnyIn_ready (rs:=[1,2,4]) (by kernel_rfl) (by simp) ?_;refine AllReadyIn.cons rfl (fun K hK=>?_) ?_
   ·(go_simp;refine hK _ _ ?_;clear hK K)
    refine wpAnyIn_ready (rs:=[2,4]) (by kernel_rfl) (by simp) ?_;refine AllReadyIn.cons rfl (fun K hK=>?_) ?_
    ·(go_simp;refine hK _ _ ?_;clear hK K)
     refine wpAnyIn_ready (rs:=[3,4]) (by kernel_rfl) (by simp) ?_;refine AllReadyIn.cons rfl (fun K hK=>?_) ?_
     ·(go_simp;refine ⟨trivial,?_⟩;gi_at_call 153;refine (CallsIn.inRound l (callsIn_wide.2 (Zaf _ _ _ _ _))).mono ?_;rintro e w8 ⟨rfl,rfl⟩;refine hK _ _ ?_;clear hK K)
      refine wpAnyIn_ready (rs:=[4]) (by kernel_rfl) (by simp) ?_;refine .cons rfl (fun K hK=>?_) .nil
      (go_simp;refine hK _ _ ?_;clear hK K)
      refine wpAnyIn_ready (rs:=[5]) (by kernel_rfl) (by simp) ?_;refine .cons rfl (fun K hK=>?_) .nil
      (go_simp;refine hK _ _ ?_;clear hK K)
      refine wpAnyIn_done (by kernel_rfl) ?_ _;exact HF.out
     refine .cons rfl (fun K hK=>?_) .nil
     (go_simp;refine hK _ _ ?_;clear hK K)
     refine wpAnyIn_ready (rs:=[3]) (by kernel_rfl) (by simp) ?_;refine .cons rfl (fun K hK=>?_) .nil
     (go_simp;refine ⟨trivial,?_⟩;gi_at_call 153;refine (CallsIn.inRound l (callsIn_wide.2 (Zaf _ _ _ _ _))).mono ?_;rintro e w8 ⟨rfl,rfl⟩;refine hK _ _ ?_;clear hK K)
     refine wpAnyIn_ready (rs:=[5]) (by kernel_rfl) (by simp) ?_;refine .cons rfl (fun K hK=>?_) .nil
     (go_simp;refine hK _ _ ?_;clear hK K)
     refine wpAnyIn_done (by kernel_rfl) ?_ _;exact HF.out
    refine .cons rfl (fun K hK=>?_) .nil
    (go_simp;refine hK _ _ ?_;clear hK K)
    refine wpAnyIn_ready (rs:=[2]) (by kernel_rfl) (by simp) ?_;refine .cons rfl (fun K hK=>?_) .nil
    (go_simp;refine hK _ _ ?_;clear hK K)
    refine wpAnyIn_ready (rs:=[3]) (by kernel_rfl) (by simp) ?_;refine .cons rfl (fun K hK=>?_) .nil
    (go_simp;refine ⟨trivial,?_⟩;gi_at_call 153;refine (CallsIn.inRound l (callsIn_wide.2 (Zaf _ _ _ _ _))).mono ?_;rintro e w8 ⟨rfl,rfl⟩;refine hK _ _ ?_;clear hK K)
    refine wpAnyIn_ready (rs:=[5]) (by kernel_rfl) (by simp) ?_;refine .cons rfl (fun K hK=>?_) .nil
    (go_simp;refine hK _ _ ?_;clear hK K)
    refine wpAnyIn_done (by kernel_rfl) ?_ _;exact HF.out
   refine AllReadyIn.cons rfl (fun K hK=>?_) ?_
   ·(go_simp;refine hK _ _ ?_;clear hK K)
    refine wpAnyIn_ready (rs:=[1,4]) (by kernel_rfl) (by simp) ?_;refine AllReadyIn.cons rfl (fun K hK=>?_) ?_
    ·(go_simp;refine hK _ _ ?_;clear hK K)
     refine wpAnyIn_ready (rs:=[3,4]) (by kernel_rfl) (by simp) ?_;refine AllReadyIn.cons rfl (fun K hK=>?_) ?_
     ·(go_simp;refine ⟨trivial,?_⟩;gi_at_call 153;refine (CallsIn.inRound l (callsIn_wide.2 (Zaf _ _ _ _ _))).mono ?_;rintro e w8 ⟨rfl,rfl⟩;refine hK _ _ ?_;clear hK K)
      refine wpAnyIn_ready (rs:=[4]) (by kernel_rfl) (by simp) ?_;refine .cons rfl (fun K hK=>?_) .nil
      (go_simp;refine hK _ _ ?_;clear hK K)
      refine wpAnyIn_ready (rs:=[5]) (by kernel_rfl) (by simp) ?_;refine .cons rfl (fun K hK=>?_) .nil
      (go_simp;refine hK _ _ ?_;clear hK K)
      refine wpAnyIn_done (by kernel_rfl) ?_ _;exact HF.out
     refine .cons rfl (fun K hK=>?_) .nil
     (go_simp;refine hK _ _ ?_;clear hK K)
     refine wpAnyIn_ready (rs:=[3]) (by kernel_rfl) (by simp) ?_;refine .cons rfl (fun K hK=>?_) .nil
     (go_simp;refine ⟨trivial,?_⟩;gi_at_call 153;refine (CallsIn.inRound l (callsIn_wide.2 (Zaf _ _ _ _ _))).mono ?_;rintro e w8 ⟨rfl,rfl⟩;refine hK _ _ ?_;clear hK K)
     refine wpAnyIn_ready (rs:=[5]) (by kernel_rfl) (by simp) ?_;refine .cons rfl (fun K hK=>?_) .nil
     (go_simp;refine hK _ _ ?_;clear hK K)
     refine wpAnyIn_done (by kernel_rfl) ?_ _;exact HF.out
    refine .cons rfl (fun K hK=>?_) .nil
    (go_simp;refine hK _ _ ?_;clear hK K)
    refine wpAnyIn_ready (rs:=[1]) (by kernel_rfl) (by simp) ?_;refine .cons rfl (fun K hK=>?_) .nil
    (go_simp;refine hK _ _ ?_;clear hK K)
    refine wpAnyIn_ready (rs:=[3]) (by kernel_rfl) (by simp) ?_;refine .cons rfl (fun K hK=>?_) .nil
    (go_simp;refine ⟨trivial,?_⟩;gi_at_call 153;refine (CallsIn.inRound l (callsIn_wide.2 (Zaf _ _ _ _ _))).mono ?_;rintro e w8 ⟨rfl,rfl⟩;refine hK _ _ ?_;clear hK K)
    refine wpAnyIn_ready (rs:=[5]) (by kernel_rfl) (by simp) ?_;refine .cons rfl (fun K hK=>?_) .nil
    (go_simp;refine hK _ _ ?_;clear hK K)
    refine wpAnyIn_done (by kernel_rfl) ?_ _;exact HF.out
   refine .cons rfl (fun K hK=>?_) .nil
   (go_simp;refine hK _ _ ?_;clear hK K)
   refine wpAnyIn_ready (rs:=[1,2]) (by kernel_rfl) (by simp) ?_;refine AllReadyIn.cons rfl (fun K hK=>?_) ?_
   ·(go_simp;refine hK _ _ ?_;clear hK K)
    refine wpAnyIn_ready (rs:=[2]) (by kernel_rfl) (by simp) ?_;refine .cons rfl (fun K hK=>?_) .nil
    (go_simp;refine hK _ _ ?_;clear hK K)
    refine wpAnyIn_ready (rs:=[3]) (by kernel_rfl) (by simp) ?_;refine .cons rfl (fun K hK=>?_) .nil
    (go_simp;refine ⟨trivial,?_⟩;gi_at_call 153;refine (CallsIn.inRound l (callsIn_wide.2 (Zaf _ _ _ _ _))).mono ?_;rintro e w8 ⟨rfl,rfl⟩;refine hK _ _ ?_;clear hK K)
    refine wpAnyIn_ready (rs:=[5]) (by kernel_rfl) (by simp) ?_;refine .cons rfl (fun K hK=>?_) .nil
    (go_simp;refine hK _ _ ?_;clear hK K)
    refine wpAnyIn_done (by kernel_rfl) ?_ _;exact HF.out
   refine .cons rfl (fun K hK=>?_) .nil
   (go_simp;refine hK _ _ ?_;clear hK K)
   refine wpAnyIn_ready (rs:=[1]) (by kernel_rfl) (by simp) ?_;refine .cons rfl (fun K hK=>?_) .nil
   (go_simp;refine hK _ _ ?_;clear hK K)
   refine wpAnyIn_ready (rs:=[3]) (by kernel_rfl) (by simp) ?_;refine .cons rfl (fun K hK=>?_) .nil
   (go_simp;refine ⟨trivial,?_⟩;gi_at_call 153;refine (CallsIn.inRound l (callsIn_wide.2 (Zaf _ _ _ _ _))).mono ?_;rintro e w8 ⟨rfl,rfl⟩;refine hK _ _ ?_;clear hK K)
   refine wpAnyIn_ready (rs:=[5]) (by kernel_rfl) (by simp) ?_;refine .cons rfl (fun K hK=>?_) .nil
   (go_simp;refine hK _ _ ?_;clear hK K)
   refine wpAnyIn_done (by kernel_rfl) ?_ _;exact HF.out
  refine AllReadyIn.cons rfl (fun K hK=>?_) ?_
  ·(go_simp;refine hK _ _ ?_;clear hK K)
   refine wpAnyIn_ready (rs:=[0,2,4]) (by kernel_rfl) (by simp) ?_;refine AllReadyIn.cons rfl (fun K hK=>?_) ?_
   ·(go_simp;refine hK _ _ ?_;clear hK K)
    refine wpAnyIn_ready (rs:=[2,4]) (by kernel_rfl) (by simp) ?_;refine AllReadyIn.cons rfl (fun K hK=>?_) ?_
    ·(go_simp;refine hK _ _ ?_;clear hK K)
     refine wpAnyIn_ready (rs:=[3,4]) (by kernel_rfl) (by simp) ?_;refine AllReadyIn.cons rfl (fun K hK=>?_) ?_
     ·(go_simp;refine ⟨trivial,?_⟩;gi_at_call 153;refine (CallsIn.inRound l (callsIn_wide.2 (Zaf _ _ _ _ _))).mono ?_;rintro e w8 ⟨rfl,rfl⟩;refine hK _ _ ?_;clear hK K)
      refine wpAnyIn_ready (rs:=[4]) (by kernel_rfl) (by simp) ?_;refine .cons rfl (fun K hK=>?_) .nil
      (go_simp;refine hK _ _ ?_;clear hK K)
      refine wpAnyIn_ready (rs:=[5]) (by kernel_rfl) (by simp) ?_;refine .cons rfl (fun K hK=>?_) .nil
      (go_simp;refine hK _ _ ?_;clear hK K)
      refine wpAnyIn_done (by kernel_rfl) ?_ _;exact HF.out
     refine .cons rfl (fun K hK=>?_) .nil
     (go_simp;refine hK _ _ ?_;clear hK K)
     refine wpAnyIn_ready (rs:=[3]) (by kernel_rfl) (by simp) ?_;refine .cons rfl (fun K hK=>?_) .nil
     (go_simp;refine ⟨trivial,?_⟩;gi_at_call 153;refine (CallsIn.inRound l (callsIn_wide.2 (Zaf _ _ _ _ _))).mono ?_;rintro e w8 ⟨rfl,rfl⟩;refine hK _ _ ?_;clear hK K)
     refine wpAnyIn_ready (rs:=[5]) (by kernel_rfl) (by simp) ?_;refine .cons rfl (fun K hK=>?_) .nil
     (go_simp;refine hK _ _ ?_;clear hK K)
     refine wpAnyIn_done (by kernel_rfl) ?_ _;exact HF.out
    refine .cons rfl (fun K hK=>?_) .nil
    (go_simp;refine hK _ _ ?_;clear hK K)
    refine wpAnyIn_ready (rs:=[2]) (by kernel_rfl) (by simp) ?_;refine .cons rfl (fun K hK=>?_) .nil
    (go_simp;refine hK _ _ ?_;clear hK K)
    refine wpAnyIn_ready (rs:=[3]) (by kernel_rfl) (by simp) ?_;refine .cons rfl (fun K hK=>?_) .nil
    (go_simp;refine ⟨trivial,?_⟩;gi_at_call 153;refine (CallsIn.inRound l (callsIn_wide.2 (Zaf _ _ _ _ _))).mono ?_;rintro e w8 ⟨rfl,rfl⟩;refine hK _ _ ?_;clear hK K)
    refine wpAnyIn_ready (rs:=[5]) (by kernel_rfl) (by simp) ?_;refine .cons rfl (fun K hK=>?_) .nil
    (go_simp;refine hK _ _ ?_;clear hK K)
    refine wpAnyIn_done (by kernel_rfl) ?_ _;exact HF.out
   refine AllReadyIn.cons rfl (fun K hK=>?_) ?_
   ·(go_simp;refine hK _ _ ?_;clear hK K)
    refine wpAnyIn_ready (rs:=[0,3,4]) (by kernel_rfl) (by simp) ?_;refine AllReadyIn.cons rfl (fun K hK=>?_) ?_
    ·(go_simp;refine hK _ _ ?_;clear hK K)
     refine wpAnyIn_ready (rs:=[3,4]) (by kernel_rfl) (by simp) ?_;refine AllReadyIn.cons rfl (fun K hK=>?_) ?_
     ·(go_simp;refine ⟨trivial,?_⟩;gi_at_call 153;refine (CallsIn.inRound l (callsIn_wide.2 (Zaf _ _ _ _ _))).mono ?_;rintro e w8 ⟨rfl,rfl⟩;refine hK _ _ ?_;clear hK K)
      refine wpAnyIn_ready (rs:=[4]) (by kernel_rfl) (by simp) ?_;refine .cons rfl (fun K hK=>?_) .nil
      (go_simp;refine hK _ _ ?_;clear hK K)
      refine wpAnyIn_ready (rs:=[5]) (by kernel_rfl) (by simp) ?_;refine .cons rfl (fun K hK=>?_) .nil
      (go_simp;refine hK _ _ ?_;clear hK K)
      refine wpAnyIn_done (by kernel_rfl) ?_ _;exact HF.out
     refine .cons rfl (fun K hK=>?_) .nil
     (go_simp;refine hK _ _ ?_;clear hK K)
     refine wpAnyIn_ready (rs:=[3]) (by kernel_rfl) (by simp) ?_;refine .cons rfl (fun K hK=>?_) .nil
     (go_simp;refine ⟨trivial,?_⟩;gi_at_call 153;refine (CallsIn.inRound l (callsIn_wide.2 (Zaf _ _ _ _ _))).mono ?_;rintro e w8 ⟨rfl,rfl⟩;refine hK _ _ ?_;clear hK K)
     refine wpAnyIn_ready (rs:=[5]) (by kernel_rfl) (by simp) ?_;refine .cons rfl (fun K hK=>?_) .nil
     (go_simp;refine hK _ _ ?_;clear hK K)
     refine wpAnyIn_done (by kernel_rfl) ?_ _;exact HF.out
    refine AllReadyIn.cons rfl (fun K hK=>?_) ?_
    ·(go_simp;refine ⟨trivial,?_⟩;gi_at_call 153;refine (CallsIn.inRound l (callsIn_wide.2 (Zaf _ _ _ _ _))).mono ?_;rintro e w8 ⟨rfl,rfl⟩;refine hK _ _ ?_;clear hK K)
     refine wpAnyIn_ready (rs:=[0,4]) (by kernel_rfl) (by simp) ?_;refine AllReadyIn.cons rfl (fun K hK=>?_) ?_
     ·(go_simp;refine hK _ _ ?_;clear hK K)
      refine wpAnyIn_ready (rs:=[4]) (by kernel_rfl) (by simp) ?_;refine .cons rfl (fun K hK=>?_) .nil
      (go_simp;refine hK _ _ ?_;clear hK K)
      refine wpAnyIn_ready (rs:=[5]) (by kernel_rfl) (by simp) ?_;refine .cons rfl (fun K hK=>?_) .nil
      (go_simp;refine hK _ _ ?_;clear hK K)
      refine wpAnyIn_done (by kernel_rfl) ?_ _;exact HF.out
     refine .cons rfl (fun K hK=>?_) .nil
     (go_simp;refine hK _ _ ?_;clear hK K)
     refine wpAnyIn_ready (rs:=[0]) (by kernel_rfl) (by simp) ?_;refine .cons rfl (fun K hK=>?_) .nil
     (go_simp;refine hK _ _ ?_;clear hK K)
     refine wpAnyIn_ready (rs:=[5]) (by kernel_rfl) (by simp) ?_;refine .cons rfl (fun K hK=>?_) .nil
     (go_simp;refine hK _ _ ?_;clear hK K)
     refine wpAnyIn_done (by kernel_rfl) ?_ _;exact HF.out
    refine .cons rfl (fun K hK=>?_) .nil
    (go_simp;refine hK _ _ ?_;clear hK K)
    refine wpAnyIn_ready (rs:=[0,3]) (by kernel_rfl) (by simp) ?_;refine AllReadyIn.cons rfl (fun K hK=>?_) ?_
    ·(go_simp;refine hK _ _ ?_;clear hK K)
     refine wpAnyIn_ready (rs:=[3]) (by kernel_rfl) (by simp) ?_;refine .cons rfl (fun K hK=>?_) .nil
     (go_simp;refine ⟨trivial,?_⟩;gi_at_call 153;refine (CallsIn.inRound l (callsIn_wide.2 (Zaf _ _ _ _ _))).mono ?_;rintro e w8 ⟨rfl,rfl⟩;refine hK _ _ ?_;clear hK K)
     refine wpAnyIn_ready (rs:=[5]) (by kernel_rfl) (by simp) ?_;refine .cons rfl (fun K hK=>?_) .nil
     (go_simp;refine hK _ _ ?_;clear hK K)
     refine wpAnyIn_done (by kernel_rfl) ?_ _;exact HF.out
    refine .cons rfl (fun K hK=>?_) .nil
    (go_simp;refine ⟨trivial,?_⟩;gi_at_call 153;refine (CallsIn.inRound l (callsIn_wide.2 (Zaf _ _ _ _ _))).mono ?_;rintro e w8 ⟨rfl,rfl⟩;refine hK _ _ ?_;clear hK K)
    refine wpAnyIn_ready (rs:=[0]) (by kernel_rfl) (by simp) ?_;refine .cons rfl (fun K hK=>?_) .nil
    (go_simp;refine hK _ _ ?_;clear hK K)
    refine wpAnyIn_ready (rs:=[5]) (by kernel_rfl) (by simp) ?_;refine .cons rfl (fun K hK=>?_) .nil
    (go_simp;refine hK _ _ ?_;clear hK K)
    refine wpAnyIn_done (by kernel_rfl) ?_ _;exact HF.out
   refine .cons rfl (fun K hK=>?_) .nil
   (go_simp;refine hK _ _ ?_;clear hK K)
   refine wpAnyIn_ready (rs:=[0,2]) (by kernel_rfl) (by simp) ?_;refine AllReadyIn.cons rfl (fun K hK=>?_) ?_
   ·(go_simp;refine hK _ _ ?_;clear hK K)
    refine wpAnyIn_ready (rs:=[2]) (by kernel_rfl) (by simp) ?_;refine .cons rfl (fun K hK=>?_) .nil
    (go_simp;refine hK _ _ ?_;clear hK K)
    refine wpAnyIn_ready (rs:=[3]) (by kernel_rfl) (by simp) ?_;refine .cons rfl (fun K hK=>?_) .nil
    (go_simp;refine ⟨trivial,?_⟩;gi_at_call 153;refine (CallsIn.inRound l (callsIn_wide.2 (Zaf _ _ _ _ _))).mono ?_;rintro e w8 ⟨rfl,rfl⟩;refine hK _ _ ?_;clear hK K)
    refine wpAnyIn_ready (rs:=[5]) (by kernel_rfl) (by simp) ?_;refine .cons rfl (fun K hK=>?_) .nil
    (go_simp;refine hK _ _ ?_;clear hK K)
    refine wpAnyIn_done (by kernel_rfl) ?_ _;exact HF.out
   refine .cons rfl (fun K hK=>?_) .nil
   (go_simp;refine hK _ _ ?_;clear hK K)
   refine wpAnyIn_ready (rs:=[0,3]) (by kernel_rfl) (by simp) ?_;refine AllReadyIn.cons rfl (fun K hK=>?_) ?_
   ·(go_simp;refine hK _ _ ?_;clear hK K)
    refine wpAnyIn_ready (rs:=[3]) (by kernel_rfl) (by simp) ?_;refine .cons rfl (fun K hK=>?_) .nil
    (go_simp;refine ⟨trivial,?_⟩;gi_at_call 153;refine (CallsIn.inRound l (callsIn_wide.2 (Zaf _ _ _ _ _))).mono ?_;rintro e w8 ⟨rfl,rfl⟩;refine hK _ _ ?_;clear hK K)
    refine wpAnyIn_ready (rs:=[5]) (by kernel_rfl) (by simp) ?_;refine .cons rfl (fun K hK=>?_) .nil
    (go_simp;refine hK _ _ ?_;clear hK K)
    refine wpAnyIn_done (by kernel_rfl) ?_ _;exact HF.out
   refine .cons rfl (fun K hK=>?_) .nil
   (go_simp;refine ⟨trivial,?_⟩;gi_at_call 153;refine (CallsIn.inRound l (callsIn_wide.2 (Zaf _ _ _ _ _))).mono ?_;rintro e w8 ⟨rfl,rfl⟩;refine hK _ _ ?_;clear hK K)
   refine wpAnyIn_ready (rs:=[0]) (by kernel_rfl) (by simp) ?_;refine .cons rfl (fun K hK=>?_) .nil
   (go_simp;refine hK _ _ ?_;clear hK K)
   refine wpAnyIn_ready (rs:=[5]) (by kernel_rfl) (by simp) ?_;refine .cons rfl (fun K hK=>?_) .nil
   (go_simp;refine hK _ _ ?_;clear hK K)
   refine wpAnyIn_done (by kernel_rfl) ?_ _;exact HF.out
  refine AllReadyIn.cons rfl (fun K hK=>?_) ?_
  ·(go_simp;refine hK _ _ ?_;clear hK K)
   refine wpAnyIn_ready (rs:=[0,1,4]) (by kernel_rfl) (by simp) ?_;refine AllReadyIn.cons rfl (fun K hK=>?_) ?_
   ·(go_simp;refine hK _ _ ?_;clear hK K)
    refine wpAnyIn_ready (rs:=[1,4]) (by kernel_rfl) (by simp) ?_;refine AllReadyIn.cons rfl (fun K hK=>?_) ?_
    ·(go_simp;refine hK _ _ ?_;clear hK K)
     refine wpAnyIn_ready (rs:=[3,4]) (by kernel_rfl) (by simp) ?_;refine AllReadyIn.cons rfl (fun K hK=>?_) ?_
     ·(go_simp;refine ⟨trivial,?_⟩;gi_at_call 153;refine (CallsIn.inRound l (callsIn_wide.2 (Zaf _ _ _ _ _))).mono ?_;rintro e w8 ⟨rfl,rfl⟩;refine hK _ _ ?_;clear hK K)
      refine wpAnyIn_ready (rs:=[4]) (by kernel_rfl) (by simp) ?_;refine .cons rfl (fun K hK=>?_) .nil
      (go_simp;refine hK _ _ ?_;clear hK K)
      refine wpAnyIn_ready (rs:=[5]) (by kernel_rfl) (by simp) ?_;refine .cons rfl (fun K hK=>?_) .nil
      (go_simp;refine hK _ _ ?_;clear hK K)
      refine wpAnyIn_done (by kernel_rfl) ?_ _;exact HF.out
     refine .cons rfl (fun K hK=>?_) .nil
     (go_simp;refine hK _ _ ?_;clear hK K)
     refine wpAnyIn_ready (rs:=[3]) (by kernel_rfl) (by simp) ?_;refine .cons rfl (fun K hK=>?_) .nil
     (go_simp;refine ⟨trivial,?_⟩;gi_at_call 153;refine (CallsIn.inRound l (callsIn_wide.2 (Zaf _ _ _ _ _))).mono ?_;rintro e w8 ⟨rfl,rfl⟩;refine hK _ _ ?_;clear hK K)
     refine wpAnyIn_ready (rs:=[5]) (by kernel_rfl) (by simp) ?_;refine .cons rfl (fun K hK=>?_) .nil
     (go_simp;refine hK _ _ ?_;clear hK K)
     refine wpAnyIn_done (by kernel_rfl) ?_ _;exact HF.out
    refine .cons rfl (fun K hK=>?_) .nil
    (go_simp;refine hK _ _ ?_;clear hK K)
    refine wpAnyIn_ready (rs:=[1]) (by kernel_rfl) (by simp) ?_;refine .cons rfl (fun K hK=>?_) .nil
    (go_simp;refine hK _ _ ?_;clear hK K)
    refine wpAnyIn_ready (rs:=[3]) (by kernel_rfl) (by simp) ?_;refine .cons rfl (fun K hK=>?_) .nil
    (go_simp;refine ⟨trivial,?_⟩;gi_at_call 153;refine (CallsIn.inRound l (callsIn_wide.2 (Zaf _ _ _ _ _))).mono ?_;rintro e w8 ⟨rfl,rfl⟩;refine hK _ _ ?_;clear hK K)
    refine wpAnyIn_ready (rs:=[5]) (by kernel_rfl) (by simp) ?_;refine .cons rfl (fun K hK=>?_) .nil
    (go_simp;refine hK _ _ ?_;clear hK K)
    refine wpAnyIn_done (by kernel_rfl) ?_ _;exact HF.out
   refine AllReadyIn.cons rfl (fun K hK=>?_) ?_
   ·(go_simp;refine hK _ _ ?_;clear hK K)
    refine wpAnyIn_ready (rs:=[0,3,4]) (by kernel_rfl) (by simp) ?_;refine AllReadyIn.cons rfl (fun K hK=>?_) ?_
    ·(go_simp;refine hK _ _ ?_;clear hK K)
     refine wpAnyIn_ready (rs:=[3,4]) (by kernel_rfl) (by simp) ?_;refine AllReadyIn.cons rfl (fun K hK=>?_) ?_
     ·(go_simp;refine ⟨trivial,?_⟩;gi_at_call 153;refine (CallsIn.inRound l (callsIn_wide.2 (Zaf _ _ _ _ _))).mono ?_;rintro e w8 ⟨rfl,rfl⟩;refine hK _ _ ?_;clear hK K)
      refine wpAnyIn_ready (rs:=[4]) (by kernel_rfl) (by simp) ?_;refine .cons rfl (fun K hK=>?_) .nil
      (go_simp;refine hK _ _ ?_;clear hK K)
      refine wpAnyIn_ready (rs:=[5]) (by kernel_rfl) (by simp) ?_;refine .cons rfl (fun K hK=>?_) .nil
      (go_simp;refine hK _ _ ?_;clear hK K)
      refine wpAnyIn_done (by kernel_rfl) ?_ _;exact HF.out
     refine .cons rfl (fun K hK=>?_) .nil
     (go_simp;refine hK _ _ ?_;clear hK K)
     refine wpAnyIn_ready (rs:=[3]) (by kernel_rfl) (by simp) ?_;refine .cons rfl (fun K hK=>?_) .nil
     (go_simp;refine ⟨trivial,?_⟩;gi_at_call 153;refine (CallsIn.inRound l (callsIn_wide.2 (Zaf _ _ _ _ _))).mono ?_;rintro e w8 ⟨rfl,rfl⟩;refine hK _ _ ?_;clear hK K)
     refine wpAnyIn_ready (rs:=[5]) (by kernel_rfl) (by simp) ?_;refine .cons rfl (fun K hK=>?_) .nil
     (go_simp;refine hK _ _ ?_;clear hK K)
     refine wpAnyIn_done (by kernel_rfl) ?_ _;exact HF.out
    refine AllReadyIn.cons rfl (fun K hK=>?_) ?_
    ·(go_simp;refine ⟨trivial,?_⟩;gi_at_call 153;refine (CallsIn.inRound l (callsIn_wide.2 (Zaf _ _ _ _ _))).mono ?_;rintro e w8 ⟨rfl,rfl⟩;refine hK _ _ ?_;clear hK K)
     refine wpAnyIn_ready (rs:=[0,4]) (by kernel_rfl) (by simp) ?_;refine AllReadyIn.cons rfl (fun K hK=>?_) ?_
     ·(go_simp;refine hK _ _ ?_;clear hK K)
      refine wpAnyIn_ready (rs:=[4]) (by kernel_rfl) (by simp) ?_;refine .cons rfl (fun K hK=>?_) .nil
      (go_simp;refine hK _ _ ?_;clear hK K)
      refine wpAnyIn_ready (rs:=[5]) (by kernel_rfl) (by simp) ?_;refine .cons rfl (fun K hK=>?_) .nil
      (go_simp;refine hK _ _ ?_;clear hK K)
      refine wpAnyIn_done (by kernel_rfl) ?_ _;exact HF.out
     refine .cons rfl (fun K hK=>?_) .nil
     (go_simp;refine hK _ _ ?_;clear hK K)
     refine wpAnyIn_ready (rs:=[0]) (by kernel_rfl) (by simp) ?_;refine .cons rfl (fun K hK=>?_) .nil
     (go_simp;refine hK _ _ ?_;clear hK K)
     refine wpAnyIn_ready (rs:=[5]) (by kernel_rfl) (by simp) ?_;refine .cons rfl (fun K hK=>?_) .nil
     (go_simp;refine hK _ _ ?_;clear hK K)
     refine wpAnyIn_done (by kernel_rfl) ?_ _;exact HF.out
    refine .cons rfl (fun K hK=>?_) .nil
    (go_simp;refine hK _ _ ?_;clear hK K)
    refine wpAnyIn_ready (rs:=[0,3]) (by kernel_rfl) (by simp) ?_;refine AllReadyIn.cons rfl (fun K hK=>?_) ?_
    ·(go_simp;refine hK _ _ ?_;clear hK K)
     refine wpAnyIn_ready (rs:=[3]) (by kernel_rfl) (by simp) ?_;refine .cons rfl (fun K hK=>?_) .nil
     (go_simp;refine ⟨trivial,?_⟩;gi_at_call 153;refine (CallsIn.inRound l (callsIn_wide.2 (Zaf _ _ _ _ _))).mono ?_;rintro e w8 ⟨rfl,rfl⟩;refine hK _ _ ?_;clear hK K)
     refine wpAnyIn_ready (rs:=[5]) (by kernel_rfl) (by simp) ?_;refine .cons rfl (fun K hK=>?_) .nil
     (go_simp;refine hK _ _ ?_;clear hK K)
     refine wpAnyIn_done (by kernel_rfl) ?_ _;exact HF.out
    refine .cons rfl (fun K hK=>?_) .nil
    (go_simp;refine ⟨trivial,?_⟩;gi_at_call 153;refine (CallsIn.inRound l (callsIn_wide.2 (Zaf _ _ _ _ _))).mono ?_;rintro e w8 ⟨rfl,rfl⟩;refine hK _ _ ?_;clear hK K)
    refine wpAnyIn_ready (rs:=[0]) (by kernel_rfl) (by simp) ?_;refine .cons rfl (fun K hK=>?_) .nil
    (go_simp;refine hK _ _ ?_;clear hK K)
    refine wpAnyIn_ready (rs:=[5]) (by kernel_rfl) (by simp) ?_;refine .cons rfl (fun K hK=>?_) .nil
    (go_simp;refine hK _ _ ?_;clear hK K)
    refine wpAnyIn_done (by kernel_rfl) ?_ _;exact HF.out
   refine .cons rfl (fun K hK=>?_) .nil
   (go_simp;refine hK _ _ ?_;clear hK K)
   refine wpAnyIn_ready (rs:=[0,1]) (by kernel_rfl) (by simp) ?_;refine AllReadyIn.cons rfl (fun K hK=>?_) ?_
   ·(go_simp;refine hK _ _ ?_;clear hK K)
    refine wpAnyIn_ready (rs:=[1]) (by kernel_rfl) (by simp) ?_;refine .cons rfl (fun K hK=>?_) .nil
    (go_simp;refine hK _ _ ?_;clear hK K)
    refine wpAnyIn_ready (rs:=[3]) (by kernel_rfl) (by simp) ?_;refine .cons rfl (fun K hK=>?_) .nil
    (go_simp;refine ⟨trivial,?_⟩;gi_at_call 153;refine (CallsIn.inRound l (callsIn_wide.2 (Zaf _ _ _ _ _))).mono ?_;rintro e w8 ⟨rfl,rfl⟩;refine hK _ _ ?_;clear hK K)
    refine wpAnyIn_ready (rs:=[5]) (by kernel_rfl) (by simp) ?_;refine .cons rfl (fun K hK=>?_) .nil
    (go_simp;refine hK _ _ ?_;clear hK K)
    refine wpAnyIn_done (by kernel_rfl) ?_ _;exact HF.out
   refine .cons rfl (fun K hK=>?_) .nil
   (go_simp;refine hK _ _ ?_;clear hK K)
   refine wpAnyIn_ready (rs:=[0,3]) (by kernel_rfl) (by simp) ?_;refine AllReadyIn.cons rfl (fun K hK=>?_) ?_
   ·(go_simp;refine hK _ _ ?_;clear hK K)
    refine wpAnyIn_ready (rs:=[3]) (by kernel_rfl) (by simp) ?_;refine .cons rfl (fun K hK=>?_) .nil
    (go_simp;refine ⟨trivial,?_⟩;gi_at_call 153;refine (CallsIn.inRound l (callsIn_wide.2 (Zaf _ _ _ _ _))).mono ?_;rintro e w8 ⟨rfl,rfl⟩;refine hK _ _ ?_;clear hK K)
    refine wpAnyIn_ready (rs:=[5]) (by kernel_rfl) (by simp) ?_;refine .cons rfl (fun K hK=>?_) .nil
    (go_simp;refine hK _ _ ?_;clear hK K)
    refine wpAnyIn_done (by kernel_rfl) ?_ _;exact HF.out
   refine .cons rfl (fun K hK=>?_) .nil
   (go_simp;refine ⟨trivial,?_⟩;gi_at_call 153;refine (CallsIn.inRound l (callsIn_wide.2 (Zaf _ _ _ _ _))).mono ?_;rintro e w8 ⟨rfl,rfl⟩;refine hK _ _ ?_;clear hK K)
   refine wpAnyIn_ready (rs:=[0]) (by kernel_rfl) (by simp) ?_;refine .cons rfl (fun K hK=>?_) .nil
   (go_simp;refine hK _ _ ?_;clear hK K)
   refine wpAnyIn_ready (rs:=[5]) (by kernel_rfl) (by simp) ?_;refine .cons rfl (fun K hK=>?_) .nil
   (go_simp;refine hK _ _ ?_;clear hK K)
   refine wpAnyIn_done (by kernel_rfl) ?_ _;exact HF.out
  refine .cons rfl (fun K hK=>?_) .nil
  (go_simp;refine hK _ _ ?_;clear hK K)
  refine wpAnyIn_ready (rs:=[0,1,2]) (by kernel_rfl) (by simp) ?_;refine AllReadyIn.cons rfl (fun K hK=>?_) ?_
  ·(go_simp;refine hK _ _ ?_;clear hK K)
   refine wpAnyIn_ready (rs:=[1,2]) (by kernel_rfl) (by simp) ?_;refine AllReadyIn.cons rfl (fun K hK=>?_) ?_
   ·(go_simp;refine hK _ _ ?_;clear hK K)
    refine wpAnyIn_ready (rs:=[2]) (by kernel_rfl) (by simp) ?_;refine .cons rfl (fun K hK=>?_) .nil
    (go_simp;refine hK _ _ ?_;clear hK K)
    refine wpAnyIn_ready (rs:=[3]) (by kernel_rfl) (by simp) ?_;refine .cons rfl (fun K hK=>?_) .nil
    (go_simp;refine ⟨trivial,?_⟩;gi_at_call 153;refine (CallsIn.inRound l (callsIn_wide.2 (Zaf _ _ _ _ _))).mono ?_;rintro e w8 ⟨rfl,rfl⟩;refine hK _ _ ?_;clear hK K)
    refine wpAnyIn_ready (rs:=[5]) (by kernel_rfl) (by simp) ?_;refine .cons rfl (fun K hK=>?_) .nil
    (go_simp;refine hK _ _ ?_;clear hK K)
    refine wpAnyIn_done (by kernel_rfl) ?_ _;exact HF.out
   refine .cons rfl (fun K hK=>?_) .nil
   (go_simp;refine hK _ _ ?_;clear hK K)
   refine wpAnyIn_ready (rs:=[1]) (by kernel_rfl) (by simp) ?_;refine .cons rfl (fun K hK=>?_) .nil
   (go_simp;refine hK _ _ ?_;clear hK K)
   refine wpAnyIn_ready (rs:=[3]) (by kernel_rfl) (by simp) ?_;refine .cons rfl (fun K hK=>?_) .nil
   (go_simp;refine ⟨trivial,?_⟩;gi_at_call 153;refine (CallsIn.inRound l (callsIn_wide.2 (Zaf _ _ _ _ _))).mono ?_;rintro e w8 ⟨rfl,rfl⟩;refine hK _ _ ?_;clear hK K)
   refine wpAnyIn_ready (rs:=[5]) (by kernel_rfl) (by simp) ?_;refine .cons rfl (fun K hK=>?_) .nil
   (go_simp;refine hK _ _ ?_;clear hK K)
   refine wpAnyIn_done (by kernel_rfl) ?_ _;exact HF.out
  refine AllReadyIn.cons rfl (fun K hK=>?_) ?_
  ·(go_simp;refine hK _ _ ?_;clear hK K)
   refine wpAnyIn_ready (rs:=[0,2]) (by kernel_rfl) (by simp) ?_;refine AllReadyIn.cons rfl (fun K hK=>?_) ?_
   ·(go_simp;refine hK _ _ ?_;clear hK K)
    refine wpAnyIn_ready (rs:=[2]) (by kernel_rfl) (by simp) ?_;refine .cons rfl (fun K hK=>?_) .nil
    (go_simp;refine hK _ _ ?_;clear hK K)
    refine wpAnyIn_ready (rs:=[3]) (by kernel_rfl) (by simp) ?_;refine .cons rfl (fun K hK=>?_) .nil
    (go_simp;refine ⟨trivial,?_⟩;gi_at_call 153;refine (CallsIn.inRound l (callsIn_wide.2 (Zaf _ _ _ _ _))).mono ?_;rintro e w8 ⟨rfl,rfl⟩;refine hK _ _ ?_;clear hK K)
    refine wpAnyIn_ready (rs:=[5]) (by kernel_rfl) (by simp) ?_;refine .cons rfl (fun K hK=>?_) .nil
    (go_simp;refine hK _ _ ?_;clear hK K)
    refine wpAnyIn_done (by kernel_rfl) ?_ _;exact HF.out
   refine .cons rfl (fun K hK=>?_) .nil
   (go_simp;refine hK _ _ ?_;clear hK K)
   refine wpAnyIn_ready (rs:=[0,3]) (by kernel_rfl) (by simp) ?_;refine AllReadyIn.cons rfl (fun K hK=>?_) ?_
   ·(go_simp;refine hK _ _ ?_;clear hK K)
    refine wpAnyIn_ready (rs:=[3]) (by kernel_rfl) (by simp) ?_;refine .cons rfl (fun K hK=>?_) .nil
    (go_simp;refine ⟨trivial,?_⟩;gi_at_call 153;refine (CallsIn.inRound l (callsIn_wide.2 (Zaf _ _ _ _ _))).mono ?_;rintro e w8 ⟨rfl,rfl⟩;refine hK _ _ ?_;clear hK K)
    refine wpAnyIn_ready (rs:=[5]) (by kernel_rfl) (by simp) ?_;refine .cons rfl (fun K hK=>?_) .nil
    (go_simp;refine hK _ _ ?_;clear hK K)
    refine wpAnyIn_done (by kernel_rfl) ?_ _;exact HF.out
   refine .cons rfl (fun K hK=>?_) .nil
   (go_simp;refine ⟨trivial,?_⟩;gi_at_call 153;refine (CallsIn.inRound l (callsIn_wide.2 (Zaf _ _ _ _ _))).mono ?_;rintro e w8 ⟨rfl,rfl⟩;refine hK _ _ ?_;clear hK K)
   refine wpAnyIn_ready (rs:=[0]) (by kernel_rfl) (by simp) ?_;refine .cons rfl (fun K hK=>?_) .nil
   (go_simp;refine hK _ _ ?_;clear hK K)
   refine wpAnyIn_ready (rs:=[5]) (by kernel_rfl) (by simp) ?_;refine .cons rfl (fun K hK=>?_) .nil
   (go_simp;refine hK _ _ ?_;clear hK K)
   refine wpAnyIn_done (by kernel_rfl) ?_ _;exact HF.out
  refine .cons rfl (fun K hK=>?_) .nil
  (go_simp;refine hK _ _ ?_;clear hK K)
  refine wpAnyIn_ready (rs:=[0,1]) (by kernel_rfl) (by simp) ?_;refine AllReadyIn.cons rfl (fun K hK=>?_) ?_
  ·(go_simp;refine hK _ _ ?_;clear hK K)
   refine wpAnyIn_ready (rs:=[1]) (by kernel_rfl) (by simp) ?_;refine .cons rfl (fun K hK=>?_) .nil
   (go_simp;refine hK _ _ ?_;clear hK K)
   refine wpAnyIn_ready (rs:=[3]) (by kernel_rfl) (by simp) ?_;refine .cons rfl (fun K hK=>?_) .nil
   (go_simp;refine ⟨trivial,?_⟩;gi_at_call 153;refine (CallsIn.inRound l (callsIn_wide.2 (Zaf _ _ _ _ _))).mono ?_;rintro e w8 ⟨rfl,rfl⟩;refine hK _ _ ?_;clear hK K)
   refine wpAnyIn_ready (rs:=[5]) (by kernel_rfl) (by simp) ?_;refine .cons rfl (fun K hK=>?_) .nil
   (go_simp;refine hK _ _ ?_;clear hK K)
   refine wpAnyIn_done (by kernel_rfl) ?_ _;exact HF.out
  refine .cons rfl (fun K hK=>?_) .nil
  (go_simp;refine hK _ _ ?_;clear hK K)
  refine wpAnyIn_ready (rs:=[0,3]) (by kernel_rfl) (by simp) ?_;refine AllReadyIn.cons rfl (fun K hK=>?_) ?_
  ·(go_simp;refine hK _ _ ?_;clear hK K)
   refine wpAnyIn_ready (rs:=[3]) (by kernel_rfl) (by simp) ?_;refine .cons rfl (fun K hK=>?_) .nil
   (go_simp;refine ⟨trivial,?_⟩;gi_at_call 153;refine (CallsIn.inRound l (callsIn_wide.2 (Zaf _ _ _ _ _))).mono ?_;rintro e w8 ⟨rfl,rfl⟩;refine hK _ _ ?_;clear hK K)
   refine wpAnyIn_ready (rs:=[5]) (by kernel_rfl) (by simp) ?_;refine .cons rfl (fun K hK=>?_) .nil
   (go_simp;refine hK _ _ ?_;clear hK K)
   refine wpAnyIn_done (by kernel_rfl) ?_ _;exact HF.out
  refine .cons rfl (fun K hK=>?_) .nil
  (go_simp;refine ⟨trivial,?_⟩;gi_at_call 153;refine (CallsIn.inRound l (callsIn_wide.2 (Zaf _ _ _ _ _))).mono ?_;rintro e w8 ⟨rfl,rfl⟩;refine hK _ _ ?_;clear hK K)
  refine wpAnyIn_ready (rs:=[0]) (by kernel_rfl) (by simp) ?_;refine .cons rfl (fun K hK=>?_) .nil
  (go_simp;refine hK _ _ ?_;clear hK K)
  refine wpAnyIn_ready (rs:=[5]) (by kernel_rfl) (by simp) ?_;refine .cons rfl (fun K hK=>?_) .nil
  (go_simp;refine hK _ _ ?_;clear hK K)
  refine wpAnyIn_done (by kernel_rfl) ?_ _;exact HF.out
 case done=>
  rintro F W ⟨rfl,⟨j,hj,h1⟩,h2,h3,h4⟩ hK;have hj0:j=0:=by have:=HNL.out;have:=HM.out;omega
  subst hj0;have y0:=h2.cell;have H1:=hQ h1;have H4:=hQ h4;have HD:=hQ hK;clear h1 h2 h3 h4 hK hmm
  gi_wp2
  refine ⟨by simp,.inl ⟨_,_,rfl,run_takeDeferred HD.out,?_⟩⟩;refine ⟨.map (some (H+1)),?_,H+1,M,rfl,H1.out.at (World.putObj_heap_other (by omega)),H4.out.trans (Zbr _ (by omega))⟩;simp [results,Tryz.f152,go_sem]
 case stop=>
  rintro W hf;exact hf.elim
end Go.Proofs.YtlcedleebbgebaaGreatDoor
