/-
  Merged by program: NonE, WitEI, MadE.
-/
import Derived.Test.YtlcedleebbgebaaGreatDoorQ46
import Derived.Test.YtlcedleebbgebaaGreatDoorQ45
set_option maxRecDepth 100000
set_option maxHeartbeats 4000000
set_option linter.all false
namespace Go.Proofs.YtlcedleebbgebaaGreatDoor
open Go.RowKit Go.Shelf
def Zabz (c0 c1 c2 c3 c4 c5 c6 c7:Value)(w:World)(e:Ending)(w':World):Prop:=
 e=.returned (.func (.func 140) #[] #[.pointer (some ⟨w.heap.size,0,none⟩),.pointer (some ⟨w.heap.size+1,0,none⟩)])/\w'=(w.alloc (.cells #[c0,c1,c2,c3,c4,c5,c6,c7] 49)).alloc (.cells #[.func (.func 107) #[] #[]] 142)
theorem Zuc (c0 c1 c2 c3 c4 c5 c6 c7:Value)(w:World):Calls Tryz.prog 106 #[.agg #[c0,c1,c2,c3,c4,c5,c6,c7],.func (.func 107) #[] #[]] w (Zabz c0 c1 c2 c3 c4 c5 c6 c7 w):=by
 have hR:Hid (Zabz c0 c1 c2 c3 c4 c5 c6 c7 w (.returned (.func (.func 140) #[] #[.pointer (some ⟨w.heap.size,0,none⟩),.pointer (some ⟨w.heap.size+1,0,none⟩)])) ((w.alloc (.cells #[c0,c1,c2,c3,c4,c5,c6,c7] 49)).alloc (.cells #[.func (.func 107) #[] #[]] 142))):=⟨rfl,rfl⟩;go_enter Tryz.func106,Tryz.ntmps106;go_wp2_with fail;go_ret;exact hR.out
def IterE (w0:World)(t:Te)(w:World)(e:Ending)(w':World):Prop:=
 ∃ Bx,e=.returned (.func (.func 140) #[] #[.pointer (some ⟨Bx,0,none⟩),.pointer (some ⟨Bx+1,0,none⟩)])/\Below w.heap.size w w'/\w.heap.size<=Bx/\Bx+1 < w'.heap.size/\
  ∀ (n:Nat) (Keep:Nat->Prop) (W:World),2<=n->(∀ b,b < w0.heap.size->Keep b)->Keep Bx->Keep (Bx+1)->(∀ b,Keep b->b < W.heap.size)->Held Keep w' W->
   Zco Fence.wide n Tryz.prog 140 #[.pointer (some ⟨Bx,0,none⟩),.pointer (some ⟨Bx+1,0,none⟩)] (t.pre 1).length (NRd (RTe w0) t) (fun _=>True) Keep W
theorem Ziu (w0:World)(t:Te)(w:World)(cs:List Value)(h:RTe w0 t cs)(hw0:Below w0.heap.size w0 w)(hs:t.size<=1048577):Calls Tryz.prog 78 #[.agg cs.toArray] w (IterE w0 t w):=by
 obtain ⟨c0,c1,c2,c3,c4,c5,c6,c7,rfl⟩:=h.eight;obtain ⟨W1,hW1⟩:∃ W1,w.alloc (.cells #[c0,c1,c2,c3,c4,c5,c6,c7] 49)=W1:=⟨_,rfl⟩;obtain ⟨H,hH⟩:∃ H,w.heap.size=H:=⟨_,rfl⟩;have hb1:Below w.heap.size w W1:=by rw [<-hW1];exact bQ.alloc nQ _
 have hz1:W1.heap.size=H+1:=by rw [<-hW1,<-hH];simp
 have hbx:Box8 W1 H 49 c0 c1 c2 c3 c4 c5 c6 c7:=by rw [<-hW1,<-hH];exact Box8.new w _ _ _ _ _ _ _ _ _
 have HN:=hQ (Zuc c0 c1 c2 c3 c4 c5 c6 c7 W1);have HR:Hid (∀ w',w'=(W1.alloc (.cells #[c0,c1,c2,c3,c4,c5,c6,c7] 49)).alloc (.cells #[.func (.func 107) #[] #[]] 142)->
   IterE w0 t w (.returned (.func (.func 140) #[] #[.pointer (some ⟨W1.heap.size,0,none⟩),.pointer (some ⟨W1.heap.size+1,0,none⟩)])) w'):=hQ (by
  rintro w' rfl;have hb2:Below W1.heap.size W1 (W1.alloc (.cells #[c0,c1,c2,c3,c4,c5,c6,c7] 49)):=bQ.alloc nQ _;have hb3:Below W1.heap.size W1 ((W1.alloc (.cells #[c0,c1,c2,c3,c4,c5,c6,c7] 49)).alloc (.cells #[.func (.func 107) #[] #[]] 142)):=hb2.alloc hb2.size _;refine ⟨W1.heap.size,rfl,hb1.trans (hb3.mono hb1.size),by omega,by simp,fun n Keep W hn hk0 hkx hky hkW hh=>?_⟩;have y1:=(Box8.new W1 49 c0 c1 c2 c3 c4 c5 c6 c7).alloc (.cells #[.func (.func 107) #[] #[]] 142);have y2:=Boxed.new (W1.alloc (.cells #[c0,c1,c2,c3,c4,c5,c6,c7] 49)) 142 (.func (.func 107) #[] #[]);rw [World.size_alloc] at y2;have hbw:=(hw0.trans ((hb1.trans (hb3.mono hb1.size)).mono hw0.size)).trans (hh.below (Nat.le_trans hw0.size (hb1.trans (hb3.mono hb1.size)).size) hk0);exact Znb w0 t c0 c1 c2 c3 c4 c5 c6 c7 h hs n W1.heap.size hn Keep hk0 hky W hkW hbw ((hh.block _ (by simp only [World.size_alloc];omega) hkx).trans y1) ((hh.block _ (by simp only [World.size_alloc];omega) hky).trans y2))
 have HW1:=hQ hW1;have HZ1:=hQ hz1;have x0:=hbx.c0;have x1:=hbx.c1;have x2:=hbx.c2;have x3:=hbx.c3;have x4:=hbx.c4;have x5:=hbx.c5;have x6:=hbx.c6;have x7:=hbx.c7;clear h hs hW1 hb1 hz1 hbx hw0;go_enter Tryz.func78,Tryz.ntmps78;go_wp2_with fail;rw [HW1.out];go_wp2_with fail;refine HN.out.mono ?_;rintro e w2 ⟨rfl,hw2⟩;have HF:=hQ (HR.out w2 hw2);clear hw2;go_wp2_with fail;go_ret;exact HF.out
theorem IterE.gives {w0:World}{t:Te}{w w':World}{e:Ending}(h:IterE w0 t w e w')(hw0:w0.heap.size<=w.heap.size):∃ lb,e=.returned (.func (.func 140) #[] lb)/\Below w.heap.size w w'/\∀ W,Below w'.heap.size w' W->
  Zco Fence.wide (9 - 1) Tryz.prog 140 lb (t.pre 1).length (NRd (RTe w0) t) (fun _=>True) (fun b=>b < w'.heap.size) W:=by
 obtain ⟨Bx,rfl,hb,h1,h2,h3⟩:=h;exact ⟨_,rfl,hb,fun W hW=>h3 _ _ W (by decide) (fun b hb'=>by have:=hb.size;omega) (by omega) (by omega) (fun b hb'=>by have:=hW.size;omega) (Held.of_below hW fun i hi _=>hi)⟩
attribute [local go_sem] Oper.semAt_some
theorem Zrc (gf:Nat)(lb:Array Value)(eg:∀ args w,(callFunc gf args).run Tryz.prog w=.ok (.enter gf args) w)(w:World)(N ms md:Nat)(ds mx:Nat->Nat)(hN:N<=1048577)(hms:ms<=1048576)(h0:mx 0=0)(hmx:∀ k,k < N->mx (k+1)=max (mx k) (ds k))(hmono:∀ k,k<=N->mx k<=mx N)
  (hg:∀ W,Below w.heap.size w W->Zco Fence.wide (9 - 1) Tryz.prog gf lb N (DRd ds) (fun _=>True) (fun b=>b < w.heap.size) W):Calls Tryz.prog 77 #[.func (.func gf) #[] lb,.int .i64 (ms:Int),.int .i64 (md:Int)] w (Truth (withB N ms (mx N) md) w):=by
 obtain ⟨H,hH⟩:∃ H,w.heap.size=H:=⟨_,rfl⟩;obtain ⟨W1,hW1⟩:∃ W1,(((w.alloc (.cells #[.int .i64 (ms:Int)] 3)).alloc (.cells #[.int .i64 (md:Int)] 3)).alloc (.cells #[.bool false] 4)).alloc (.cells #[.int .i64 0] 3)=W1:=⟨_,rfl⟩;have hz1:W1.heap.size=H+4:=by rw [<-hW1,<-hH];simp
 have hb1:Below w.heap.size w W1:=by rw [<-hW1];exact (((bQ.alloc nQ _).alloc (by simp) _).alloc (by simp;omega) _).alloc (by simp;omega) _
 have y0:Boxed W1 H 3 (.int .i64 (ms:Int)):=by rw [<-hW1,<-hH];exact (((Boxed.new w 3 (.int .i64 (ms:Int))).alloc _).alloc _).alloc _
 have y1:Boxed W1 (H+1) 3 (.int .i64 (md:Int)):=by
  rw [<-hW1,<-hH]
  have:=((Boxed.new (w.alloc (.cells #[.int .i64 (ms:Int)] 3)) 3 (.int .i64 (md:Int))).alloc (.cells #[.bool false] 4)).alloc (.cells #[.int .i64 0] 3)
  rw [World.size_alloc] at this;exact this
 have y2:Boxed W1 (H+2) 4 (.bool false):=by
  rw [<-hW1,<-hH]
  have:=(Boxed.new ((w.alloc (.cells #[.int .i64 (ms:Int)] 3)).alloc (.cells #[.int .i64 (md:Int)] 3)) 4 (.bool false)).alloc (.cells #[.int .i64 0] 3)
  rw [World.size_alloc,World.size_alloc] at this;exact this
 have y3:Boxed W1 (H+3) 3 (.int .i64 ((0:Nat):Int)):=by
  rw [<-hW1,<-hH]
  have:=Boxed.new (((w.alloc (.cells #[.int .i64 (ms:Int)] 3)).alloc (.cells #[.int .i64 (md:Int)] 3)).alloc (.cells #[.bool false] 4)) 3 (.int .i64 0)
  rw [World.size_alloc,World.size_alloc,World.size_alloc] at this;exact this
 have hI0:WitI w H ms md N mx 0 (fun q=>q=H+2∨q=H+3) W1:=⟨rfl,y0,y1,y2,y3,hb1,Nat.zero_le _,by rw [h0];exact Nat.zero_le _,Nat.zero_le _⟩;have HG:=hQ hg;have HM:=hQ hmx;have HMO:=hQ hmono;have HI0:=hQ hI0;have HW1:=hQ hW1;have HB1:=hQ hb1;have HZ1:=hQ hz1;have HH:=hQ hH;have HN:=hQ hN;clear hg hI0 hW1 hb1 hz1 hH hmx h0 hmono hN y0 y1 y2 y3;refine (callsIn_wide (n:=9)).1 ?_;refine callsIn_of_wp_marks Tryz.func77 rfl trivial ?_ rfl;simp only [Tryz.ntmps77,List.size_toArray,List.length_cons,List.length_nil,Nat.reduceAdd,Nat.reduceSub,Array.replicate_succ,Array.replicate_zero,List.push_toArray,List.append_toArray,List.nil_append,List.cons_append];have hHz:=HH.out
 gi_wp2
 rw [HW1.out];have hDz:=HZ1.out;refine Zkv (n:=9) (w:=W1) rfl (by decide) (gf:=gf) (lb:=lb) rfl trivial eg (M:=N) (Rd:=DRd ds) (On:=fun _=>True) (Keep:=fun b=>b < w.heap.size) (fun _ _ h=>h.size) (fun b hb=>by omega) (fun W hW hz=>HG.out W (HB1.out.trans (hW.mono HB1.out.size)))
  (WitI w H ms md N mx) (WitX w H (withB N ms (mx N) md)) (fun k F A C hi hh=>hi.keep hh (by omega) (by omega)) (fun k F A hi q hq=>?bnd) (fun A C hx hh=>?keepX) _ HI0.out
  (fun v=>{ tmps:=#[.func (.func gf) #[] lb,.int .i64 (ms:Int),.int .i64 (md:Int),undef,.pointer (some ⟨H,0,none⟩),.pointer (some ⟨H+1,0,none⟩),.pointer (some ⟨H+2,0,none⟩),.pointer (some ⟨H+3,0,none⟩),v.getD 0 undef,.func (.func gf) #[] lb,v.getD 0 undef,v.getD 1 undef,undef,undef,undef,undef,undef,undef,undef,undef,undef,undef],defers:=[] }) ?assign ?body ?done ?stop
 case bnd=>
  obtain ⟨rfl,_,_,h3,h4,_⟩:=hi;have h3:=h3.lt;have h4:=h4.lt
  rcases hq with rfl|rfl
  ·exact ⟨by omega,h3⟩
  ·exact ⟨by omega,h4⟩
 case keepX=>
  exact ⟨(hh.block _ hx.1.lt (by omega)).trans hx.1,hx.2.1.trans (hh.below hx.2.1.size fun i hi=>by omega),hx.2.2⟩
 case assign=>
  rintro l k v W K ⟨u,rfl⟩ hK
  gi_wp2
  simpa using hK
 case body=>
  rintro l k s F W hk ⟨rfl,h1,h2,h3,h4,h5,h6,h7,h8⟩ ⟨u,rfl⟩ _ _ _;have hm:=HM.out k hk;have hNN:=HN.out;have hmo:=HMO.out (k+1) hk;obtain ⟨V',hV'⟩:∃ V',W.setCell ⟨H+3,0,none⟩ (.int .i64 ((k:Int)+1))=V':=⟨_,rfl⟩;have u1:Boxed V' (H+3) 3 (.int .i64 ((k+1:Nat):Int)):=by rw [<-hV',Int.natCast_add];exact h4.set _
  have u2:Boxed V' (H+2) 4 (.bool false):=by rw [<-hV'];exact h3.other (by omega) _
  have u3:Boxed V' H 3 (.int .i64 (ms:Int)):=by rw [<-hV'];exact h1.other (by omega) _
  have u4:Boxed V' (H+1) 3 (.int .i64 (md:Int)):=by rw [<-hV'];exact h2.other (by omega) _
  have hap:Held (fun i=>¬ (i=H+2∨i=H+3)) W V':=by rw [<-hV'];exact Held.set W (fun h=>h (.inr rfl)) _
  have hbv:Below w.heap.size w V':=by rw [<-hV'];exact h5.setCell (p:=⟨H+3,0,none⟩) (by show w.heap.size<=H+3;omega) _
  have HIN:Hid (k+1<=ms->ds k<=md->Zay (fun _=>True) (WitI w H ms md N mx) (WitX w H (withB N ms (mx N) md)) k (fun q=>q=H+2∨q=H+3) W .normal { tmps:=#[],defers:=[] } V'):=hQ (fun g1 g2=>
   ⟨trivial,hap,_,fun b hb=>.inl hb,rfl,u3,u4,u2,u1,hbv,g1,by rw [hm];exact Nat.max_le.2 ⟨h7,g2⟩,hk⟩)
  have HOUT:Hid ((ms < k+1∨md < ds k)->Zay (fun _=>True) (WitI w H ms md N mx) (WitX w H (withB N ms (mx N) md)) k (fun q=>q=H+2∨q=H+3) W .ret { tmps:=#[],defers:=[] } (V'.setCell ⟨H+2,0,none⟩ (.bool false))):=hQ (fun g=>by
   refine ⟨hap.trans (Held.set _ (fun h=>h (.inl rfl)) _),u2.set _,hbv.setCell (p:=⟨H+2,0,none⟩) (by show w.heap.size<=H+2;omega) _,?_⟩;unfold withB
   rcases g with g|g
   ·rw [decide_eq_false (by omega)];rfl
   ·have:md < mx N:=by have:=Nat.le_max_right (mx k) (ds k);omega
    rw [decide_eq_false (p:=mx N<=md) (by omega),Bool.and_false])
  rw [<-hV'] at HIN HOUT;have a1:=h1.cell;have a2:=h2.cell;have a3:=h3.cell;have f3:=h3.frozen;have a4:=h4.cell;have f4:=h4.frozen;generalize ds k=dk at HIN HOUT ⊢;clear h1 h2 h3 h4 h5 h7 h8 u1 u2 u3 u4 hap hbv hV' hm hmo;by_cases g1:(ms:Int) < (k:Int)+1
  ·have HF:=hQ (HOUT.out (.inl (by omega)))
   clear HIN HOUT
   gi_wp2
   exact HF.out
  ·by_cases g2:(md:Int) < (dk:Int)
   ·have HF:=hQ (HOUT.out (.inr (by omega)))
    clear HIN HOUT
    gi_wp2
    exact HF.out
   ·have HF:=hQ (HIN.out (by omega) (by omega))
    clear HIN HOUT
    gi_wp2
    exact HF.out
 case done=>
  rintro F W ⟨rfl,h1,h2,h3,h4,h5,h6,h7,h8⟩ hK;have hTrue:withB N ms (mx N) md=true:=by unfold withB;simp [h6,h7]
  have hc:=h3.cell;have hf:=h3.frozen;have H3:=hQ (h3.set (.bool true));have HB:=hQ h5;have hD:(W.setCell ⟨H+2,0,none⟩ (.bool true)).heap[W1.heap.size]?=some (.deferred (some [])):=(Below.heap_setCell _ _ _ _ (by show W1.heap.size≠H+2;omega)).trans hK;have HD:=hQ hD;have HT2:=hQ hTrue;clear h1 h2 h3 h4 h5 h6 h7 h8 hTrue hD hK
  gi_wp2
  refine ⟨by simp,.inl ⟨_,_,rfl,run_takeDeferred HD.out,?_⟩⟩;have hbx4:Boxed ((W.setCell ⟨H+2,0,none⟩ (.bool true)).putObj W1.heap.size (.deferred none)) (H+2) 4 (.bool true):=(World.putObj_heap_other (by omega)).trans H3.out;have hb4:=hbx4.cell;refine ⟨.bool true,?_,by rw [HT2.out],(HB.out.setCell (p:=⟨H+2,0,none⟩) (by show w.heap.size<=H+2;omega) _).trans (Zbr _ (by omega))⟩;simp [results,Tryz.f77,go_sem,hb4]
 case stop=>
  rintro W ⟨h1,h3,hne⟩ hK;have hbx4:Boxed (W.putObj W1.heap.size (.deferred none)) (H+2) 4 (.bool false):=(World.putObj_heap_other (by omega)).trans h1;have hb4:=hbx4.cell;clear hbx4;have HB:=hQ h3;have HT2:=hQ hne;have HC4:=hQ hb4;clear h1 h3 hne hb4
  gi_wp2
  refine ⟨by simp,.inl ⟨_,_,rfl,run_takeDeferred hK,?_⟩⟩;have hb4:=HC4.out;refine ⟨.bool false,?_,by rw [HT2.out],HB.out.trans (Zbr _ (by omega))⟩;simp [results,Tryz.f77,go_sem,hb4]
attribute [local go_sem] Oper.semAt_some
def AsgM (v:Array Value)(b:Nat)(W:World):Prop:=∃ cs,v.getD 1 undef=.agg cs/\W.heap[b]?=some (.cells cs 49)
theorem AsgM.held {v:Array Value}{b:Nat}{A C:World}(h:AsgM v b A)(hh:Held (fun i=>b<=i) A C):AsgM v b C:=by
 obtain ⟨cs,h1,h2⟩:=h;exact ⟨cs,h1,(hh.block b (Array.getElem?_eq_some_iff.1 h2).1 nQ).trans h2⟩
def MadI (t:Te)(w:World)(H k:Nat)(F:Nat->Prop)(W:World):Prop:=
 F=(fun q=>q=H+1)/\Boxed W (H+1) 4 (.bool false)/\Below w.heap.size w W/\∀ j p,j < k->(t.pre 1)[j]?=some p->nodeE p.2.top p.2.kids.length=true
theorem MadI.keep {t:Te}{w A C:World}{H k D:Nat}{F:Nat->Prop}(h:MadI t w H k F A)(hh:Held (fun i=>i < D∨F i) A C)(hD:w.heap.size<=D):MadI t w H k F C:=by
 obtain ⟨rfl,h1,h2,h3⟩:=h;exact ⟨rfl,(hh.block _ h1.lt (.inr rfl)).trans h1,h2.trans (hh.below h2.size fun i hi=>.inl (by omega)),h3⟩
def MadX (t:Te)(w:World)(H:Nat)(W:World):Prop:=Boxed W (H+1) 4 (.bool false)/\Below w.heap.size w W/\t.formE=false
theorem Zaal (t:Te)(w:World)(cs:List Value)(h:RTe w t cs)(hw:wte t<=1048576)(htab:ArOk w):Calls Tryz.prog 79 #[.agg cs.toArray] w (Truth t.formE w):=by
 have hs:t.size<=1048577:=by have:=Znh t;omega
 obtain ⟨c0,c1,c2,c3,c4,c5,c6,c7,rfl⟩:=h.eight;obtain ⟨H,hH⟩:∃ H,w.heap.size=H:=⟨_,rfl⟩;obtain ⟨W2,hW2⟩:∃ W2,(w.alloc (.cells #[c0,c1,c2,c3,c4,c5,c6,c7] 49)).alloc (.cells #[.bool false] 4)=W2:=⟨_,rfl⟩;have hy2:W2.heap.size=H+2:=by rw [<-hW2,<-hH];simp
 have hb2:Below w.heap.size w W2:=by rw [<-hW2];exact (bQ.alloc nQ _).alloc (by simp) _
 have hbx:Box8 W2 H 49 c0 c1 c2 c3 c4 c5 c6 c7:=by rw [<-hW2,<-hH];exact (Box8.new w 49 c0 c1 c2 c3 c4 c5 c6 c7).alloc _
 have hbt:Boxed W2 (H+1) 4 (.bool false):=by
  rw [<-hW2,<-hH]
  have:=Boxed.new (w.alloc (.cells #[c0,c1,c2,c3,c4,c5,c6,c7] 49)) 4 (.bool false)
  rw [World.size_alloc] at this;exact this
 have HI:=hQ (Ziu w t W2 _ h hb2 hs);have HFE:Hid (t.formE=((t.pre 1).all fun p=>nodeE p.2.top p.2.kids.length)):=hQ (Zwm t 1);have HWN:Hid (∀ p∈t.pre 1,wte p.2<=1048576):=hQ (fun p hp=>Nat.le_trans (Zpo t 1 p hp) hw);have HTAB:=hQ htab;have HW2:=hQ hW2;have HB2:=hQ hb2;have HBT:=hQ hbt;have HZ2:=hQ hy2;have HH:=hQ hH;have x0:=hbx.c0;have x1:=hbx.c1;have x2:=hbx.c2;have x3:=hbx.c3;have x4:=hbx.c4;have x5:=hbx.c5;have x6:=hbx.c6;have x7:=hbx.c7;clear h hw hs htab hW2 hb2 hy2 hbx hbt hH;refine (callsIn_wide (n:=9)).1 ?_;refine callsIn_of_wp_marks Tryz.func79 rfl trivial ?_ rfl;simp only [Tryz.ntmps79,List.size_toArray,List.length_cons,List.length_nil,Nat.reduceAdd,Nat.reduceSub,Array.replicate_succ,Array.replicate_zero,List.push_toArray,List.append_toArray,List.nil_append,List.cons_append];have hHz:=HH.out
 gi_wp2
 rw [HW2.out]
 gi_wp2_with (refine ⟨trivial,?_⟩;gi_at_call 78;refine (callsIn_wide.2 HI.out).mono ?_;rintro e W3 ⟨Bx,rfl,hb3,hx1,hx2,hg⟩)
 have hy2:=HZ2.out;obtain ⟨Keep,hKeep⟩:∃ Keep:Nat->Prop,Keep=fun b=>b < w.heap.size∨b=Bx∨b=Bx+1:=⟨_,rfl⟩
 have hsz3:=hb3.size;have hkW:∀ b,Keep b->b < W3.heap.size:=by rw [hKeep];rintro b (h|h|h) <;> omega
 have hI0:MadI t w H 0 (fun q=>q=H+1) W3:=⟨rfl,(hb3.block _ (by omega)).trans HBT.out,HB2.out.trans (hb3.mono HB2.out.size),fun j p hj=>by omega⟩;have HG:=hQ hg;have HI0:=hQ hI0;have HKW:=hQ hkW;have HKE:=hQ hKeep;clear hg hI0 hkW hKeep hb3 x0 x1 x2 x3 x4 x5 x6 x7;refine Zfg (n:=9) (w:=W3) rfl (by decide) (gf:=140) (lb:=#[.pointer (some ⟨Bx,0,none⟩),.pointer (some ⟨Bx+1,0,none⟩)]) rfl trivial (enters_of Tryz.func140 (by kernel_rfl) rfl)
  (M:=(t.pre 1).length) (Rd:=NRd (RTe w) t) (On:=fun _=>True) (Keep:=Keep) (fun _ _ h=>h.size) HKW.out
  (fun W hW hz=>HG.out _ Keep W (by decide) (fun b hb=>by rw [HKE.out];exact .inl hb) (by rw [HKE.out];exact .inr (.inl rfl)) (by rw [HKE.out];exact .inr (.inr rfl)) (fun b hb=>by have:=HKW.out b hb;have:=hW.size;omega) (Held.of_below hW fun i hi _=>hi))
  (MadI t w H) (MadX t w H) (fun k F A C hi hh=>hi.keep hh (by omega)) (fun k F A hi b hb=>?bnd) (fun A C hx hh=>?keepX) _ HI0.out
  (fun v b=>{ tmps:=#[.agg #[c0,c1,c2,c3,c4,c5,c6,c7],.pointer (some ⟨H,0,none⟩),.pointer (some ⟨H+1,0,none⟩),undef,.pointer (some ⟨b,0,none⟩),.agg #[c0,c1,c2,c3,c4,c5,c6,c7],.func (.func 140) #[] #[.pointer (some ⟨Bx,0,none⟩),.pointer (some ⟨Bx+1,0,none⟩)],v.getD 0 undef,v.getD 1 undef,undef,undef,undef],defers:=[] }) AsgM (fun _ _ _ _ h hh=>h.held hh) ?assign ?body ?done ?stop
 case bnd=>
  obtain ⟨rfl,h1,_⟩:=hi;have e:b=H+1:=hb;subst e;rw [HKE.out];exact ⟨by omega,h1.lt⟩
 case keepX=>
  exact ⟨(hh.block _ hx.1.lt (by omega)).trans hx.1,hx.2.1.trans (hh.below hx.2.1.size fun i hi=>by omega),hx.2.2⟩
 case assign=>
  rintro l k v W K ⟨d,x,cs,hat,rfl,hr⟩ hK;obtain ⟨q0,q1,q2,q3,q4,q5,q6,q7,rfl⟩:=hr.eight;obtain ⟨k0,s0,n0,tk,TL,tl,tc,TA,ta,td,L,ll,lc,A,m,dd,rfl,rfl,rfl,rfl,rfl,rfl,rfl,rfl⟩:=hr.shape;have HK:=hQ (hK _ ⟨_,rfl,World.alloc_heap_new W (.cells #[.int .i64 k0,.string s0,.int .i64 n0,.int .i64 tk,.slice TL tl tc,.slice TA ta td,.slice L ll lc,.slice A m dd] 49)⟩ (bQ.alloc nQ _));clear hK hr hat
  gi_wp2
  simpa using HK.out
 case body=>
  rintro l k s F W b hk ⟨rfl,h1,h2,h3⟩ ⟨d,x,cs,hat,rfl,hr⟩ ⟨cs',eq1,hcell⟩ hb1 hb2 hFb _ _;have e2:cs.toArray=cs':=by injection eq1
  subst e2;have HN:=hQ (Zpf x W _ (hr.keep h2) (HWN.out _ (List.mem_of_getElem? hat)) (HTAB.out.keep h2));obtain ⟨q0,q1,q2,q3,q4,q5,q6,q7,rfl⟩:=hr.eight;have bx:Box8 W b 49 q0 q1 q2 q3 q4 q5 q6 q7:=hcell;have y0:=bx.c0;have y1:=bx.c1;have y2:=bx.c2;have y3:=bx.c3;have y4:=bx.c4;have y5:=bx.c5;have y6:=bx.c6;have y7:=bx.c7;obtain ⟨r,hrr⟩:∃ r,nodeE x.top x.kids.length=r:=⟨_,rfl⟩;rw [hrr] at HN;have HI2:Hid (r=true->∀ W',Below W.heap.size W W'->Zay (fun _=>True) (MadI t w H) (MadX t w H) k (fun q=>q=H+1) W .normal { tmps:=#[],defers:=[] } W'):=hQ (by
   rintro rfl W' hb';refine ⟨trivial,Held.of_below hb' fun i hi _=>hi,fun q=>q=H+1,fun q hq=>.inl hq,rfl,(hb'.block _ h1.lt).trans h1,h2.trans (hb'.mono h2.size),fun j p hj hp=>?_⟩;by_cases e:j=k
   ·subst e
    rw [hat] at hp;injection hp with hp
    rw [<-hp];exact hrr
   ·exact h3 j p (by omega) hp)
  have HX:Hid (r=false->∀ W',Below W.heap.size W W'->Zay (fun _=>True) (MadI t w H) (MadX t w H) k (fun q=>q=H+1) W .ret { tmps:=#[],defers:=[] } (W'.setCell ⟨H+1,0,none⟩ (.bool false))):=hQ (by
   rintro rfl W' hb';have hbx:Boxed W' (H+1) 4 (.bool false):=(hb'.block _ h1.lt).trans h1;refine ⟨(Held.of_below hb' fun i hi _=>hi).trans (Held.set _ (fun h=>h rfl) _),hbx.set _,(h2.trans (hb'.mono h2.size)).setCell (p:=⟨H+1,0,none⟩) (by show w.heap.size<=H+1;omega) _,?_⟩;rw [HFE.out];rw [List.all_eq_false];exact ⟨_,List.mem_of_getElem? hat,by simp [hrr]⟩)
  have HFR:Hid (∀ W',Below W.heap.size W W'->Boxed W' (H+1) 4 (.bool false)):=hQ (fun W' hb'=>(hb'.block _ h1.lt).trans h1);clear h1 h2 h3 hat hr hcell bx hrr eq1 hk;cases r with
  | true=>
   gi_wp2_with (refine ⟨trivial,?_⟩;gi_at_call 108;refine (CallsIn.inRound l (callsIn_wide.2 HN.out)).mono ?_;rintro e W' ⟨rfl,hb'⟩;have HF2:=hQ (HI2.out rfl W' hb');clear hb')
   exact HF2.out
  | false=>
   gi_wp2_with (refine ⟨trivial,?_⟩;gi_at_call 108;refine (CallsIn.inRound l (callsIn_wide.2 HN.out)).mono ?_;rintro e W' ⟨rfl,hb'⟩;have HF2:=hQ (HX.out rfl W' hb');have hbx':=HFR.out W' hb';have hc1:=hbx'.cell;have hf1:=hbx'.frozen;clear hb' hbx')
   exact HF2.out
 case done=>
  rintro F W ⟨rfl,h1,h2,h3⟩ hK;have hTrue:t.formE=true:=by
   rw [HFE.out,List.all_eq_true]
   intro p hp
   obtain ⟨j,hj,e⟩:=List.getElem_of_mem hp;exact h3 j p hj (by rw [List.getElem?_eq_getElem hj,e])
  have hc:=h1.cell;have hf:=h1.frozen;have H3:=hQ (h1.set (.bool true));have HB:=hQ h2;have hD:(W.setCell ⟨H+1,0,none⟩ (.bool true)).heap[W3.heap.size]?=some (.deferred (some [])):=(Below.heap_setCell _ _ _ _ (by show W3.heap.size≠H+1;omega)).trans hK;have HD:=hQ hD;have HT2:=hQ hTrue;clear h1 h2 h3 hTrue hD hK
  gi_wp2
  refine ⟨by simp,.inl ⟨_,_,rfl,run_takeDeferred HD.out,?_⟩⟩;have hbx4:Boxed ((W.setCell ⟨H+1,0,none⟩ (.bool true)).putObj W3.heap.size (.deferred none)) (H+1) 4 (.bool true):=(World.putObj_heap_other (by omega)).trans H3.out;have hb4:=hbx4.cell;refine ⟨.bool true,?_,by rw [HT2.out],(HB.out.setCell (p:=⟨H+1,0,none⟩) (by show w.heap.size<=H+1;omega) _).trans (Zbr _ (by omega))⟩;simp [results,Tryz.f79,go_sem,hb4]
 case stop=>
  rintro W ⟨h1,h3,hne⟩ hK;have hbx4:Boxed (W.putObj W3.heap.size (.deferred none)) (H+1) 4 (.bool false):=(World.putObj_heap_other (by omega)).trans h1;have hb4:=hbx4.cell;clear hbx4;have HB:=hQ h3;have HT2:=hQ hne;have HC4:=hQ hb4;clear h1 h3 hne hb4
  gi_wp2
  refine ⟨by simp,.inl ⟨_,_,rfl,run_takeDeferred hK,?_⟩⟩;have hb4:=HC4.out;refine ⟨.bool false,?_,by rw [HT2.out],HB.out.trans (Zbr _ (by omega))⟩;simp [results,Tryz.f79,go_sem,hb4]
theorem Zpk (t:Te):Zcx t=(withB t.size 60 t.deep 16 && t.formE):=by
 unfold Zcx withB;rw [Bool.and_assoc]
theorem Zlc (t:Te)(w:World)(cs:List Value)(h:RTe w t cs)(hw:wte t<=1048576)(htab:ArOk w):Calls Tryz.prog 40 #[.agg cs.toArray] w (Truth (Zcx t) w):=by
 have hs:t.size<=1048577:=by have:=Znh t;omega
 obtain ⟨c0,c1,c2,c3,c4,c5,c6,c7,rfl⟩:=h.eight;obtain ⟨W1,hW1⟩:∃ W1,w.alloc (.cells #[c0,c1,c2,c3,c4,c5,c6,c7] 49)=W1:=⟨_,rfl⟩;obtain ⟨H,hH⟩:∃ H,w.heap.size=H:=⟨_,rfl⟩;have hb1:Below w.heap.size w W1:=by rw [<-hW1];exact bQ.alloc nQ _
 have hbx:Box8 W1 H 49 c0 c1 c2 c3 c4 c5 c6 c7:=by rw [<-hW1,<-hH];exact Box8.new w _ _ _ _ _ _ _ _ _
 have HI:=hQ (Ziu W1 t W1 _ (h.keep hb1) bQ hs);have HM:=hQ (fun W (hB:Below w.heap.size w W)=>Zaal t W _ (h.keep hB) hw (htab.keep hB));have HN:Hid ((t.pre 1).length=t.size):=hQ (Zki t 1);have HD:Hid (topTo t (t.pre 1).length=t.deep):=hQ (Zkr t);have HS:=hQ hs;have HE:=hQ (Zpk t);have HW1:=hQ hW1;have HB1:=hQ hb1;have B1:=hQ hbx;have x0:=hbx.c0;have x1:=hbx.c1;have x2:=hbx.c2;have x3:=hbx.c3;have x4:=hbx.c4;have x5:=hbx.c5;have x6:=hbx.c6;have x7:=hbx.c7;clear h hs hw htab hW1 hb1 hbx;go_enter Tryz.func40,Tryz.ntmps40;go_wp2_with fail;rw [HW1.out];go_wp2_with fail;refine HI.out.mono ?_;rintro e w2 hi;obtain ⟨lb,rfl,hb2,hg⟩:=hi.gives nQ;have HC:=hQ (Zrc _ lb (enters_of Tryz.func140 (by kernel_rfl) rfl) w2 (t.pre 1).length 60 16 (depAt t) (topTo t) (by rw [HN.out];exact HS.out) (by decide) (Zmf t) (fun k hk=>Zpi t k hk) (fun k _=>Zme t k) (fun W hW=>(hg W hW).weaken fun _ _ h=>h.dep));rw [HD.out,HN.out] at HC;have HB2:=hQ (HB1.out.trans (hb2.mono HB1.out.size));have B2:=hQ (B1.out.under hb2 B1.out.lt);generalize withB t.size 60 t.deep 16=b at HC HE;clear hi hb2 hg x0 x1 x2 x3 x4 x5 x6 x7;cases b with
 | false=>
  go_wp2_with fail
  refine HC.out.mono ?_;rintro e w3 ⟨rfl,hb3⟩;have HF:Hid (Truth (Zcx t) w (.returned (.bool false)) w3):=hQ ⟨by rw [HE.out];rfl,HB2.out.trans (hb3.mono HB2.out.size)⟩;clear hb3;go_wp2_with fail;go_ret;exact HF.out
 | true=>
  go_wp2_with fail
  refine HC.out.mono ?_;rintro e w3 ⟨rfl,hb3⟩;have HB3:=hQ (HB2.out.trans (hb3.mono HB2.out.size));have B3:=hQ (B2.out.under hb3 B2.out.lt);have x0:=B3.out.c0;have x1:=B3.out.c1;have x2:=B3.out.c2;have x3:=B3.out.c3;have x4:=B3.out.c4;have x5:=B3.out.c5;have x6:=B3.out.c6;have x7:=B3.out.c7;clear hb3;go_wp2_with fail;refine (HM.out w3 HB3.out).mono ?_;rintro e w4 ⟨rfl,hb4⟩;have HF:Hid (Truth (Zcx t) w (.returned (.bool t.formE)) w4):=hQ ⟨by rw [HE.out];rfl,HB3.out.trans (hb4.mono HB3.out.size)⟩;clear hb4 x0 x1 x2 x3 x4 x5 x6 x7;generalize t.formE=b at HF ⊢;go_wp2_with fail;go_ret;exact HF.out
end Go.Proofs.YtlcedleebbgebaaGreatDoor
