/-
  Merged by program: NodC, NodDep, NonT, WitTI, LimT, ValidE, Valid, Scalar, Row3.
-/
import Derived.Test.YtlcedleebbgebaaGreatDoorQ15
import Derived.Test.YtlcedleebbgebaaGreatDoorQ13
set_option maxRecDepth 100000
set_option maxHeartbeats 2000000
namespace Go.Proofs.YtlcedleebbgebaaGreatDoor
open Go.RowKit
def DRd (ds:Nat->Nat)(k:Nat)(v:Array Value):Prop:=∃ u,v=#[.int .i64 (ds k:Int),u]
theorem DRd.size {ds:Nat->Nat}{k:Nat}{v:Array Value}(h:DRd ds k v):v.size=2:=by
 obtain ⟨u,rfl⟩:=h
 rfl
theorem Zco.weaken {N:Fence}{n:Nat}{P:Program}{g:Nat}{lb:Array Value}{M:Nat}{Rd Rd':Nat->Array Value->Prop}{On Keep:Nat->Prop}{W:World}(h:Zco N n P g lb M Rd On Keep W)(hR:∀ k v,Rd k v->Rd' k v):Zco N n P g lb M Rd' On Keep W:=
 fun l J Jx hJ hB hY h0=>h l J Jx hJ hB (fun k v F W1 hk hj hr=>hY k v F W1 hk hj (hR k v hr)) h0
def depAt {α:Type}(t:Tr α)(k:Nat):Nat:=(((t.pre 1)[k]?).map Prod.fst).getD 0
theorem NRd.dep {α:Type}{R:Tr α->List Value->Prop}{t:Tr α}{k:Nat}{v:Array Value}(h:NRd R t k v):DRd (depAt t) k v:=by
 obtain ⟨d,x,cs,hat,rfl,_⟩:=h;refine ⟨.agg cs.toArray,?_⟩;have e:depAt t k=d:=by unfold depAt;rw [hat];rfl
 rw [e]
theorem Zpi {α:Type}(t:Tr α)(k:Nat)(hk:k < (t.pre 1).length):topTo t (k+1)=max (topTo t k) (depAt t k):=by
 have e:=List.getElem?_eq_getElem hk;rw [Zuy t e];unfold depAt;rw [e]
 rfl
theorem Zme {α:Type}(t:Tr α)(k:Nat):topTo t k<=topTo t (t.pre 1).length:=by
 rw [Zkr];exact Zsp t k
end Go.Proofs.YtlcedleebbgebaaGreatDoor
namespace Go.Proofs.YtlcedleebbgebaaGreatDoor
open Go.RowKit Go.Shelf
def Zaca (c0 c1 c2:Value)(w:World)(e:Ending)(w':World):Prop:=
 e=.returned (.func (.func 164) #[] #[.pointer (some ⟨w.heap.size,0,none⟩),.pointer (some ⟨w.heap.size+1,0,none⟩)])/\w'=(w.alloc (.cells #[c0,c1,c2] 38)).alloc (.cells #[.func (.func 87) #[] #[]] 127)
theorem Zud (c0 c1 c2:Value)(w:World):Calls Tryz.prog 154 #[.agg #[c0,c1,c2],.func (.func 87) #[] #[]] w (Zaca c0 c1 c2 w):=by
 have hR:Hid (Zaca c0 c1 c2 w (.returned (.func (.func 164) #[] #[.pointer (some ⟨w.heap.size,0,none⟩),.pointer (some ⟨w.heap.size+1,0,none⟩)])) ((w.alloc (.cells #[c0,c1,c2] 38)).alloc (.cells #[.func (.func 87) #[] #[]] 127))):=⟨rfl,rfl⟩;go_enter Tryz.func154,Tryz.ntmps154;go_wp2_with fail;go_ret;exact hR.out
def IterT (w0:World)(t:Ty)(w:World)(e:Ending)(w':World):Prop:=
 ∃ Bx,e=.returned (.func (.func 164) #[] #[.pointer (some ⟨Bx,0,none⟩),.pointer (some ⟨Bx+1,0,none⟩)])/\Below w.heap.size w w'/\w.heap.size<=Bx/\Bx+1 < w'.heap.size/\
  ∀ (n:Nat) (Keep:Nat->Prop) (W:World),2<=n->(∀ b,b < w0.heap.size->Keep b)->Keep Bx->Keep (Bx+1)->(∀ b,Keep b->b < W.heap.size)->Held Keep w' W->
   Zco Fence.wide n Tryz.prog 164 #[.pointer (some ⟨Bx,0,none⟩),.pointer (some ⟨Bx+1,0,none⟩)] (t.pre 1).length (NRd (RTy w0) t) (fun _=>True) Keep W
theorem Zoq (w0:World)(t:Ty)(w:World)(cs:List Value)(h:RTy w0 t cs)(hw0:Below w0.heap.size w0 w)(hs:t.size<=1048577):Calls Tryz.prog 120 #[.agg cs.toArray] w (IterT w0 t w):=by
 obtain ⟨c0,c1,c2,rfl⟩:=h.three;obtain ⟨W1,hW1⟩:∃ W1,w.alloc (.cells #[c0,c1,c2] 38)=W1:=⟨_,rfl⟩;obtain ⟨H,hH⟩:∃ H,w.heap.size=H:=⟨_,rfl⟩;have hb1:Below w.heap.size w W1:=by rw [<-hW1];exact bQ.alloc nQ _
 have hz1:W1.heap.size=H+1:=by rw [<-hW1,<-hH];simp
 have hbx:Box3 W1 H 38 c0 c1 c2:=by rw [<-hW1,<-hH];exact Box3.new w _ _ _ _
 have HN:=hQ (Zud c0 c1 c2 W1);have HR:Hid (∀ w',w'=(W1.alloc (.cells #[c0,c1,c2] 38)).alloc (.cells #[.func (.func 87) #[] #[]] 127)->
   IterT w0 t w (.returned (.func (.func 164) #[] #[.pointer (some ⟨W1.heap.size,0,none⟩),.pointer (some ⟨W1.heap.size+1,0,none⟩)])) w'):=hQ (by
  rintro w' rfl;have hb2:Below W1.heap.size W1 (W1.alloc (.cells #[c0,c1,c2] 38)):=bQ.alloc nQ _;have hb3:Below W1.heap.size W1 ((W1.alloc (.cells #[c0,c1,c2] 38)).alloc (.cells #[.func (.func 87) #[] #[]] 127)):=hb2.alloc hb2.size _;refine ⟨W1.heap.size,rfl,hb1.trans (hb3.mono hb1.size),by omega,by simp,fun n Keep W hn hk0 hkx hky hkW hh=>?_⟩;have y1:=(Box3.new W1 38 c0 c1 c2).alloc (.cells #[.func (.func 87) #[] #[]] 127);have y2:=Boxed.new (W1.alloc (.cells #[c0,c1,c2] 38)) 127 (.func (.func 87) #[] #[]);rw [World.size_alloc] at y2;have hbw:=(hw0.trans ((hb1.trans (hb3.mono hb1.size)).mono hw0.size)).trans (hh.below (Nat.le_trans hw0.size (hb1.trans (hb3.mono hb1.size)).size) hk0);exact Znc w0 t c0 c1 c2 h hs n W1.heap.size hn Keep hk0 hky W hkW hbw ((hh.block _ (by simp only [World.size_alloc];omega) hkx).trans y1) ((hh.block _ (by simp only [World.size_alloc];omega) hky).trans y2))
 have HW1:=hQ hW1;have HZ1:=hQ hz1;have x0:=hbx.c0;have x1:=hbx.c1;have x2:=hbx.c2;clear h hs hW1 hb1 hz1 hbx hw0;go_enter Tryz.func120,Tryz.ntmps120;go_wp2_with fail;rw [HW1.out];go_wp2_with fail;refine HN.out.mono ?_;rintro e w2 ⟨rfl,hw2⟩;have HF:=hQ (HR.out w2 hw2);clear hw2;go_wp2_with fail;go_ret;exact HF.out
theorem IterT.gives {w0:World}{t:Ty}{w w':World}{e:Ending}(h:IterT w0 t w e w')(hw0:w0.heap.size<=w.heap.size):∃ lb,e=.returned (.func (.func 164) #[] lb)/\Below w.heap.size w w'/\∀ W,Below w'.heap.size w' W->
  Zco Fence.wide (9 - 1) Tryz.prog 164 lb (t.pre 1).length (NRd (RTy w0) t) (fun _=>True) (fun b=>b < w'.heap.size) W:=by
 obtain ⟨Bx,rfl,hb,h1,h2,h3⟩:=h;exact ⟨_,rfl,hb,fun W hW=>h3 _ _ W (by decide) (fun b hb'=>by have:=hb.size;omega) (by omega) (by omega) (fun b hb'=>by have:=hW.size;omega) (Held.of_below hW fun i hi _=>hi)⟩
attribute [local go_sem] Oper.semAt_some
def withB (N ms top md:Nat):Bool:=decide (N<=ms) && decide (top<=md)
def WitI (w:World)(H ms md N:Nat)(mx:Nat->Nat)(k:Nat)(F:Nat->Prop)(W:World):Prop:=
 F=(fun q=>q=H+2∨q=H+3)/\Boxed W H 3 (.int .i64 (ms:Int))/\Boxed W (H+1) 3 (.int .i64 (md:Int))/\Boxed W (H+2) 4 (.bool false)/\Boxed W (H+3) 3 (.int .i64 (k:Int))/\Below w.heap.size w W/\k<=ms/\mx k<=md/\k<=N
theorem WitI.keep {w A C:World}{H ms md N k D:Nat}{mx:Nat->Nat}{F:Nat->Prop}(h:WitI w H ms md N mx k F A)(hh:Held (fun i=>i < D∨F i) A C)(hD:w.heap.size<=D)(hHD:H+3 < D):WitI w H ms md N mx k F C:=by
 obtain ⟨rfl,h1,h2,h3,h4,h5,h6⟩:=h;exact ⟨rfl,(hh.block _ h1.lt (.inl (by omega))).trans h1,(hh.block _ h2.lt (.inl (by omega))).trans h2,(hh.block _ h3.lt (.inr (.inl rfl))).trans h3,(hh.block _ h4.lt (.inr (.inr rfl))).trans h4,h5.trans (hh.below h5.size fun i hi=>.inl (by omega)),h6⟩
def WitX (w:World)(H:Nat)(r:Bool)(W:World):Prop:=Boxed W (H+2) 4 (.bool false)/\Below w.heap.size w W/\r=false
theorem Zrd (gf:Nat)(lb:Array Value)(eg:∀ args w,(callFunc gf args).run Tryz.prog w=.ok (.enter gf args) w)(w:World)(N ms md:Nat)(ds mx:Nat->Nat)(hN:N<=1048577)(hms:ms<=1048576)(h0:mx 0=0)(hmx:∀ k,k < N->mx (k+1)=max (mx k) (ds k))(hmono:∀ k,k<=N->mx k<=mx N)
  (hg:∀ W,Below w.heap.size w W->Zco Fence.wide (9 - 1) Tryz.prog gf lb N (DRd ds) (fun _=>True) (fun b=>b < w.heap.size) W):Calls Tryz.prog 119 #[.func (.func gf) #[] lb,.int .i64 (ms:Int),.int .i64 (md:Int)] w (Truth (withB N ms (mx N) md) w):=by
 obtain ⟨H,hH⟩:∃ H,w.heap.size=H:=⟨_,rfl⟩;obtain ⟨W1,hW1⟩:∃ W1,(((w.alloc (.cells #[.int .i64 (ms:Int)] 3)).alloc (.cells #[.int .i64 (md:Int)] 3)).alloc (.cells #[.bool false] 4)).alloc (.cells #[.int .i64 0] 3)=W1:=⟨_,rfl⟩;have hz1:W1.heap.size=H+4:=by rw [<-hW1,<-hH];simp
 have hb1:Below w.heap.size w W1:=by rw [<-hW1];exact (((bQ.alloc nQ _).alloc (by simp) _).alloc (by simp;omega) _).alloc (by simp;omega) _
 have y0:Boxed W1 H 3 (.int .i64 (ms:Int)):=by rw [<-hW1,<-hH];exact (((Boxed.new w 3 (.int .i64 (ms:Int))).alloc _).alloc _).alloc _
 have y1:Boxed W1 (H+1) 3 (.int .i64 (md:Int)):=by
  rw [<-hW1,<-hH]
  have:=((Boxed.new (w.alloc (.cells #[.int .i64 (ms:Int)] 3)) 3 (.int .i64 (md:Int))).alloc (.cells #[.bool false] 4)).alloc (.cells #[.int .i64 0] 3)
  rw [World.size_alloc] at this;exact this
 have y2:Boxed W1 (H+2) 4 (.bool false):=by
  rw [<-hW1,<-hH]
  have:=(Boxed.new ((w.alloc (.cells #[.int .i64 (ms:Int)] 3)).alloc (.cells #[.int .i64 (md:Int)] 3)) 4 (.bool false)).alloc (.cells #[.int .i64 0] 3)
  rw [World.size_alloc,World.size_alloc] at this;exact this
 have y3:Boxed W1 (H+3) 3 (.int .i64 ((0:Nat):Int)):=by
  rw [<-hW1,<-hH]
  have:=Boxed.new (((w.alloc (.cells #[.int .i64 (ms:Int)] 3)).alloc (.cells #[.int .i64 (md:Int)] 3)).alloc (.cells #[.bool false] 4)) 3 (.int .i64 0)
  rw [World.size_alloc,World.size_alloc,World.size_alloc] at this;exact this
 have hI0:WitI w H ms md N mx 0 (fun q=>q=H+2∨q=H+3) W1:=⟨rfl,y0,y1,y2,y3,hb1,Nat.zero_le _,by rw [h0];exact Nat.zero_le _,Nat.zero_le _⟩;have HG:=hQ hg;have HM:=hQ hmx;have HMO:=hQ hmono;have HI0:=hQ hI0;have HW1:=hQ hW1;have HB1:=hQ hb1;have HZ1:=hQ hz1;have HH:=hQ hH;have HN:=hQ hN;clear hg hI0 hW1 hb1 hz1 hH hmx h0 hmono hN y0 y1 y2 y3;refine (callsIn_wide (n:=9)).1 ?_;refine callsIn_of_wp_marks Tryz.func119 rfl trivial ?_ rfl;simp only [Tryz.ntmps119,List.size_toArray,List.length_cons,List.length_nil,Nat.reduceAdd,Nat.reduceSub,Array.replicate_succ,Array.replicate_zero,List.push_toArray,List.append_toArray,List.nil_append,List.cons_append];have hHz:=HH.out
 gi_wp2
 rw [HW1.out];have hDz:=HZ1.out;refine Zkv (n:=9) (w:=W1) rfl (by decide) (gf:=gf) (lb:=lb) rfl trivial eg (M:=N) (Rd:=DRd ds) (On:=fun _=>True) (Keep:=fun b=>b < w.heap.size) (fun _ _ h=>h.size) (fun b hb=>by omega) (fun W hW hz=>HG.out W (HB1.out.trans (hW.mono HB1.out.size)))
  (WitI w H ms md N mx) (WitX w H (withB N ms (mx N) md)) (fun k F A C hi hh=>hi.keep hh (by omega) (by omega)) (fun k F A hi q hq=>?bnd) (fun A C hx hh=>?keepX) _ HI0.out
  (fun v=>{ tmps:=#[.func (.func gf) #[] lb,.int .i64 (ms:Int),.int .i64 (md:Int),undef,.pointer (some ⟨H,0,none⟩),.pointer (some ⟨H+1,0,none⟩),.pointer (some ⟨H+2,0,none⟩),.pointer (some ⟨H+3,0,none⟩),v.getD 0 undef,.func (.func gf) #[] lb,v.getD 0 undef,v.getD 1 undef,undef,undef,undef,undef,undef,undef,undef,undef,undef,undef],defers:=[] }) ?assign ?body ?done ?stop
 case bnd=>
  obtain ⟨rfl,_,_,h3,h4,_⟩:=hi;have h3:=h3.lt;have h4:=h4.lt
  rcases hq with rfl|rfl
  ·exact ⟨by omega,h3⟩
  ·exact ⟨by omega,h4⟩
 case keepX=>
  exact ⟨(hh.block _ hx.1.lt (by omega)).trans hx.1,hx.2.1.trans (hh.below hx.2.1.size fun i hi=>by omega),hx.2.2⟩
 case assign=>
  rintro l k v W K ⟨u,rfl⟩ hK
  gi_wp2
  simpa using hK
 case body=>
  rintro l k s F W hk ⟨rfl,h1,h2,h3,h4,h5,h6,h7,h8⟩ ⟨u,rfl⟩ _ _ _;have hm:=HM.out k hk;have hNN:=HN.out;have hmo:=HMO.out (k+1) hk;obtain ⟨V',hV'⟩:∃ V',W.setCell ⟨H+3,0,none⟩ (.int .i64 ((k:Int)+1))=V':=⟨_,rfl⟩;have u1:Boxed V' (H+3) 3 (.int .i64 ((k+1:Nat):Int)):=by rw [<-hV',Int.natCast_add];exact h4.set _
  have u2:Boxed V' (H+2) 4 (.bool false):=by rw [<-hV'];exact h3.other (by omega) _
  have u3:Boxed V' H 3 (.int .i64 (ms:Int)):=by rw [<-hV'];exact h1.other (by omega) _
  have u4:Boxed V' (H+1) 3 (.int .i64 (md:Int)):=by rw [<-hV'];exact h2.other (by omega) _
  have hap:Held (fun i=>¬ (i=H+2∨i=H+3)) W V':=by rw [<-hV'];exact Held.set W (fun h=>h (.inr rfl)) _
  have hbv:Below w.heap.size w V':=by rw [<-hV'];exact h5.setCell (p:=⟨H+3,0,none⟩) (by show w.heap.size<=H+3;omega) _
  have HIN:Hid (k+1<=ms->ds k<=md->Zay (fun _=>True) (WitI w H ms md N mx) (WitX w H (withB N ms (mx N) md)) k (fun q=>q=H+2∨q=H+3) W .normal { tmps:=#[],defers:=[] } V'):=hQ (fun g1 g2=>
   ⟨trivial,hap,_,fun b hb=>.inl hb,rfl,u3,u4,u2,u1,hbv,g1,by rw [hm];exact Nat.max_le.2 ⟨h7,g2⟩,hk⟩)
  have HOUT:Hid ((ms < k+1∨md < ds k)->Zay (fun _=>True) (WitI w H ms md N mx) (WitX w H (withB N ms (mx N) md)) k (fun q=>q=H+2∨q=H+3) W .ret { tmps:=#[],defers:=[] } (V'.setCell ⟨H+2,0,none⟩ (.bool false))):=hQ (fun g=>by
   refine ⟨hap.trans (Held.set _ (fun h=>h (.inl rfl)) _),u2.set _,hbv.setCell (p:=⟨H+2,0,none⟩) (by show w.heap.size<=H+2;omega) _,?_⟩;unfold withB
   rcases g with g|g
   ·rw [decide_eq_false (by omega)];rfl
   ·have:md < mx N:=by have:=Nat.le_max_right (mx k) (ds k);omega
    rw [decide_eq_false (p:=mx N<=md) (by omega),Bool.and_false])
  rw [<-hV'] at HIN HOUT;have a1:=h1.cell;have a2:=h2.cell;have a3:=h3.cell;have f3:=h3.frozen;have a4:=h4.cell;have f4:=h4.frozen;generalize ds k=dk at HIN HOUT ⊢;clear h1 h2 h3 h4 h5 h7 h8 u1 u2 u3 u4 hap hbv hV' hm hmo;by_cases g1:(ms:Int) < (k:Int)+1
  ·have HF:=hQ (HOUT.out (.inl (by omega)))
   clear HIN HOUT
   gi_wp2
   exact HF.out
  ·by_cases g2:(md:Int) < (dk:Int)
   ·have HF:=hQ (HOUT.out (.inr (by omega)))
    clear HIN HOUT
    gi_wp2
    exact HF.out
   ·have HF:=hQ (HIN.out (by omega) (by omega))
    clear HIN HOUT
    gi_wp2
    exact HF.out
 case done=>
  rintro F W ⟨rfl,h1,h2,h3,h4,h5,h6,h7,h8⟩ hK;have hTrue:withB N ms (mx N) md=true:=by unfold withB;simp [h6,h7]
  have hc:=h3.cell;have hf:=h3.frozen;have H3:=hQ (h3.set (.bool true));have HB:=hQ h5;have hD:(W.setCell ⟨H+2,0,none⟩ (.bool true)).heap[W1.heap.size]?=some (.deferred (some [])):=(Below.heap_setCell _ _ _ _ (by show W1.heap.size≠H+2;omega)).trans hK;have HD:=hQ hD;have HT2:=hQ hTrue;clear h1 h2 h3 h4 h5 h6 h7 h8 hTrue hD hK
  gi_wp2
  refine ⟨by simp,.inl ⟨_,_,rfl,run_takeDeferred HD.out,?_⟩⟩;have hbx4:Boxed ((W.setCell ⟨H+2,0,none⟩ (.bool true)).putObj W1.heap.size (.deferred none)) (H+2) 4 (.bool true):=(World.putObj_heap_other (by omega)).trans H3.out;have hb4:=hbx4.cell;refine ⟨.bool true,?_,by rw [HT2.out],(HB.out.setCell (p:=⟨H+2,0,none⟩) (by show w.heap.size<=H+2;omega) _).trans (Zbr _ (by omega))⟩;simp [results,Tryz.f119,go_sem,hb4]
 case stop=>
  rintro W ⟨h1,h3,hne⟩ hK;have hbx4:Boxed (W.putObj W1.heap.size (.deferred none)) (H+2) 4 (.bool false):=(World.putObj_heap_other (by omega)).trans h1;have hb4:=hbx4.cell;clear hbx4;have HB:=hQ h3;have HT2:=hQ hne;have HC4:=hQ hb4;clear h1 h3 hne hb4
  gi_wp2
  refine ⟨by simp,.inl ⟨_,_,rfl,run_takeDeferred hK,?_⟩⟩;have hb4:=HC4.out;refine ⟨.bool false,?_,by rw [HT2.out],HB.out.trans (Zbr _ (by omega))⟩;simp [results,Tryz.f119,go_sem,hb4]
def Zeh (t:Ty):Bool:=decide (t.size<=24) && decide (t.deep<=7)
theorem Zgi (t:Ty)(w:World)(cs:List Value)(h:RTy w t cs)(hs:t.size<=1048577):Calls Tryz.prog 90 #[.agg cs.toArray] w (Truth (Zeh t) w):=by
 obtain ⟨c0,c1,c2,rfl⟩:=h.three;obtain ⟨W1,hW1⟩:∃ W1,w.alloc (.cells #[c0,c1,c2] 38)=W1:=⟨_,rfl⟩;obtain ⟨H,hH⟩:∃ H,w.heap.size=H:=⟨_,rfl⟩;have hb1:Below w.heap.size w W1:=by rw [<-hW1];exact bQ.alloc nQ _
 have hbx:Box3 W1 H 38 c0 c1 c2:=by rw [<-hW1,<-hH];exact Box3.new w _ _ _ _
 have HI:=hQ (Zoq W1 t W1 _ (h.keep hb1) bQ hs);have HN:Hid ((t.pre 1).length=t.size):=hQ (Zki t 1);have HD:Hid (topTo t (t.pre 1).length=t.deep):=hQ (Zkr t);have HS:=hQ hs;have HW1:=hQ hW1;have HB1:=hQ hb1;have x0:=hbx.c0;have x1:=hbx.c1;have x2:=hbx.c2;clear h hs hW1 hb1 hbx;go_enter Tryz.func90,Tryz.ntmps90;go_wp2_with fail;rw [HW1.out];go_wp2_with fail;refine HI.out.mono ?_;rintro e w2 hi;obtain ⟨lb,rfl,hb2,hg⟩:=hi.gives nQ;have HC:=hQ (Zrd _ lb (enters_of Tryz.func164 (by kernel_rfl) rfl) w2 (t.pre 1).length 24 7 (depAt t) (topTo t) (by rw [HN.out];exact HS.out) (by decide) (Zmf t) (fun k hk=>Zpi t k hk) (fun k _=>Zme t k) (fun W hW=>(hg W hW).weaken fun _ _ h=>h.dep));rw [HN.out] at HC;have HB2:=hQ (HB1.out.trans (hb2.mono HB1.out.size));have HE:Hid (withB t.size 24 (topTo t (t.pre 1).length) 7=Zeh t):=hQ (by rw [HD.out];rfl);rw [HN.out] at HE;rw [HE.out] at HC;clear hi hb2 hg x0 x1 x2;go_wp2_with fail;refine HC.out.mono ?_;rintro e w3 ⟨rfl,hb3⟩;have HF:Hid (Truth (Zeh t) w (.returned (.bool (Zeh t))) w3):=hQ ⟨rfl,HB2.out.trans (hb3.mono HB2.out.size)⟩;clear hb3;go_wp2_with fail;go_ret;exact HF.out
end Go.Proofs.YtlcedleebbgebaaGreatDoor
namespace Go.Proofs.YtlcedleebbgebaaGreatDoor
open Go.RowKit
theorem Zyz (t:Ty):(Zeh t && wellB t true)=Zae t:=by
 unfold Zeh wellB Zae;cases t.form <;> simp
theorem Zzv (t:Ty):(Zeh t && wellB t false)=dataB t:=by
 unfold Zeh wellB dataB Zae;cases t.form <;> cases Tr.has 5 t <;> simp
theorem Zcs (t:Ty)(w:World)(cs:List Value)(h:RTy w t cs)(hw:wt t<=1048576):Calls Tryz.prog 83 #[.agg cs.toArray] w (Truth (Zae t) w):=by
 have hz:=Zkn t;obtain ⟨c0,c1,c2,W1,H,rfl,hH,hW1,hbox,hb0⟩:=boxed h;have HC:=hQ (Zgi t W1 _ (h.keep hb0) (by omega));have HD:=hQ (fun W (hB:Below w.heap.size w W)=>Zss t W _ true (h.keep hB) hw);have HE:=hQ (Zyz t);have HW1:=hQ hW1;have HB1:=hQ hb0;have B1:=hQ hbox;have x0:=hbox.c0;have x1:=hbox.c1;have x2:=hbox.c2;clear h hw hz hb0 hbox hW1;go_enter Tryz.func83,Tryz.ntmps83;go_wp2_with fail;rw [HW1.out];go_wp2_with fail;refine HC.out.mono ?_;rintro e w2 ⟨rfl,hb2⟩;have HB2:=hQ (HB1.out.trans (hb2.mono HB1.out.size));have B2:=hQ (B1.out.under hb2 B1.out.lt);clear x0 x1 x2 hb2 HC;generalize Zeh t=a at HE ⊢;cases a with
 | false=>
  have HF:Hid (Truth (Zae t) w (.returned (.bool false)) w2):=by rw [<-HE.out];exact ⟨rfl,HB2.out⟩
  go_wp2_with fail
  go_ret
  exact HF.out
 | true=>
  have HC:=hQ (HD.out w2 HB2.out);have HG:Hid (wellB t true=Zae t):=by rw [<-HE.out];exact rfl
  have x0:=B2.out.c0;have x1:=B2.out.c1;have x2:=B2.out.c2;clear HE HD;go_wp2_with fail;refine HC.out.mono ?_;rintro e w3 ⟨rfl,hb3⟩;have HF:Hid (Truth (Zae t) w (.returned (.bool (wellB t true))) w3):=⟨by rw [HG.out],HB2.out.trans (hb3.mono HB2.out.size)⟩;clear hb3 HG HC;generalize wellB t true=b at HF ⊢;go_wp2_with fail;go_ret;exact HF.out
theorem Zem (q:Int):(q=1∨q=2∨q=3∨q=4∨q=5)∨kindT q=171:=by
 by_cases h1:q=1
 ·exact .inl (.inl h1)
 by_cases h2:q=2
 ·exact .inl (.inr (.inl h2))
 by_cases h3:q=3
 ·exact .inl (.inr (.inr (.inl h3)))
 by_cases h4:q=4
 ·exact .inl (.inr (.inr (.inr (.inl h4))))
 by_cases h5:q=5
 ·exact .inl (.inr (.inr (.inr (.inr h5))))
 ·exact .inr (by unfold kindT;simp [h1,h2,h3,h4,h5])
theorem Zoh {q:Int}(h:kindT q=171):q≠1/\q≠2/\q≠3/\q≠4/\q≠5:=by
 refine ⟨?_,?_,?_,?_,?_⟩ <;> (rintro rfl;revert h;decide)
theorem Zqa (q:Int)(c1 c2:Value)(w:World):Calls Tryz.prog 139 #[.agg #[.int .i64 q,c1,c2]] w (Truth (decide (q=1) || decide (q=2)) w):=by
 obtain ⟨W1,hW1⟩:∃ W1,w.alloc (.cells #[.int .i64 q,c1,c2] 38)=W1:=⟨_,rfl⟩;obtain ⟨H,hH⟩:∃ H,w.heap.size=H:=⟨_,rfl⟩;have hb1:Below w.heap.size w W1:=by rw [<-hW1];exact bQ.alloc nQ _
 have hbox:Box3 W1 H 38 (.int .i64 q) c1 c2:=by rw [<-hW1,<-hH];exact Box3.new w _ _ _ _
 have HK:=hQ (Zdl q c1 c2 W1);have HW1:=hQ hW1;have HB1:=hQ hb1;have x0:=hbox.c0;have x1:=hbox.c1;have x2:=hbox.c2;have hcs:=Zem q;clear hbox hW1 hb1;unfold Zgf at HK
 rcases hcs with (rfl|rfl|rfl|rfl|rfl)|hk
 ·have a1:=Zze
  have a2:=Zvs;rw [show kindT 1=169 from rfl] at HK;have HF:Hid (∀ w2,Below w.heap.size w w2->Truth (decide ((1:Int)=1) || decide ((1:Int)=2)) w (.returned (.bool true)) w2):=fun w2 hb=>⟨rfl,hb⟩
  go_enter Tryz.func139,Tryz.ntmps139
  go_wp2_with fail
  rw [HW1.out];go_wp2_with fail;refine HK.out.mono ?_;rintro e w2 ⟨rfl,hb2⟩;have HG:=hQ (HF.out w2 (HB1.out.trans (hb2.mono HB1.out.size)));clear x0 x1 x2 hb2 HF HK;go_wp2_with fail;go_ret;exact HG.out
 ·have a1:=Zzf
  have a2:=Zvt;rw [show kindT 2=170 from rfl] at HK;have HF:Hid (∀ w2,Below w.heap.size w w2->Truth (decide ((2:Int)=1) || decide ((2:Int)=2)) w (.returned (.bool true)) w2):=fun w2 hb=>⟨rfl,hb⟩
  go_enter Tryz.func139,Tryz.ntmps139
  go_wp2_with fail
  rw [HW1.out];go_wp2_with fail;refine HK.out.mono ?_;rintro e w2 ⟨rfl,hb2⟩;have HG:=hQ (HF.out w2 (HB1.out.trans (hb2.mono HB1.out.size)));clear x0 x1 x2 hb2 HF HK;go_wp2_with fail;go_ret;exact HG.out
 ·have a1:=Zzg
  have a2:=Zvu;rw [show kindT 3=167 from rfl] at HK;have HF:Hid (∀ w2,Below w.heap.size w w2->Truth (decide ((3:Int)=1) || decide ((3:Int)=2)) w (.returned (.bool false)) w2):=fun w2 hb=>⟨rfl,hb⟩
  go_enter Tryz.func139,Tryz.ntmps139
  go_wp2_with fail
  rw [HW1.out];go_wp2_with fail;refine HK.out.mono ?_;rintro e w2 ⟨rfl,hb2⟩;have HG:=hQ (HF.out w2 (HB1.out.trans (hb2.mono HB1.out.size)));clear x0 x1 x2 hb2 HF HK;go_wp2_with fail;go_ret;exact HG.out
 ·have a1:=Zzh
  have a2:=Zvv;rw [show kindT 4=132 from rfl] at HK;have HF:Hid (∀ w2,Below w.heap.size w w2->Truth (decide ((4:Int)=1) || decide ((4:Int)=2)) w (.returned (.bool false)) w2):=fun w2 hb=>⟨rfl,hb⟩
  go_enter Tryz.func139,Tryz.ntmps139
  go_wp2_with fail
  rw [HW1.out];go_wp2_with fail;refine HK.out.mono ?_;rintro e w2 ⟨rfl,hb2⟩;have HG:=hQ (HF.out w2 (HB1.out.trans (hb2.mono HB1.out.size)));clear x0 x1 x2 hb2 HF HK;go_wp2_with fail;go_ret;exact HG.out
 ·have a1:=Zzi
  have a2:=Zvw;rw [show kindT 5=168 from rfl] at HK;have HF:Hid (∀ w2,Below w.heap.size w w2->Truth (decide ((5:Int)=1) || decide ((5:Int)=2)) w (.returned (.bool false)) w2):=fun w2 hb=>⟨rfl,hb⟩
  go_enter Tryz.func139,Tryz.ntmps139
  go_wp2_with fail
  rw [HW1.out];go_wp2_with fail;refine HK.out.mono ?_;rintro e w2 ⟨rfl,hb2⟩;have HG:=hQ (HF.out w2 (HB1.out.trans (hb2.mono HB1.out.size)));clear x0 x1 x2 hb2 HF HK;go_wp2_with fail;go_ret;exact HG.out
 ·have a1:=Zzj
  have a2:=Zvx;obtain ⟨h1,h2,_,_,_⟩:=Zoh hk;rw [hk] at HK;have HF:Hid (∀ w2,Below w.heap.size w w2->Truth (decide (q=1) || decide (q=2)) w (.returned (.bool false)) w2):=fun w2 hb=>⟨by simp [h1,h2],hb⟩
  clear h1 h2 hk;go_enter Tryz.func139,Tryz.ntmps139;go_wp2_with fail;rw [HW1.out];go_wp2_with fail;refine HK.out.mono ?_;rintro e w2 ⟨rfl,hb2⟩;have HG:=hQ (HF.out w2 (HB1.out.trans (hb2.mono HB1.out.size)));clear x0 x1 x2 hb2 HF HK;go_wp2_with fail;go_ret;exact HG.out
theorem Zup (t:Ty)(w:World)(cs:List Value)(h:RTy w t cs):Calls Tryz.prog 139 #[.agg cs.toArray] w (Truth (baseB t) w):=by
 obtain ⟨a,ks⟩:=t;obtain ⟨L,c,A,d,rfl,_⟩:=h.out;exact Zqa a.kind _ _ w
theorem Zjs (ks:List Ty)(w:World)(A:Option Addr)(d:Nat)(hp:RKids w A ks)(hl:ks.length<=9223372036854775807) :
  Calls Tryz.prog 138 #[.slice A ks.length d,.func (.func 139) #[] #[]] w (Truth (ks.all baseB) w):=by
 have HP:=hQ hp;clear hp;go_enter Tryz.func138,Tryz.ntmps138;go_wp2_with fail;go_loopw [9] (fun i wr=>∃ k:Nat,k<=ks.length/\i=.int .i64 k/\AllTo baseB ks k/\Below w.heap.size w wr) (fun i _=>ks.length - (intOf i).toNat)
 case atStart=>exact ⟨0,Nat.zero_le _,rfl,Zca _ _,Below.refl _ _⟩
 case round=>
  obtain ⟨k,hk,rfl,hto,hb⟩:=hrel;have HTO:=hQ hto;have HB:=hQ hb;clear hto hb;by_cases hlt:k < ks.length
  ·obtain ⟨ad,p,c0,c1,c2,rfl,hpe,hr,q0,q1,q2⟩:=Zal HP.out HB.out hlt
   obtain ⟨d0,d1,d2,d3,d4,d5,d6,he⟩:=hr.shape;injection he with e0 he
   injection he with e1 he
   injection he with e2 _
   subst e0 e1 e2;obtain ⟨W5,hW5⟩:∃ W5,wr.alloc (.cells #[.int .i64 d0,.slice d1 d2 d3,.slice d4 d5 d6] 38)=W5:=⟨_,rfl⟩;have hb5:Below wr.heap.size wr W5:=by rw [<-hW5];exact bQ.alloc nQ _
   have HC:=hQ (Zup ks[k] W5 _ (hr.keep hb5));have HW5:=hQ hW5;have HB5:=hQ (HB.out.trans (hb5.mono HB.out.size));have hx5:=Box3.new wr 38 (.int .i64 d0) (.slice d1 d2 d3) (.slice d4 d5 d6);rw [hW5] at hx5;have y0:=hx5.c0;have y1:=hx5.c1;have y2:=hx5.c2;have HS:=hQ (fun hf=>Zbz (f:=baseB) HTO.out hlt hf);have HN:=hQ (fun hf=>Zex (f:=baseB) hlt hf);obtain ⟨v,hv⟩:∃ v,baseB ks[k]=v:=⟨_,rfl⟩;rw [hv] at HS HN HC;clear hr hb5 hW5 hx5 hv;go_wp2_with fail;rw [HW5.out];go_wp2_with fail;refine HC.out.mono ?_;rintro e w6 ⟨rfl,hb6⟩;have HB6:=hQ (HB5.out.trans (hb6.mono HB5.out.size));clear hb6 y0 y1 y2 HC;cases v with
   | false=>
    have HF:Hid (Truth (ks.all baseB) w (.returned (.bool false)) w6):=by rw [HN.out rfl];exact ⟨rfl,HB6.out⟩
    go_wp2_with fail
    go_ret
    exact HF.out
   | true=>
    have HT:=hQ (HS.out rfl);clear HS HN;go_wp2_with fail;go_roundw
    case rel=>exact ⟨k+1,hlt,by go_num,HT.out,HB6.out⟩
    case measure=>simp [intOf];omega
  ·have he:k=ks.length:=by omega
   have HF:Hid (Truth (ks.all baseB) w (.returned (.bool true)) wr):=by
    rw [Zcp (by rw [<-he];exact HTO.out)];exact ⟨rfl,HB.out⟩
   clear he;go_wp2_with fail;go_ret;exact HF.out
theorem Zabg {a:TyA}{ks:List Ty}(h:a.kind=3):rowB (.node a ks)=(Zae (.node a ks) && ks.all baseB):=by
 unfold rowB
 show (_ && (decide (a.kind=3) && _))=_
 rw [h];simp [Tr.kids]
theorem Zuo {a:TyA}{ks:List Ty}(h:a.kind≠3):rowB (.node a ks)=false:=by
 unfold rowB
 show (_ && (decide (a.kind=3) && _))=_
 rw [decide_eq_false h]
 simp
theorem Zpx (t:Ty)(w:World)(cs:List Value)(h:RTy w t cs)(hw:wt t<=1048576):Calls Tryz.prog 105 #[.agg cs.toArray] w (Truth (rowB t) w):=by
 have HV:=hQ (fun W (hB:Below w.heap.size w W)=>Zcs t W _ (h.keep hB) hw);obtain ⟨a,ks⟩:=t;obtain ⟨L,c,A,d,rfl,k1,k2,k3,k4,k5,k6,hp⟩:=h.out;have hrec:=Zabg (a:=a) (ks:=ks);have hoth:=Zuo (a:=a) (ks:=ks);have HE:=hQ (fun W (hB:Below w.heap.size w W)=>Zjs ks W A d (hp.keep hB) k6);have hcs:=Zem a.kind;obtain ⟨q,hq⟩:∃ q,a.kind=q:=⟨_,rfl⟩;obtain ⟨n,hn⟩:∃ n,a.labels.length=n:=⟨_,rfl⟩;obtain ⟨m,hm⟩:∃ m,ks.length=m:=⟨_,rfl⟩;rw [hq] at hrec hoth hcs;rw [hq,hn,hm] at HV ⊢;rw [hm] at HE;obtain ⟨W1,hW1⟩:∃ W1,w.alloc (.cells #[.int .i64 q,.slice L n c,.slice A m d] 38)=W1:=⟨_,rfl⟩;obtain ⟨H,hH⟩:∃ H,w.heap.size=H:=⟨_,rfl⟩;have hb1:Below w.heap.size w W1:=by rw [<-hW1];exact bQ.alloc nQ _
 have hbox:Box3 W1 H 38 (.int .i64 q) (.slice L n c) (.slice A m d):=by rw [<-hW1,<-hH];exact Box3.new w _ _ _ _
 have HK:=hQ (Zdl q (.slice L n c) (.slice A m d) W1);have HW1:=hQ hW1;have HB1:=hQ hb1;have B1:=hQ hbox;have x0:=hbox.c0;have x1:=hbox.c1;have x2:=hbox.c2;clear h hw k1 k2 k3 k4 k5 k6 hp hq hn hm hbox hW1 hb1;unfold Zgf at HK
 rcases hcs with (rfl|rfl|rfl|rfl|rfl)|hk
 ·have a1:=Zmj
  rw [show kindT 1=169 from rfl] at HK;have hro:=hoth (by decide);have HF:Hid (∀ w2,Below w.heap.size w w2->Truth (rowB (.node a ks)) w (.returned (.bool false)) w2):=fun w2 hb=>⟨by rw [hro],hb⟩
  clear hrec hoth hro HV HE;go_enter Tryz.func105,Tryz.ntmps105;go_wp2_with fail;rw [HW1.out];go_wp2_with fail;refine HK.out.mono ?_;rintro e w2 ⟨rfl,hb2⟩;have hb3:=HB1.out.trans (hb2.mono HB1.out.size);have HG:=hQ (HF.out (w2.alloc (.cells #[.int .i64 0,.slice none 0 0,.slice none 0 0] 167)) (hb3.alloc hb3.size _));clear x0 x1 x2 hb2 hb3 HF HK;go_wp2_with fail;go_ret;exact HG.out
 ·have a1:=Zmk
  rw [show kindT 2=170 from rfl] at HK;have hro:=hoth (by decide);have HF:Hid (∀ w2,Below w.heap.size w w2->Truth (rowB (.node a ks)) w (.returned (.bool false)) w2):=fun w2 hb=>⟨by rw [hro],hb⟩
  clear hrec hoth hro HV HE;go_enter Tryz.func105,Tryz.ntmps105;go_wp2_with fail;rw [HW1.out];go_wp2_with fail;refine HK.out.mono ?_;rintro e w2 ⟨rfl,hb2⟩;have hb3:=HB1.out.trans (hb2.mono HB1.out.size);have HG:=hQ (HF.out (w2.alloc (.cells #[.int .i64 0,.slice none 0 0,.slice none 0 0] 167)) (hb3.alloc hb3.size _));clear x0 x1 x2 hb2 hb3 HF HK;go_wp2_with fail;go_ret;exact HG.out
 ·have a1:=Zml
  rw [show kindT 3=167 from rfl] at HK;have HR:=hQ (hrec rfl);clear hrec hoth;go_enter Tryz.func105,Tryz.ntmps105;go_wp2_with fail;rw [HW1.out];go_wp2_with fail;refine HK.out.mono ?_;rintro e w2 ⟨rfl,hb2⟩;obtain ⟨W3,hW3⟩:∃ W3,w2.alloc (.cells #[.int .i64 3,.slice L n c,.slice A m d] 167)=W3:=⟨_,rfl⟩;obtain ⟨G,hG⟩:∃ G,w2.heap.size=G:=⟨_,rfl⟩;have hx3:Box3 W3 G 167 (.int .i64 3) (.slice L n c) (.slice A m d):=by rw [<-hW3,<-hG];exact Box3.new w2 _ _ _ _
  have hb23:Below w2.heap.size w2 W3:=by rw [<-hW3];exact bQ.alloc nQ _
  have hb2':=B1.out.under hb2 B1.out.lt;have B3:=hQ (hb2'.under hb23 hb2'.lt);have hb3:=(HB1.out.trans (hb2.mono HB1.out.size));have HB3:=hQ (hb3.trans (hb23.mono hb3.size));have X3:=hQ hx3;have HW3:=hQ hW3;have HC:=hQ (HV.out W3 HB3.out);clear x0 x1 x2;have x0:=B3.out.c0;have x1:=B3.out.c1;have x2:=B3.out.c2;rw [<-hW3] at x0 x1 x2;clear hb2 hb23 hb2' hb3 hx3 hW3 HV HK;go_wp2_with fail;rw [HW3.out];refine HC.out.mono ?_;rintro e w4 ⟨rfl,hb4⟩;have HB4:=hQ (HB3.out.trans (hb4.mono HB3.out.size));have X4:=hQ (X3.out.under hb4 X3.out.lt);clear x0 x1 x2 hb4 HC;generalize Zae (.node a ks)=v at HR ⊢;cases v with
  | false=>
   have HF:Hid (Truth (rowB (.node a ks)) w (.returned (.bool false)) w4):=by rw [HR.out];exact ⟨rfl,HB4.out⟩
   go_wp2_with fail
   go_ret
   exact HF.out
  | true=>
   have HC:=hQ (HE.out w4 HB4.out);have HR2:Hid (ks.all baseB=rowB (.node a ks)):=by rw [HR.out];rfl
   have z2:=X4.out.c2;clear HR HE;go_wp2_with fail;refine HC.out.mono ?_;rintro e w5 ⟨rfl,hb5⟩;have HF:Hid (Truth (rowB (.node a ks)) w (.returned (.bool (ks.all baseB))) w5):=⟨by rw [HR2.out],HB4.out.trans (hb5.mono HB4.out.size)⟩;clear hb5 HC HR2;generalize ks.all baseB=b at HF ⊢;go_wp2_with fail;go_ret;exact HF.out
 ·have a1:=Zmm
  rw [show kindT 4=132 from rfl] at HK;have hro:=hoth (by decide);have HF:Hid (∀ w2,Below w.heap.size w w2->Truth (rowB (.node a ks)) w (.returned (.bool false)) w2):=fun w2 hb=>⟨by rw [hro],hb⟩
  clear hrec hoth hro HV HE;go_enter Tryz.func105,Tryz.ntmps105;go_wp2_with fail;rw [HW1.out];go_wp2_with fail;refine HK.out.mono ?_;rintro e w2 ⟨rfl,hb2⟩;have hb3:=HB1.out.trans (hb2.mono HB1.out.size);have HG:=hQ (HF.out (w2.alloc (.cells #[.int .i64 0,.slice none 0 0,.slice none 0 0] 167)) (hb3.alloc hb3.size _));clear x0 x1 x2 hb2 hb3 HF HK;go_wp2_with fail;go_ret;exact HG.out
 ·have a1:=Zmn
  rw [show kindT 5=168 from rfl] at HK;have hro:=hoth (by decide);have HF:Hid (∀ w2,Below w.heap.size w w2->Truth (rowB (.node a ks)) w (.returned (.bool false)) w2):=fun w2 hb=>⟨by rw [hro],hb⟩
  clear hrec hoth hro HV HE;go_enter Tryz.func105,Tryz.ntmps105;go_wp2_with fail;rw [HW1.out];go_wp2_with fail;refine HK.out.mono ?_;rintro e w2 ⟨rfl,hb2⟩;have hb3:=HB1.out.trans (hb2.mono HB1.out.size);have HG:=hQ (HF.out (w2.alloc (.cells #[.int .i64 0,.slice none 0 0,.slice none 0 0] 167)) (hb3.alloc hb3.size _));clear x0 x1 x2 hb2 hb3 HF HK;go_wp2_with fail;go_ret;exact HG.out
 ·have a1:=Zmo
  have hro:=hoth (Zoh hk).2.2.1;rw [hk] at HK;clear hk;have HF:Hid (∀ w2,Below w.heap.size w w2->Truth (rowB (.node a ks)) w (.returned (.bool false)) w2):=fun w2 hb=>⟨by rw [hro],hb⟩
  clear hrec hoth hro HV HE;go_enter Tryz.func105,Tryz.ntmps105;go_wp2_with fail;rw [HW1.out];go_wp2_with fail;refine HK.out.mono ?_;rintro e w2 ⟨rfl,hb2⟩;have hb3:=HB1.out.trans (hb2.mono HB1.out.size);have HG:=hQ (HF.out (w2.alloc (.cells #[.int .i64 0,.slice none 0 0,.slice none 0 0] 167)) (hb3.alloc hb3.size _));clear x0 x1 x2 hb2 hb3 HF HK;go_wp2_with fail;go_ret;exact HG.out
end Go.Proofs.YtlcedleebbgebaaGreatDoor
