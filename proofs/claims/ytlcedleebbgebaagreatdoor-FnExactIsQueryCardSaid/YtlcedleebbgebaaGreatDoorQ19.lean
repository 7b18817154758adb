/-
  Merged by program: SeqA, SEq, EqNode, AreTI, TypS0, ConcV, TypS1.
-/
import Derived.Test.YtlcedleebbgebaaGreatDoorQ18
set_option maxRecDepth 100000
set_option maxHeartbeats 4000000
namespace Go.Proofs.YtlcedleebbgebaaGreatDoor
open Go.RowKit
section
variable {N:Fence} {n:Nat} {P:Program}
theorem Zfg {g:Operand}{p0:Array Tmp}{assign body:Code}{Q:Exit->Act->World->Prop}{a:Act}{w:World}
  (hro:N.round=none) (h1:1<=n) {gf:Nat} {lb:Array Value} (hg:a.eval g=.func (.func gf) #[] lb) (hFg:N.fn gf) (eg:∀ args w,(callFunc gf args).run P w=.ok (.enter gf args) w)
  {M:Nat} {Rd:Nat->Array Value->Prop} {On Keep:Nat->Prop} (hsz:∀ k v,Rd k v->v.size=p0.size) (hkeep:∀ b,Keep b->b < w.heap.size)
  (hgives:∀ W,Below w.heap.size w W->W.heap.size=w.heap.size+2->Zco N (n - 1) P gf lb M Rd On Keep W)
  (I:Nat->(Nat->Prop)->World->Prop) (Ix:World->Prop) (hI:∀ k F A C,I k F A->Held (fun i=>i < w.heap.size∨F i) A C->I k F C) (hB:∀ k F A,I k F A->∀ b,F b->¬ Keep b/\b < A.heap.size)
  (hIx:∀ A C,Ix A->Held (fun i=>i≠w.heap.size+1) A C->Ix C) (F0:Nat->Prop) (h0:I 0 F0 w) (a₁:Array Value->Nat->Act) (Asg:Array Value->Nat->World->Prop) (hAsg:∀ v b A C,Asg v b A->Held (fun i=>b<=i) A C->Asg v b C)
  (hassign:∀ (l k:Nat) (v:Array Value) (W:World) (K:Act->World->Prop),Rd k v->(∀ Wa,Asg v W.heap.size Wa->Below W.heap.size W Wa->K (a₁ v W.heap.size) Wa)->
   assign.wpIn (N.inRound l) (n - 1 - 1) P (Exit.then K (fun _ _ _=>False)) { tmps:=(p0.zip v).foldl (fun tmps (t,u)=>tmps.setIfInBounds t u) a.tmps,defers:=[] } W)
  (hbody:∀ (l k:Nat) (s:Array Value) (F:Nat->Prop) (W:World) (b:Nat),k < M->I k F W->Rd k s->Asg s b W->w.heap.size+2<=b->b<=W.heap.size->(∀ i,F i->i < b)->¬ F w.heap.size->¬ F (w.heap.size+1)->body.wpIn (N.inRound l) (n - 1 - 1) P (Zay On I Ix k F W) (a₁ s b) W)
  (hdone:∀ F W,I M F W->W.heap[w.heap.size]?=some (.deferred (some []))->Q .normal { a with defers:={ target:=.collected w.heap.size,args:=#[] } :: a.defers } W)
  (hstop:∀ W,Ix W->W.heap[w.heap.size]?=some (.deferred (some []))->Code.ret.wpIn N n P Q { a with defers:={ target:=.collected w.heap.size,args:=#[] } :: a.defers } W) :
  (Code.rangeFunc g p0 assign body).wpIn N n P Q a w:=by
 refine wpIn_rangeFunc ?_
 intro fn hfn
 rw [hro]
 -- the loop's record,in each of its states
 obtain ⟨R,hR⟩:∃ R:LoopState->Option Code->Loop,R=fun st pe=>{ state:=st,pending:=pe,fn,tmps:=a.tmps,params:=p0,assign,body,defers:=w.heap.size }:=⟨_,rfl⟩
 obtain ⟨D,hD⟩:∃ D,w.heap.size=D:=⟨_,rfl⟩;obtain ⟨W1,hW1⟩:∃ W1,(w.alloc (.deferred (some []))).alloc (.loop (R .ready none))=W1:=⟨_,rfl⟩;have hb1:Below D w W1:=by rw [<-hW1,<-hD];exact ((Below.refl _ w).alloc nQ _).alloc (by simp) _
 have hz1:W1.heap.size=D+2:=by rw [<-hW1,<-hD];simp
 have hrec:W1.heap[D+1]?=some (.loop (R .ready none)):=by
  rw [<-hW1,<-hD];have:=World.alloc_heap_new (w.alloc (.deferred (some []))) (.loop (R .ready none));rwa [World.size_alloc] at this
 have hdef:W1.heap[D]?=some (.deferred (some [])):=by
  rw [<-hW1,<-hD];exact (Below.heap_alloc _ _ _ (by simp)).trans (World.alloc_heap_new w _)
 have hGV:=hgives W1 (by rw [hD];exact hb1) (by rw [hD];exact hz1);have hent:=run_enterLoop_outer (P:=P) (w:=w) fn a.tmps p0 assign body;have hRe:(.loop { state:=.ready,pending:=none,fn,tmps:=a.tmps,params:=p0,assign,body,defers:=w.heap.size }:Obj)=.loop (R .ready none):=by rw [hR]
 rw [hRe,hW1,hD] at hent;have hF0:=hB _ _ _ h0;rw [hD] at hkeep hI hIx hbody hdone hstop hF0;refine ⟨D+1,[{ target:=.collected D,args:=#[] }],W1,{ target:=.fn (.func gf) lb,args:=#[.func (.yield (D+1)) #[] #[]] },W1,gf,#[.func (.yield (D+1)) #[] #[]] ++ lb,W1,hent,?_,?_,?_,fun _=>h1,?_⟩
 ·simp only [resolve,hg]
  simp [go_sem]
 ·intro f' hf';simp [Target.leads] at hf';subst hf';exact hFg
 ·simp [invoke,go_sem,eg]
 -- what the rounds keep: the client's own,and the loop's record
 obtain ⟨J,hJd⟩:∃ J:Nat->(Nat->Prop)->World->Prop,J=fun S F W=>∃ G:Nat->Prop,(∀ b,F b↔(G b∨b=D∨b=D+1))/\¬ G D/\¬ G (D+1)/\D+2<=W.heap.size/\I S G W/\W.heap[D+1]?=some (.loop (R .ready none))/\W.heap[D]?=some (.deferred (some [])):=⟨_,rfl⟩
 refine (hGV (D+1) J (fun W=>Ix W/\W.heap[D+1]?=some (.loop (R .done (some .ret)))/\W.heap[D]?=some (.deferred (some []))) ?_ ?_ ?_ ?_).mono ?_
 ·rw [hJd]
  rintro S F A C ⟨G,hG,g1,g2,hz,hi,hl,hd⟩ hb;exact ⟨G,hG,g1,g2,Nat.le_trans hz hb.size,hI _ _ _ _ hi (hb.mono fun i _ h=>h.imp (fun h=>by rw [hz1];omega) fun h=>(hG i).2 (.inl h)),(hb.block _ (by omega) (.inr ((hG _).2 (.inr (.inr rfl))))).trans hl,(hb.block _ (by omega) (.inr ((hG _).2 (.inr (.inl rfl))))).trans hd⟩
 ·rw [hJd]
  rintro S F A ⟨G,hG,g1,g2,hz,hi,hl,hd⟩ b hb
  rcases (hG b).1 hb with h|h|h
  ·exact hB _ _ _ hi b h
  ·subst h;exact ⟨fun h=>by have:=hkeep _ h;omega,by omega⟩
  ·subst h;exact ⟨fun h=>by have:=hkeep _ h;omega,by omega⟩
 ·rw [hJd]
  rintro k s F W hkM ⟨G,hG,g1,g2,hz,hi,hl,hd⟩ hrd;have hlt:D+1 < W.heap.size:=by omega
  have hy:(Instr.yield (D+1) s).run P W=.ok (.round (D+1) fn ((p0.zip s).foldl (fun tmps (t,u)=>tmps.setIfInBounds t u) a.tmps) assign body) W:=by
   rw [run_yield (P:=P) (args:=s) hl (by rw [hR];exact hsz k s hrd),hR]
  refine ⟨fn,_,assign,body,hy,roundIn_of_wpIn hfn (hassign _ k s W _ hrd fun Wa hasg hba=>?_)⟩;have hla:Wa.heap[D+1]?=some (.loop (R .ready none)):=(hba.block _ hlt).trans hl;have hda:Wa.heap[D]?=some (.deferred (some [])):=(hba.block _ (by omega)).trans hd;have hsa:=hba.size;refine ⟨_,run_beginRound hla (by rw [hR]),?_⟩;clear hy;obtain ⟨W2,hW2⟩:∃ W2,Wa.putObj (D+1) (.loop { R .ready none with state:=.busy })=W2:=⟨_,rfl⟩;have hl2:W2.heap[D+1]?=some (.loop { R .ready none with state:=.busy }):=by rw [<-hW2];exact World.putObj_heap_same (by omega)
  have hd2:W2.heap[D]?=some (.deferred (some [])):=by rw [<-hW2];exact (World.putObj_heap_other (by omega)).trans hda
  have hz2:W2.heap.size=Wa.heap.size:=by rw [<-hW2];simp
  have hap:∀ K:Nat->Prop,¬ K (D+1)->Held K Wa W2:=fun K hK=>by rw [<-hW2];exact Held.put Wa hK
  have hall:∀ K:Nat->Prop,Held K W Wa:=fun K=>Held.of_below hba fun i hi _=>hi
  have hnot:¬ (D+1 < D∨G (D+1)):=fun h=>h.elim (fun h=>by omega) g2
  rw [hW2];refine wpIn_mono (hbody _ k s G W2 W.heap.size hkM (hI _ _ _ _ hi ((hall _).trans (hap _ hnot))) hrd (hAsg _ _ _ _ hasg (hap _ (by omega))) (by omega) (by omega) (fun i hgi=>(hB _ _ _ hi i hgi).2) g1 g2) ?_;rintro e a3 W3 hp;have fin:∀ (jump:Option Code),Held (fun i=>¬ G i) W2 W3->(Instr.endRound (D+1) jump).run P W3=.ok (.bool jump.isNone) (W3.putObj (D+1) (.loop (R (if jump.isNone then .ready else .done) jump)))/\
    (W3.putObj (D+1) (.loop (R (if jump.isNone then .ready else .done) jump))).heap[D+1]?=some (.loop (R (if jump.isNone then .ready else .done) jump))/\
    (W3.putObj (D+1) (.loop (R (if jump.isNone then .ready else .done) jump))).heap[D]?=some (.deferred (some [])):=by
   intro jump h3
   have hlt2:D+1 < W2.heap.size:=(Array.getElem?_eq_some_iff.1 hl2).1;have hl3:=(h3.block (D+1) hlt2 g2).trans hl2;have hr3:=run_endRound (P:=P) jump hl3;rw [hR] at hr3 ⊢;exact ⟨hr3,World.putObj_heap_same (Array.getElem?_eq_some_iff.1 hl3).1,(World.putObj_heap_other (by omega)).trans ((h3.block D (by omega) g1).trans hd2)⟩
  cases e with
  | normal=>
   obtain ⟨hon,h3,G',hG',hi3⟩:=hp;obtain ⟨hr,hl4,hd4⟩:=fin none h3;have n1:¬ G' D:=fun h=>(hG' D h).elim g1 (fun h=>by omega)
   have n2:¬ G' (D+1):=fun h=>(hG' (D+1) h).elim g2 (fun h=>by omega)
   have hnot':¬ (D+1 < D∨G' (D+1)):=fun h=>h.elim (fun h=>by omega) n2
   have hz3:=h3.size;refine ⟨_,_,hr,.inl ⟨rfl,hon,?_,fun b=>G' b∨b=D∨b=D+1,fun b hb=>?_,G',fun b=>Iff.rfl,n1,n2,by simp;omega,hI _ _ _ _ hi3 (Held.put W3 hnot'),hl4,hd4⟩⟩
   ·refine ((hall _).trans (hap _ (fun h=>h ((hG _).2 (.inr (.inr rfl)))))).trans ((h3.mono (fun i _ h=>fun hg=>h ((hG i).2 (.inl hg)))).trans (Held.put W3 (fun h=>h ((hG _).2 (.inr (.inr rfl))))))
   ·rcases hb with h|h|h
    ·rcases hG' b h with h|h
     ·exact .inl ((hG b).2 (.inl h))
     ·exact .inr (by omega)
    ·exact .inl ((hG b).2 (.inr (.inl h)))
    ·exact .inl ((hG b).2 (.inr (.inr h)))
  | ret=>
   obtain ⟨h3,hi3⟩:=hp;obtain ⟨hr,hl4,hd4⟩:=fin (some .ret) h3;exact ⟨_,_,hr,.inr ⟨rfl,hIx _ _ hi3 (Held.put W3 (fun h=>h rfl)),hl4,hd4⟩⟩
  | exit _=>exact hp.elim
  | goto _=>exact hp.elim
  | panic _=>exact hp.elim
  | outgrown=>exact hp.elim
 ·rw [hJd]
  refine ⟨fun b=>F0 b∨b=D∨b=D+1,F0,fun b=>Iff.rfl,fun h=>by have:=(hF0 _ h).2;omega,fun h=>by have:=(hF0 _ h).2;omega,by omega,hI _ _ _ _ h0 (Held.of_below hb1 (fun i hi _=>by omega)),hrec,hdef⟩
 ·rw [hJd]
  rintro e W2 ⟨⟨v,rfl⟩,(⟨F,G,hG,g1,g2,hz,hi,hl,hd⟩|⟨hi,hl,hd⟩)⟩
  ·exact ⟨none,_,by have:=run_endLoop (P:=P) hl (by rw [hR];simp);rw [hR] at this;exact this,by rw [hD];exact hdone G _ (hI _ _ _ _ hi (Held.put W2 (fun h=>h.elim (fun h=>by omega) g2))) ((World.putObj_heap_other (by omega)).trans hd)⟩
  ·exact ⟨some .ret,_,by have:=run_endLoop (P:=P) hl (by rw [hR];simp);rw [hR] at this;exact this,by rw [hD];exact hstop _ (hIx _ _ hi (Held.put W2 (fun h=>h rfl))) ((World.putObj_heap_other (by omega)).trans hd)⟩
end
theorem Zael (A B:Option Addr)(c d:Nat)(xs ys:List ByteArray)(w:World)(hA:Sl w A (xs.map Value.string))(hB:Sl w B (ys.map Value.string))(hn:xs.length<=9223372036854775807) :
  Calls Tryz.prog 162 #[.slice A xs.length c,.slice B ys.length d] w (Tells (same xs ys) w):=by
 by_cases hl:xs.length=ys.length
 ·have HL:=hQ hl
  rw [<-hl];clear hl;go_enter Tryz.func162,Tryz.ntmps162;go_wp2_with fail;go_loopw [13] (fun i wr=>∃ k:Nat,k<=xs.length/\i=.int .i64 k/\EqTo xs ys k/\∃ n,wr=w.drewN n) (fun i _=>xs.length - (intOf i).toNat)
  case atStart=>exact ⟨0,Nat.zero_le _,rfl,Zjq _ _,0,rfl⟩
  case round=>
   obtain ⟨k,hk,rfl,hno,n,rfl⟩:=hrel;by_cases hlt:k < xs.length
   ·have hlt2:k < ys.length:=by have:=HL.out;omega
    obtain ⟨ad,rfl,hc⟩:=hA k (.string xs[k]) (by simp [hlt]);obtain ⟨bd,rfl,hd⟩:=hB k (.string ys[k]) (by simp [hlt2]);by_cases hx:xs[k]=ys[k]
    ·have HN:=hQ (Zjp hno hlt hlt2 hx)
     rw [<-hx] at hd;clear hx hno;go_wp2;go_quiet (fail);go_wp2;go_roundw
     case rel=>exact ⟨k+1,by omega,by go_num,HN.out,_,rfl⟩
     case measure=>simp [intOf];omega
    ·have HR:=hQ (Zfx (ne_at hlt hlt2 hx))
     have hb:=(Lib.bytes_beq_false_iff xs[k] ys[k]).2 hx;clear hx hno;go_wp2;go_quiet (fail);go_wp2;go_ret;exact ⟨Zce HR.out.symm,_,World.drewN_drewN _ _ _⟩
   ·have he:k=xs.length:=by omega
    have HR:=hQ (Zhr (Zmr (he ▸ hno) HL.out));clear he hno;go_wp2_with fail;go_ret;exact ⟨Zce HR.out.symm,n,rfl⟩
 ·have HR:=hQ (Zfx (x:=xs) (y:=ys) (fun e=>hl (by rw [e])))
  go_enter Tryz.func162,Tryz.ntmps162
  go_wp2_with fail
  go_ret
  exact ⟨Zce HR.out.symm,0,rfl⟩
noncomputable def nodeB (t s:Ty):Bool:=decide (t.top.kind=s.top.kind) && (same t.top.labels s.top.labels && decide (t.kids.length=s.kids.length))
theorem Zaap (t s:Ty)(w:World)(cs ds:List Value)(h:RTy w t cs)(h':RTy w s ds):Calls Tryz.prog 151 #[.agg cs.toArray,.agg ds.toArray] w (Truth (nodeB t s) w):=by
 obtain ⟨a,ks⟩:=t;obtain ⟨b,js⟩:=s;obtain ⟨L,c,A,d,rfl,k1,_,_,k4,_,k6,_⟩:=h.out;obtain ⟨M,c',B,d',rfl,j1,_,_,j4,_,j6,_⟩:=h'.out;obtain ⟨W1,hW1⟩:∃ W1,(w.alloc (.cells #[.int .i64 a.kind,.slice L a.labels.length c,.slice A ks.length d] 38)).alloc (.cells #[.int .i64 b.kind,.slice M b.labels.length c',.slice B js.length d'] 38)=W1:=⟨_,rfl⟩;obtain ⟨H,hH⟩:∃ H,w.heap.size=H:=⟨_,rfl⟩;have b0:Box3 W1 H 38 (.int .i64 a.kind) (.slice L a.labels.length c) (.slice A ks.length d):=by rw [<-hW1,<-hH];exact (Box3.new w _ _ _ _).alloc _
 have b1:Box3 W1 (H+1) 38 (.int .i64 b.kind) (.slice M b.labels.length c') (.slice B js.length d'):=by
  rw [<-hW1,<-hH]
  have:=Box3.new (w.alloc (.cells #[.int .i64 a.kind,.slice L a.labels.length c,.slice A ks.length d] 38)) 38 (.int .i64 b.kind) (.slice M b.labels.length c') (.slice B js.length d')
  simpa using this
 have hb1:Below w.heap.size w W1:=by rw [<-hW1];exact (bQ.alloc nQ _).alloc (by simp) _
 have HC:=hQ (Zael L M c c' a.labels b.labels W1 (k1.below hb1) (j1.below hb1) k4);have hnode:nodeB (.node a ks) (.node b js)=(decide (a.kind=b.kind) && (same a.labels b.labels && decide (ks.length=js.length))):=rfl;generalize hnb:nodeB (.node a ks) (.node b js)=r at hnode ⊢;generalize a.labels.length=n1 at HC hW1 b0 k4 ⊢;generalize b.labels.length=n2 at HC hW1 b1 j4 ⊢;generalize same a.labels b.labels=sl at HC hnode;generalize ks.length=m1 at hW1 b0 hnode k6 ⊢;generalize js.length=m2 at hW1 b1 hnode j6 ⊢;generalize a.kind=q1 at hW1 b0 hnode ⊢;generalize b.kind=q2 at hW1 b1 hnode ⊢;have HW1:=hQ hW1;have HB1:=hQ hb1;have B0:=hQ b0;have B1:=hQ b1;have HN:=hQ hnode;have x0:W1.cell? ⟨H,0,none⟩=some (.int .i64 q1):=b0.c0;have x1:W1.cell? ⟨H,1,none⟩=some (.slice L n1 c):=b0.c1;have x2:W1.cell? ⟨H,2,none⟩=some (.slice A m1 d):=b0.c2;have y0:W1.cell? ⟨H+1,0,none⟩=some (.int .i64 q2):=b1.c0;have y1:W1.cell? ⟨H+1,1,none⟩=some (.slice M n2 c'):=b1.c1;have y2:W1.cell? ⟨H+1,2,none⟩=some (.slice B m2 d'):=b1.c2;clear h h' k1 j1 hW1 hb1 b0 b1 hnode hnb;by_cases hk:q1=q2
 ·have ek:(q1 == q2)=true:=beq_iff_eq.2 hk
  have HN2:Hid (r=(sl && decide (m1=m2))):=hQ (by rw [HN.out,decide_eq_true hk,Bool.true_and]);clear hk HN;cases sl with
  | false=>
   have HF:Hid (∀ i,Truth r w (.returned (.bool false)) (World.drewN W1 i)):=fun i=>⟨by rw [HN2.out];rfl,Zab HB1.out i⟩
   clear HN2;go_enter Tryz.func151,Tryz.ntmps151;go_wp2_with fail;rw [HW1.out];refine HC.out.mono ?_;rintro e w2 ⟨rfl,i,rfl⟩;have u2:(World.drewN W1 i).cell? ⟨H,2,none⟩=some (.slice A m1 d):=B0.out.c2;have v2:(World.drewN W1 i).cell? ⟨H+1,2,none⟩=some (.slice B m2 d'):=B1.out.c2;go_wp2_with fail;go_ret;exact HF.out _
  | true=>
   have HE:Hid (r=((m1:Int) == (m2:Int))):=hQ (by
    rw [HN2.out,Bool.true_and];by_cases h:m1=m2
    ·subst h;simp
    ·have h':(m1:Int)≠(m2:Int):=by omega
     rw [decide_eq_false h,beq_eq_false_iff_ne.2 h'])
   have HF:Hid (∀ i,Truth r w (.returned (.bool ((m1:Int) == (m2:Int)))) (World.drewN W1 i)):=fun i=>⟨by rw [HE.out],Zab HB1.out i⟩
   clear HN2 HE;go_enter Tryz.func151,Tryz.ntmps151;go_wp2_with fail;rw [HW1.out];refine HC.out.mono ?_;rintro e w2 ⟨rfl,i,rfl⟩;have u2:(World.drewN W1 i).cell? ⟨H,2,none⟩=some (.slice A m1 d):=B0.out.c2;have v2:(World.drewN W1 i).cell? ⟨H+1,2,none⟩=some (.slice B m2 d'):=B1.out.c2;go_wp2_with fail;go_ret;exact HF.out _
 ·have ek:(q1 == q2)=false:=beq_eq_false_iff_ne.2 hk
  have HF:Hid (Truth r w (.returned (.bool false)) W1):=hQ ⟨by rw [HN.out,decide_eq_false hk];rfl,HB1.out⟩;clear hk HN HC;go_enter Tryz.func151,Tryz.ntmps151;go_wp2_with fail;rw [HW1.out];go_wp2_with fail;go_ret;exact HF.out
end Go.Proofs.YtlcedleebbgebaaGreatDoor
namespace Go.Proofs.YtlcedleebbgebaaGreatDoor
open Go.RowKit Go.Shelf
attribute [local go_sem] Oper.semAt_some
theorem Zkf (x y:Ty):nodeB x y=true↔x.top=y.top/\x.kids.length=y.kids.length:=by
 unfold nodeB;rw [Bool.and_eq_true,Bool.and_eq_true,decide_eq_true_iff,decide_eq_true_iff,Zng]
 constructor
 ·rintro ⟨h1,h2,h3⟩
  refine ⟨?_,h3⟩;cases hx:x.top;cases hy:y.top;rw [hx,hy] at h1 h2;simp only at h1 h2;rw [h1,h2]
 ·rintro ⟨h1,h2⟩
  exact ⟨by rw [h1],by rw [h1],h2⟩
def Zrj (c0 c1 c2 d0 d1 d2:Value)(w:World)(e:Ending)(w':World):Prop:=
 e=.returned (.func (.func 166) #[] #[.pointer (some ⟨w.heap.size,0,none⟩),.pointer (some ⟨w.heap.size+1,0,none⟩),.pointer (some ⟨w.heap.size+2,0,none⟩)])/\w'=((w.alloc (.cells #[c0,c1,c2] 38)).alloc (.cells #[d0,d1,d2] 38)).alloc (.cells #[.func (.func 87) #[] #[]] 127)
theorem Zuj (c0 c1 c2 d0 d1 d2:Value)(w:World):Calls Tryz.prog 161 #[.agg #[c0,c1,c2],.agg #[d0,d1,d2],.func (.func 87) #[] #[]] w (Zrj c0 c1 c2 d0 d1 d2 w):=by
 have hR:Hid (Zrj c0 c1 c2 d0 d1 d2 w (.returned (.func (.func 166) #[] #[.pointer (some ⟨w.heap.size,0,none⟩),.pointer (some ⟨w.heap.size+1,0,none⟩),.pointer (some ⟨w.heap.size+2,0,none⟩)])) (((w.alloc (.cells #[c0,c1,c2] 38)).alloc (.cells #[d0,d1,d2] 38)).alloc (.cells #[.func (.func 87) #[] #[]] 127))):=⟨rfl,rfl⟩;go_enter Tryz.func161,Tryz.ntmps161;go_wp2_with fail;go_ret;exact hR.out
def AreIT (a b:Ty)(w:World)(H k:Nat)(F:Nat->Prop)(W:World):Prop:=
 F=(fun q=>q=H+3)/\Boxed W (H+3) 4 (.bool false)/\Boxed W (H+2) 51 (.func (.func 151) #[] #[])/\Below w.heap.size w W/\∀ j p,j < k->(pre2 a b)[j]?=some p->nodeB p.1 p.2=true
theorem AreIT.keep {a b:Ty}{w A C:World}{H k D:Nat}{F:Nat->Prop}(h:AreIT a b w H k F A)(hh:Held (fun i=>i < D∨F i) A C)(hD:w.heap.size<=D)(hHD:H+3 < D):AreIT a b w H k F C:=by
 obtain ⟨rfl,h1,h2,h3,h4⟩:=h;exact ⟨rfl,(hh.block _ h1.lt (.inr rfl)).trans h1,(hh.block _ h2.lt (.inl (by omega))).trans h2,h3.trans (hh.below h3.size fun i hi=>.inl (by omega)),h4⟩
def AreXT (a b:Ty)(w:World)(H:Nat)(W:World):Prop:=Boxed W (H+3) 4 (.bool false)/\Below w.heap.size w W/\a≠b
def Asg2T (v:Array Value)(q:Nat)(W:World):Prop:=∃ cs ds,v=#[.agg cs,.agg ds]/\W.heap[q]?=some (.cells cs 38)/\W.heap[q+1]?=some (.cells ds 38)
theorem Asg2T.held {v:Array Value}{q:Nat}{A C:World}(h:Asg2T v q A)(hh:Held (fun i=>q<=i) A C):Asg2T v q C:=by
 obtain ⟨cs,ds,h1,h2,h3⟩:=h;exact ⟨cs,ds,h1,(hh.block q (Array.getElem?_eq_some_iff.1 h2).1 nQ).trans h2,(hh.block _ (Array.getElem?_eq_some_iff.1 h3).1 (Nat.le_succ _)).trans h3⟩
theorem Zzd (a b:Ty)(w:World)(cs ds:List Value)(h:RTy w a cs)(h':RTy w b ds)(hs:a.size<=1048577):Calls Tryz.prog 150 #[.agg cs.toArray,.agg ds.toArray,.func (.func 87) #[] #[],.func (.func 151) #[] #[]] w (Truth (same a b) w):=by
 obtain ⟨c0,c1,c2,rfl⟩:=h.three;obtain ⟨d0,d1,d2,rfl⟩:=h'.three;obtain ⟨H,hH⟩:∃ H,w.heap.size=H:=⟨_,rfl⟩;obtain ⟨W1,hW1⟩:∃ W1,(((w.alloc (.cells #[c0,c1,c2] 38)).alloc (.cells #[d0,d1,d2] 38)).alloc (.cells #[.func (.func 151) #[] #[]] 51)).alloc (.cells #[.bool false] 4)=W1:=⟨_,rfl⟩;have hz1:W1.heap.size=H+4:=by rw [<-hW1,<-hH];simp
 have hb1:Below w.heap.size w W1:=by rw [<-hW1];exact (((bQ.alloc nQ _).alloc (by simp) _).alloc (by simp;omega) _).alloc (by simp;omega) _
 have hxa:Box3 W1 H 38 c0 c1 c2:=by rw [<-hW1,<-hH];exact (((Box3.new w 38 c0 c1 c2).alloc _).alloc _).alloc _
 have hxb:Box3 W1 (H+1) 38 d0 d1 d2:=by
  rw [<-hW1,<-hH]
  have:=((Box3.new (w.alloc (.cells #[c0,c1,c2] 38)) 38 d0 d1 d2).alloc (.cells #[.func (.func 151) #[] #[]] 51)).alloc (.cells #[.bool false] 4)
  rw [World.size_alloc] at this;exact this
 have hxq:Boxed W1 (H+2) 51 (.func (.func 151) #[] #[]):=by
  rw [<-hW1,<-hH]
  have:=(Boxed.new ((w.alloc (.cells #[c0,c1,c2] 38)).alloc (.cells #[d0,d1,d2] 38)) 51 (.func (.func 151) #[] #[])).alloc (.cells #[.bool false] 4)
  rw [World.size_alloc,World.size_alloc] at this;exact this
 have hxr:Boxed W1 (H+3) 4 (.bool false):=by
  rw [<-hW1,<-hH]
  have:=Boxed.new (((w.alloc (.cells #[c0,c1,c2] 38)).alloc (.cells #[d0,d1,d2] 38)).alloc (.cells #[.func (.func 151) #[] #[]] 51)) 4 (.bool false)
  rw [World.size_alloc,World.size_alloc,World.size_alloc] at this;exact this
 have HP:=hQ (Zuj c0 c1 c2 d0 d1 d2 W1);obtain ⟨W3,hW3⟩:∃ W3,((W1.alloc (.cells #[c0,c1,c2] 38)).alloc (.cells #[d0,d1,d2] 38)).alloc (.cells #[.func (.func 87) #[] #[]] 127)=W3:=⟨_,rfl⟩;have hz3:W3.heap.size=H+7:=by rw [<-hW3];simp;omega
 have hb3:Below W1.heap.size W1 W3:=by rw [<-hW3];exact ((bQ.alloc nQ _).alloc (by simp) _).alloc (by simp;omega) _
 have hya:Box3 W3 (H+4) 38 c0 c1 c2:=by
  rw [<-hW3,<-hz1];exact ((Box3.new W1 38 c0 c1 c2).alloc _).alloc _
 have hyb:Box3 W3 (H+4+1) 38 d0 d1 d2:=by
  rw [<-hW3,<-hz1]
  have:=(Box3.new (W1.alloc (.cells #[c0,c1,c2] 38)) 38 d0 d1 d2).alloc (.cells #[.func (.func 87) #[] #[]] 127)
  rw [World.size_alloc] at this;exact this
 have hyf:Boxed W3 (H+4+2) 127 (.func (.func 87) #[] #[]):=by
  rw [<-hW3,<-hz1]
  have:=Boxed.new ((W1.alloc (.cells #[c0,c1,c2] 38)).alloc (.cells #[d0,d1,d2] 38)) 127 (.func (.func 87) #[] #[])
  rw [World.size_alloc,World.size_alloc] at this;exact this
 have hb13:Below w.heap.size w W3:=hb1.trans (hb3.mono hb1.size);have hI0:AreIT a b w H 0 (fun q=>q=H+3) W3:=⟨rfl,(hb3.block _ (by omega)).trans hxr,(hb3.block _ (by omega)).trans hxq,hb13,fun j p hj=>by omega⟩;obtain ⟨Keep,hKeep⟩:∃ Keep:Nat->Prop,Keep=fun q=>q < w.heap.size∨q=H+4∨q=H+4+1∨q=H+4+2:=⟨_,rfl⟩
 have hkW:∀ q,Keep q->q < W3.heap.size:=by rw [hKeep];rintro q (h|h|h|h) <;> omega
 have HG:Hid (∀ W,Below W3.heap.size W3 W->Zco Fence.wide (9 - 1) Tryz.prog 166 #[.pointer (some ⟨H+4,0,none⟩),.pointer (some ⟨H+4+1,0,none⟩),.pointer (some ⟨H+4+2,0,none⟩)] (pre2 a b).length (PRdN (RTy w) a b) (POn a b) Keep W):=hQ (fun W hW=>
  Znf w a b c0 c1 c2 d0 d1 d2 h h' hs (9 - 1) (H+4) (by decide) Keep (fun q hq=>by rw [hKeep];exact .inl hq) (by rw [hKeep];exact .inr (.inr (.inr rfl))) W (fun q hq=>by have:=hkW q hq;have:=hW.size;omega)
   (hb13.trans (hW.mono hb13.size)) ((hW.block _ (by omega)).trans hya) ((hW.block _ (by omega)).trans hyb) ((hW.block _ (by omega)).trans hyf))
 have HKW:=hQ hkW;have HKE:=hQ hKeep;have HI0:=hQ hI0;have HW1:=hQ hW1;have HW3:=hQ hW3;have HZ1:=hQ hz1;have HZ3:=hQ hz3;have HH:=hQ hH;have x0:=hxa.c0;have x1:=hxa.c1;have x2:=hxa.c2;have y0:=hxb.c0;have y1:=hxb.c1;have y2:=hxb.c2;clear h h' hs hW1 hz1 hb1 hxa hxb hxq hxr hW3 hz3 hb3 hya hyb hyf hb13 hI0 hKeep hkW hH;refine (callsIn_wide (n:=9)).1 ?_;refine callsIn_of_wp_marks Tryz.func150 rfl trivial ?_ rfl;simp only [Tryz.ntmps150,List.size_toArray,List.length_cons,List.length_nil,Nat.reduceAdd,Nat.reduceSub,Array.replicate_succ,Array.replicate_zero,List.push_toArray,List.append_toArray,List.nil_append,List.cons_append];have hHz:=HH.out
 gi_wp2
 rw [HW1.out]
 gi_wp2_with (refine ⟨trivial,?_⟩;gi_at_call 161;refine (callsIn_wide.2 HP.out).mono ?_;rintro e w3 ⟨rfl,hw3⟩;rw [HW3.out] at hw3;subst hw3;rw [HZ1.out])
 have hz3:=HZ3.out;have hz1:=HZ1.out;refine Zfg (n:=9) (w:=w3) rfl (by decide) (gf:=166) (lb:=#[.pointer (some ⟨H+4,0,none⟩),.pointer (some ⟨H+4+1,0,none⟩),.pointer (some ⟨H+4+2,0,none⟩)]) rfl trivial (enters_of Tryz.func166 (by kernel_rfl) rfl)
  (M:=(pre2 a b).length) (Rd:=PRdN (RTy w) a b) (On:=POn a b) (Keep:=Keep) (fun _ _ h=>h.size) HKW.out (fun W hW hz=>HG.out W hW)
  (AreIT a b w H) (AreXT a b w H) (fun k F A C hi hh=>hi.keep hh (by omega) (by omega)) (fun k F A hi q hq=>?bnd) (fun A C hx hh=>?keepX) _ HI0.out
  (fun v q=>{ tmps:=#[.agg #[c0,c1,c2],.agg #[d0,d1,d2],.func (.func 87) #[] #[],.func (.func 151) #[] #[],.pointer (some ⟨H,0,none⟩),.pointer (some ⟨H+1,0,none⟩),undef,.pointer (some ⟨H+2,0,none⟩),.pointer (some ⟨H+3,0,none⟩),.pointer (some ⟨q,0,none⟩),.pointer (some ⟨q+1,0,none⟩),.agg #[c0,c1,c2],.agg #[d0,d1,d2],.func (.func 87) #[] #[],.func (.func 166) #[] #[.pointer (some ⟨H+4,0,none⟩),.pointer (some ⟨H+4+1,0,none⟩),.pointer (some ⟨H+4+2,0,none⟩)],v.getD 0 undef,v.getD 1 undef,undef,undef,undef,undef,undef],defers:=[] }) Asg2T (fun _ _ _ _ h hh=>h.held hh) ?assign ?body ?done ?stop
 case bnd=>
  obtain ⟨rfl,h1,_⟩:=hi;have e:q=H+3:=hq;subst e;rw [HKE.out];exact ⟨by omega,h1.lt⟩
 case keepX=>
  exact ⟨(hh.block _ hx.1.lt (by omega)).trans hx.1,hx.2.1.trans (hh.below hx.2.1.size fun i hi=>by omega),hx.2.2⟩
 case assign=>
  rintro l k v W K ⟨x,y,cx,cy,hat,rfl,hrx,hry⟩ hK;obtain ⟨e0,e1,e2,rfl⟩:=hrx.three;obtain ⟨f0,f1,f2,rfl⟩:=hry.three;obtain ⟨A',d',rfl,_⟩:=Zhj hrx;obtain ⟨B',b',rfl,_⟩:=Zhj hry;obtain ⟨ek,eL,el,elc,rfl,rfl⟩:=Zhk hrx;obtain ⟨jk,jL,jl,jlc,rfl,rfl⟩:=Zhk hry;have hal:Below W.heap.size W ((W.alloc (.cells #[.int .i64 ek,.slice eL el elc,.slice A' x.kids.length d'] 38)).alloc (.cells #[.int .i64 jk,.slice jL jl jlc,.slice B' y.kids.length b'] 38)):=(bQ.alloc nQ _).alloc (by simp) _;have hn2:=World.alloc_heap_new (W.alloc (.cells #[.int .i64 ek,.slice eL el elc,.slice A' x.kids.length d'] 38)) (.cells #[.int .i64 jk,.slice jL jl jlc,.slice B' y.kids.length b'] 38);rw [World.size_alloc] at hn2;have hn1:=((Below.refl _ (W.alloc (.cells #[.int .i64 ek,.slice eL el elc,.slice A' x.kids.length d'] 38))).alloc nQ (.cells #[.int .i64 jk,.slice jL jl jlc,.slice B' y.kids.length b'] 38)).block W.heap.size (by simp);have HK:=hQ (hK _ ⟨_,_,rfl,hn1.trans (World.alloc_heap_new W (.cells #[.int .i64 ek,.slice eL el elc,.slice A' x.kids.length d'] 38)),hn2⟩ hal);clear hK hrx hry hat hal hn1 hn2
  gi_wp2
  simpa using HK.out
 case body=>
  rintro l k s F W q hk ⟨rfl,h1,h2,h3,h4⟩ ⟨x,y,cx,cy,hat,rfl,hrx,hry⟩ ⟨cs',ds',eq1,hc1,hc2⟩ hq1 hq2 _ _ _;have e2:cx.toArray=cs'/\cy.toArray=ds':=by
   simp only [Array.mk.injEq,List.cons.injEq,Value.agg.injEq,and_true] at eq1;exact eq1
  obtain ⟨rfl,rfl⟩:=e2;have HN:=hQ (Zaap x y W _ _ (hrx.keep h3) (hry.keep h3));obtain ⟨e0,e1,e2,rfl⟩:=hrx.three;obtain ⟨f0,f1,f2,rfl⟩:=hry.three;have bx:Box3 W q 38 e0 e1 e2:=hc1;have by0:Box3 W (q+1) 38 f0 f1 f2:=hc2;have x0:=bx.c0;have x1:=bx.c1;have x2:=bx.c2;have y0:=by0.c0;have y1:=by0.c1;have y2:=by0.c2;have hq:=h2.cell;obtain ⟨r,hr⟩:∃ r,nodeB x y=r:=⟨_,rfl⟩;rw [hr] at HN;have HI:Hid (r=true->∀ W',Below W.heap.size W W'->Zay (POn a b) (AreIT a b w H) (AreXT a b w H) k (fun q=>q=H+3) W .normal { tmps:=#[],defers:=[] } W'):=hQ (by
   rintro rfl W' hb';refine ⟨fun x' y' hat'=>?_,Held.of_below hb' fun i hi _=>hi,fun q=>q=H+3,fun q hq=>.inl hq,rfl,(hb'.block _ h1.lt).trans h1,(hb'.block _ h2.lt).trans h2,h3.trans (hb'.mono h3.size),fun j p hj hp=>?_⟩
   ·rw [hat] at hat'
    injection hat' with hat'
    injection hat' with e1 e2
    subst e1 e2;exact ((Zkf _ _).1 hr).2
   ·by_cases e:j=k
    ·subst e
     rw [hat] at hp;injection hp with hp
     rw [<-hp];exact hr
    ·exact h4 j p (by omega) hp)
  have HX:Hid (r=false->∀ W',Below W.heap.size W W'->Zay (POn a b) (AreIT a b w H) (AreXT a b w H) k (fun q=>q=H+3) W .ret { tmps:=#[],defers:=[] } (W'.setCell ⟨H+3,0,none⟩ (.bool false))):=hQ (by
   rintro rfl W' hb';have hbx:Boxed W' (H+3) 4 (.bool false):=(hb'.block _ h1.lt).trans h1;refine ⟨(Held.of_below hb' fun i hi _=>hi).trans (Held.set _ (fun h=>h rfl) _),hbx.set _,(h3.trans (hb'.mono h3.size)).setCell (p:=⟨H+3,0,none⟩) (by show w.heap.size<=H+3;omega) _,fun e=>?_⟩;have h5:=(Zkf x y).2 ((Zot a b).1 e _ (List.mem_of_getElem? hat));rw [hr] at h5;cases h5)
  have HFR:Hid (∀ W',Below W.heap.size W W'->Boxed W' (H+3) 4 (.bool false)):=hQ (fun W' hb'=>(hb'.block _ h1.lt).trans h1);clear h1 h2 h3 h4 hat hrx hry hc1 hc2 bx by0 hr eq1 hk;cases r with
  | true=>
   gi_wp2_with (refine ⟨trivial,?_⟩;gi_at_call 151;refine (CallsIn.inRound l (callsIn_wide.2 HN.out)).mono ?_;rintro e W' ⟨rfl,hb'⟩;have HF2:=hQ (HI.out rfl W' hb');clear hb')
   exact HF2.out
  | false=>
   gi_wp2_with (refine ⟨trivial,?_⟩;gi_at_call 151;refine (CallsIn.inRound l (callsIn_wide.2 HN.out)).mono ?_;rintro e W' ⟨rfl,hb'⟩;have HF2:=hQ (HX.out rfl W' hb');have hbx':=HFR.out W' hb';have hc1:=hbx'.cell;have hf1:=hbx'.frozen;clear hb' hbx')
   exact HF2.out
 case done=>
  rintro F W ⟨rfl,h1,h2,h3,h4⟩ hK;have hTrue:same a b=true:=Zhr ((Zot a b).2 fun p hp=>by
   obtain ⟨j,hj,e⟩:=List.getElem_of_mem hp;exact (Zkf _ _).1 (h4 j p hj (by rw [List.getElem?_eq_getElem hj,e])))
  have hc:=h1.cell;have hf:=h1.frozen;have H3:=hQ (h1.set (.bool true));have HB:=hQ h3;have hD:(W.setCell ⟨H+3,0,none⟩ (.bool true)).heap[w3.heap.size]?=some (.deferred (some [])):=(Below.heap_setCell _ _ _ _ (by show w3.heap.size≠H+3;omega)).trans hK;have HD:=hQ hD;have HT2:=hQ hTrue;clear h1 h2 h3 h4 hTrue hD hK
  gi_wp2
  refine ⟨by simp,.inl ⟨_,_,rfl,run_takeDeferred HD.out,?_⟩⟩;have hbx4:Boxed ((W.setCell ⟨H+3,0,none⟩ (.bool true)).putObj w3.heap.size (.deferred none)) (H+3) 4 (.bool true):=(World.putObj_heap_other (by omega)).trans H3.out;have hb4:=hbx4.cell;refine ⟨.bool true,?_,by rw [HT2.out],(HB.out.setCell (p:=⟨H+3,0,none⟩) (by show w.heap.size<=H+3;omega) _).trans (Zbr _ (by omega))⟩;simp [results,Tryz.f150,go_sem,hb4]
 case stop=>
  rintro W ⟨h1,h3,hne⟩ hK;have hbx4:Boxed (W.putObj w3.heap.size (.deferred none)) (H+3) 4 (.bool false):=(World.putObj_heap_other (by omega)).trans h1;have hb4:=hbx4.cell;clear hbx4;have HB:=hQ h3;have HT2:=hQ (Zfx hne);have HC4:=hQ hb4;clear h1 h3 hne hb4
  gi_wp2
  refine ⟨by simp,.inl ⟨_,_,rfl,run_takeDeferred hK,?_⟩⟩;have hb4:=HC4.out;refine ⟨.bool false,?_,by rw [HT2.out],HB.out.trans (Zbr _ (by omega))⟩;simp [results,Tryz.f150,go_sem,hb4]
theorem Zcb (a b:Ty)(w:World)(cs ds:List Value)(h:RTy w a cs)(h':RTy w b ds)(hs:a.size<=1048577):Calls Tryz.prog 115 #[.agg cs.toArray,.agg ds.toArray] w (Truth (same a b) w):=by
 obtain ⟨c0,c1,c2,rfl⟩:=h.three;obtain ⟨d0,d1,d2,rfl⟩:=h'.three;obtain ⟨H,hH⟩:∃ H,w.heap.size=H:=⟨_,rfl⟩;obtain ⟨W1,hW1⟩:∃ W1,(w.alloc (.cells #[c0,c1,c2] 38)).alloc (.cells #[d0,d1,d2] 38)=W1:=⟨_,rfl⟩;have hb1:Below w.heap.size w W1:=by rw [<-hW1];exact (bQ.alloc nQ _).alloc (by simp) _
 have hxa:Box3 W1 H 38 c0 c1 c2:=by rw [<-hW1,<-hH];exact (Box3.new w 38 c0 c1 c2).alloc _
 have hxb:Box3 W1 (H+1) 38 d0 d1 d2:=by
  rw [<-hW1,<-hH]
  have:=Box3.new (w.alloc (.cells #[c0,c1,c2] 38)) 38 d0 d1 d2
  rw [World.size_alloc] at this;exact this
 have HA:=hQ (Zzd a b W1 _ _ (h.keep hb1) (h'.keep hb1) hs);obtain ⟨r,hr⟩:∃ r,same a b=r:=⟨_,rfl⟩;rw [hr] at HA ⊢;have HW1:=hQ hW1;have HB1:=hQ hb1;have x0:=hxa.c0;have x1:=hxa.c1;have x2:=hxa.c2;have y0:=hxb.c0;have y1:=hxb.c1;have y2:=hxb.c2;clear h h' hs hW1 hb1 hxa hxb hr;go_enter Tryz.func115,Tryz.ntmps115;go_wp2_with fail;rw [HW1.out];go_wp2_with fail;refine HA.out.mono ?_;rintro e w2 ⟨rfl,hb2⟩;have HF:Hid (Truth r w (.returned (.bool r)) w2):=hQ ⟨rfl,HB1.out.trans (hb2.mono HB1.out.size)⟩;clear hb2;go_wp2_with fail;go_ret;exact HF.out
end Go.Proofs.YtlcedleebbgebaaGreatDoor
namespace Go.Proofs.YtlcedleebbgebaaGreatDoor
open Go.RowKit
def optP (o:Option Ty):Ty×Bool:=(o.getD Zap,o.isSome)
def Zau (o:Option Ty)(w:World)(e:Ending)(w':World):Prop:=∃ t',(∀ t,o=some t->t'=t)/\MadeP (t',o.isSome) w e w'
theorem Zol {o:Option Ty}{w:World}{e:Ending}{w':World}(h:MadeP (optP o) w e w'):Zau o w e w':=by
 refine ⟨_,fun t ht=>?_,h⟩;subst ht
 rfl
theorem Zbp {b:Bool}{t u:Ty}(h:ifAny b t=some u):t=u/\b=true:=by
 unfold ifAny at h
 split at h
 ·injection h with h;exact ⟨h,by assumption⟩
 ·cases h
theorem Zrz (b:Bool)(t:Ty):(ifAny b t).isSome=b:=by unfold ifAny;cases b <;> rfl
theorem Zen {b:Bool}{t:Ty}{w:World}{e:Ending}{w':World}(h:MadeP (t,b) w e w'):Zau (ifAny b t) w e w':=by
 refine ⟨t,fun u hu=>(Zbp hu).1,?_⟩;rw [Zrz];exact h
theorem Zck {t:Ty}{w:World}{e:Ending}{w':World}(h:MadeP (t,true) w e w'):Zau (some t) w e w':=⟨t,(fun u hu=>by injection hu),h⟩
theorem Zcj {t:Ty}{w:World}{e:Ending}{w':World}(h:MadeP (t,false) w e w'):Zau none w e w':=⟨t,(fun u hu=>by cases hu),h⟩
theorem Zach {α:Type}{a:Kd α}{w:World}{base n c:Nat}{e:TypeId}{A:Option Addr}{cells:List Value}{xs:List α}(h:w.ownsRow base e a.n (.slice A n c) n cells)(hn:xs.length=n)(hr:∀ j x,xs[j]?=some x->a.R w x (partK a.n cells j)):RL a w A xs:=by
 refine ⟨partK a.n cells,fun j x hj=>⟨hr j x hj,?_⟩⟩;have hjl:=(List.getElem?_eq_some_iff.1 hj).1;obtain ⟨g,rfl⟩:∃ g,A=some ⟨g,0,none⟩:=by
  rcases h.2 with ⟨_,h2⟩|⟨g,cap,cur,h1,_⟩
  ·omega
  ·injection h1 with h1 _ _
   exact ⟨g,h1⟩
 refine ⟨_,rfl,fun i u hi=>?_⟩;have hl:=a.len (hr j x hj);have hi4:i < a.n:=by
  have:=(List.getElem?_eq_some_iff.1 hi).1
  omega
 rw [Zeq _ _ _ _ hi4] at hi;exact h.cells (g:=g) rfl _ u hi
theorem Zow {α:Type}{a:Kd α}(hone:∀ {w:World}{x:α}{cs:List Value},a.R w x cs->∀ u∈cs,u.oneCell'=true) {w:World}{A:Option Addr}{ks:List α}(h:RL a w A ks):∃ news:List Value,news.length=ks.length * a.n/\Sl w A news/\(∀ u∈news,u.oneCell'=true)/\∀ j x,ks[j]?=some x->a.R w x (partK a.n news j):=by
 obtain ⟨ps,hp⟩:=h;have go:∀ k,k<=ks.length->∃ news:List Value,news.length=k * a.n/\Sl w A news/\(∀ u∈news,u.oneCell'=true)/\∀ j x,j < k->ks[j]?=some x->a.R w x (partK a.n news j):=by
  intro k
  induction k with
  | zero=>intro _;exact ⟨[],by simp,fun j u hj=>by simp at hj,fun u hu=>by simp at hu,fun j t hj=>by omega⟩
  | succ k ih=>
   intro hk
   obtain ⟨news,h1,h2,h3,h4⟩:=ih (by omega);obtain ⟨hr,ad,hA,hc⟩:=hp k _ (List.getElem?_eq_getElem (show k < ks.length by omega));have hl:=a.len hr;refine ⟨news ++ ps k,by rw [List.length_append,h1,hl,Nat.succ_mul],fun j u hj=>?_,fun u hu=>?_,fun j x hj hx=>?_⟩
   ·rcases Nat.lt_or_ge j news.length with hlt|hge
    ·rw [List.getElem?_append_left hlt] at hj
     exact h2 j u hj
    ·rw [List.getElem?_append_right hge] at hj
     refine ⟨ad,hA,?_⟩;have e:j=k * a.n+(j - news.length):=by omega
     rw [e];exact hc _ u hj
   ·rcases List.mem_append.1 hu with hu|hu
    ·exact h3 u hu
    ·exact hone hr u hu
   ·rcases Nat.lt_or_ge j k with hlt|hge
    ·rw [Zfu h1 hlt]
     exact h4 j x hlt hx
    ·have ej:j=k:=by omega
     subst ej;rw [List.getElem?_eq_getElem (by omega)] at hx;injection hx with hx
     subst hx;rw [Zfv h1 hl];exact hr
 obtain ⟨news,h1,h2,h3,h4⟩:=go ks.length nQ;exact ⟨news,h1,h2,h3,fun j x hj=>h4 j x (List.getElem?_eq_some_iff.1 hj).1 hj⟩
def Zjk (c:Cx)(w:World)(e:Ending)(w':World):Prop:=∃ (B:Option Addr)(b:Nat),e=.returned (.slice B c.length b)/\c.length<=b/\RL kTg w' B c/\Below w.heap.size w w'
theorem Zact {w w':World}{base b:Nat}{B:Option Addr}{cells rs:List Value}{c:Cx}{d:Tg}{e:TypeId}(h:w'.ownsRow base e 4 (.slice B (c.length+1) b) (c.length+1) (cells ++ rs))(hcl:cells.length=c.length * 4)
  (hr:∀ j x,c[j]?=some x->kTg.R w x (partK 4 cells j)) (hd:kTg.R w d rs) (hb:Below w.heap.size w w'):RL kTg w' B (c ++ [d]):=by
 refine Zach (a:=kTg) (e:=e) (base:=base) (n:=c.length+1) (c:=b) (cells:=cells ++ rs) h (by simp) fun j x hj=>?_
 by_cases hlt:j < c.length
 ·rw [List.getElem?_append_left hlt] at hj
  show kTg.R w' x (partK 4 (cells ++ rs) j)
  rw [Zfu hcl hlt];exact kTg.keep (hr j x hj) hb
 ·have hjl:=(List.getElem?_eq_some_iff.1 hj).1
  have e1:j=c.length:=by simp at hjl;omega
  subst e1;rw [List.getElem?_append_right nQ] at hj;simp at hj;subst hj
  show kTg.R w' d (partK 4 (cells ++ rs) c.length)
  rw [Zfv hcl (kTg.len hd)];exact kTg.keep hd hb
section
variable {P:Program}
theorem Zja (w:World)(base size:Nat)(t ty e:TypeId)(i:TypeInfo)(ht:P.underlying t=some (.slice e))(hi:P.info? e=some i)(v:Value)(n:Nat)(xs:List Value)(hown:w.ownsRow base e size v n xs)(c:Nat) :
  (Builtin.append_ #[t,t] ty #[v,.slice none 0 c]).run P w=.ok v w:=by
 rcases hown.2 with ⟨rfl,rfl⟩|⟨g,cap,cur,rfl,_,_,hnc,_⟩
 ·simp [Builtin.append_,run_underlying ht,sizeOf,typeInfo,hi,Builtin.lenOf,Builtin.firstCells]
 ·simp [Builtin.append_,run_underlying ht,sizeOf,typeInfo,hi,Builtin.lenOf,Builtin.firstCells,hnc,storeCells]
theorem Zew (w:World) {ops:Array Oper}{rest:List Oper}{o:Oper}{a:Act}{Q:Exit->Act->World->Prop}(hgd:o.guard=none)(s x:Operand)(t:TypeId)
  (ho:o.op=.call { callee:=.builtin .append,args:=#[s,x],argTypes:=#[t,t] })
  (base:Nat) (e:TypeId) (i:TypeInfo) (z:Value) (size bytes:Nat) (ht:P.underlying t=some (.slice e)) (hi:P.info? e=some i) (hz:i.zero=some z) (hsize:i.size=size) (hby:i.bytes=bytes) (hzs:z.cells.size=size) (hsz:0 < size)
  (v:Value) (n:Nat) (xs:List Value) (hs:a.eval s=v) (hown:w.ownsRow base e size v n xs) (A:Option Addr) (m c:Nat) (news:List Value) (hx:a.eval x=.slice A m c) (hl:news.length=m * size) (hnews:Sl w A news) (h1:∀ u∈news,u.oneCell'=true)
  (h63:n+m<=maxLen) (hbytes:(n+m) * bytes<=140737488355328) (hbase:base<=w.heap.size)
  (h:∀ v' w',w'.ownsRow base e size v' (n+m) (xs ++ news)->w.grownBy w' v.ownBlock->(v'.ownBlock=v.ownBlock∨v'.ownBlock=some w.heap.size)->wpList P ops Q rest (a.put o.dst v') w'):wpList P ops Q (o :: rest) a w:=by
 cases A with
 | none=>
  have hn:news=[]:=by
   cases news with
   | nil=>rfl
   | cons u r=>
    obtain ⟨ad,e,_⟩:=hnews 0 u rfl;cases e
  subst hn;have hm:m=0:=by
   rcases Nat.eq_zero_or_pos m with h|h
   ·exact h
   ·have:=Nat.mul_pos h hsz
    simp only [List.length_nil] at hl
    omega
  subst hm;exact Lib.wpList_append_run w hgd s x t t ho _ _ hs hx v w (Zja w base size t o.type e i ht hi v n xs hown c) (h v w (by simpa using hown) (World.grownBy.refl w _) (.inl rfl))
 | some ad=>
  have hc:∀ j u,news[j]?=some u->w.cell? (ad.add j)=some u:=by
   intro j u hj
   obtain ⟨ad',e,hcc⟩:=hnews j u hj;injection e with e
   subst e;exact hcc
  obtain ⟨v',w',h2,h3,h4,_,h5⟩:=run_append_own_at (P:=P) w base t o.type e i z size bytes ht hi hz hsize hby hzs hsz v n xs hown ad m c news hl hc h1 h63 hbytes hbase;exact Lib.wpList_append_run w hgd s x t t ho _ _ hs hx v' w' h2 (h v' w' h3 h4 h5)
end
theorem Zmy {w:World}{x:Tg}{cs:List Value}(h:kTg.R w x cs):∀ u∈cs,u.oneCell'=true:=by
 obtain ⟨tk,TL,TA,tl,tc,ta,td,rfl,_⟩:=Zdq h
 intro u hu
 simp at hu
 rcases hu with rfl|rfl|rfl|rfl <;> rfl
theorem Zacg (w:World)(a b c d:Value)(t:TypeId):Sl (w.alloc (.cells #[a,b,c,d] t)) (some ⟨w.heap.size,0,none⟩) [a,b,c,d]:=by
 intro j u hj
 refine ⟨_,rfl,?_⟩;rw [Addr.add_lit,Nat.zero_add,cell_of_row _ _ j #[a,b,c,d] t (0,0) (heap_alloc_new w _)]
 match j,hj with
 | 0,hj=>simpa using hj
 | 1,hj=>simpa using hj
 | 2,hj=>simpa using hj
 | 3,hj=>simpa using hj
theorem Zoi {w w3 w5:World}{c:Cx}{nm:ByteArray}{ty:Ty}{v3:Value}{o:Obj}{B:Option Addr}{b:Nat}{e:TypeId}{cells cs:List Value}(hcl:cells.length=c.length * 4)(hr:∀ j x,c[j]?=some x->kTg.R w x (partK 4 cells j))(hy:kTy.R w ty cs)(hn:nm.size<=9223372036854775807)
  (hb:Below w.heap.size w w3) (ho5:w5.ownsRow 0 e 4 (.slice B (c.length+1) b) (c.length+1) (cells ++ (.string nm :: cs))) (hg:(w3.alloc o).grownBy w5 v3.ownBlock) (hlt:∀ q,v3.ownBlock=some q->w.heap.size<=q):Zjk (c ++ [(nm,ty)]) w (.returned (.slice B (c.length+1) b)) w5:=by
 have hb5:Below w.heap.size w w5:=(hb.alloc hb.size o).grown hg (by have:=hb.size;simp;omega) hlt;refine ⟨B,b,by simp,by rw [List.length_append];exact Zfs ho5,Zact (e:=e) ho5 hcl hr (Zgx hn hy) hb5,hb5⟩
theorem Zjz (A:Option Addr)(d:Nat)(c:Cx)(nm:ByteArray)(ty:Ty)(tk:Int)(TL TA:Option Addr)(tl tc ta td:Nat)(w:World)(hp:RL kTg w A c)(hl:c.length<=1048576)(hn:nm.size<=9223372036854775807)(hy:kTy.R w ty [.int .i64 tk,.slice TL tl tc,.slice TA ta td]) :
  Calls Tryz.prog 124 #[.slice A c.length d,.string nm,.agg #[.int .i64 tk,.slice TL tl tc,.slice TA ta td]] w (Zjk (c ++ [(nm,ty)]) w):=by
 obtain ⟨i1,hi1,hy0,hy1,hy2⟩:=info_parts Zace;obtain ⟨cells,hcl,hcs,hc1,hcr⟩:=Zow (a:=kTg) Zmy hp;obtain ⟨W1,hW1⟩:∃ W1,w.alloc (.cells #[.int .i64 tk,.slice TL tl tc,.slice TA ta td] 38)=W1:=⟨_,rfl⟩;obtain ⟨H,hH⟩:∃ H,w.heap.size=H:=⟨_,rfl⟩;obtain ⟨W2,hW2⟩:∃ W2,W1.alloc (.cells #[] 74)=W2:=⟨_,rfl⟩;have hbox:Box3 W1 H 38 (.int .i64 tk) (.slice TL tl tc) (.slice TA ta td):=by rw [<-hW1,<-hH];exact Box3.new w _ _ _ _
 have hb1:Below w.heap.size w W1:=by rw [<-hW1];exact bQ.alloc nQ _
 have hb12:Below W1.heap.size W1 W2:=by rw [<-hW2];exact bQ.alloc nQ _
 have hb2:Below w.heap.size w W2:=hb1.trans (hb12.mono hb1.size);have hs1:W1.heap.size=H+1:=by rw [<-hW1,<-hH];simp
 have hcl4:cells.length=c.length * 4:=hcl;have HOWN:Hid (W2.ownsRow H 74 4 (.slice (some ⟨H+1,0,none⟩) 0 0) 0 []):=hQ (by
  rw [<-hW2,<-hs1];exact World.ownsRow_made (base:=H) (size:=4) (e:=74) W1 #[] 0 (by omega) (by unfold maxLen;omega) (by simp))
 have HSH:Hid (H<=W2.heap.size):=hQ (by have:=hb12.size;omega);have HSL:=hQ (hcs.below hb2);have HBX:=hQ hbox;have HR:=hQ hcr;have HY:=hQ hy;have HW1:=hQ hW1;have HW2:=hQ hW2;have HB12:=hQ hb12;have HB1:=hQ hb1;have HS1:=hQ hs1;clear hp hy hW1 hW2 hbox hb1 hb12 hb2 hs1 hcs hcr hcl;have hone:∀ u∈[Value.string nm,.int .i64 tk,.slice TL tl tc,.slice TA ta td],u.oneCell'=true:=Zmy (Zgx (w:=w) (x:=(nm,ty)) hn HY.out);go_enter Tryz.func124,Tryz.ntmps124;go_wp2_with (at_builtin;first
  | (rw [HW1.out,HW2.out];refine Zew _ rfl (.tmp 8) (.tmp 9) 45 rfl H 74 i1 _ 4 72 Tryz.underlying45 hi1 hy0 hy1 hy2 rfl (by omega) (.slice (some ⟨H+1,0,none⟩) 0 0) 0 [] rfl HOWN.out A c.length d cells rfl hcl4 HSL.out hc1 (by unfold maxLen;omega) (by omega) HSH.out ?_;intro v3 w3 hown3 hg3 hor3;rw [Nat.zero_add,List.nil_append] at hown3;have HB3:=hQ (HB12.out.grown hg3 HB12.out.size (fun q hq=>by have h2:H+1=q:=Option.some.inj hq;have:=HS1.out;omega));have b3:=HBX.out.under HB3.out HBX.out.lt;have x0:=b3.c0;have x1:=b3.c1;have x2:=b3.c2;have HLT3:Hid (∀ q,v3.ownBlock=some q->w.heap.size<=q):=hQ (fun q hq=>by have:=(hown3.lt q hq).1;omega);have HO3:=hQ (Zne (hown3.alloc (.cells #[.string nm,.int .i64 tk,.slice TL tl tc,.slice TA ta td] 74)));have HN3:=hQ (Zacg w3 (.string nm) (.int .i64 tk) (.slice TL tl tc) (.slice TA ta td) 74);clear hown3 hg3 hor3 b3)
  | (refine Zew _ rfl (.tmp 11) (.tmp 15) 45 rfl 0 74 i1 _ 4 72 Tryz.underlying45 hi1 hy0 hy1 hy2 rfl (by omega) v3 c.length cells rfl HO3.out (some ⟨w3.heap.size,0,none⟩) 1 1 [.string nm,.int .i64 tk,.slice TL tl tc,.slice TA ta td] rfl rfl HN3.out hone (by unfold maxLen;omega) (by omega) (Nat.zero_le _) ?_;intro v5 w5 hown5 hg5 hor5;obtain ⟨B,b,rfl⟩:=Zep hown5;have HM:Hid (Zjk (c ++ [(nm,ty)]) w (.returned (.slice B (c.length+1) b)) w5):=hQ (Zoi hcl4 HR.out HY.out hn (HB1.out.trans (HB3.out.mono HB1.out.size)) hown5 hg5 HLT3.out);clear hown5 hg5 hor5 x0 x1 x2 HO3 HN3))
 go_ret
 exact HM.out
end Go.Proofs.YtlcedleebbgebaaGreatDoor
