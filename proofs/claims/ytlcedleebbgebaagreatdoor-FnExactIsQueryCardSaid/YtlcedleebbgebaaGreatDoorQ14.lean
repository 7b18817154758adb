/-
  Merged by program: Pre, PreD, SeqN, Least, Nod, NodTK.
-/
import Derived.Shelf.Abstract
import Derived.Shelf.RegionOpen
import Derived.OwnWalkIn
import Derived.TacticsInMore
import Derived.LoopNIn
import Derived.LoopIn
import Derived.Maps.OwnIn
import Derived.Deep.Slices
import Derived.Test.YtlcedleebbgebaaGreatDoorQ7
namespace Go.Proofs.YtlcedleebbgebaaGreatDoor
open Go.RowKit
section
variable {α:Type}
def Tr.pre:Tr α->Nat->List (Nat×Tr α)
 | .node a ks,d=>(d,.node a ks) :: (ks.attach.map fun ⟨t,_⟩=>t.pre (d+1)).flatten
def preL (d:Nat)(ts:List (Tr α)):List (Nat×Tr α):=(ts.map fun t=>t.pre d).flatten
theorem Zge (a:α)(ks:List (Tr α))(d:Nat):(Tr.node a ks).pre d=(d,.node a ks) :: preL (d+1) ks:=by
 rw [Tr.pre];unfold preL
 congr 2
 exact List.attach_map_val (l:=ks) (f:=fun t=>t.pre (d+1)) ▸ rfl
theorem Zxz (t:Tr α)(d:Nat):t.pre d=(d,t) :: preL (d+1) t.kids:=by
 cases t with
 | node a ks=>exact Zge a ks d
theorem Zfc (d:Nat):preL d ([]:List (Tr α))=[]:=rfl
theorem Zer (d:Nat)(t:Tr α)(ts:List (Tr α)):preL d (t :: ts)=t.pre d ++ preL d ts:=rfl
theorem Zsi (d:Nat)(t:Tr α):preL d [t]=t.pre d:=by rw [Zer,Zfc,List.append_nil]
abbrev NStk (α:Type):=List (List (Tr α)×Value×Nat)
def preS (S:NStk α):List (Nat×Tr α):=(S.map fun p=>preL p.2.2 p.1).flatten
theorem Zhi (p:List (Tr α)×Value×Nat)(S:NStk α):preS (p :: S)=preL p.2.2 p.1 ++ preS S:=rfl
theorem Zou (x:Tr α)(xs:List (Tr α))(s:Value)(d:Nat)(S:NStk α):preS ((x :: xs,s,d) :: S)=(d,x) :: (preL (d+1) x.kids ++ (preL d xs ++ preS S)):=by
 rw [Zhi,Zer,Zxz]
 simp
theorem Zaed (t:Tr α)(d:Nat):0 < (t.pre d).length:=by rw [Zxz];simp
theorem Zsh (d:Nat):∀ ts:List (Tr α),ts.length<=(preL d ts).length
 | []=>Nat.le_refl _
 | t :: ts=>by
  have:=Zsh d ts
  have:=Zaed t d
  rw [Zer,List.length_append,List.length_cons]
  omega
theorem Zaax (S:NStk α)(h:∀ p∈S,0 < p.1.length):S.length<=(preS S).length:=by
 induction S with
 | nil=>simp
 | cons p S ih=>
  have:=ih fun q hq=>h q (List.mem_cons_of_mem _ hq)
  have:=h p (List.mem_cons_self ..)
  have:=Zsh p.2.2 p.1
  rw [Zhi,List.length_append,List.length_cons]
  omega
theorem Zaee (f:α->Nat):∀ (t:Tr α)(d:Nat),((t.pre d).map fun p=>f p.2.top).sum=t.sum f:=by
 refine Tr.ind ?_
 intro a ks ih d
 rw [Zge,Tr.sum_node,List.map_cons,List.sum_cons]
 congr 1
 have h:∀ ts:List (Tr α),(∀ t∈ts,t∈ks)->((preL (d+1) ts).map fun p=>f p.2.top).sum=(ts.map (Tr.sum f)).sum:=by
  intro ts
  induction ts with
  | nil=>intro _;rfl
  | cons t ts iht=>
   intro hm
   rw [Zer,List.map_append,List.sum_append,iht (fun x hx=>hm x (by simp [hx])),ih t (hm t (by simp)) (d+1),List.map_cons,List.sum_cons]
 exact h ks fun _ h=>h
theorem Zki (t:Tr α)(d:Nat):(t.pre d).length=t.sum fun _=>1:=by
 rw [<-Zaee (fun _=>1) t d,List.map_const',List.sum_replicate_nat]
 simp
end
section
variable {α:Type}
theorem Zfp:∀ (xs:List Nat)(a:Nat),a<=xs.foldl max a/\∀ x∈xs,x<=xs.foldl max a
 | [],a=>⟨Nat.le_refl _,fun x h=>by cases h⟩
 | y :: xs,a=>by
  have ⟨h1,h2⟩:=Zfp xs (max a y);refine ⟨Nat.le_trans (Nat.le_max_left _ _) h1,fun x hx=>?_⟩
  rcases List.mem_cons.1 hx with rfl|hx
  ·exact Nat.le_trans (Nat.le_max_right _ _) h1
  ·exact h2 x hx
theorem Zio:∀ (xs:List Nat)(a:Nat),xs.foldl max a=a∨∃ x∈xs,xs.foldl max a=x
 | [],a=>.inl rfl
 | y :: xs,a=>by
  rcases Zio xs (max a y) with h|⟨x,hx,h⟩
  ·rw [List.foldl_cons,h]
   rcases Nat.le_total a y with k|k
   ·exact .inr ⟨y,by simp,Nat.max_eq_right k⟩
   ·exact .inl (Nat.max_eq_left k)
  ·exact .inr ⟨x,List.mem_cons_of_mem _ hx,h⟩
theorem Zjf:∀ (t:Tr α)(d:Nat),(∀ p∈t.pre d,d<=p.1/\p.1+1<=d+t.deep)/\∃ p∈t.pre d,p.1+1=d+t.deep:=by
 refine Tr.ind ?_
 intro a ks ih d
 rw [Zge,Zfn]
 constructor
 ·intro p hp
  rcases List.mem_cons.1 hp with rfl|hp
  ·exact ⟨Nat.le_refl _,by show d+1<=_;omega⟩
  ·unfold preL at hp
   obtain ⟨l,hl,hp⟩:=List.mem_flatten.1 hp;obtain ⟨t,ht,rfl⟩:=List.mem_map.1 hl;have h1:=(ih t ht (d+1)).1 p hp;have h2:=(Zfp (ks.map Tr.deep) 0).2 t.deep (List.mem_map_of_mem ht)
   omega
 ·rcases Zio (ks.map Tr.deep) 0 with h|⟨x,hx,h⟩
  ·refine ⟨(d,.node a ks),List.mem_cons_self ..,?_⟩
   show d+1=_
   omega
  ·obtain ⟨t,ht,rfl⟩:=List.mem_map.1 hx
   obtain ⟨p,hp,e⟩:=(ih t ht (d+1)).2;refine ⟨p,List.mem_cons_of_mem _ ?_,by omega⟩;unfold preL;exact List.mem_flatten.2 ⟨_,List.mem_map_of_mem ht,hp⟩
theorem Zgv (t:Tr α):t.deep<=t.size:=by
 have h2:∀ (t:Tr α),t.deep<=t.size:=by
  refine Tr.ind ?_
  intro a ks ih
  rw [Zfn];have e:(Tr.node a ks).size=1+(ks.map Tr.size).sum:=Tr.sum_node _ a ks;rw [e]
  have:=Zbt (m:=(ks.map Tr.size).sum) (ks.map Tr.deep) 0 (Nat.zero_le _) (by
   intro x hx
   obtain ⟨t,ht,rfl⟩:=List.mem_map.1 hx;exact Nat.le_trans (ih t ht) (Zbh Tr.size ht))
  omega
 exact h2 t
def topTo (t:Tr α)(k:Nat):Nat:=(((t.pre 1).take k).map Prod.fst).foldl max 0
theorem Zmf (t:Tr α):topTo t 0=0:=rfl
theorem Zuy (t:Tr α) {k:Nat}{p:Nat×Tr α}(h:(t.pre 1)[k]?=some p):topTo t (k+1)=max (topTo t k) p.1:=by
 unfold topTo;rw [List.take_add_one,h,List.map_append,List.foldl_append]
 rfl
theorem Zsp (t:Tr α)(k:Nat):topTo t k<=t.deep:=by
 unfold topTo;refine Zbt _ _ (Nat.zero_le _) fun x hx=>?_
 obtain ⟨p,hp,rfl⟩:=List.mem_map.1 hx
 have:=((Zjf t 1).1 p (List.mem_of_mem_take hp)).2
 omega
theorem Zkr (t:Tr α):topTo t (t.pre 1).length=t.deep:=by
 have h1:=Zsp t (t.pre 1).length;obtain ⟨p,hp,e⟩:=(Zjf t 1).2;have h2:p.1<=topTo t (t.pre 1).length:=by
  unfold topTo;rw [List.take_length];exact (Zfp _ 0).2 _ (List.mem_map_of_mem hp)
 omega
end
def Zco (N:Fence)(n:Nat)(P:Program)(g:Nat)(lb:Array Value)(M:Nat)(Rd:Nat->Array Value->Prop)(On Keep:Nat->Prop)(W:World):Prop:=
 ∀ (l:Nat) (J:Nat->(Nat->Prop)->World->Prop) (Jx:World->Prop),(∀ k F A C,J k F A->Held (fun i=>i < W.heap.size∨F i) A C->J k F C)->(∀ k F A,J k F A->∀ b,F b->¬ Keep b/\b < A.heap.size)->
  (∀ k v F W1,k < M->J k F W1->Rd k v->YieldAt N (n - 1) P l v W1 fun e W'=>
   (e=.returned (.bool true)/\On k/\Held (fun i=>¬ F i) W1 W'/\∃ F',(∀ b,F' b->F b∨W1.heap.size<=b)/\J (k+1) F' W')∨(e=.returned (.bool false)/\Jx W'))->
  (∃ F,J 0 F W)->CallsIn N n P g (#[.func (.yield l) #[] #[]] ++ lb) W fun e W'=>(∃ v,e=.returned v)/\((∃ F,J M F W')∨Jx W')
def Zay (On:Nat->Prop)(I:Nat->(Nat->Prop)->World->Prop)(Ix:World->Prop)(k:Nat)(F:Nat->Prop)(W:World):Exit->Act->World->Prop
 | .normal,_,W'=>On k/\Held (fun i=>¬ F i) W W'/\∃ F',(∀ b,F' b->F b∨W.heap.size<=b)/\I (k+1) F' W'
 | .ret,_,W'=>Held (fun i=>¬ F i) W W'/\Ix W'
 | .exit _,_,_=>False
 | .goto _,_,_=>False
 | .panic _,_,_=>False
 | .outgrown,_,_=>False
section
variable {N:Fence} {n:Nat} {P:Program}
theorem Zkv {g:Operand}{p0:Array Tmp}{assign body:Code}{Q:Exit->Act->World->Prop}{a:Act}{w:World}
  (hro:N.round=none) (h1:1<=n) {gf:Nat} {lb:Array Value} (hg:a.eval g=.func (.func gf) #[] lb) (hFg:N.fn gf) (eg:∀ args w,(callFunc gf args).run P w=.ok (.enter gf args) w)
  {M:Nat} {Rd:Nat->Array Value->Prop} {On Keep:Nat->Prop} (hsz:∀ k v,Rd k v->v.size=p0.size) (hkeep:∀ b,Keep b->b < w.heap.size)
  (hgives:∀ W,Below w.heap.size w W->W.heap.size=w.heap.size+2->Zco N (n - 1) P gf lb M Rd On Keep W)
  (I:Nat->(Nat->Prop)->World->Prop) (Ix:World->Prop) (hI:∀ k F A C,I k F A->Held (fun i=>i < w.heap.size∨F i) A C->I k F C) (hB:∀ k F A,I k F A->∀ b,F b->¬ Keep b/\b < A.heap.size)
  (hIx:∀ A C,Ix A->Held (fun i=>i≠w.heap.size+1) A C->Ix C) (F0:Nat->Prop) (h0:I 0 F0 w) (a₁:Array Value->Act)
  (hassign:∀ (l k:Nat) (v:Array Value) (W:World) (K:Act->World->Prop),Rd k v->K (a₁ v) W->
   assign.wpIn (N.inRound l) (n - 1 - 1) P (Exit.then K (fun _ _ _=>False)) { tmps:=(p0.zip v).foldl (fun tmps (t,u)=>tmps.setIfInBounds t u) a.tmps,defers:=[] } W)
  (hbody:∀ (l k:Nat) (s:Array Value) (F:Nat->Prop) (W:World),k < M->I k F W->Rd k s->w.heap.size+2<=W.heap.size->¬ F w.heap.size->¬ F (w.heap.size+1)->body.wpIn (N.inRound l) (n - 1 - 1) P (Zay On I Ix k F W) (a₁ s) W)
  (hdone:∀ F W,I M F W->W.heap[w.heap.size]?=some (.deferred (some []))->Q .normal { a with defers:={ target:=.collected w.heap.size,args:=#[] } :: a.defers } W)
  (hstop:∀ W,Ix W->W.heap[w.heap.size]?=some (.deferred (some []))->Code.ret.wpIn N n P Q { a with defers:={ target:=.collected w.heap.size,args:=#[] } :: a.defers } W) :
  (Code.rangeFunc g p0 assign body).wpIn N n P Q a w:=by
 refine wpIn_rangeFunc ?_
 intro fn hfn
 rw [hro]
 -- the loop's record,in each of its states
 obtain ⟨R,hR⟩:∃ R:LoopState->Option Code->Loop,R=fun st pe=>{ state:=st,pending:=pe,fn,tmps:=a.tmps,params:=p0,assign,body,defers:=w.heap.size }:=⟨_,rfl⟩
 obtain ⟨D,hD⟩:∃ D,w.heap.size=D:=⟨_,rfl⟩;obtain ⟨W1,hW1⟩:∃ W1,(w.alloc (.deferred (some []))).alloc (.loop (R .ready none))=W1:=⟨_,rfl⟩;have hb1:Below D w W1:=by rw [<-hW1,<-hD];exact ((Below.refl _ w).alloc nQ _).alloc (by simp) _
 have hz1:W1.heap.size=D+2:=by rw [<-hW1,<-hD];simp
 have hrec:W1.heap[D+1]?=some (.loop (R .ready none)):=by
  rw [<-hW1,<-hD];have:=World.alloc_heap_new (w.alloc (.deferred (some []))) (.loop (R .ready none));rwa [World.size_alloc] at this
 have hdef:W1.heap[D]?=some (.deferred (some [])):=by
  rw [<-hW1,<-hD];exact (Below.heap_alloc _ _ _ (by simp)).trans (World.alloc_heap_new w _)
 have hGV:=hgives W1 (by rw [hD];exact hb1) (by rw [hD];exact hz1);have hent:=run_enterLoop_outer (P:=P) (w:=w) fn a.tmps p0 assign body;have hRe:(.loop { state:=.ready,pending:=none,fn,tmps:=a.tmps,params:=p0,assign,body,defers:=w.heap.size }:Obj)=.loop (R .ready none):=by rw [hR]
 rw [hRe,hW1,hD] at hent;have hF0:=hB _ _ _ h0;rw [hD] at hkeep hI hIx hbody hdone hstop hF0;refine ⟨D+1,[{ target:=.collected D,args:=#[] }],W1,{ target:=.fn (.func gf) lb,args:=#[.func (.yield (D+1)) #[] #[]] },W1,gf,#[.func (.yield (D+1)) #[] #[]] ++ lb,W1,hent,?_,?_,?_,fun _=>h1,?_⟩
 ·simp only [resolve,hg]
  simp [go_sem]
 ·intro f' hf';simp [Target.leads] at hf';subst hf';exact hFg
 ·simp [invoke,go_sem,eg]
 -- what the rounds keep: the client's own,and the loop's record
 obtain ⟨J,hJd⟩:∃ J:Nat->(Nat->Prop)->World->Prop,J=fun S F W=>∃ G:Nat->Prop,(∀ b,F b↔(G b∨b=D∨b=D+1))/\¬ G D/\¬ G (D+1)/\D+2<=W.heap.size/\I S G W/\W.heap[D+1]?=some (.loop (R .ready none))/\W.heap[D]?=some (.deferred (some [])):=⟨_,rfl⟩
 refine (hGV (D+1) J (fun W=>Ix W/\W.heap[D+1]?=some (.loop (R .done (some .ret)))/\W.heap[D]?=some (.deferred (some []))) ?_ ?_ ?_ ?_).mono ?_
 ·rw [hJd]
  rintro S F A C ⟨G,hG,g1,g2,hz,hi,hl,hd⟩ hb;exact ⟨G,hG,g1,g2,Nat.le_trans hz hb.size,hI _ _ _ _ hi (hb.mono fun i _ h=>h.imp (fun h=>by rw [hz1];omega) fun h=>(hG i).2 (.inl h)),(hb.block _ (by omega) (.inr ((hG _).2 (.inr (.inr rfl))))).trans hl,(hb.block _ (by omega) (.inr ((hG _).2 (.inr (.inl rfl))))).trans hd⟩
 ·rw [hJd]
  rintro S F A ⟨G,hG,g1,g2,hz,hi,hl,hd⟩ b hb
  rcases (hG b).1 hb with h|h|h
  ·exact hB _ _ _ hi b h
  ·subst h;exact ⟨fun h=>by have:=hkeep _ h;omega,by omega⟩
  ·subst h;exact ⟨fun h=>by have:=hkeep _ h;omega,by omega⟩
 ·rw [hJd]
  rintro k s F W hkM ⟨G,hG,g1,g2,hz,hi,hl,hd⟩ hrd;have hlt:D+1 < W.heap.size:=by omega
  have hy:(Instr.yield (D+1) s).run P W=.ok (.round (D+1) fn ((p0.zip s).foldl (fun tmps (t,u)=>tmps.setIfInBounds t u) a.tmps) assign body) W:=by
   rw [run_yield (P:=P) (args:=s) hl (by rw [hR];exact hsz k s hrd),hR]
  refine ⟨fn,_,assign,body,hy,roundIn_of_wpIn hfn (hassign _ k s W _ hrd ?_)⟩;refine ⟨_,run_beginRound hl (by rw [hR]),?_⟩;clear hy;obtain ⟨W2,hW2⟩:∃ W2,W.putObj (D+1) (.loop { R .ready none with state:=.busy })=W2:=⟨_,rfl⟩;have hl2:W2.heap[D+1]?=some (.loop { R .ready none with state:=.busy }):=by rw [<-hW2];exact World.putObj_heap_same hlt
  have hd2:W2.heap[D]?=some (.deferred (some [])):=by rw [<-hW2];exact (World.putObj_heap_other (by omega)).trans hd
  have hz2:W2.heap.size=W.heap.size:=by rw [<-hW2];simp
  have hap:∀ K:Nat->Prop,¬ K (D+1)->Held K W W2:=fun K hK=>by rw [<-hW2];exact Held.put W hK
  have hnot:¬ (D+1 < D∨G (D+1)):=fun h=>h.elim (fun h=>by omega) g2
  rw [hW2];refine wpIn_mono (hbody _ k s G W2 hkM (hI _ _ _ _ hi (hap _ hnot)) hrd (by omega) g1 g2) ?_;rintro e a3 W3 hp;have fin:∀ (jump:Option Code),Held (fun i=>¬ G i) W2 W3->(Instr.endRound (D+1) jump).run P W3=.ok (.bool jump.isNone) (W3.putObj (D+1) (.loop (R (if jump.isNone then .ready else .done) jump)))/\
    (W3.putObj (D+1) (.loop (R (if jump.isNone then .ready else .done) jump))).heap[D+1]?=some (.loop (R (if jump.isNone then .ready else .done) jump))/\
    (W3.putObj (D+1) (.loop (R (if jump.isNone then .ready else .done) jump))).heap[D]?=some (.deferred (some [])):=by
   intro jump h3
   have hlt2:D+1 < W2.heap.size:=(Array.getElem?_eq_some_iff.1 hl2).1;have hl3:=(h3.block (D+1) hlt2 g2).trans hl2;have hr3:=run_endRound (P:=P) jump hl3;rw [hR] at hr3 ⊢;exact ⟨hr3,World.putObj_heap_same (Array.getElem?_eq_some_iff.1 hl3).1,(World.putObj_heap_other (by omega)).trans ((h3.block D (by omega) g1).trans hd2)⟩
  cases e with
  | normal=>
   obtain ⟨hon,h3,G',hG',hi3⟩:=hp;obtain ⟨hr,hl4,hd4⟩:=fin none h3;have n1:¬ G' D:=fun h=>(hG' D h).elim g1 (fun h=>by omega)
   have n2:¬ G' (D+1):=fun h=>(hG' (D+1) h).elim g2 (fun h=>by omega)
   have hnot':¬ (D+1 < D∨G' (D+1)):=fun h=>h.elim (fun h=>by omega) n2
   have hz3:=h3.size;refine ⟨_,_,hr,.inl ⟨rfl,hon,?_,fun b=>G' b∨b=D∨b=D+1,fun b hb=>?_,G',fun b=>Iff.rfl,n1,n2,by simp;omega,hI _ _ _ _ hi3 (Held.put W3 hnot'),hl4,hd4⟩⟩
   ·refine (hap _ (fun h=>h ((hG _).2 (.inr (.inr rfl))))).trans ((h3.mono (fun i _ h=>fun hg=>h ((hG i).2 (.inl hg)))).trans (Held.put W3 (fun h=>h ((hG _).2 (.inr (.inr rfl))))))
   ·rcases hb with h|h|h
    ·rcases hG' b h with h|h
     ·exact .inl ((hG b).2 (.inl h))
     ·exact .inr (by omega)
    ·exact .inl ((hG b).2 (.inr (.inl h)))
    ·exact .inl ((hG b).2 (.inr (.inr h)))
  | ret=>
   obtain ⟨h3,hi3⟩:=hp;obtain ⟨hr,hl4,hd4⟩:=fin (some .ret) h3;exact ⟨_,_,hr,.inr ⟨rfl,hIx _ _ hi3 (Held.put W3 (fun h=>h rfl)),hl4,hd4⟩⟩
  | exit _=>exact hp.elim
  | goto _=>exact hp.elim
  | panic _=>exact hp.elim
  | outgrown=>exact hp.elim
 ·rw [hJd]
  refine ⟨fun b=>F0 b∨b=D∨b=D+1,F0,fun b=>Iff.rfl,fun h=>by have:=(hF0 _ h).2;omega,fun h=>by have:=(hF0 _ h).2;omega,by omega,hI _ _ _ _ h0 (Held.of_below hb1 (fun i hi _=>by omega)),hrec,hdef⟩
 ·rw [hJd]
  rintro e W2 ⟨⟨v,rfl⟩,(⟨F,G,hG,g1,g2,hz,hi,hl,hd⟩|⟨hi,hl,hd⟩)⟩
  ·exact ⟨none,_,by have:=run_endLoop (P:=P) hl (by rw [hR];simp);rw [hR] at this;exact this,by rw [hD];exact hdone G _ (hI _ _ _ _ hi (Held.put W2 (fun h=>h.elim (fun h=>by omega) g2))) ((World.putObj_heap_other (by omega)).trans hd)⟩
  ·exact ⟨some .ret,_,by have:=run_endLoop (P:=P) hl (by rw [hR];simp);rw [hR] at this;exact this,by rw [hD];exact hstop _ (hIx _ _ hi (Held.put W2 (fun h=>h rfl))) ((World.putObj_heap_other (by omega)).trans hd)⟩
end
def Least (Q:Nat->Prop)(n:Nat):Prop:=Q n/\∀ m,Q m->n<=m
theorem Zaaj {Q:Nat->Prop}(h:∃ n,Q n):∃ n,Least Q n:=by
 obtain ⟨n,hn⟩:=h
 induction n using Nat.strongRecOn with
 | _ n ih=>
  by_cases h:∃ m,m < n/\Q m
  ·obtain ⟨m,hm,hq⟩:=h
   exact ih m hm hq
  ·exact ⟨n,hn,fun m hm=>Nat.le_of_not_lt fun hlt=>h ⟨m,hlt,hm⟩⟩
theorem Zbb {Q:Nat->Prop}{m:Nat}(h:Q m):Least Q (Classical.epsilon (Least Q)):=Classical.epsilon_spec (Zaaj ⟨m,h⟩)
theorem Zcl (a:Addr)(j:Nat):(a.add j).block=a.block:=by unfold Addr.add;split <;> rfl
section
variable {α:Type}
def RowN (R:Tr α->List Value->Prop)(m:Nat)(W:World)(A:Option Addr)(ts:List (Tr α)):Prop:=
 ∃ ps:Nat->List Value,∀ j t,ts[j]?=some t->R t (ps j)/\∃ ad,A=some ad/\∀ i u,(ps j)[i]?=some u->W.cell? (ad.add (j * m+i))=some u
def NList (R:Tr α->List Value->Prop)(m:Nat)(W:World)(K:Nat->Prop)(ts:List (Tr α))(s:Value):Prop:=
 ∃ ad c,s=.slice (some ad) ts.length c/\ts.length<=c/\ts.length<=9223372036854775807/\0 < ts.length/\K ad.block/\RowN R m W (some ad) ts
theorem RowN.held {R:Tr α->List Value->Prop}{m:Nat}{W W':World}{A:Option Addr}{ts:List (Tr α)}(h:RowN R m W A ts)(hb:∀ b,b < W.heap.size->W'.heap[b]?=W.heap[b]?):RowN R m W' A ts:=by
 obtain ⟨ps,hp⟩:=h;refine ⟨ps,fun j t hj=>?_⟩;obtain ⟨h1,ad,h2,h3⟩:=hp j t hj;exact ⟨h1,ad,h2,fun i u hi=>(World.cell?_of_block (hb _ (World.block_lt_of_cell? W _ (h3 i u hi)))).trans (h3 i u hi)⟩
theorem Zvr (a:Addr)(i j:Nat):(a.add i).add j=a.add (i+j):=Go.Deep.add_add a i j
theorem RowN.hd {R:Tr α->List Value->Prop}{m:Nat}{W:World}{A:Option Addr}{x:Tr α}{xs:List (Tr α)}(h:RowN R m W A (x :: xs)) :
  ∃ ad cs,A=some ad/\R x cs/\(∀ i u,cs[i]?=some u->W.cell? (ad.add i)=some u)/\RowN R m W (some (ad.add m)) xs:=by
 obtain ⟨ps,hp⟩:=h;obtain ⟨h1,ad,hA,h3⟩:=hp 0 x rfl;refine ⟨ad,ps 0,hA,h1,fun i u hi=>by have:=h3 i u hi;rwa [Nat.zero_mul,Nat.zero_add] at this,fun j=>ps (j+1),fun j t hj=>?_⟩;obtain ⟨k1,ad',hA',k3⟩:=hp (j+1) t hj;rw [hA] at hA';injection hA' with hA'
 subst hA';refine ⟨k1,_,rfl,fun i u hi=>?_⟩
 have:=k3 i u hi
 rwa [Zvr,show m+(j * m+i)=(j+1) * m+i by rw [Nat.succ_mul];omega]
theorem RowN.one {R:Tr α->List Value->Prop}{m:Nat}{W:World}{ad:Addr}{x:Tr α}{cs:List Value}(h:R x cs)(hc:∀ i u,cs[i]?=some u->W.cell? (ad.add i)=some u):RowN R m W (some ad) [x]:=by
 refine ⟨fun _=>cs,fun j t hj=>?_⟩
 match j,hj with
 | 0,hj=>
  have e:x=t:=by simpa using hj
  subst e;exact ⟨h,ad,rfl,fun i u hi=>by rw [Nat.zero_mul,Nat.zero_add];exact hc i u hi⟩
 | j+1,hj=>simp at hj
def NRd (R:Tr α->List Value->Prop)(t:Tr α)(k:Nat)(v:Array Value):Prop:=
 ∃ (d:Nat) (x:Tr α) (cs:List Value),(t.pre 1)[k]?=some (d,x)/\v=#[.int .i64 (d:Int),.agg cs.toArray]/\R x cs
theorem NRd.size {R:Tr α->List Value->Prop}{t:Tr α}{k:Nat}{v:Array Value}(h:NRd R t k v):v.size=2:=by
 obtain ⟨d,x,cs,_,rfl,_⟩:=h
 rfl
def rowN (S:NStk α):List Value:=S.reverse.flatMap fun p=>[p.2.1,.int .i64 (p.2.2:Int)]
theorem Zdh (p:List (Tr α)×Value×Nat)(S:NStk α):rowN (p :: S)=rowN S ++ [p.2.1,.int .i64 (p.2.2:Int)]:=by simp [rowN]
theorem Zsl (S:NStk α):(rowN S).length=S.length * 2:=by
 induction S with
 | nil=>rfl
 | cons p S ih=>rw [Zdh,List.length_append,ih];simp;omega
def NAll (R:Tr α->List Value->Prop)(m:Nat)(W:World)(K:Nat->Prop)(S:NStk α):Prop:=∀ p∈S,NList R m W K p.1 p.2.1
def NSt (R:Tr α->List Value->Prop)(m:Nat)(W:World)(K:Nat->Prop)(ty:TypeId)(B:Nat)(J:Nat->(Nat->Prop)->World->Prop)(S:NStk α)(k:Nat)(v:Value)(wr:World):Prop:=
 NAll R m W K S/\wr.ownsRow (B+1) ty 2 v S.length (rowN S)/\Held K W wr/\∃ F,J k F wr/\(∀ g,v.ownBlock=some g->¬ F g)/\∀ b,F b->¬ K b
def NInv (R:Tr α->List Value->Prop)(m:Nat)(W:World)(K:Nat->Prop)(t:Tr α)(ty:TypeId)(B:Nat)(J:Nat->(Nat->Prop)->World->Prop)(S:NStk α)(k:Nat)(v:Value)(wr:World):Prop:=
 k<=(t.pre 1).length/\preS S=(t.pre 1).drop k/\NSt R m W K ty B J S k v wr
theorem Zdw {w w':World}{base size:Nat}{e:TypeId}{v:Value}{n:Nat}{xs:List Value}(h:w.ownsRow base e size v n xs)(hb:∀ g,v.ownBlock=some g->w'.heap[g]?=w.heap[g]?):w'.ownsRow base e size v n xs:=by
 refine ⟨h.1,h.2.imp id ?_⟩;rintro ⟨g,cap,cur,rfl,h1,h2,h3⟩;exact ⟨g,cap,cur,rfl,h1,(hb g rfl).trans h2,h3⟩
section
variable {R:Tr α->List Value->Prop} {m:Nat} {W:World} {K:Nat->Prop} {ty:TypeId} {B:Nat} {J:Nat->(Nat->Prop)->World->Prop} {S:NStk α} {k:Nat} {v:Value} {wr w':World}
theorem NSt.under {sz:Nat}(h:NSt R m W K ty B J S k v wr)(hJ:∀ k F A C,J k F A->Held (fun i=>i < sz∨F i) A C->J k F C)(hb:Below wr.heap.size wr w'):NSt R m W K ty B J S k v w':=by
 obtain ⟨h1,h2,h3,F,h4,h5,h6⟩:=h;exact ⟨h1,Zdw h2 (fun g hg=>hb.block g (h2.lt g hg).2),h3.trans (Held.of_below hb fun i hi _=>hi),F,hJ _ _ _ _ h4 (Held.of_below hb fun i hi _=>hi),h5,h6⟩
theorem NSt.push {sz:Nat}{Keep:Nat->Prop}{wa w4:World}{v4:Value}{ts:List (Tr α)}{s:Value}{d:Nat}(h:NSt R m W K ty B J S k v wr)(hJ:∀ k F A C,J k F A->Held (fun i=>i < sz∨F i) A C->J k F C)
  (hJB:∀ k F A,J k F A->∀ b,F b->¬ Keep b/\b < A.heap.size) (hsz:sz<=B+1) (hKB:∀ b,K b->b < B+1) (hl:NList R m W K ts s) (hb:Below wr.heap.size wr wa)
  (ho:w4.ownsRow (B+1) ty 2 v4 (S.length+1) (rowN S ++ [s,.int .i64 (d:Int)])) (hg:wa.grownBy w4 v.ownBlock) (hor:v4.ownBlock=v.ownBlock∨∃ q,v4.ownBlock=some q/\wr.heap.size<=q):NSt R m W K ty B J ((ts,s,d) :: S) k v4 w4:=by
 obtain ⟨h1,h2,h3,F,h4,h5,h6⟩:=h;have hgn:∀ q,v.ownBlock=some q->¬ (q < B+1):=fun q hq=>by have:=(h2.lt q hq).1;omega
 refine ⟨fun p hp=>?_,by rw [Zdh];exact ho,(h3.trans (Held.of_below hb fun i hi _=>hi)).trans (Held.grown hg fun q hq hk=>hgn q hq (hKB q hk)),F,hJ _ _ _ _ h4 ((Held.of_below hb fun i hi _=>hi).trans (Held.grown hg fun q hq hk=>?_)),fun q hq hF=>?_,h6⟩
 ·rcases List.mem_cons.1 hp with rfl|hp
  ·exact hl
  ·exact h1 p hp
 ·rcases hk with hk|hk
  ·exact hgn q hq (by omega)
  ·exact h5 q hq hk
 ·rcases hor with e|⟨q',e,hq'⟩
  ·exact h5 q (by rw [<-e];exact hq) hF
  ·rw [e] at hq
   injection hq with hq
   have:=(hJB _ _ _ h4 q hF).2
   omega
end
theorem NAll.len {R:Tr α->List Value->Prop}{m:Nat}{W:World}{K:Nat->Prop}{S:NStk α}(h:NAll R m W K S):S.length<=(preS S).length:=
 Zaax S fun p hp=>by
  obtain ⟨_,_,_,_,_,h0,_⟩:=h p hp;exact h0
theorem Zjo {β:Type}{l:List β}{k:Nat}{x:β}{r:List β}(h:x :: r=l.drop k):l[k]?=some x/\r=l.drop (k+1)/\k < l.length:=by
 have h1:(l.drop k)[0]?=some x:=by rw [<-h];rfl
 rw [List.getElem?_drop,Nat.add_zero] at h1;refine ⟨h1,?_,(List.getElem?_eq_some_iff.1 h1).1⟩;rw [<-List.drop_drop,<-h]
 rfl
theorem Zfh {w:World}{base size:Nat}{e:TypeId}{v:Value}{n:Nat}{xs:List Value}(h:w.ownsRow base e size v n xs):∃ A c,v=.slice A n c:=by
 rcases h.2 with ⟨rfl,rfl⟩|⟨g,cap,cur,rfl,_⟩
 ·exact ⟨none,0,rfl⟩
 ·exact ⟨_,cap,rfl⟩
theorem Zaz (w:World)(a b:Value)(t:TypeId):∀ j u,[a,b][j]?=some u->(w.alloc (.cells #[a,b] t)).cell? ((⟨w.heap.size,0,none⟩:Addr).add j)=some u:=by
 intro j u hj
 match j,hj with
 | 0,hj=>simp at hj;subst hj;simp [Addr.add]
 | 1,hj=>simp at hj;subst hj;simp [Addr.add]
 | j+2,hj=>simp at hj
end
def Zoa {β:Type}(A:β->Act)(R:β->World->Prop):Exit->Act->World->Prop
 | .normal,a',w'=>∃ b,a'=A b/\R b w'
 | .ret,_,_=>False
 | .exit _,_,_=>False
 | .goto _,_,_=>False
 | .panic _,_,_=>False
 | .outgrown,_,_=>False
theorem Zbu {β:Type}{A:β->Act}{R:β->World->Prop}(b:β) {w:World}(h:R b w):Zoa A R .normal (A b) w:=⟨b,rfl,h⟩
theorem Zev {β:Type}{F:Fence}{n:Nat}{P:Program}{c:Code}{Q:Exit->Act->World->Prop}{a:Act}{w:World}(A:β->Act)(R:β->World->Prop)
  (h:c.wpIn F n P (Zoa A R) a w) (hq:∀ b w',R b w'->Q .normal (A b) w'):c.wpIn F n P Q a w:=
 wpIn_mono h (by
  rintro e a' w' hr;cases e with
  | normal=>obtain ⟨b,rfl,hr⟩:=hr;exact hq b w' hr
  | ret=>exact hr.elim
  | exit _=>exact hr.elim
  | goto _=>exact hr.elim
  | panic _=>exact hr.elim
  | outgrown=>exact hr.elim)
def Zls (A:Act)(R:World->Prop):Exit->Act->World->Prop
 | .normal,a',w'=>a'=A/\R w'
 | .ret,_,_=>False
 | .exit _,_,_=>False
 | .goto _,_,_=>False
 | .panic _,_,_=>False
 | .outgrown,_,_=>False
theorem Zdo {A:Act}{R:World->Prop}{w:World}(h:R w):Zls A R .normal A w:=⟨rfl,h⟩
theorem Zff {F:Fence}{n:Nat}{P:Program}{c:Code}{Q:Exit->Act->World->Prop}{a:Act}{w:World}(A:Act)(R:World->Prop)
  (h:c.wpIn F n P (Zls A R) a w) (hq:∀ w',R w'->Q .normal A w'):c.wpIn F n P Q a w:=
 wpIn_mono h (by
  rintro e a' w' hr;cases e with
  | normal=>obtain ⟨rfl,hr⟩:=hr;exact hq w' hr
  | ret=>exact hr.elim
  | exit _=>exact hr.elim
  | goto _=>exact hr.elim
  | panic _=>exact hr.elim
  | outgrown=>exact hr.elim)
theorem Zci {F:Fence}{nF:Nat}{P:Program}{ops:Array Oper}{o:Oper}{a:Act}{w:World}{K:Act->World->Prop}{Q:Exit->Act->World->Prop}{E:Prop}(hgd:o.guard=none)(s x:Operand)(t:TypeId)
  (ho:o.op=.call { callee:=.builtin .append,args:=#[s,x],argTypes:=#[t,t] })
  (base:Nat) (e:TypeId) (i:TypeInfo) (z:Value) (size bytes:Nat) (ht:P.underlying t=some (.slice e)) (hi:P.info? e=some i) (hz:i.zero=some z) (hsize:i.size=size) (hby:i.bytes=bytes) (hzs:z.cells.size=size) (hsz:0 < size)
  (v:Value) (n:Nat) (xs:List Value) (hs:a.eval s=v) (hown:w.ownsRow base e size v n xs) (ad:Addr) (m c:Nat) (news:List Value) (hx:a.eval x=.slice (some ad) m c) (hl:news.length=m * size)
  (hnews:∀ j u,news[j]?=some u->w.cell? (ad.add j)=some u) (h1:∀ u∈news,u.oneCell'=true) (h63:n+m<=maxLen) (hbytes:(n+m) * bytes<=140737488355328) (hbase:base<=w.heap.size)
  (h:∀ v4 w4,w4.ownsRow base e size v4 (n+m) (xs ++ news)->w.grownBy w4 v.ownBlock->(v4.ownBlock=v.ownBlock∨v4.ownBlock=some w.heap.size)->K (a.put o.dst v4) w4) :
  if Region.wanted o (yielded ops a.tmps)=true then Oper.wpIn F nF P o a w K Q else E:=by
 obtain ⟨v',w',hr,h2,h3,_,h4⟩:=run_append_own_at (P:=P) w base t o.type e i z size bytes ht hi hz hsize hby hzs hsz v n xs hown ad m c news hl hnews h1 h63 hbytes hbase;have hw:Region.wanted o (yielded ops a.tmps)=true:=by simp [Region.wanted,hgd]
 rw [if_pos hw];unfold Oper.wpIn;refine ⟨by simp [Oper.about,ho,resolve,Target.leads,Sem.run_pure],?_⟩;rw [Oper.semAt_plain F _ _ (by rw [ho];intro c hc';cases hc')];simp [execOp,ho,resolve,invoke,builtin,hs,hx,hr,Result.andThen];exact h v' w' h2 h3 h4
theorem Zhk {w:World}{x:Ty}{c0 c1 c2:Value}(h:RTy w x [c0,c1,c2]):∃ ek eL el elc,c0=.int .i64 ek/\c1=.slice eL el elc:=by
 cases x with
 | node a ks=>
  obtain ⟨L,c,A,d,e,_⟩:=h.out;simp only [List.cons.injEq,and_true] at e;exact ⟨_,_,_,_,e.1,e.2.1⟩
theorem Zhj {w:World}{x:Ty}{c0 c1 c2:Value}(h:RTy w x [c0,c1,c2]):∃ A d,c2=.slice A x.kids.length d/\x.kids.length<=d/\x.kids.length<=9223372036854775807/\RowN (RTy w) 3 w A x.kids:=by
 cases x with
 | node a ks=>
  obtain ⟨L,c,A,d,e,_,_,_,_,_,h3,h4⟩:=h.out;simp only [List.cons.injEq,and_true] at e;obtain ⟨rfl,rfl,rfl⟩:=e;exact ⟨A,d,rfl,h.cap.2,h3,h4⟩
theorem Zgp {w W:World}{K:Nat->Prop}{x:Ty}{A:Option Addr}{d:Nat}(h0:0 < x.kids.length)(hd:x.kids.length<=d)(hl:x.kids.length<=9223372036854775807)(h:RowN (RTy w) 3 w A x.kids)
  (hW:Below w.heap.size w W) (hK:∀ b,b < w.heap.size->K b):∃ ad,A=some ad/\NList (RTy w) 3 W K x.kids (.slice A x.kids.length d):=by
 obtain ⟨ps,hp⟩:=h;obtain ⟨h1,ad,rfl,h3⟩:=hp 0 _ (List.getElem?_eq_getElem h0);obtain ⟨c0,c1,c2,he⟩:=h1.three;rw [he] at h3;have hb:=World.block_lt_of_cell? w _ (h3 0 _ rfl);rw [Zcl] at hb;exact ⟨ad,rfl,ad,d,rfl,hd,hl,h0,hK _ hb,RowN.held ⟨ps,hp⟩ fun b hb=>hW.block b hb⟩
def Zvi (c0 c1 c2:Value)(w:World)(e:Ending)(w':World):Prop:=e=.returned c2/\w'=w.alloc (.cells #[c0,c1,c2] 38)
theorem Zbm (c0 c1 c2:Value)(w:World):Calls Tryz.prog 87 #[.agg #[c0,c1,c2]] w (Zvi c0 c1 c2 w):=by
 have hR:Hid (Zvi c0 c1 c2 w (.returned c2) (w.alloc (.cells #[c0,c1,c2] 38))):=⟨rfl,rfl⟩;go_enter Tryz.func87,Tryz.ntmps87;go_wp2_with fail;go_ret;exact hR.out
end Go.Proofs.YtlcedleebbgebaaGreatDoor
