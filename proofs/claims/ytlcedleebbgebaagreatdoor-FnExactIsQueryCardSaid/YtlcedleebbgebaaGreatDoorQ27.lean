/-
  Merged by program: StkT, TyList, CopST, AppF.
-/
import Derived.Test.YtlcedleebbgebaaGreatDoorQ2
import Derived.Maps.OwnIn
namespace Go.Proofs.YtlcedleebbgebaaGreatDoor
open Go.RowKit
abbrev StkT:=List (List Ty×Value)
def Zed (ks:List Ty):Nat:=(ks.map Tr.size).sum
def wST (S:StkT):Nat:=(S.map fun p=>2 * Zed p.1+1).sum
def Zat (ts:List Ty)(As:Nat->Value)(S:StkT):Nat->StkT
 | 0=>S
 | k+1=>match ts[k]? with
  | some t=>if t.kids.length=0 then Zat ts As S k else (t.kids,As k) :: Zat ts As S k
  | none=>Zat ts As S k
def Zcd (ts:List Ty)(As:Nat->Value)(S:StkT):StkT:=Zat ts As S ts.length
theorem Zbw {ts:List Ty}{As:Nat->Value}{S:StkT}{k:Nat}(hk:k < ts.length):Zat ts As S (k+1)=if ts[k].kids.length=0 then Zat ts As S k else (ts[k].kids,As k) :: Zat ts As S k:=by
 show (match ts[k]? with|some t=>_|none=>_)=_
 rw [List.getElem?_eq_getElem hk]
theorem Zoy (t:Ty):Zed t.kids+1=t.size:=by
 cases t with
 | node a ks=>rw [Zet];show (ks.map Tr.size).sum+1=_;omega
theorem Zji (p:List Ty×Value)(S:StkT):wST (p :: S)=2 * Zed p.1+1+wST S:=by simp [wST]
theorem Zim (ts:List Ty)(As:Nat->Value)(S:StkT):∀ k,k<=ts.length->wST (Zat ts As S k)+k<=wST S+2 * Zed (ts.take k)
 | 0,_=>by simp [Zat,Zed]
 | k+1,hk=>by
  have ih:=Zim ts As S k (by omega);have hk':k < ts.length:=by omega
  have h1:=Zax Tr.size ts k hk';have h2:=Zoy ts[k];have h3:Zed (ts.take (k+1))=Zed (ts.take k)+ts[k].size:=h1;rw [Zbw hk']
  split
  ·omega
  ·rw [Zji]
   show 2 * Zed ts[k].kids+1+_+_<=_
   omega
theorem Zabs (ts:List Ty)(As:Nat->Value)(S:StkT)(s:Value):wST (Zcd ts As S)+ts.length+1<=wST ((ts,s) :: S):=by
 have h:=Zim ts As S ts.length nQ;rw [List.take_length] at h;unfold Zcd
 have:wST ((ts,s) :: S)=2 * Zed ts+1+wST S:=Zji _ _
 omega
theorem Zza (S:StkT):S.length<=wST S:=by
 unfold wST
 induction S with
 | nil=>simp
 | cons p S ih=>simp only [List.map_cons,List.sum_cons,List.length_cons];omega
def RowCT (lo:Nat)(F:Nat->Prop)(w:World)(s:Value)(ts:List Ty)(As:Nat->Value):Prop:=
 ∃ A c,s=.slice A ts.length c/\ts.length<=9223372036854775807/\(∀ j t,ts[j]?=some t->∃ ad c0 L l c A' c',A=some ad/\(ad.block < lo∨F ad.block)/\As j=.slice A' t.kids.length c'/\w.cell? (ad.add (j * 3))=some (.int .i64 c0)/\w.cell? (ad.add (j * 3+1))=some (.slice L l c)/\w.cell? (ad.add (j * 3+2))=some (As j))
def Zabu (N:Fence)(n:Nat)(P:Program)(g:Nat)(lb:Array Value)(S0:StkT)(lo:Nat)(Keep:Nat->Prop)(W:World):Prop:=
 ∀ (l:Nat) (J:StkT->(Nat->Prop)->World->Prop) (Jx:World->Prop),(∀ S F A C,J S F A->Held (fun i=>i < lo∨F i) A C->J S F C)->(∀ S F A,J S F A->∀ b,F b->¬ Keep b/\b < A.heap.size)->
  (∀ ts s S F W1,J ((ts,s) :: S) F W1->YieldAt N (n - 1) P l #[s] W1 fun e W'=>
   (e=.returned (.bool true)/\Held (fun i=>¬ F i) W1 W'/\∃ As F',(∀ b,F' b->F b∨W1.heap.size<=b)/\RowCT lo F' W' s ts As/\J (Zcd ts As S) F' W')∨(e=.returned (.bool false)/\Jx W'))->
  (∃ F,J S0 F W)->CallsIn N n P g (#[.func (.yield l) #[] #[]] ++ lb) W fun e W'=>(∃ v,e=.returned v)/\((∃ F,J [] F W')∨Jx W')
def Zic (lo:Nat)(I:StkT->(Nat->Prop)->World->Prop)(Ix:World->Prop)(ts:List Ty)(s:Value)(S:StkT)(F:Nat->Prop)(W:World):Exit->Act->World->Prop
 | .normal,_,W'=>Held (fun i=>¬ F i) W W'/\∃ As F',(∀ b,F' b->F b∨W.heap.size<=b)/\RowCT lo F' W' s ts As/\I (Zcd ts As S) F' W'
 | .ret,_,W'=>Held (fun i=>¬ F i) W W'/\Ix W'
 | .exit _,_,_=>False
 | .goto _,_,_=>False
 | .panic _,_,_=>False
 | .outgrown,_,_=>False
theorem RowCT.more {lo:Nat}{F F':Nat->Prop}{w:World}{s:Value}{ts:List Ty}{As:Nat->Value}(h:RowCT lo F w s ts As)(hF:∀ b,F b->F' b):RowCT lo F' w s ts As:=by
 obtain ⟨A,c,h1,h2,h3⟩:=h;refine ⟨A,c,h1,h2,fun j t hj=>?_⟩;obtain ⟨ad,c0,L,l,c2,A',c',k1,k2,k3⟩:=h3 j t hj;exact ⟨ad,c0,L,l,c2,A',c',k1,k2.imp id (hF _),k3⟩
theorem Zjl (a:Addr)(j:Nat):(a.add j).block=a.block:=by unfold Addr.add;split <;> rfl
theorem RowCT.held {lo:Nat}{F:Nat->Prop}{w w':World}{s:Value}{ts:List Ty}{As:Nat->Value}(h:RowCT lo F w s ts As)(hH:Held (fun i=>i < lo∨F i) w w'):RowCT lo F w' s ts As:=by
 obtain ⟨A,c,h1,h2,h3⟩:=h;refine ⟨A,c,h1,h2,fun j t hj=>?_⟩;obtain ⟨ad,c0,L,l,c2,A',c',k1,k2,k3,q0,q1,q2⟩:=h3 j t hj;exact ⟨ad,c0,L,l,c2,A',c',k1,k2,k3,hH.cell (by rw [Zjl];exact k2) q0,hH.cell (by rw [Zjl];exact k2) q1,hH.cell (by rw [Zjl];exact k2) q2⟩
section
variable {N:Fence} {n:Nat} {P:Program}
theorem Zre {g:Operand}{p0:Tmp}{assign body:Code}{Q:Exit->Act->World->Prop}{a:Act}{w:World}
  (hro:N.round=none) (h1:1<=n) {gf:Nat} {lb:Array Value} (hg:a.eval g=.func (.func gf) #[] lb) (hFg:N.fn gf) (eg:∀ args w,(callFunc gf args).run P w=.ok (.enter gf args) w)
  {S0:StkT} {lo:Nat} {Keep:Nat->Prop} (hlo:lo<=w.heap.size) (hkeep:∀ b,Keep b->b < w.heap.size)
  (hgives:∀ W,Below w.heap.size w W->W.heap.size=w.heap.size+2->Zabu N (n - 1) P gf lb S0 lo Keep W)
  (I:StkT->(Nat->Prop)->World->Prop) (Ix:World->Prop) (hI:∀ S F A C,I S F A->Held (fun i=>i < lo∨F i) A C->I S F C) (hB:∀ S F A,I S F A->∀ b,F b->¬ Keep b/\b < A.heap.size)
  (hIx:∀ A C,Ix A->Held (fun i=>i≠w.heap.size+1) A C->Ix C) (F0:Nat->Prop) (h0:I S0 F0 w) (a₁:Value->Act)
  (hassign:∀ (l:Nat) (v:Value) (W:World) (K:Act->World->Prop),K (a₁ v) W->
   assign.wpIn (N.inRound l) (n - 1 - 1) P (Exit.then K (fun _ _ _=>False)) { tmps:=a.tmps.setIfInBounds p0 v,defers:=[] } W)
  (hbody:∀ (l:Nat) (ts:List Ty) (s:Value) (S:StkT) (F:Nat->Prop) (W:World),I ((ts,s) :: S) F W->w.heap.size+2<=W.heap.size->¬ F w.heap.size->¬ F (w.heap.size+1)->body.wpIn (N.inRound l) (n - 1 - 1) P (Zic lo I Ix ts s S F W) (a₁ s) W)
  (hdone:∀ F W,I [] F W->W.heap[w.heap.size]?=some (.deferred (some []))->Q .normal { a with defers:={ target:=.collected w.heap.size,args:=#[] } :: a.defers } W)
  (hstop:∀ W,Ix W->W.heap[w.heap.size]?=some (.deferred (some []))->Code.ret.wpIn N n P Q { a with defers:={ target:=.collected w.heap.size,args:=#[] } :: a.defers } W) :
  (Code.rangeFunc g #[p0] assign body).wpIn N n P Q a w:=by
 refine wpIn_rangeFunc ?_
 intro fn hfn
 rw [hro]
 -- the loop's record,in each of its states
 obtain ⟨R,hR⟩:∃ R:LoopState->Option Code->Loop,R=fun st pe=>{ state:=st,pending:=pe,fn,tmps:=a.tmps,params:=#[p0],assign,body,defers:=w.heap.size }:=⟨_,rfl⟩
 obtain ⟨D,hD⟩:∃ D,w.heap.size=D:=⟨_,rfl⟩;obtain ⟨W1,hW1⟩:∃ W1,(w.alloc (.deferred (some []))).alloc (.loop (R .ready none))=W1:=⟨_,rfl⟩;have hb1:Below D w W1:=by rw [<-hW1,<-hD];exact ((Below.refl _ w).alloc nQ _).alloc (by simp) _
 have hz1:W1.heap.size=D+2:=by rw [<-hW1,<-hD];simp
 have hrec:W1.heap[D+1]?=some (.loop (R .ready none)):=by
  rw [<-hW1,<-hD];have:=World.alloc_heap_new (w.alloc (.deferred (some []))) (.loop (R .ready none));rwa [World.size_alloc] at this
 have hdef:W1.heap[D]?=some (.deferred (some [])):=by
  rw [<-hW1,<-hD];exact (Below.heap_alloc _ _ _ (by simp)).trans (World.alloc_heap_new w _)
 have hGV:=hgives W1 (by rw [hD];exact hb1) (by rw [hD];exact hz1);have hent:=run_enterLoop_outer (P:=P) (w:=w) fn a.tmps #[p0] assign body;have hRe:(.loop { state:=.ready,pending:=none,fn,tmps:=a.tmps,params:=#[p0],assign,body,defers:=w.heap.size }:Obj)=.loop (R .ready none):=by rw [hR]
 rw [hRe,hW1,hD] at hent;have hF0:=hB _ _ _ h0;rw [hD] at hlo hkeep hIx hbody hdone hstop hF0;refine ⟨D+1,[{ target:=.collected D,args:=#[] }],W1,{ target:=.fn (.func gf) lb,args:=#[.func (.yield (D+1)) #[] #[]] },W1,gf,#[.func (.yield (D+1)) #[] #[]] ++ lb,W1,hent,?_,?_,?_,fun _=>h1,?_⟩
 ·simp only [resolve,hg]
  simp [go_sem]
 ·intro f' hf';simp [Target.leads] at hf';subst hf';exact hFg
 ·simp [invoke,go_sem,eg]
 -- what the rounds keep: the client's own,and the loop's record
 obtain ⟨J,hJd⟩:∃ J:StkT->(Nat->Prop)->World->Prop,J=fun S F W=>∃ G:Nat->Prop,(∀ b,F b↔(G b∨b=D∨b=D+1))/\¬ G D/\¬ G (D+1)/\D+2<=W.heap.size/\I S G W/\W.heap[D+1]?=some (.loop (R .ready none))/\W.heap[D]?=some (.deferred (some [])):=⟨_,rfl⟩
 refine (hGV (D+1) J (fun W=>Ix W/\W.heap[D+1]?=some (.loop (R .done (some .ret)))/\W.heap[D]?=some (.deferred (some []))) ?_ ?_ ?_ ?_).mono ?_
 ·rw [hJd]
  rintro S F A C ⟨G,hG,g1,g2,hz,hi,hl,hd⟩ hb;exact ⟨G,hG,g1,g2,Nat.le_trans hz hb.size,hI _ _ _ _ hi (hb.mono fun i _ h=>h.imp id fun h=>(hG i).2 (.inl h)),(hb.block _ (by omega) (.inr ((hG _).2 (.inr (.inr rfl))))).trans hl,(hb.block _ (by omega) (.inr ((hG _).2 (.inr (.inl rfl))))).trans hd⟩
 ·rw [hJd]
  rintro S F A ⟨G,hG,g1,g2,hz,hi,hl,hd⟩ b hb
  rcases (hG b).1 hb with h|h|h
  ·exact hB _ _ _ hi b h
  ·subst h;exact ⟨fun h=>by have:=hkeep _ h;omega,by omega⟩
  ·subst h;exact ⟨fun h=>by have:=hkeep _ h;omega,by omega⟩
 ·rw [hJd]
  rintro ts s S F W ⟨G,hG,g1,g2,hz,hi,hl,hd⟩;have hlt:D+1 < W.heap.size:=by omega
  have hy:(Instr.yield (D+1) #[s]).run P W=.ok (.round (D+1) fn (a.tmps.setIfInBounds p0 s) assign body) W:=by
   rw [run_yield (P:=P) (args:=#[s]) hl (by rw [hR];rfl),hR]
   simp
  refine ⟨fn,_,assign,body,hy,roundIn_of_wpIn hfn (hassign _ s W _ ?_)⟩;refine ⟨_,run_beginRound hl (by rw [hR]),?_⟩;clear hy;obtain ⟨W2,hW2⟩:∃ W2,W.putObj (D+1) (.loop { R .ready none with state:=.busy })=W2:=⟨_,rfl⟩;have hl2:W2.heap[D+1]?=some (.loop { R .ready none with state:=.busy }):=by rw [<-hW2];exact World.putObj_heap_same hlt
  have hd2:W2.heap[D]?=some (.deferred (some [])):=by rw [<-hW2];exact (World.putObj_heap_other (by omega)).trans hd
  have hz2:W2.heap.size=W.heap.size:=by rw [<-hW2];simp
  have hap:∀ K:Nat->Prop,¬ K (D+1)->Held K W W2:=fun K hK=>by rw [<-hW2];exact Held.put W hK
  have hnot:¬ (D+1 < lo∨G (D+1)):=fun h=>h.elim (fun h=>by omega) g2
  rw [hW2];refine wpIn_mono (hbody _ ts s S G W2 (hI _ _ _ _ hi (hap _ hnot)) (by omega) g1 g2) ?_;rintro e a3 W3 hp;have fin:∀ (jump:Option Code),Held (fun i=>¬ G i) W2 W3->(Instr.endRound (D+1) jump).run P W3=.ok (.bool jump.isNone) (W3.putObj (D+1) (.loop (R (if jump.isNone then .ready else .done) jump)))/\
    (W3.putObj (D+1) (.loop (R (if jump.isNone then .ready else .done) jump))).heap[D+1]?=some (.loop (R (if jump.isNone then .ready else .done) jump))/\
    (W3.putObj (D+1) (.loop (R (if jump.isNone then .ready else .done) jump))).heap[D]?=some (.deferred (some [])):=by
   intro jump h3
   have hlt2:D+1 < W2.heap.size:=(Array.getElem?_eq_some_iff.1 hl2).1;have hl3:=(h3.block (D+1) hlt2 g2).trans hl2;have hr3:=run_endRound (P:=P) jump hl3;rw [hR] at hr3 ⊢;exact ⟨hr3,World.putObj_heap_same (Array.getElem?_eq_some_iff.1 hl3).1,(World.putObj_heap_other (by omega)).trans ((h3.block D (by omega) g1).trans hd2)⟩
  cases e with
  | normal=>
   obtain ⟨h3,As,G',hG',hrow,hi3⟩:=hp;obtain ⟨hr,hl4,hd4⟩:=fin none h3;have n1:¬ G' D:=fun h=>(hG' D h).elim g1 (fun h=>by omega)
   have n2:¬ G' (D+1):=fun h=>(hG' (D+1) h).elim g2 (fun h=>by omega)
   have hnot':¬ (D+1 < lo∨G' (D+1)):=fun h=>h.elim (fun h=>by omega) n2
   have hz3:=h3.size;refine ⟨_,_,hr,.inl ⟨rfl,?_,As,fun b=>G' b∨b=D∨b=D+1,fun b hb=>?_,?_,G',fun b=>Iff.rfl,n1,n2,by simp;omega,hI _ _ _ _ hi3 (Held.put W3 hnot'),hl4,hd4⟩⟩
   ·refine (hap _ (fun h=>h ((hG _).2 (.inr (.inr rfl))))).trans ((h3.mono (fun i _ h=>fun hg=>h ((hG i).2 (.inl hg)))).trans (Held.put W3 (fun h=>h ((hG _).2 (.inr (.inr rfl))))))
   ·rcases hb with h|h|h
    ·rcases hG' b h with h|h
     ·exact .inl ((hG b).2 (.inl h))
     ·exact .inr (by omega)
    ·exact .inl ((hG b).2 (.inr (.inl h)))
    ·exact .inl ((hG b).2 (.inr (.inr h)))
   ·exact (hrow.held (Held.put W3 hnot')).more (fun b h=>.inl h)
  | ret=>
   obtain ⟨h3,hi3⟩:=hp;obtain ⟨hr,hl4,hd4⟩:=fin (some .ret) h3;exact ⟨_,_,hr,.inr ⟨rfl,hIx _ _ hi3 (Held.put W3 (fun h=>h rfl)),hl4,hd4⟩⟩
  | exit _=>exact hp.elim
  | goto _=>exact hp.elim
  | panic _=>exact hp.elim
  | outgrown=>exact hp.elim
 ·rw [hJd]
  refine ⟨fun b=>F0 b∨b=D∨b=D+1,F0,fun b=>Iff.rfl,fun h=>by have:=(hF0 _ h).2;omega,fun h=>by have:=(hF0 _ h).2;omega,by omega,hI _ _ _ _ h0 (Held.of_below hb1 (fun i hi _=>by omega)),hrec,hdef⟩
 ·rw [hJd]
  rintro e W2 ⟨⟨v,rfl⟩,(⟨F,G,hG,g1,g2,hz,hi,hl,hd⟩|⟨hi,hl,hd⟩)⟩
  ·exact ⟨none,_,by have:=run_endLoop (P:=P) hl (by rw [hR];simp);rw [hR] at this;exact this,by rw [hD];exact hdone G _ (hI _ _ _ _ hi (Held.put W2 (fun h=>h.elim (fun h=>by omega) g2))) ((World.putObj_heap_other (by omega)).trans hd)⟩
  ·exact ⟨some .ret,_,by have:=run_endLoop (P:=P) hl (by rw [hR];simp);rw [hR] at this;exact this,by rw [hD];exact hstop _ (hIx _ _ hi (Held.put W2 (fun h=>h rfl))) ((World.putObj_heap_other (by omega)).trans hd)⟩
end
def OTs (w:World)(ts:List Ty)(s:Value)(fp:List Nat):Prop:=
 ∃ A d xs fs,s=.slice A ts.length d/\ts.length<=9223372036854775807/\w.ownsRow 0 38 3 s ts.length xs/\(∀ j t,ts[j]?=some t->OTy w t (part3 xs j) (fs j))/\(blk A ++ (List.range ts.length).flatMap fs).Perm fp/\fp.Nodup
theorem OTy.make {w:World}{t:Ty}{L:Option Addr}{c:Nat}{s:Value}{fk:List Nat}(h0:t.top.ok)(h1:w.ownsRow 0 9 1 (.slice L t.top.labels.length c) t.top.labels.length (t.top.labels.map Value.string))(h2:OTs w t.kids s fk)(h3:(blk L ++ fk).Nodup) :
  ∃ fp,OTy w t [.int .i64 t.top.kind,.slice L t.top.labels.length c,s] fp/\fp.Perm (blk L ++ fk):=by
 cases t with
 | node a ks=>
  obtain ⟨A,d,xs,fs,rfl,k1,k2,k3,k4,k5⟩:=h2;have hp:(blk L ++ blk A ++ (List.range ks.length).flatMap fs).Perm (blk L ++ fk):=by
   rw [List.append_assoc];exact List.Perm.append_left _ k4
  exact ⟨_,.node a ks L A c d xs fs h0 h1 k1 k2 k3 (hp.nodup_iff.2 h3),hp⟩
theorem RTy.openT {w:World}{t:Ty}{cs:List Value}(h:RTy w t cs):∃ L c A d,cs=[.int .i64 t.top.kind,.slice L t.top.labels.length c,.slice A t.kids.length d]/\Sl w L (t.top.labels.map Value.string)/\t.top.ok/\t.kids.length<=9223372036854775807/\RKids w A t.kids:=by
 cases t with
 | node a ks=>
  obtain ⟨L,c,A,d,rfl,h1,h2,h3,h4,h5,h6,h7⟩:=h.out;exact ⟨L,c,A,d,rfl,h1,⟨h2,h3,h4,h5⟩,h6,h7⟩
theorem Zdg {w w':World}{base size n:Nat}{e:TypeId}{A:Option Addr}{c:Nat}{xs:List Value}{K:Nat->Prop}(h:w.ownsRow base e size (.slice A n c) n xs)(hH:Held K w w')(hK:∀ b∈blk A,K b):w'.ownsRow base e size (.slice A n c) n xs:=by
 refine ⟨h.1,h.2.imp id ?_⟩;rintro ⟨g,cap,cur,hv,h1,h2,h3⟩;injection hv with e1 e2 e3
 subst e1;exact ⟨g,cap,cur,by rw [e2,e3],h1,(hH.block g (h.lt g rfl).2 (hK g (by simp [blk]))).trans h2,h3⟩
theorem OTy.held {w w':World}{t:Ty}{cs:List Value}{fp:List Nat}{K:Nat->Prop}(h:OTy w t cs fp)(hH:Held K w w')(hK:∀ b∈fp,K b):OTy w' t cs fp:=by
 induction h with
 | node a ks L A c d xs fs h0 h1 h2 h3 h4 h5 ih=>
  refine .node a ks L A c d xs fs h0 (Zdg h1 hH fun b hb=>hK b (by simp [hb])) h2 (Zdg h3 hH fun b hb=>hK b (by simp [hb])) (fun j t hj=>ih j t hj fun b hb=>hK b ?_) h5;rw [List.mem_append,List.mem_flatMap];exact .inr ⟨j,List.mem_range.2 (List.getElem?_eq_some_iff.1 hj).1,hb⟩
theorem OTs.nil (w:World):OTs w [] (.slice none 0 0) []:=
 ⟨none,0,[],fun _=>[],rfl,by simp,⟨rfl,.inl ⟨rfl,rfl⟩⟩,fun j t hj=>by simp at hj,by simp [blk],by simp⟩
theorem Zfi {f g:Nat->List Nat}:∀ n,(∀ j,j < n->(f j).Perm (g j))->((List.range n).flatMap f).Perm ((List.range n).flatMap g)
 | 0,_=>by simp
 | n+1,h=>by
  rw [List.range_succ,List.flatMap_append,List.flatMap_append];exact (Zfi n fun j hj=>h j (by omega)).append (by simpa using h n (by omega))
theorem Zar (f g:Nat->List Nat):∀ n,((List.range n).flatMap fun j=>f j ++ g j).Perm ((List.range n).flatMap f ++ (List.range n).flatMap g)
 | 0=>by simp
 | n+1=>by
  rw [List.range_succ,List.flatMap_append,List.flatMap_append,List.flatMap_append];simp only [List.flatMap_cons,List.flatMap_nil,List.append_nil];refine ((Zar f g n).append_right _).trans ?_;rw [List.append_assoc,List.append_assoc];refine List.Perm.append_left _ ?_;rw [<-List.append_assoc,<-List.append_assoc];exact List.Perm.append_right _ List.perm_append_comm
theorem Zqn {f:Nat->List Nat}{n j:Nat}(h:((List.range n).flatMap f).Nodup)(hj:j < n):(f j).Nodup:=by
 obtain ⟨a,b,e⟩:=List.append_of_mem (List.mem_range.2 hj);rw [e,List.flatMap_append,List.flatMap_cons] at h;exact (List.nodup_append.1 (List.nodup_append.1 h).2.1).1
theorem OTs.make {w:World}{ts:List Ty}{A:Option Addr}{d:Nat}{xs:List Value}{Ls:Nat->Option Addr}{cs:Nat->Nat}{As:Nat->Value}{fk:Nat->List Nat}{fp:List Nat}(h1:ts.length<=9223372036854775807)(h2:w.ownsRow 0 38 3 (.slice A ts.length d) ts.length xs)
  (h3:∀ j t,ts[j]?=some t->part3 xs j=[.int .i64 t.top.kind,.slice (Ls j) t.top.labels.length (cs j),As j]/\t.top.ok/\w.ownsRow 0 9 1 (.slice (Ls j) t.top.labels.length (cs j)) t.top.labels.length (t.top.labels.map Value.string)/\OTs w t.kids (As j) (fk j))
  (h4:(blk A ++ (List.range ts.length).flatMap fun j=>blk (Ls j) ++ fk j).Perm fp) (h5:fp.Nodup):OTs w ts (.slice A ts.length d) fp:=by
 have hnd:=(List.nodup_append.1 (h4.nodup_iff.2 h5)).2.1;have hex:∀ j,∃ fs,j < ts.length->(∀ t,ts[j]?=some t->OTy w t (part3 xs j) fs)/\fs.Perm (blk (Ls j) ++ fk j):=by
  intro j
  by_cases hj:j < ts.length
  ·obtain ⟨e,k0,k1,k2⟩:=h3 j _ (List.getElem?_eq_getElem hj)
   obtain ⟨fs,q1,q2⟩:=OTy.make k0 k1 k2 (Zqn hnd hj);refine ⟨fs,fun _=>⟨fun t ht=>?_,q2⟩⟩;rw [List.getElem?_eq_getElem hj] at ht;injection ht with ht
   subst ht;rw [e];exact q1
  ·exact ⟨[],fun h=>absurd h hj⟩
 obtain ⟨fs,hfs⟩:=Classical.axiomOfChoice hex;refine ⟨A,d,xs,fs,rfl,h1,h2,fun j t hj=>(hfs j (List.getElem?_eq_some_iff.1 hj).1).1 t hj,List.Perm.trans (List.Perm.append_left _ ?_) h4,h5⟩;exact Zfi _ fun j hj=>(hfs j hj).2
def AllRT (R:List Ty×Value->List Nat->Prop):StkT->List (List Nat)->Prop
 | [],[]=>True
 | p :: S,fp :: Φ=>R p fp/\AllRT R S Φ
 | [],_ :: _=>False
 | _ :: _,[]=>False
def Zdd (ts:List Ty)(fk:Nat->List Nat) (Φ:List (List Nat)):Nat->List (List Nat)
 | 0=>Φ
 | k+1=>match ts[k]? with
  | some t=>if t.kids.length=0 then Zdd ts fk Φ k else fk k :: Zdd ts fk Φ k
  | none=>Zdd ts fk Φ k
theorem Zcn {ts:List Ty}{fk:Nat->List Nat} {Φ:List (List Nat)}{k:Nat}(hk:k < ts.length):Zdd ts fk Φ (k+1)=if ts[k].kids.length=0 then Zdd ts fk Φ k else fk k :: Zdd ts fk Φ k:=by
 show (match ts[k]? with|some t=>_|none=>_)=_
 rw [List.getElem?_eq_getElem hk]
theorem Zll {R:List Ty×Value->List Nat->Prop}{ts:List Ty}{As:Nat->Value}{S:StkT}{fk:Nat->List Nat} {Φ:List (List Nat)}:∀ k,k<=ts.length->
  (AllRT R (Zat ts As S k) (Zdd ts fk Φ k)↔(∀ j (h:j < ts.length),j < k->ts[j].kids.length≠0->R (ts[j].kids,As j) (fk j))/\AllRT R S Φ)
 | 0,_=>⟨fun h=>⟨fun j _ hj=>absurd hj (by omega),h⟩,fun h=>h.2⟩
 | k+1,hk=>by
  have ih:=Zll (R:=R) (ts:=ts) (As:=As) (S:=S) (fk:=fk) (Φ:=Φ) k (by omega);have hk':k < ts.length:=by omega
  rw [Zbw hk',Zcn hk'];by_cases h0:ts[k].kids.length=0
  ·rw [if_pos h0,if_pos h0,ih]
   refine and_congr_left fun _=>⟨fun h j hj hlt hn=>?_,fun h j hj hlt hn=>h j hj (by omega) hn⟩
   by_cases e:j=k
   ·subst e;exact absurd h0 hn
   ·exact h j hj (by omega) hn
  ·rw [if_neg h0,if_neg h0]
   show R _ _/\AllRT R _ _↔_
   rw [ih]
   constructor
   ·rintro ⟨h1,h2,h3⟩
    refine ⟨fun j hj hlt hn=>?_,h3⟩;by_cases e:j=k
    ·subst e;exact h1
    ·exact h2 j hj (by omega) hn
   ·rintro ⟨h1,h2⟩
    exact ⟨h1 k hk' (by omega) h0,fun j hj hlt hn=>h1 j hj (by omega) hn,h2⟩
theorem Zeg {R:List Ty×Value->List Nat->Prop}{ts:List Ty}{As:Nat->Value}{S:StkT}:∀ {k} {Φ':List (List Nat)},k<=ts.length->AllRT R (Zat ts As S k) Φ'->∃ fk Φ,Φ'=Zdd ts fk Φ k/\∀ j,(∃ h:j < ts.length,ts[j].kids.length=0)∨k<=j->fk j=[]
 | 0,Φ',_,_=>⟨fun _=>[],Φ',rfl,fun _ _=>rfl⟩
 | k+1,Φ',hk,h=>by
  have hk':k < ts.length:=by omega
  rw [Zbw hk'] at h;by_cases h0:ts[k].kids.length=0
  ·rw [if_pos h0] at h
   obtain ⟨fk,Φ,e,hn⟩:=Zeg (by omega) h;refine ⟨fk,Φ,by rw [Zcn hk',if_pos h0,e],fun j hj=>hn j ?_⟩
   rcases hj with hj|hj
   ·exact .inl hj
   ·exact .inr (by omega)
  ·rw [if_neg h0] at h
   match Φ',h with
   | fp :: Φ'',h=>
    obtain ⟨fk,Φ,e,hn⟩:=Zeg (by omega) h.2;have hcong:∀ n,n<=k->Zdd ts (fun j=>if j=k then fp else fk j) Φ n=Zdd ts fk Φ n:=by
     intro n
     induction n with
     | zero=>intro _;rfl
     | succ n ih=>
      intro hle
      rw [Zcn (by omega:n < ts.length),Zcn (by omega:n < ts.length),ih (by omega),if_neg (by omega:n≠k)]
    refine ⟨fun j=>if j=k then fp else fk j,Φ,?_,fun j hj=>?_⟩
    ·rw [Zcn hk',if_neg h0,if_pos rfl,hcong k nQ,e]
    ·by_cases ej:j=k
     ·subst ej
      rcases hj with ⟨_,hj⟩|hj
      ·exact absurd hj h0
      ·omega
     ·show (if j=k then fp else fk j)=[]
      rw [if_neg ej];refine hn j (hj.imp id fun h=>by omega)
theorem Ziv {ts:List Ty}{fk:Nat->List Nat} {Φ:List (List Nat)}:∀ k,k<=ts.length->(Zdd ts fk Φ k).flatten.Perm (((List.range k).flatMap fun j=>if (ts[j]?.map fun t=>t.kids.length)=some 0 then [] else fk j) ++ Φ.flatten)
 | 0,_=>by simp [Zdd]
 | k+1,hk=>by
  have ih:=Ziv (ts:=ts) (fk:=fk) (Φ:=Φ) k (by omega);have hk':k < ts.length:=by omega
  rw [Zcn hk',List.range_succ,List.flatMap_append];simp only [List.flatMap_cons,List.flatMap_nil,List.append_nil,List.getElem?_eq_getElem hk',Option.map_some,Option.some.injEq];by_cases h0:ts[k].kids.length=0
  ·rw [if_pos h0,if_pos h0,List.append_nil];exact ih
  ·rw [if_neg h0,if_neg h0,List.flatten_cons]
   refine (List.Perm.append_left _ ih).trans ?_;rw [<-List.append_assoc];exact List.Perm.append_right _ List.perm_append_comm
def Zbf:Value->List Nat
 | .slice A _ _=>blk A
 | _=>[]
def Zcg (S:StkT):List Nat:=S.flatMap fun p=>Zbf p.2
theorem Zaw (p:List Ty×Value)(S:StkT):Zcg (p :: S)=Zbf p.2 ++ Zcg S:=rfl
theorem Zho {ts:List Ty}{As:Nat->Value}{S:StkT}:∀ k,k<=ts.length->(Zcg (Zat ts As S k)).Perm (((List.range k).flatMap fun j=>if (ts[j]?.map fun t=>t.kids.length)=some 0 then [] else Zbf (As j)) ++ Zcg S)
 | 0,_=>by simp [Zat]
 | k+1,hk=>by
  have ih:=Zho (ts:=ts) (As:=As) (S:=S) k (by omega);have hk':k < ts.length:=by omega
  rw [Zbw hk',List.range_succ,List.flatMap_append];simp only [List.flatMap_cons,List.flatMap_nil,List.append_nil,List.getElem?_eq_getElem hk',Option.map_some,Option.some.injEq];by_cases h0:ts[k].kids.length=0
  ·rw [if_pos h0,if_pos h0,List.append_nil];exact ih
  ·rw [if_neg h0,if_neg h0,Zaw]
   refine (List.Perm.append_left _ ih).trans ?_;rw [<-List.append_assoc];exact List.Perm.append_right _ List.perm_append_comm
theorem Zey {f g:Nat->List Nat}{n:Nat}(h:∀ j,j < n->f j=g j):(List.range n).flatMap f=(List.range n).flatMap g:=by
 induction n with
 | zero=>rfl
 | succ n ih=>
  rw [List.range_succ,List.flatMap_append,List.flatMap_append,ih fun j hj=>h j (by omega)];simp [h n (by omega)]
theorem Zqt {ts:List Ty}{As:Nat->Value}{S:StkT}(h:∀ j (hj:j < ts.length),ts[j].kids.length=0->Zbf (As j)=[]):(Zcg (Zcd ts As S)).Perm (((List.range ts.length).flatMap fun j=>Zbf (As j)) ++ Zcg S):=by
 have:=Zho (ts:=ts) (As:=As) (S:=S) ts.length nQ
 rw [Zey (g:=fun j=>Zbf (As j))] at this
 ·exact this
 ·intro j hj
  rw [List.getElem?_eq_getElem hj,Option.map_some];by_cases h0:ts[j].kids.length=0
  ·rw [if_pos (by rw [h0]),h j hj h0]
  ·rw [if_neg (by intro e;injection e with e;exact h0 e)]
theorem Zov {ts:List Ty}{fk:Nat->List Nat} {Φ:List (List Nat)}(h:∀ j (hj:j < ts.length),ts[j].kids.length=0->fk j=[]):(Zdd ts fk Φ ts.length).flatten.Perm (((List.range ts.length).flatMap fk) ++ Φ.flatten):=by
 have:=Ziv (ts:=ts) (fk:=fk) (Φ:=Φ) ts.length nQ
 rw [Zey (g:=fk)] at this
 ·exact this
 ·intro j hj
  rw [List.getElem?_eq_getElem hj,Option.map_some];by_cases h0:ts[j].kids.length=0
  ·rw [if_pos (by rw [h0]),h j hj h0]
  ·rw [if_neg (by intro e;injection e with e;exact h0 e)]
theorem Zom {ts:List Ty}{As:Nat->Value}{S:StkT}{p:List Ty×Value}(h:p∈Zcd ts As S):p∈S∨∃ j,∃ h:j < ts.length,ts[j].kids.length≠0/\p=(ts[j].kids,As j):=by
 have go:∀ k,k<=ts.length->p∈Zat ts As S k->p∈S∨∃ j,∃ h:j < ts.length,ts[j].kids.length≠0/\p=(ts[j].kids,As j):=by
  intro k
  induction k with
  | zero=>intro _ h;exact .inl h
  | succ k ih=>
   intro hk h
   rw [Zbw (by omega)] at h
   split at h
   ·exact ih (by omega) h
   ·rename_i h0
    rcases List.mem_cons.1 h with h|h
    ·exact .inr ⟨k,by omega,h0,h⟩
    ·exact ih (by omega) h
 exact go _ nQ h
theorem Zsa {f:Nat->List Nat}{n b:Nat}:b∈(List.range n).flatMap f↔∃ j,j < n/\b∈f j:=by
 simp only [List.mem_flatMap,List.mem_range]
def Zlg (w W:World)(p:List Ty×Value):Prop:=
 ∃ A d xs,p.2=.slice A p.1.length d/\p.1.length<=1048577/\W.ownsRow 0 38 3 p.2 p.1.length xs/\∀ j t,p.1[j]?=some t->RTy w t (part3 xs j)/\wt t<=1048576
theorem Zlg.held {w W W':World}{p:List Ty×Value}{K:Nat->Prop}(h:Zlg w W p)(hH:Held K W W')(hK:∀ b∈Zbf p.2,K b):Zlg w W' p:=by
 obtain ⟨A,d,xs,e,k1,k2,k3⟩:=h;refine ⟨A,d,xs,e,k1,?_,k3⟩;rw [e] at k2 hK ⊢;exact Zdg k2 hH hK
def Zacl (t:List Ty)(s0:Value)(S:StkT)(F:Nat->Prop)(W:World):Prop:=
 ∀ (W':World) (Φ:List (List Nat)),Held (fun i=>F i/\i∉Zcg S) W W'->AllRT (fun p fp=>OTs W' p.1 p.2 fp) S Φ->Φ.flatten.Nodup->(∀ b∈Φ.flatten,b∈Zcg S∨W.heap.size<=b)->∃ fp,OTs W' t s0 fp/\∀ b∈fp,F b∨b∈Φ.flatten
structure Zei (w:World) (t:List Ty) (s0:Value) (S:StkT) (F:Nat->Prop) (W:World):Prop where
 bel:Below w.heap.size w W
 fr:∀ b,F b->w.heap.size<=b/\b < W.heap.size
 lst:∀ p∈S,Zlg w W p
 ne:∀ p∈S,0 < p.1.length∨p=([],.slice none 0 0)
 nd:(Zcg S).Nodup
 own:∀ b∈Zcg S,F b
 fin:Zacl t s0 S F W
theorem Zei.keep {w:World}{t:List Ty}{s0:Value}{S:StkT}{F:Nat->Prop}{lo:Nat}{A B:World}(hlo:w.heap.size<=lo)(h:Zei w t s0 S F A)(hH:Held (fun i=>i < lo∨F i) A B):Zei w t s0 S F B where
 bel:=h.bel.trans (hH.below h.bel.size fun i hi=>.inl (by omega))
 fr:=fun b hb=>⟨(h.fr b hb).1,Nat.lt_of_lt_of_le (h.fr b hb).2 hH.size⟩
 lst:=fun p hp=>(h.lst p hp).held hH fun b hb=>.inr (h.own b (List.mem_flatMap.2 ⟨p,hp,hb⟩))
 ne:=h.ne
 nd:=h.nd
 own:=h.own
 fin:=fun W' Φ hH' hA hnd hin=>h.fin W' Φ ((hH.mono fun i _ hi=>.inr hi.1).trans hH') hA hnd fun b hb=>(hin b hb).imp id fun h=>Nat.le_trans hH.size h
theorem Zei.done {w:World}{t:List Ty}{s0:Value}{F:Nat->Prop}{W:World}(h:Zei w t s0 [] F W):∃ fp,OTs W t s0 fp/\∀ b∈fp,F b:=by
 obtain ⟨fp,h1,h2⟩:=h.fin W [] (Held.refl _ _) trivial (by simp) (by simp);exact ⟨fp,h1,fun b hb=>(h2 b hb).resolve_right (by simp)⟩
theorem Zsz {w W:World}{t0:List Ty}{s0:Value}{S:StkT}{F:Nat->Prop}(hI:Zei w t0 s0 (([],.slice none 0 0) :: S) F W):Zei w t0 s0 S F W where
 bel:=hI.bel
 fr:=hI.fr
 lst:=fun p hp=>hI.lst p (List.mem_cons_of_mem _ hp)
 ne:=fun p hp=>hI.ne p (List.mem_cons_of_mem _ hp)
 nd:=by have:=hI.nd;rw [Zaw] at this;exact (List.nodup_append.1 this).2.1
 own:=fun b hb=>hI.own b (by rw [Zaw];exact List.mem_append.2 (.inr hb))
 fin:=fun W' Φ hH hA hnd hin=>by
  obtain ⟨fp,h1,h2⟩:=hI.fin W' ([] :: Φ) (hH.mono fun i _ hi=>⟨hi.1,fun h=>hi.2 (by rw [Zaw];exact List.mem_append.2 (.inr h))⟩) ⟨OTs.nil W',hA⟩ (by simpa using hnd) (fun b hb=>by
   rcases hin b (by simpa using hb) with h|h
   ·exact .inl (by rw [Zaw];exact List.mem_append.2 (.inr h))
   ·exact .inr h)
  exact ⟨fp,h1,fun b hb=>by simpa using h2 b hb⟩
theorem Zsy {w W W2:World}{t0:List Ty}{s0:Value}{ts:List Ty}{g cap lo:Nat}{S:StkT}{F:Nat->Prop}(hI:Zei w t0 s0 ((ts,.slice (some ⟨g,0,none⟩) ts.length cap) :: S) F W)
  {ys:List Value} {Ls:Nat->Option Addr} {cs:Nat->Nat} {As:Nat->Value} (h1:ts.length<=1048577) (h2:W2.ownsRow 0 38 3 (.slice (some ⟨g,0,none⟩) ts.length cap) ts.length ys)
  (h3:∀ j t,ts[j]?=some t->part3 ys j=[.int .i64 t.top.kind,.slice (Ls j) t.top.labels.length (cs j),As j]/\t.top.ok/\W2.ownsRow 0 9 1 (.slice (Ls j) t.top.labels.length (cs j)) t.top.labels.length (t.top.labels.map Value.string)/\Zlg w W2 (t.kids,As j)/\(t.kids.length=0->As j=.slice none 0 0))
  (h4:((List.range ts.length).flatMap fun j=>blk (Ls j) ++ Zbf (As j)).Nodup) (h5:∀ b∈(List.range ts.length).flatMap fun j=>blk (Ls j) ++ Zbf (As j),W.heap.size<=b/\b < W2.heap.size) (h6:Held (fun i=>i≠g) W W2) :
  Held (fun i=>¬ F i) W W2/\∃ F',(∀ b,F' b->F b∨W.heap.size<=b)/\RowCT lo F' W2 (.slice (some ⟨g,0,none⟩) ts.length cap) ts As/\Zei w t0 s0 (Zcd ts As S) F' W2:=by
 have hgS:g∈Zcg ((ts,.slice (some ⟨g,0,none⟩) ts.length cap) :: S):=by rw [Zaw];exact List.mem_append.2 (.inl (by simp [Zbf,blk]))
 have hgF:F g:=hI.own g hgS;have hgl:=(hI.fr g hgF).2;have hsz:=h6.size;have hndS:=hI.nd;rw [Zaw] at hndS;obtain ⟨_,hndS,hdis⟩:=List.nodup_append.1 hndS;have hgn:g∉Zcg S:=fun h=>hdis g (by simp [Zbf,blk]) g h rfl
 have hSF:∀ b∈Zcg S,F b:=fun b hb=>hI.own b (by rw [Zaw];exact List.mem_append.2 (.inr hb))
 have hz:∀ j (hj:j < ts.length),ts[j].kids.length=0->Zbf (As j)=[]:=fun j hj h0=>by
  rw [(h3 j _ (List.getElem?_eq_getElem hj)).2.2.2.2 h0];rfl
 have hpr:=Zqt (S:=S) hz;obtain ⟨ndL,ndA,disLA⟩:=List.nodup_append.1 ((Zar (fun j=>blk (Ls j)) (fun j=>Zbf (As j)) ts.length).nodup_iff.1 h4);have bL:∀ b∈(List.range ts.length).flatMap fun j=>blk (Ls j),W.heap.size<=b/\b < W2.heap.size:=fun b hb=>h5 b ((Zar _ _ _).mem_iff.2 (List.mem_append.2 (.inl hb)))
 have bA:∀ b∈(List.range ts.length).flatMap fun j=>Zbf (As j),W.heap.size<=b/\b < W2.heap.size:=fun b hb=>h5 b ((Zar _ _ _).mem_iff.2 (List.mem_append.2 (.inr hb)))
 have inP:∀ b,b∈Zcg (Zcd ts As S)↔b∈((List.range ts.length).flatMap fun j=>Zbf (As j))∨b∈Zcg S:=fun b=>by rw [hpr.mem_iff,List.mem_append]
 refine ⟨h6.mono fun i _ hi e=>hi (e ▸ hgF),fun b=>F b∨b∈(List.range ts.length).flatMap fun j=>blk (Ls j) ++ Zbf (As j),fun b hb=>hb.imp id fun h=>(h5 b h).1,?_,?_⟩
 ·refine ⟨_,_,rfl,by omega,fun j t hj=>?_⟩
  obtain ⟨e,_,_,hc,_⟩:=h3 j t hj;obtain ⟨A',d',_,hA',_⟩:=hc;have hx:ys.length=ts.length * 3:=h2.1;have hjl:=(List.getElem?_eq_some_iff.1 hj).1;have cell:∀ i u,i < 3->(part3 ys j)[i]?=some u->W2.cell? ((⟨g,0,none⟩:Addr).add (j * 3+i))=some u:=fun i u hi hu=>by
   rw [Zcv _ _ _ hi] at hu;exact h2.cells (g:=g) rfl _ u hu
  rw [e] at cell;simp only at hA';exact ⟨_,_,_,_,_,A',d',rfl,.inr (.inl hgF),hA',cell 0 _ (by omega) rfl,cell 1 _ (by omega) rfl,cell 2 _ (by omega) rfl⟩
 ·refine ⟨hI.bel.trans (h6.below hI.bel.size fun i hi=>by show i≠g;have:=(hI.fr g hgF).1;omega),fun b hb=>?_,fun p hp=>?_,fun p hp=>?_,?_,fun b hb=>?_,?_⟩
  ·rcases hb with hb|hb
   ·have:=hI.fr b hb;exact ⟨this.1,by omega⟩
   ·have:=h5 b hb;exact ⟨Nat.le_trans hI.bel.size this.1,this.2⟩
  ·rcases Zom hp with h|⟨j,hj,_,rfl⟩
   ·refine (hI.lst p (List.mem_cons_of_mem _ h)).held h6 fun b hb e=>?_
    exact hgn (e ▸ List.mem_flatMap.2 ⟨p,h,hb⟩)
   ·exact (h3 j _ (List.getElem?_eq_getElem hj)).2.2.2.1
  ·rcases Zom hp with h|⟨j,hj,h0,rfl⟩
   ·exact hI.ne p (List.mem_cons_of_mem _ h)
   ·refine .inl ?_
    show 0 < ts[j].kids.length
    omega
  ·refine hpr.nodup_iff.2 (List.nodup_append.2 ⟨ndA,hndS,fun x hx y hy e=>?_⟩)
   have h7:=bA x hx;have h8:=(hI.fr y (hSF y hy)).2
   omega
  ·rcases (inP b).1 hb with h|h
   ·exact .inr ((Zar _ _ _).mem_iff.2 (List.mem_append.2 (.inr h)))
   ·exact .inl (hSF b h)
  ·intro W' Φ' hH hA hnd hin
   obtain ⟨fk,Φ,rfl,hfz⟩:=Zeg nQ hA;obtain ⟨hk,hS⟩:=(Zll ts.length nQ).1 hA;have hfl:=Zov (Φ:=Φ) (fk:=fk) (ts:=ts) fun j hj h0=>hfz j (.inl ⟨hj,h0⟩)
   have hndf:=hfl.nodup_iff.1 hnd;have hin':∀ b∈((List.range ts.length).flatMap fk) ++ Φ.flatten,(b∈((List.range ts.length).flatMap fun j=>Zbf (As j))∨b∈Zcg S)∨W2.heap.size<=b:=fun b hb=>(hin b (hfl.mem_iff.2 hb)).imp (inP b).1 id
   have notP:∀ b,(b∈(List.range ts.length).flatMap fun j=>blk (Ls j))->b∉Zcg (Zcd ts As S):=fun b hb h=>by
    rcases (inP b).1 h with h|h
    ·exact disLA b hb b h rfl
    ·have:=bL b hb;have:=(hI.fr b (hSF b h)).2;omega
   have gP:g∉Zcg (Zcd ts As S):=fun h=>by
    rcases (inP g).1 h with h|h
    ·have:=bA g h;omega
    ·exact hgn h
   have hnd0:((blk (some (⟨g,0,none⟩:Addr)) ++ (List.range ts.length).flatMap fun j=>blk (Ls j) ++ fk j) ++ Φ.flatten).Nodup:=by
    have hp:((blk (some (⟨g,0,none⟩:Addr)) ++ (List.range ts.length).flatMap fun j=>blk (Ls j) ++ fk j) ++ Φ.flatten).Perm ([g] ++ (((List.range ts.length).flatMap fun j=>blk (Ls j)) ++ (((List.range ts.length).flatMap fk) ++ Φ.flatten))):=by
     rw [List.append_assoc];refine List.Perm.append_left _ ?_;rw [<-List.append_assoc];exact List.Perm.append_right _ (Zar _ _ _)
    refine hp.nodup_iff.2 (List.nodup_append.2 ⟨by simp,List.nodup_append.2 ⟨ndL,hndf,fun x hx y hy e=>?_⟩,fun x hx y hy e=>?_⟩)
    ·subst e
     have h7:=bL x hx
     rcases hin' x hy with (h|h)|h
     ·exact disLA x hx x h rfl
     ·have:=(hI.fr x (hSF x h)).2;omega
     ·omega
    ·subst e
     have e:x=g:=by simpa using hx
     subst e
     rcases List.mem_append.1 hy with h|h
     ·have:=bL x h;omega
     ·rcases hin' x h with (h|h)|h
      ·have:=bA x h;omega
      ·exact hgn h
      ·omega
   have hnd1:=(List.nodup_append.1 hnd0).1;have hOV:OTs W' ts (.slice (some ⟨g,0,none⟩) ts.length cap) (blk (some (⟨g,0,none⟩:Addr)) ++ (List.range ts.length).flatMap fun j=>blk (Ls j) ++ fk j):=by
    refine OTs.make (xs:=ys) (Ls:=Ls) (cs:=cs) (As:=As) (fk:=fk) (by omega) (Zdg h2 hH fun b hb=>?_) (fun j t hj=>?_) (List.Perm.refl _) hnd1
    ·have e:b=g:=by simpa [blk] using hb
     subst e;exact ⟨.inl hgF,gP⟩
    ·obtain ⟨e,ok,hlab,_,hnil⟩:=h3 j t hj
     have hjl:=(List.getElem?_eq_some_iff.1 hj).1;refine ⟨e,ok,Zdg hlab hH fun b hb=>?_,?_⟩
     ·have hb':b∈(List.range ts.length).flatMap fun j=>blk (Ls j):=Zsa.2 ⟨j,hjl,hb⟩
      exact ⟨.inr ((Zar _ _ _).mem_iff.2 (List.mem_append.2 (.inl hb'))),notP b hb'⟩
     ·rw [List.getElem?_eq_getElem hjl] at hj
      injection hj with hj
      by_cases h0:t.kids.length=0
      ·rw [hnil h0,hfz j (.inl ⟨hjl,by rw [hj];exact h0⟩),List.eq_nil_of_length_eq_zero h0]
       exact OTs.nil W'
      ·have:=hk j hjl hjl (by rw [hj];exact h0)
       rw [hj] at this;exact this
   have hH0:Held (fun i=>F i/\i∉Zcg ((ts,.slice (some ⟨g,0,none⟩) ts.length cap) :: S)) W W':=by
    refine (h6.mono fun i _ hi e=>hi.2 (e ▸ hgS)).trans (hH.mono fun i hi hF=>⟨.inl hF.1,fun h=>?_⟩)
    rcases (inP i).1 h with h|h
    ·have:=bA i h;have:=(hI.fr i hF.1).2;omega
    ·exact hF.2 (by rw [Zaw];exact List.mem_append.2 (.inr h))
   have hin0:∀ b∈(((blk (some (⟨g,0,none⟩:Addr)) ++ (List.range ts.length).flatMap fun j=>blk (Ls j) ++ fk j) :: Φ):List (List Nat)).flatten,b∈Zcg ((ts,.slice (some ⟨g,0,none⟩) ts.length cap) :: S)∨W.heap.size<=b:=by
    intro b hb
    rw [List.flatten_cons,List.mem_append,List.mem_append] at hb
    rcases hb with (h|h)|h
    ·have e:b=g:=by simpa [blk] using h
     exact .inl (e ▸ hgS)
    ·rcases List.mem_append.1 ((Zar _ _ _).mem_iff.1 h) with h|h
     ·exact .inr (bL b h).1
     ·rcases hin' b (List.mem_append.2 (.inl h)) with (h|h)|h
      ·exact .inr (bA b h).1
      ·exact .inl (by rw [Zaw];exact List.mem_append.2 (.inr h))
      ·exact .inr (by omega)
    ·rcases hin' b (List.mem_append.2 (.inr h)) with (h|h)|h
     ·exact .inr (bA b h).1
     ·exact .inl (by rw [Zaw];exact List.mem_append.2 (.inr h))
     ·exact .inr (by omega)
   obtain ⟨fp,f1,f2⟩:=hI.fin W' ((blk (some (⟨g,0,none⟩:Addr)) ++ (List.range ts.length).flatMap fun j=>blk (Ls j) ++ fk j) :: Φ) hH0 ⟨hOV,hS⟩ (by rw [List.flatten_cons];exact hnd0) hin0;refine ⟨fp,f1,fun b hb=>?_⟩
   rcases f2 b hb with h|h
   ·exact .inl (.inl h)
   ·rw [List.flatten_cons,List.mem_append,List.mem_append] at h
    rcases h with (h|h)|h
    ·have e:b=g:=by simpa [blk] using h
     exact .inl (.inl (e ▸ hgF))
    ·rcases List.mem_append.1 ((Zar _ _ _).mem_iff.1 h) with h|h
     ·exact .inl (.inr ((Zar _ _ _).mem_iff.2 (List.mem_append.2 (.inl h))))
     ·exact .inr (hfl.mem_iff.2 (List.mem_append.2 (.inl h)))
    ·exact .inr (hfl.mem_iff.2 (List.mem_append.2 (.inr h)))
section
variable {P:Program}
theorem Ziz (w:World)(t ty e:TypeId)(i:TypeInfo)(z:Value)(size bytes:Nat)(ht:P.underlying t=some (.slice e))(hi:P.info? e=some i)(hz:i.zero=some z)(hsize:i.size=size)(hby:i.bytes=bytes)(hzs:z.cells.size=size)(hsz:0 < size)
  (A:Option Addr) (m c:Nat) (news:List Value) (hl:news.length=m * size) (hnews:Sl w A news) (h1:∀ u∈news,u.oneCell'=true) (h63:m<=maxLen) (hbytes:m * bytes<=140737488355328) :
  ∃ v' w',(Builtin.append_ #[t,t] ty #[.slice none 0 0,.slice A m c]).run P w=.ok v' w'/\w'.ownsRow 0 e size v' m news/\w.grownBy w' none/\(m=0->v'=.slice none 0 0)/\(∀ b,v'.ownBlock=some b->b=w.heap.size):=by
 have hnil:w.ownsRow 0 e size (.slice none 0 0) 0 []:=⟨by simp,.inl ⟨rfl,rfl⟩⟩;cases A with
 | none=>
  have hn:news=[]:=by
   cases news with
   | nil=>rfl
   | cons u r=>
    obtain ⟨ad,e,_⟩:=hnews 0 u rfl;cases e
  subst hn;have hm:m=0:=by
   rcases Nat.eq_zero_or_pos m with h|h
   ·exact h
   ·have:=Nat.mul_pos h hsz
    simp only [List.length_nil] at hl
    omega
  subst hm;refine ⟨.slice none 0 0,w,?_,hnil,World.grownBy.refl w _,fun _=>rfl,fun b hb=>by cases hb⟩;simp [Builtin.append_,run_underlying ht,sizeOf,typeInfo,hi,Builtin.lenOf,Builtin.firstCells]
 | some ad=>
  have hc:∀ j u,news[j]?=some u->w.cell? (ad.add j)=some u:=by
   intro j u hj
   obtain ⟨ad',e,hcc⟩:=hnews j u hj;injection e with e
   subst e;exact hcc
  obtain ⟨v',w',h2,h3,h4,h5,h6⟩:=run_append_own_at (P:=P) w 0 t ty e i z size bytes ht hi hz hsize hby hzs hsz (.slice none 0 0) 0 [] hnil ad m c news hl hc h1 (by omega) (by rw [Nat.zero_add];exact hbytes) (Nat.zero_le _);refine ⟨v',w',h2,by simpa using h3,h4,fun hm=>h5.2 ⟨rfl,hm⟩,fun b hb=>?_⟩
  rcases h6 with h|h
  ·rw [h] at hb;cases hb
  ·rw [h] at hb;injection hb with hb;exact hb.symm
theorem Zdk {F:Fence}{nF:Nat}{w:World}{ops:Array Oper}{rest:List Oper}{o:Oper}{a:Act}{Q:Exit->Act->World->Prop}(hgd:o.guard=none)(s x:Operand)(t:TypeId)
  (ho:o.op=.call { callee:=.builtin .append,args:=#[s,x],argTypes:=#[t,t] })
  (e:TypeId) (i:TypeInfo) (z:Value) (size bytes:Nat) (ht:P.underlying t=some (.slice e)) (hi:P.info? e=some i) (hz:i.zero=some z) (hsize:i.size=size) (hby:i.bytes=bytes) (hzs:z.cells.size=size) (hsz:0 < size)
  (hs:a.eval s=.slice none 0 0) (A:Option Addr) (m c:Nat) (news:List Value) (hx:a.eval x=.slice A m c) (hl:news.length=m * size) (hnews:Sl w A news) (h1:∀ u∈news,u.oneCell'=true) (h63:m<=maxLen) (hbytes:m * bytes<=140737488355328)
  (h:∀ v' w',w'.ownsRow 0 e size v' m news->w.grownBy w' none->(m=0->v'=.slice none 0 0)->(∀ b,v'.ownBlock=some b->b=w.heap.size)->wpListIn F nF P ops Q rest (a.put o.dst v') w') :
  wpListIn F nF P ops Q (o :: rest) a w:=by
 refine wpListIn_plain hgd fun K hK=>?_
 obtain ⟨v',w',hr,h2,h3,h4,h5⟩:=Ziz (P:=P) w t o.type e i z size bytes ht hi hz hsize hby hzs hsz A m c news hl hnews h1 h63 hbytes;unfold Oper.wpIn;refine ⟨by simp [Oper.about,ho,resolve,Target.leads,Sem.run_pure],?_⟩;rw [Oper.semAt_plain F _ _ (by rw [ho];intro c hc';cases hc')];simp [execOp,ho,resolve,invoke,builtin,hs,hx,hr,Result.andThen];exact hK _ _ (h v' w' h2 h3 h4 h5)
end
end Go.Proofs.YtlcedleebbgebaaGreatDoor
