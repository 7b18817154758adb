/-
  Merged by program: TypSeq, CopIT.
-/
import Derived.Test.YtlcedleebbgebaaGreatDoorQ27
import Derived.Test.YtlcedleebbgebaaGreatDoorQ14
import Derived.WalkSmall
set_option maxRecDepth 100000
set_option maxHeartbeats 4000000
namespace Go.Proofs.YtlcedleebbgebaaGreatDoor
open Go.RowKit Go.Shelf
attribute [local go_sem] Oper.semAt_some
theorem Zadd:(Tryz.prog.info? 36).map (fun i=>(i.zero,i.size,i.bytes))=some (some (.slice none 0 0),1,24):=by kernel_rfl
def FnAtT (p:Nat)(s:Value)(w:World)(e:Ending)(w':World):Prop:=e=.returned (.func (.func 118) #[] #[.pointer (some ⟨p,0,none⟩),.pointer (some ⟨p+1,0,none⟩)])/\w'=(w.alloc (.cells #[s] 36)).alloc (.cells #[.func (.func 87) #[] #[]] 127)
theorem Ztx (w:World)(A:Option Addr)(n c:Nat):Calls Tryz.prog 86 #[.slice A n c,.func (.func 87) #[] #[]] w (FnAtT w.heap.size (.slice A n c) w):=by
 have hR:Hid (FnAtT w.heap.size (.slice A n c) w (.returned (.func (.func 118) #[] #[.pointer (some ⟨w.heap.size,0,none⟩),.pointer (some ⟨w.heap.size+1,0,none⟩)])) ((w.alloc (.cells #[.slice A n c] 36)).alloc (.cells #[.func (.func 87) #[] #[]] 127))):=⟨rfl,rfl⟩;go_enter Tryz.func86,Tryz.ntmps86;go_wp2_with fail;go_ret;exact hR.out
def RestT (J:StkT->(Nat->Prop)->World->Prop)(B Bf:Nat)(S T:StkT)(v:Value)(F:Nat->Prop)(wr:World):Prop:=
 wr.ownsRow B 36 1 v T.length (T.reverse.map (·.2))/\(∀ g,v.ownBlock=some g->¬ F g)/\J S F wr/\B<=wr.heap.size/\Boxed wr Bf 127 (.func (.func 87) #[] #[])/\Bf < B
def Zgl (J:StkT->(Nat->Prop)->World->Prop)(B Bf M:Nat)(S:StkT)(v:Value)(wr:World):Prop:=wST S<=M/\∃ F,RestT J B Bf S S v F wr
theorem RestT.held {J:StkT->(Nat->Prop)->World->Prop}{lo B Bf:Nat}{S T:StkT}{v:Value}{F:Nat->Prop}{A C:World}(hJ:∀ S F A C,J S F A->Held (fun i=>i < lo∨F i) A C->J S F C)(h:RestT J B Bf S T v F A)(hb:Below A.heap.size A C):RestT J B Bf S T v F C:=by
 obtain ⟨h1,h2,h3,h4,h5,h6⟩:=h;exact ⟨h1.kept (row:=none) ⟨hb.os,hb.tape,hb.output,hb.size,fun i hi _=>hb.block i hi⟩ (by cases hv:v.ownBlock <;> simp),h2,hJ _ _ _ _ h3 (Held.of_below hb fun i hi _=>hi),Nat.le_trans h4 hb.size,(hb.block _ h5.lt).trans h5,h6⟩
theorem Zxq {w w':World}{base size:Nat}{e:TypeId}{v:Value}{n:Nat}{xs:List Value}(h:w.ownsRow base e size v n xs)(hb:∀ g,v.ownBlock=some g->w'.heap[g]?=w.heap[g]?):w'.ownsRow base e size v n xs:=by
 refine ⟨h.1,h.2.imp id ?_⟩;rintro ⟨g,cap,cur,rfl,h1,h2,h3⟩;exact ⟨g,cap,cur,rfl,h1,(hb g rfl).trans h2,h3⟩
def Zmi (J:StkT->(Nat->Prop)->World->Prop)(B Bf lo:Nat)(ts:List Ty)(As:Nat->Value)(S:StkT)(s:Value)(F:Nat->Prop)(p i:Value)(wr:World):Prop:=
 ∃ k,k<=ts.length/\i=.int .i64 (k:Int)/\RestT J B Bf (Zcd ts As S) (Zat ts As S k) p F wr/\RowCT lo F wr s ts As
theorem RowCT.at {lo:Nat}{F:Nat->Prop}{w:World}{A:Option Addr}{n c:Nat}{ts:List Ty}{As:Nat->Value}(h:RowCT lo F w (.slice A n c) ts As) {k:Nat}(hk:k < ts.length) :
  ∃ ad p k0 L l lc A' c',A=some ad/\ad.add (k * 3)=p/\As k=.slice A' ts[k].kids.length c'/\w.cell? p=some (.int .i64 k0)/\w.cell? ⟨p.block,p.off+1,none⟩=some (.slice L l lc)/\w.cell? ⟨p.block,p.off+2,none⟩=some (.slice A' ts[k].kids.length c'):=by
 obtain ⟨A1,c1,h1,h2,h3⟩:=h;injection h1 with e1 e2 e3
 subst e1;obtain ⟨ad,d0,L,l,d2,A',c',rfl,k2,k3,q0,q1,q2⟩:=h3 k _ (List.getElem?_eq_getElem hk);refine ⟨ad,_,d0,L,l,d2,A',c',rfl,rfl,k3,q0,?_,?_⟩
 ·rw [<-Zao ad (k * 3) 1 (by omega)];exact q1
 ·rw [<-Zao ad (k * 3) 2 (by omega),<-k3];exact q2
theorem Znu (w:World)(v:Value)(t:TypeId):∀ j u,[v][j]?=some u->(w.alloc (.cells #[v] t)).cell? ((⟨w.heap.size,0,none⟩:Addr).add j)=some u:=by
 intro j u hj
 match j,hj with
 | 0,hj=>simp at hj;subst hj;simp [Addr.add]
 | j+1,hj=>simp at hj
theorem Zna (ts0:List Ty)(A0:Option Addr)(c0:Nat)(lo:Nat)(n Bx:Nat)(hn:2<=n)(W:World)(hlo:lo<=W.heap.size)(Keep:Nat->Prop)(hkx:Keep (Bx+1))(hbox:Boxed W Bx 36 (.slice A0 ts0.length c0))(hbox2:Boxed W (Bx+1) 127 (.func (.func 87) #[] #[]))(hM:wST [(ts0,.slice A0 ts0.length c0)]<=4194304) :
  Zabu Fence.wide n Tryz.prog 118 #[.pointer (some ⟨Bx,0,none⟩),.pointer (some ⟨Bx+1,0,none⟩)] [(ts0,.slice A0 ts0.length c0)] lo Keep W:=by
 intro l J Jx hJ hJB hY h0
 obtain ⟨i0,hi,hz0,hz1,hz2⟩:=info_parts Zadd;have x0:=hbox.cell;have h1:1<=n:=by omega
 obtain ⟨s0,hs0⟩:∃ s0:Value,(.slice A0 ts0.length c0)=s0:=⟨_,rfl⟩;refine callsIn_of_wp Tryz.func118 rfl trivial ?_ rfl;simp only [Tryz.ntmps118,List.size_toArray,List.length_cons,List.length_nil,Nat.reduceAdd,Nat.reduceSub,Array.replicate_succ,Array.replicate_zero,List.push_toArray,List.append_toArray,List.nil_append,List.cons_append];have H0:Hid (Zgl J W.heap.size (Bx+1) 4194304 [(ts0,.slice A0 ts0.length c0)] (.slice (some ⟨W.heap.size,0,none⟩) 1 1) (W.alloc (.cells #[.slice A0 ts0.length c0] 36))):=by
  obtain ⟨F,hF⟩:=h0;refine ⟨hM,F,?_,?_,hJ _ _ _ _ hF (Held.of_below (bQ.alloc nQ _) fun i hi _=>hi),by simp,(((Below.refl W.heap.size W).alloc nQ _).block _ hbox2.lt).trans hbox2,hbox2.lt⟩
  ·exact World.ownsRow_lit W #[.slice A0 ts0.length c0] 1 nQ (by unfold maxLen;omega) rfl
  ·intro g hg hf
   have:=(hJB _ _ _ hF g hf).2
   injection hg with hg
   simp at hg
   omega
 have HJ:=hQ hJ;have HJB:=hQ hJB;have HY:=hQ hY;have HKX:=hQ hkx;clear hJ hJB hY h0 hM hbox hbox2 hs0 hkx
 gi_wp2
 gi_loopw [4] (fun p wr=>∃ S,Zgl J W.heap.size (Bx+1) 4194304 S p wr) (fun p wr=>Classical.epsilon (Least fun m=>∃ S,Zgl J W.heap.size (Bx+1) 4194304 S p wr/\m=wST S))
 case atStart=>exact ⟨_,H0.out⟩
 case round=>
  obtain ⟨p,hp0⟩:∃ p,u4=p:=⟨_,rfl⟩;rw [hp0] at hrel ⊢;obtain ⟨k0,hk0⟩:=hrel;have hle:=Zbb (Q:=fun m=>∃ S,Zgl J W.heap.size (Bx+1) 4194304 S p wr/\m=wST S) ⟨k0,hk0,rfl⟩;obtain ⟨μ,hμ⟩:∃ μ,Classical.epsilon (Least fun m=>∃ S,Zgl J W.heap.size (Bx+1) 4194304 S p wr/\m=wST S)=μ:=⟨_,rfl⟩;rw [hμ] at hle;obtain ⟨⟨S,⟨hk,F,hrow,hnF,hJS,hB,hbf,hBf⟩,hmu⟩,_⟩:=hle;clear hk0 k0;have HMU:=hQ hμ;have HME:=hQ hmu;clear hμ hmu x0
  match S with
  | []=>
   obtain ⟨A,c,rfl⟩:=Zfh hrow;clear hrow hnF
   gi_wp2
   go_end0
   exact ⟨⟨_,rfl⟩,.inl ⟨F,hJS⟩⟩
  | (ts,s) :: S'=>
   obtain ⟨m,hm⟩:∃ m,S'.length=m:=⟨_,rfl⟩;have hrow':wr.ownsRow W.heap.size 36 1 p (m+1) (S'.reverse.map (·.2) ++ [s]):=by
    rw [<-hm];simpa using hrow
   have hml:m<=4194304:=by
    have:=Zza ((ts,s) :: S');simp only [List.length_cons] at this;omega
   have hxl:(S'.reverse.map (·.2)).length=m:=by simpa using hm
   obtain ⟨g,cap,rfl⟩:=ownsRow_succ hrow';have hpop:=ownsRow_pop (last:=[s]) (by rw [hxl];omega) hrow';have hc0:wr.cell? ⟨g,m,none⟩=some s:=by
    rw [hrow'.cellAt m (by omega),List.getElem?_append_right (by omega),hxl]
    simp
   have hgF:¬ F g:=hnF g rfl;have hglt:=(hrow'.lt g rfl).2;have hcap:m<=cap:=by
    rcases hrow'.2 with ⟨h0,_⟩|⟨g',cap',cur,hv,_,_,h3,_⟩
    ·cases h0
    ·injection hv with _ _ hv;omega
   have HPOP:=hQ hpop;have HM:=hQ hm;have HYS:=HY.out ts s S' F wr hJS;obtain ⟨fn,tmps,assign,body,hy,hR⟩:=HYS;have HK:=hQ hk;have hnf:¬ F (Bx+1):=fun h=>(HJB.out _ _ _ hJS _ h).1 HKX.out
   clear hrow hrow' hpop hm hxl hnF hk hJS
   gi_wp2
   refine hR.mono ?_;rintro e W3 (⟨rfl,hH3,As,F',hF',hrc,hJ3⟩|⟨rfl,hJx3⟩)
   ·obtain ⟨A,c,rfl,hlen,hcells⟩:=hrc
    have hsz3:=hH3.size;have hbf3:=(hH3.block _ hbf.lt hnf).trans hbf;have hgF':¬ F' g:=fun h=>(hF' g h).elim hgF (fun h=>by omega)
    have hR0:RestT J W.heap.size (Bx+1) (Zcd ts As S') S' (.slice (some ⟨g,0,none⟩) m cap) F' W3:=by
     refine ⟨by rw [HM.out];exact Zxq HPOP.out (fun q hq=>by injection hq with hq;subst hq;exact hH3.block _ hglt hgF),fun q hq=>by injection hq with hq;subst hq;exact hgF',hJ3,by omega,hbf3,hBf⟩
    have hK0:Zmi J W.heap.size (Bx+1) lo ts As S' (.slice A ts.length c) F' (.slice (some ⟨g,0,none⟩) m cap) (.int .i64 0) W3:=⟨0,Nat.zero_le _,rfl,hR0,A,c,rfl,hlen,hcells⟩;have HK0:=hQ hK0;clear hcells hH3 hJ3 hR0 hK0 hF' hgF hc0 hgF' hbf hbf3 hnf
    gi_wp2
    gi_loopw [4,30] (fun p i w3=>Zmi J W.heap.size (Bx+1) lo ts As S' (.slice A ts.length c) F' p i w3) (fun _ i _=>ts.length - (intOf i).toNat)
    case atStart=>exact HK0.out
    case round=>
     obtain ⟨k,hk,rfl,hrs,hrc⟩:=hrel;have hlT:=Zza (Zat ts As S' k);have hwT:=Zim ts As S' k hk;have hwk:=HK.out;rw [Zji] at hwk;have hsk:=Zde Tr.size ts k;have hT:(Zat ts As S' k).length<=4194304:=by
      show List.length _<=_
      have e1:Zed (ts.take k)<=Zed ts:=hsk;simp only at hwk
      omega
     by_cases hlt:k < ts.length
     ·obtain ⟨ad,q,e0,L,ll,lc,A',c',hA,hqe,hAk,q0,q1,q2⟩:=hrc.at hlt
      obtain ⟨V,vc,rfl⟩:=Zfh hrs.1;have y0:=hrs.2.2.2.2.1.cell;have nb:=Box3.new wr 38 (.int .i64 e0) (.slice L ll lc) (.slice A' ts[k].kids.length c');have yb1:=hrs.2.2.2.2.1.alloc (.cells #[.int .i64 e0,.slice L ll lc,.slice A' ts[k].kids.length c'] 38);have yb2:=yb1.alloc (.cells #[.int .i64 e0,.slice L ll lc,.slice A' ts[k].kids.length c'] 38);have nb2:=nb.alloc (.cells #[.int .i64 e0,.slice L ll lc,.slice A' ts[k].kids.length c'] 38);have y1:=yb1.cell;have y2:=yb2.cell;have z0:=nb2.c0;have z1:=nb2.c1;have z2:=nb2.c2;clear nb yb1 yb2 nb2;by_cases hz:ts[k].kids.length=0
      ·have HN:Hid (∀ i,i=Value.int .i64 ((k+1:Nat):Int)->∀ w4,Below wr.heap.size wr w4->Zmi J W.heap.size (Bx+1) lo ts As S' (.slice A ts.length c) F' (.slice V (Zat ts As S' k).length vc) i w4):=by
        intro i hi w4 hb4
        refine ⟨k+1,hlt,hi,?_,hrc.held (Held.of_below hb4 fun i hi _=>hi)⟩;rw [Zbw hlt,if_pos hz];exact hrs.held HJ.out hb4
       rw [hz] at q2 z0 z1 z2 y1 y2;subst hA;clear hrs hrc hlT hwT hwk hsk
       gi_wp2_with (refine ⟨trivial,?_⟩;gi_at_call 87;refine (callsIn_wide.2 (Zbm _ _ _ _)).mono ?_;rintro e w8 ⟨rfl,rfl⟩)
       go_roundw
       case rel=>exact HN.out _ (by go_num) _ ((bQ.alloc nQ _).alloc (by simp) _)
       case measure=>simp [intOf];omega
      ·have hown2:=((((hrs.1.alloc (.cells #[.int .i64 e0,.slice L ll lc,.slice A' ts[k].kids.length c'] 38)).alloc (.cells #[.int .i64 e0,.slice L ll lc,.slice A' ts[k].kids.length c'] 38)).alloc (.cells #[.int .i64 e0,.slice L ll lc,.slice A' ts[k].kids.length c'] 38)).alloc (.cells #[.slice A' ts[k].kids.length c'] 36))
       have hcl:=Znu (((wr.alloc (.cells #[.int .i64 e0,.slice L ll lc,.slice A' ts[k].kids.length c'] 38)).alloc (.cells #[.int .i64 e0,.slice L ll lc,.slice A' ts[k].kids.length c'] 38)).alloc (.cells #[.int .i64 e0,.slice L ll lc,.slice A' ts[k].kids.length c'] 38)) (.slice A' ts[k].kids.length c') 36;rw [World.size_alloc,World.size_alloc,World.size_alloc] at hcl;have HN:Hid (∀ v' w4,w4.ownsRow W.heap.size 36 1 v' ((Zat ts As S' k).length+1) ((Zat ts As S' k).reverse.map (·.2) ++ [.slice A' ts[k].kids.length c'])->
         ((((wr.alloc (.cells #[.int .i64 e0,.slice L ll lc,.slice A' ts[k].kids.length c'] 38)).alloc (.cells #[.int .i64 e0,.slice L ll lc,.slice A' ts[k].kids.length c'] 38)).alloc (.cells #[.int .i64 e0,.slice L ll lc,.slice A' ts[k].kids.length c'] 38)).alloc (.cells #[.slice A' ts[k].kids.length c'] 36)).grownBy w4 (Value.slice V (Zat ts As S' k).length vc).ownBlock->
         (v'.ownBlock=(Value.slice V (Zat ts As S' k).length vc).ownBlock∨v'.ownBlock=some (wr.heap.size+1+1+1+1))->∀ i,i=Value.int .i64 ((k+1:Nat):Int)->Zmi J W.heap.size (Bx+1) lo ts As S' (.slice A ts.length c) F' v' i w4):=by
        intro v' w4 ho4 hg4 hor i hi
        have hal:Below wr.heap.size wr ((((wr.alloc (.cells #[.int .i64 e0,.slice L ll lc,.slice A' ts[k].kids.length c'] 38)).alloc (.cells #[.int .i64 e0,.slice L ll lc,.slice A' ts[k].kids.length c'] 38)).alloc (.cells #[.int .i64 e0,.slice L ll lc,.slice A' ts[k].kids.length c'] 38)).alloc (.cells #[.slice A' ts[k].kids.length c'] 36)):=(((bQ.alloc nQ _).alloc (by simp) _).alloc (by simp;omega) _).alloc (by simp;omega) _;have hz4:=hg4.size;simp only [World.size_alloc] at hz4;have hhold:Held (fun i=>i < lo∨F' i) wr w4:=(Held.of_below hal fun i hi _=>hi).trans (Held.grown hg4 fun q hq hlo=>by
         have h1:=hrs.1.lt q hq
         rcases hlo with h|h
         ·omega
         ·exact hrs.2.1 q hq h)
        refine ⟨k+1,hlt,hi,⟨?_,fun q hq hF=>?_,HJ.out _ _ _ _ hrs.2.2.1 hhold,by have:=hrs.2.2.2.1;omega,(hg4.block _ (Nat.lt_of_lt_of_le hrs.2.2.2.2.1.lt hal.size) (fun e=>by have:=hrs.1.lt _ e.symm;have:=hrs.2.2.2.2.2;omega)).trans ((hal.block _ hrs.2.2.2.2.1.lt).trans hrs.2.2.2.2.1),hrs.2.2.2.2.2⟩,hrc.held hhold⟩
        ·rw [Zbw hlt,if_neg hz]
         simpa [hAk] using ho4
        ·have hlt':=(HJB.out _ _ _ hrs.2.2.1 q hF).2
         rcases hor with h|h
         ·rw [h] at hq;exact hrs.2.1 q hq hF
         ·rw [h] at hq;injection hq with hq;omega
       subst hA;obtain ⟨M,hM2⟩:∃ M,(Zat ts As S' k).length=M:=⟨_,rfl⟩;obtain ⟨xs,hxs⟩:∃ xs,(Zat ts As S' k).reverse.map (·.2)=xs:=⟨_,rfl⟩;obtain ⟨kl,hkl⟩:∃ kl,ts[k].kids.length=kl:=⟨_,rfl⟩;have hBz:=hrs.2.2.2.1;rw [hM2] at hown2 hT HN ⊢;rw [hxs] at hown2 HN;rw [hkl] at hown2 HN q2 hcl hz z0 z1 z2 y1 y2;have hzp:(0:Int) < (kl:Int):=by omega
       have HO:=hQ hown2;have HCL:=hQ hcl;clear hrs hrc hlT hwT hwk hsk hM2 hxs hkl hown2 hcl hAk
       gi_wp2_with (first | (refine ⟨trivial,?_⟩;gi_at_call 87;refine (callsIn_wide.2 (Zbm _ _ _ _)).mono ?_;rintro e w8 ⟨rfl,rfl⟩) | (gi_at_builtin;refine wpListIn_append_own_at _ rfl _ _ 162 rfl W.heap.size 36 i0 (.slice none 0 0) 1 24 Tryz.underlying162 hi hz0 hz1 hz2 rfl (by decide) (.slice V M vc) M xs rfl HO.out ⟨wr.heap.size+1+1+1,0,none⟩ 1 1 [.slice A' kl c'] rfl rfl HCL.out (by simp [Value.oneCell']) (by unfold maxLen;omega) (by omega) (by simp;omega) ?_;intro v' w4 hown4 hg4 _ hor4))
       have HF:=hQ (HN.out v' w4 hown4 hg4 (by simpa using hor4));clear hown4 hg4 hor4
       gi_wp2
       go_roundw
       case rel=>exact HF.out _ (by go_num)
       case measure=>simp [intOf];omega
     ·have he:k=ts.length:=by omega
      obtain ⟨V,vc,rfl⟩:=Zfh hrs.1;have HG:Hid (∃ S,Zgl J W.heap.size (Bx+1) 4194304 S (.slice V (Zat ts As S' k).length vc) wr/\wST S < μ):=by
       have h1:=Zabs ts As S' (.slice A ts.length c);refine ⟨Zcd ts As S',⟨by have:=HK.out;omega,F',?_⟩,by have:=HME.out;omega⟩;rw [he] at hrs ⊢;exact hrs
      clear hrs hrc hlT hwT hwk hsk he hT
      gi_wp2
      go_roundw
      case rel=>
       obtain ⟨S,h1,h2⟩:=HG.out;exact ⟨S,h1⟩
      case measure=>
       rw [HMU.out];obtain ⟨S,h1,h2⟩:=HG.out;have h5:=(Zbb (Q:=fun m=>∃ S,Zgl J W.heap.size (Bx+1) 4194304 S (.slice V (Zat ts As S' k).length vc) wr/\m=wST S) ⟨S,h1,rfl⟩).2 _ ⟨S,h1,rfl⟩
       omega
   ·clear hbf hnf
    gi_wp2
    refine bodyPost_ret (results_none rfl _ _ _) rfl ?_;exact ⟨⟨_,rfl⟩,.inr hJx3⟩
attribute [local go_sem] Oper.semAt_some
theorem Zqs {w:World}{A:Option Addr}{ks:List Ty}(h:RKids w A ks):∃ news:List Value,news.length=ks.length * 3/\Sl w A news/\(∀ u∈news,u.oneCell'=true)/\∀ j t,ks[j]?=some t->RTy w t (part3 news j):=by
 obtain ⟨ps,hp⟩:=h;have go:∀ k,k<=ks.length->∃ news:List Value,news.length=k * 3/\Sl w A news/\(∀ u∈news,u.oneCell'=true)/\∀ j t,j < k->ks[j]?=some t->RTy w t (part3 news j):=by
  intro k
  induction k with
  | zero=>intro _;exact ⟨[],rfl,fun j u hj=>by simp at hj,fun u hu=>by simp at hu,fun j t hj=>by omega⟩
  | succ k ih=>
   intro hk
   obtain ⟨news,h1,h2,h3,h4⟩:=ih (by omega);obtain ⟨hr,ad,hA,hc⟩:=hp k _ (List.getElem?_eq_getElem (show k < ks.length by omega));obtain ⟨L,c,A',d,he,_⟩:=RTy.openT hr;rw [he] at hc hr;refine ⟨news ++ [.int .i64 ks[k].top.kind,.slice L ks[k].top.labels.length c,.slice A' ks[k].kids.length d],by simp [h1];omega,fun j u hj=>?_,fun u hu=>?_,fun j t hj ht=>?_⟩
   ·rcases Nat.lt_or_ge j news.length with hlt|hge
    ·rw [List.getElem?_append_left hlt] at hj
     exact h2 j u hj
    ·rw [List.getElem?_append_right hge] at hj
     refine ⟨ad,hA,?_⟩;have e:j=k * 3+(j - news.length):=by omega
     rw [e];exact hc _ u hj
   ·rcases List.mem_append.1 hu with hu|hu
    ·exact h3 u hu
    ·simp only [List.mem_cons,List.not_mem_nil,or_false] at hu
     rcases hu with rfl|rfl|rfl <;> rfl
   ·rcases Nat.lt_or_ge j k with hlt|hge
    ·have e:part3 (news ++ [.int .i64 ks[k].top.kind,.slice L ks[k].top.labels.length c,.slice A' ks[k].kids.length d]) j=part3 news j:=Zhe fun i hi=>by rw [List.getElem?_append_left (by omega)]
     rw [e];exact h4 j t hlt ht
    ·have ej:j=k:=by omega
     subst ej;rw [List.getElem?_eq_getElem (by omega)] at ht;injection ht with ht
     subst ht;have e:part3 (news ++ [.int .i64 ks[j].top.kind,.slice L ks[j].top.labels.length c,.slice A' ks[j].kids.length d]) j=[.int .i64 ks[j].top.kind,.slice L ks[j].top.labels.length c,.slice A' ks[j].kids.length d]:=by
      unfold part3;rw [List.drop_append_of_le_length (by omega),List.drop_eq_nil_of_le (by omega)]
      rfl
     rw [e];exact hr
 obtain ⟨news,h1,h2,h3,h4⟩:=go ks.length nQ;exact ⟨news,h1,h2,h3,fun j t hj=>h4 j t (List.getElem?_eq_some_iff.1 hj).1 hj⟩
theorem Zve (t:Ty):t.top.labels.length<=wt t:=by
 cases t with
 | node a ks=>rw [Zdn];show a.labels.length<=_;unfold wtA;omega
theorem Zaes {t k:Ty}(h:k∈t.kids):wt k<=wt t:=by
 cases t with
 | node a ks=>
  rw [Zdn]
  have:wt k<=(ks.map wt).sum:=by
   have h':k∈ks:=h;clear h
   induction ks with
   | nil=>cases h'
   | cons x xs ih=>
    rcases List.mem_cons.1 h' with rfl|h'
    ·simp
    ·have:=ih h';simp;omega
  unfold wtK
  omega
theorem Zabt (t:Ty):t.kids.length<=wt t:=by
 cases t with
 | node a ks=>rw [Zdn];show ks.length<=_;unfold wtK;omega
def Ziw {β:Type}(xs:List β)(j:Nat)(c d:β):List β:=(xs.set (j * 3+1) c).set (j * 3+2) d
theorem Zix {β:Type}(xs:List β)(j k:Nat)(c d:β)(h:k≠j):part3 (Ziw xs j c d) k=part3 xs k:=by
 refine Zhe fun i hi=>?_
 unfold Ziw;rw [List.getElem?_set_ne (by omega),List.getElem?_set_ne (by omega)]
theorem Zya {xs:List Value}{j:Nat}{a c0 d0:Value}(c d:Value)(h:j * 3+3<=xs.length)(hp:part3 xs j=[a,c0,d0]):part3 (Ziw xs j c d) j=[a,c,d]:=by
 have g:∀ i,i < 3->xs[j * 3+i]?=[a,c0,d0][i]?:=fun i hi=>by rw [<-Zcv _ _ _ hi,hp]
 apply List.ext_getElem?
 intro i
 by_cases hi:i < 3
 ·rw [Zcv _ _ _ hi]
  unfold Ziw;have h2:j * 3+1 < xs.length:=by omega
  have h3:j * 3+2 < xs.length:=by omega
  match i,hi with
  | 0,_=>rw [List.getElem?_set_ne (by omega),List.getElem?_set_ne (by omega),g 0 (by omega)];rfl
  | 1,_=>rw [List.getElem?_set_ne (by omega)];simp [h2]
  | 2,_=>simp [h3]
 ·rw [List.getElem?_eq_none (by rw [Zhf _ _ (by unfold Ziw;simp;omega)];omega),List.getElem?_eq_none (by simp;omega)]
def CopDT (w wr:World)(ys:List Value)(Ls:Nat->Option Addr)(cs:Nat->Nat)(As:Nat->Value)(j:Nat)(t:Ty):Prop:=
 part3 ys j=[.int .i64 t.top.kind,.slice (Ls j) t.top.labels.length (cs j),As j]/\t.top.ok/\wr.ownsRow 0 9 1 (.slice (Ls j) t.top.labels.length (cs j)) t.top.labels.length (t.top.labels.map Value.string)/\Zlg w wr (t.kids,As j)/\(t.kids.length=0->As j=.slice none 0 0)
def Zgk (w W:World)(ts:List Ty)(g cap:Nat)(xs:List Value)(k:Nat)(wr:World):Prop:=
 ∃ ys Ls cs As,wr.ownsRow 0 38 3 (.slice (some ⟨g,0,none⟩) ts.length cap) ts.length ys/\(∀ j t,j < k->ts[j]?=some t->CopDT w wr ys Ls cs As j t)/\(∀ j,k<=j->part3 ys j=part3 xs j)/\
  ((List.range k).flatMap fun j=>blk (Ls j) ++ Zbf (As j)).Nodup/\(∀ b∈(List.range k).flatMap fun j=>blk (Ls j) ++ Zbf (As j),W.heap.size<=b/\b < wr.heap.size)/\Held (fun i=>i≠g) W wr
theorem CopDT.held {w wr w':World}{ys ys':List Value}{Ls:Nat->Option Addr}{cs:Nat->Nat}{As:Nat->Value}{j:Nat}{t:Ty}{K:Nat->Prop}(h:CopDT w wr ys Ls cs As j t)(hH:Held K wr w')(hp:part3 ys' j=part3 ys j)(hK:∀ b∈blk (Ls j) ++ Zbf (As j),K b):CopDT w w' ys' Ls cs As j t:=by
 obtain ⟨h1,h2,h3,h4,h5⟩:=h;exact ⟨hp.trans h1,h2,Zdg h3 hH fun b hb=>hK b (List.mem_append.2 (.inl hb)),h4.held hH fun b hb=>hK b (List.mem_append.2 (.inr hb)),h5⟩
theorem Zwg {w W wr w':World}{ts:List Ty}{g cap k:Nat}{xs ys:List Value}{Ls:Nat->Option Addr}{cs:Nat->Nat}{As:Nat->Value}(hgW:g < W.heap.size)(hk:k < ts.length)
  (h1:wr.ownsRow 0 38 3 (.slice (some ⟨g,0,none⟩) ts.length cap) ts.length ys) (h2:∀ j t,j < k->ts[j]?=some t->CopDT w wr ys Ls cs As j t) (h3:∀ j,k<=j->part3 ys j=part3 xs j)
  (h4:((List.range k).flatMap fun j=>blk (Ls j) ++ Zbf (As j)).Nodup) (h5:∀ b∈(List.range k).flatMap fun j=>blk (Ls j) ++ Zbf (As j),W.heap.size<=b/\b < wr.heap.size) (h6:Held (fun i=>i≠g) W wr)
  {v1 v2 c0 d0:Value} {news:List Value} (hp:part3 xs k=[.int .i64 ts[k].top.kind,c0,d0]) (hok:ts[k].top.ok)
  (q1:w'.ownsRow 0 38 3 (.slice (some ⟨g,0,none⟩) ts.length cap) ts.length (Ziw ys k v1 v2)) (q2:w'.ownsRow 0 9 1 v1 ts[k].top.labels.length (ts[k].top.labels.map Value.string)) (q3:w'.ownsRow 0 38 3 v2 ts[k].kids.length news)
  (q4:ts[k].kids.length=0->v2=.slice none 0 0) (q5:∀ j t,ts[k].kids[j]?=some t->RTy w t (part3 news j)/\wt t<=1048576) (q6:ts[k].kids.length<=1048577) (q7:Held (fun i=>i≠g) wr w') (q8:∀ b,v1.ownBlock=some b->wr.heap.size<=b) (q9:∀ b,v2.ownBlock=some b->wr.heap.size<=b) (q10:∀ b,v1.ownBlock=some b->v2.ownBlock=some b->False) :
  Zgk w W ts g cap xs (k+1) w':=by
 obtain ⟨L1,c1,rfl⟩:=Zfh q2;obtain ⟨A2,c2,rfl⟩:=Zfh q3;have hsz:=q7.size;have hWr:=h6.size;have hyl:ys.length=ts.length * 3:=h1.1;have hb1:∀ b∈blk L1,wr.heap.size<=b/\b < w'.heap.size:=fun b hb=>⟨q8 b ((Zam _ _ _ _).2 hb),(q2.lt b ((Zam _ _ _ _).2 hb)).2⟩
 have hb2:∀ b∈blk A2,wr.heap.size<=b/\b < w'.heap.size:=fun b hb=>⟨q9 b ((Zam _ _ _ _).2 hb),(q3.lt b ((Zam _ _ _ _).2 hb)).2⟩
 have hfl:((List.range (k+1)).flatMap fun j=>blk ((fun j=>if j=k then L1 else Ls j) j) ++ Zbf ((fun j=>if j=k then .slice A2 ts[k].kids.length c2 else As j) j))=((List.range k).flatMap fun j=>blk (Ls j) ++ Zbf (As j)) ++ (blk L1 ++ blk A2):=by
  rw [List.range_succ,List.flatMap_append]
  congr 1
  ·refine Zey fun j hj=>?_
   simp only
   rw [if_neg (by omega),if_neg (by omega)]
  ·simp [Zbf]
 refine ⟨_,fun j=>if j=k then L1 else Ls j,fun j=>if j=k then c1 else cs j,fun j=>if j=k then .slice A2 ts[k].kids.length c2 else As j,q1,fun j t hj ht=>?_,fun j hj=>?_,?_,?_,h6.trans q7⟩
 ·by_cases e:j=k
  ·subst e
   rw [List.getElem?_eq_getElem hk] at ht;injection ht with ht
   subst ht;unfold CopDT;simp only [if_true];exact ⟨Zya _ _ (by omega) ((h3 j nQ).trans hp),hok,q2,⟨A2,c2,news,rfl,q6,q3,q5⟩,q4⟩
  ·have hd:=(h2 j t (by omega) ht).held q7 (ys':=Ziw ys k (.slice L1 ts[k].top.labels.length c1) (.slice A2 ts[k].kids.length c2)) (Zix _ _ _ _ _ e) (fun b hb e=>by
    have:=h5 b (Zsa.2 ⟨j,by omega,hb⟩);omega)
   unfold CopDT at hd ⊢;simp only [if_neg e];exact hd
 ·rw [Zix _ _ _ _ _ (by omega)]
  exact h3 j (by omega)
 ·rw [hfl]
  refine List.nodup_append.2 ⟨h4,List.nodup_append.2 ⟨by cases L1 <;> simp [blk],by cases A2 <;> simp [blk],fun x hx y hy e=>?_⟩,fun x hx y hy e=>?_⟩
  ·subst e;exact q10 x ((Zam _ _ _ _).2 hx) ((Zam _ _ _ _).2 hy)
  ·have:=h5 x hx
   rcases List.mem_append.1 hy with h|h
   ·have:=(hb1 y h).1;omega
   ·have:=(hb2 y h).1;omega
 ·rw [hfl]
  intro b hb
  rcases List.mem_append.1 hb with h|h
  ·have:=h5 b h;exact ⟨this.1,by omega⟩
  ·rcases List.mem_append.1 h with h|h
   ·have:=hb1 b h;omega
   ·have:=hb2 b h;omega
end Go.Proofs.YtlcedleebbgebaaGreatDoor
