/-
  Merged by program: PairTI.
-/
import Derived.Test.YtlcedleebbgebaaGreatDoorQ17
set_option maxRecDepth 100000
set_option maxHeartbeats 4000000
namespace Go.Proofs.YtlcedleebbgebaaGreatDoor
open Go.RowKit Go.Shelf
attribute [local go_sem] Oper.semAt_some
theorem Ztn:(Tryz.prog.info? 212).map (fun i=>(i.zero,i.size,i.bytes))=some (some (.agg #[.slice none 0 0,.slice none 0 0]),2,48):=by kernel_rfl
theorem Znf (w0:World)(a b:Ty)(a0 a1 a2 b0 b1 b2:Value)(hra:RTy w0 a [a0,a1,a2])(hrb:RTy w0 b [b0,b1,b2])(hs:a.size<=1048577)(n Bx:Nat)(hn:2<=n)(Keep:Nat->Prop)(hk0:∀ b,b < w0.heap.size->Keep b)(hkx:Keep (Bx+2))
  (W:World) (hkW:∀ b,Keep b->b < W.heap.size) (hw:Below w0.heap.size w0 W) (hbox:Box3 W Bx 38 a0 a1 a2) (hboy:Box3 W (Bx+1) 38 b0 b1 b2) (hbox2:Boxed W (Bx+2) 127 (.func (.func 87) #[] #[])) :
  Zco Fence.wide n Tryz.prog 166 #[.pointer (some ⟨Bx,0,none⟩),.pointer (some ⟨Bx+1,0,none⟩),.pointer (some ⟨Bx+2,0,none⟩)] (pre2 a b).length (PRdN (RTy w0) a b) (POn a b) Keep W:=by
 intro l J Jx hJ hJB hY h0
 obtain ⟨i0,hi,hz0,hz1,hz2⟩:=info_parts Ztn;have x0:=hbox.c0;have x1:=hbox.c1;have x2:=hbox.c2;have hboy1:=hboy.alloc (.cells #[a0,a1,a2] 38);have y0:=hboy1.c0;have y1:=hboy1.c1;have y2:=hboy1.c2;have h1:1<=n:=by omega
 have hN:(pre2 a b).length<=1048577:=by have h1:=Zaav a b 1;rw [Zki] at h1;exact Nat.le_trans h1 hs
 obtain ⟨B,hB⟩:∃ B,W.heap.size=B:=⟨_,rfl⟩;obtain ⟨W1,hW1⟩:∃ W1,W.alloc (.cells #[a0,a1,a2] 38)=W1:=⟨_,rfl⟩;obtain ⟨W2,hW2⟩:∃ W2,W1.alloc (.cells #[b0,b1,b2] 38)=W2:=⟨_,rfl⟩;obtain ⟨K,hK⟩:∃ K:Nat->Prop,K=fun b=>Keep b∨b=B∨b=B+1:=⟨_,rfl⟩
 have hB1:W1.heap.size=B+1:=by rw [<-hW1,<-hB];simp
 have hB2:W2.heap.size=B+2:=by rw [<-hW2];simp;omega
 have hb1:Below W.heap.size W W1:=by rw [<-hW1];exact bQ.alloc nQ _
 have hb2:Below W.heap.size W W2:=by rw [<-hW2];exact hb1.alloc hb1.size _
 have hw2:Below w0.heap.size w0 W2:=hw.trans (hb2.mono hw.size);have hKB:∀ b,K b->b < B+2:=by rw [hK];rintro b (h|h|h);have:=hkW b h;omega;omega;omega
 have hK0:∀ b,b < w0.heap.size->K b:=by rw [hK];exact fun b h=>.inl (hk0 b h)
 have hy:W2.heap[Bx+2]?=some (.cells #[.func (.func 87) #[] #[]] 127):=(hb2.block _ (hkW _ hkx)).trans hbox2;have HY2:Hid (∀ wr,Held K W2 wr->Boxed wr (Bx+2) 127 (.func (.func 87) #[] #[])):=hQ fun wr h=>(h.block _ (by have:=hkW _ hkx;omega) (by rw [hK];exact .inl hkx)).trans hy
 have H0:Hid (PInvN (RTy w0) 3 W2 K a b 212 (B+2) J [(([a],.slice (some ⟨B,0,none⟩) 1 1),([b],.slice (some ⟨B+1,0,none⟩) 1 1))] 0 (.slice (some ⟨B+2,0,none⟩) 1 1) (W2.alloc (.cells #[.slice (some ⟨B,0,none⟩) 1 1,.slice (some ⟨B+1,0,none⟩) 1 1] 212))):=by
  obtain ⟨F,hF⟩:=h0;refine ⟨Nat.zero_le _,?_,?_,?_,Held.of_below (bQ.alloc nQ _) fun i hi _=>hi,F,?_,?_,?_⟩
  ·rw [Zii,Zxs];simp [pairS]
  ·intro p hp
   rw [List.mem_singleton.1 hp];refine ⟨⟨⟨B,0,none⟩,1,rfl,Nat.le_refl _,by simp,by simp,by rw [hK];exact .inr (.inl rfl),RowN.one hra fun j u hj=>?_⟩,⟨⟨B+1,0,none⟩,1,rfl,Nat.le_refl _,by simp,by simp,by rw [hK];exact .inr (.inr rfl),RowN.one hrb fun j u hj=>?_⟩,rfl⟩
   ·have hz:=Below.refl W1.heap.size W1
    have hz:=(hz.alloc nQ (.cells #[b0,b1,b2] 38));rw [hW2] at hz;have hcell:W1.cell? (Addr.add ⟨B,0,none⟩ j)=some u:=by
     rw [<-hW1,<-hB]
     match j,hj with
  | 0,hj=>simp at hj;subst hj;simp [Addr.add]
  | 1,hj=>simp at hj;subst hj;simp [Addr.add]
  | 2,hj=>simp at hj;subst hj;simp [Addr.add]
     | j+3,hj=>simp at hj
    exact (hz.cell (World.block_lt_of_cell? W1 _ hcell)).trans hcell
   ·rw [<-hW2,<-hB1]
    match j,hj with
  | 0,hj=>simp at hj;subst hj;simp [Addr.add]
  | 1,hj=>simp at hj;subst hj;simp [Addr.add]
  | 2,hj=>simp at hj;subst hj;simp [Addr.add]
    | j+3,hj=>simp at hj
  ·rw [<-hB2]
   exact World.ownsRow_lit (e:=212) W2 #[.slice (some ⟨B,0,none⟩) 1 1,.slice (some ⟨B+1,0,none⟩) 1 1] 1 (base:=W2.heap.size) (size:=2) nQ (by unfold maxLen;omega) rfl
  ·exact hJ _ _ _ _ hF (Held.of_below (hb2.trans ((bQ.alloc nQ _).mono hb2.size)) fun i hi _=>hi)
  ·intro g hg hf
   have:=(hJB _ _ _ hF g hf).2
   injection hg with hg
   simp at hg
   omega
  ·rw [hK]
   rintro b hb (h|h|h)
   ·exact (hJB _ _ _ hF b hb).1 h
   ·have:=(hJB _ _ _ hF _ hb).2;omega
   ·have:=(hJB _ _ _ hF _ hb).2;omega
 have HJ:=hQ hJ;have HJB:=hQ hJB;have HY:=hQ hY;have HW1:=hQ hW1;have HW2:=hQ hW2;have HB:=hQ hB;have HB1:=hQ hB1;have HB2:=hQ hB2;have HKB:=hQ hKB;have HK0:=hQ hK0;have HWW:=hQ hw2;have HBL:Hid (Bx+2 < B):=hQ (by have:=hkW _ hkx;omega);have HN:=hQ hN;clear hJ hJB hY h0 hbox hboy hboy1 hbox2 hra hrb hs hk0 hkx hkW hw hW1 hW2 hB hB1 hB2 hKB hK0 hb1 hb2 hw2 hy hN hK;refine callsIn_of_wp Tryz.func166 rfl trivial ?_ rfl;simp only [Tryz.ntmps166,List.size_toArray,List.length_cons,List.length_nil,Nat.reduceAdd,Nat.reduceSub,Array.replicate_succ,Array.replicate_zero,List.push_toArray,List.append_toArray,List.nil_append,List.cons_append]
 gi_wp2
 rw [HB.out,HW1.out,HW2.out]
 gi_loopw [5] (fun p wr=>∃ S k,PInvN (RTy w0) 3 W2 K a b 212 (B+2) J S k p wr) (fun p wr=>Classical.epsilon (Least fun m=>∃ S k,PInvN (RTy w0) 3 W2 K a b 212 (B+2) J S k p wr/\m=(pre2 a b).length - k))
 case atStart=>exact ⟨_,_,H0.out⟩
 case round=>
  obtain ⟨p,hp0⟩:∃ p,u5=p:=⟨_,rfl⟩;rw [hp0] at hrel ⊢;obtain ⟨S0,k0,hk0⟩:=hrel;have hle:=Zbb (Q:=fun m=>∃ S k,PInvN (RTy w0) 3 W2 K a b 212 (B+2) J S k p wr/\m=(pre2 a b).length - k) ⟨S0,k0,hk0,rfl⟩;obtain ⟨μ,hμ⟩:∃ μ,Classical.epsilon (Least fun m=>∃ S k,PInvN (RTy w0) 3 W2 K a b 212 (B+2) J S k p wr/\m=(pre2 a b).length - k)=μ:=⟨_,rfl⟩;rw [hμ] at hle;obtain ⟨⟨S,k,⟨hk,hpre,hall,hown,hheld,F,hJk,hgF,hFK⟩,hmu⟩,_⟩:=hle;clear hk0 k0 S0;have HMU:=hQ hμ;have HME:=hQ hmu;clear hμ hmu
  match S with
  | []=>
   obtain ⟨A,c,rfl⟩:=Zfh hown;have he:k=(pre2 a b).length:=by
    have h1:(pre2 a b).drop k=[]:=hpre.symm
    have:=List.drop_eq_nil_iff.1 h1
    omega
   have HE:Hid (∃ F,J (pre2 a b).length F wr):=hQ ⟨F,he ▸ hJk⟩;clear hown hall hpre he hJk hgF hFK hheld
   gi_wp2
   go_end0
   exact ⟨⟨_,rfl⟩,.inl HE.out⟩
  | (([],s),u) :: S'=>
   obtain ⟨⟨_,_,_,_,_,h0,_⟩,_⟩:=hall _ (List.mem_cons_self ..);exact absurd h0 (by simp)
  | ((x :: xs,s),([],u)) :: S'=>
   obtain ⟨_,⟨_,_,_,_,_,h0,_⟩,_⟩:=hall _ (List.mem_cons_self ..);exact absurd h0 (by simp)
  | ((x :: xs,s),(y :: ys,u)) :: S'=>
   rw [Zui] at hpre;obtain ⟨hat,hrest,hlt⟩:=Zjo hpre;obtain ⟨⟨ad,ca,hs,hca,hl,_,hKad,hrow⟩,⟨bd,cb,hs',hcb,hl',_,hKbd,hrow'⟩,hlen⟩:=hall _ (List.mem_cons_self ..);simp only at hs hs' hlen;subst hs hs';have hall':PAllN (RTy w0) 3 W2 K S':=fun p hp=>hall p (List.mem_cons_of_mem _ hp)
   have hlen1:=PAllN.len hall';have hlen2:(pairS S').length<=(pre2 a b).length:=by
    have h1:=congrArg List.length hrest;rw [List.length_drop] at h1;simp only [List.length_append] at h1
    omega
   have hNN:=HN.out;obtain ⟨ad',cx,e1,hrx,hcx,hrowx⟩:=hrow.hd;injection e1 with e1
   subst e1;obtain ⟨bd',cy,e1,hry,hcy,hrowy⟩:=hrow'.hd;injection e1 with e1
   subst e1;obtain ⟨e0,e1,e2,rfl⟩:=hrx.three;obtain ⟨f0,f1,f2,rfl⟩:=hry.three;obtain ⟨A',d',rfl,hd',hlx',hkidx⟩:=Zhj hrx;obtain ⟨B',b',rfl,hb',hly',hkidy⟩:=Zhj hry;obtain ⟨ek,eL,el,elc,rfl,rfl⟩:=Zhk hrx;obtain ⟨jk,jL,jl,jlc,rfl,rfl⟩:=Zhk hry;have hkx0:=fun h=>Zgp (W:=W2) (K:=K) h hd' hlx' hkidx HWW.out HK0.out
   have hky0:=fun h=>Zgp (W:=W2) (K:=K) h hb' hly' hkidy HWW.out HK0.out
   obtain ⟨xk,hxk⟩:∃ n,x.kids.length=n:=⟨_,rfl⟩;obtain ⟨yk,hyk⟩:∃ n,y.kids.length=n:=⟨_,rfl⟩;rw [hxk] at hrx hcx hkx0;rw [hyk] at hry hcy hky0;obtain ⟨nx,hnx⟩:∃ n,xs.length=n:=⟨_,rfl⟩;have hny:ys.length=nx:=by simp only [List.length_cons] at hlen;omega
   simp only [List.length_cons,hnx,hny] at hown hca hl hcb hl';rw [Zes] at hown;obtain ⟨mm,hm⟩:∃ m,S'.length=m:=⟨_,rfl⟩;rw [hm] at hown hlen1;have hrl:(rowPN S').length=mm * 2:=by rw [Zyg,hm]
   obtain ⟨g,cap,rfl⟩:=ownsRow_succ hown;have hpop:=ownsRow_pop (last:=[.slice (some ad) (nx+1) ca,.slice (some bd) (nx+1) cb]) hrl hown;have g0:wr.cell? ⟨g,mm * 2,none⟩=some (.slice (some ad) (nx+1) ca):=by
    rw [hown.cellAt _ (by omega),List.getElem?_append_right (by omega),hrl]
    simp
   have g1:wr.cell? ⟨g,mm * 2+1,none⟩=some (.slice (some bd) (nx+1) cb):=by
    rw [hown.cellAt _ (by omega),List.getElem?_append_right (by omega),hrl]
    simp
   have hgl:=hown.lt g rfl;have hcap:mm<=cap:=by
    rcases hown.2 with ⟨h0,_⟩|⟨g',cap',cur,hv,_,_,h3,_⟩
    ·cases h0
    ·injection hv with _ _ hv;omega
   have hml:mm<=1048577:=by omega
   have hBr:=hheld.size;have hB2:=HB2.out;have hKF:∀ b,K b->¬ F b:=fun b hb hf=>hFK b hf hb
   obtain ⟨Hn,hHn⟩:∃ Hn,wr.heap.size=Hn:=⟨_,rfl⟩;obtain ⟨wb,hwb⟩:∃ wb,wr.alloc (.cells #[.slice (some ad) (nx+1) ca,.slice (some bd) (nx+1) cb] 212)=wb:=⟨_,rfl⟩;have hbz:wb.heap.size=Hn+1:=by rw [<-hwb,World.size_alloc,hHn]
   have hlb:Below wr.heap.size wr wb:=by rw [<-hwb];exact bQ.alloc nQ _
   have hKwb:Held K W2 wb:=hheld.trans (Held.of_below hlb fun i hi _=>hi);have hx:∀ i u,[.int .i64 ek,.slice eL el elc,.slice A' xk d'][i]?=some u->wb.cell? (ad.add i)=some u:=fun i u hi=>(World.cell?_of_block (hKwb.block _ (World.block_lt_of_cell? W2 _ (hcx i u hi)) (by rw [Zcl];exact hKad))).trans (hcx i u hi)
   have hy:∀ i u,[.int .i64 jk,.slice jL jl jlc,.slice B' yk b'][i]?=some u->wb.cell? (bd.add i)=some u:=fun i u hi=>(World.cell?_of_block (hKwb.block _ (World.block_lt_of_cell? W2 _ (hcy i u hi)) (by rw [Zcl];exact hKbd))).trans (hcy i u hi)
   have k0:wb.cell? ⟨Hn,0,none⟩=some (.slice (some ad) (nx+1) ca):=by rw [<-hwb,<-hHn];have:=Zaz wr (.slice (some ad) (nx+1) ca) (.slice (some bd) (nx+1) cb) 212 0 _ rfl;exact this
   have k1:wb.cell? ⟨Hn,1,none⟩=some (.slice (some bd) (nx+1) cb):=by rw [<-hwb,<-hHn];have:=Zaz wr (.slice (some ad) (nx+1) ca) (.slice (some bd) (nx+1) cb) 212 1 _ rfl;exact this
   obtain ⟨p0,p1,p2⟩:wb.cell? ad=some (.int .i64 ek)/\wb.cell? ⟨ad.block,ad.off+1,none⟩=some (.slice eL el elc)/\wb.cell? ⟨ad.block,ad.off+2,none⟩=some (.slice A' xk d'):=⟨hx 0 _ rfl,hx 1 _ rfl,hx 2 _ rfl⟩;obtain ⟨q0,q1,q2⟩:wb.cell? bd=some (.int .i64 jk)/\wb.cell? ⟨bd.block,bd.off+1,none⟩=some (.slice jL jl jlc)/\wb.cell? ⟨bd.block,bd.off+2,none⟩=some (.slice B' yk b'):=⟨hy 0 _ rfl,hy 1 _ rfl,hy 2 _ rfl⟩;have hFn:∀ q,F q->q < Hn:=fun q hf=>by have:=(HJB.out _ _ _ hJk q hf).2;omega
   have hgHn:g < Hn:=by have:=hgl.2;omega
   have HGL:=hQ hgHn;have HGB:=hQ hgl.1
   -- behind the yield: what the loop has,from the world wc ahead of it on
   have HSTP:Hid (∀ wc W3 F',Below wb.heap.size wb wc->Held (fun i=>¬ F i) wc W3->(∀ b,F' b->F b∨wc.heap.size<=b)->J (k+1) F' W3->PSt (RTy w0) 3 W2 K 212 (B+2) J S' (k+1) (Value.slice (some ⟨g,0,none⟩) mm cap) W3):=hQ (by
    intro wc W3 F' hbc hh hF' hJ3
    have hcz:=hbc.size;have hdb:Below wr.heap.size wr wc:=hlb.trans (hbc.mono (by omega));have hown3:W3.ownsRow (B+2) 212 2 (Value.slice (some ⟨g,0,none⟩) mm cap) S'.length (rowPN S'):=by
     rw [hm];exact Zdw hpop (fun q hq=>by
      injection hq with hq
      subst hq;exact (hh.block g (by omega) (hgF g rfl)).trans (hdb.block g hgl.2))
    refine ⟨hall',hown3,(hheld.trans (Held.of_below hdb fun i hi _=>hi)).trans (hh.mono fun i _ hi=>hKF i hi),F',hJ3,fun q hq hf=>?_,fun b hb hkb=>?_⟩
    ·have e:g=q:=by injection hq
     rw [<-e] at hf
     rcases hF' g hf with h|h
     ·exact hgF g rfl h
     ·have:=hgl.2;omega
    ·rcases hF' _ hb with h|h
     ·exact hFK _ h hkb
     ·have:=HKB.out _ hkb;omega)
   have HHN:Hid (∀ wc W3,Below wb.heap.size wb wc->Held (fun i=>¬ F i) wc W3->W3.cell? ⟨Hn,0,none⟩=some (.slice (some ad) (nx+1) ca)/\W3.cell? ⟨Hn,1,none⟩=some (.slice (some bd) (nx+1) cb)):=hQ (by
    intro wc W3 hbc hh
    have hcz:=hbc.size;have hb:W3.heap[Hn]?=wb.heap[Hn]?:=(hh.block Hn (by omega) (fun hf=>by have:=hFn Hn hf;omega)).trans (hbc.block Hn (by omega));exact ⟨(World.cell?_of_block (a:=⟨Hn,0,none⟩) hb).trans k0,(World.cell?_of_block (a:=⟨Hn,1,none⟩) hb).trans k1⟩)
   have HYY:Hid (∀ wc,Below wb.heap.size wb wc->YieldAt Fence.wide (n - 1) Tryz.prog l #[.agg #[.int .i64 ek,.slice eL el elc,.slice A' xk d'],.agg #[.int .i64 jk,.slice jL jl jlc,.slice B' yk b']] wc fun e W'=>
     (e=.returned (.bool true)/\POn a b k/\Held (fun i=>¬ F i) wc W'/\∃ F',(∀ b,F' b->F b∨wc.heap.size<=b)/\J (k+1) F' W')∨(e=.returned (.bool false)/\Jx W')):=hQ (by
    intro wc hbc
    exact HY.out k _ F wc hlt (HJ.out _ _ _ _ hJk (Held.of_below (hlb.trans (hbc.mono hlb.size)) fun i hi _=>hi)) ⟨x,y,_,_,hat,rfl,hrx,hry⟩)
   have HFN:=hQ hFn;have HRS:=hQ hrest;have HLT:=hQ hlt;have HAT:=hQ hat;have HKX:=hQ hkx0;have HKY:=hQ hky0;have HXK:=hQ hxk;have HYK:=hQ hyk;have HTX:Hid (nx≠0->NList (RTy w0) 3 W2 K xs (.slice (some ⟨ad.block,ad.off+3,none⟩) nx (ca - 1))/\NList (RTy w0) 3 W2 K ys (.slice (some ⟨bd.block,bd.off+3,none⟩) nx (cb - 1))):=hQ (by
    intro h0
    have e:∀ z:Addr,z.add 3=⟨z.block,z.off+3,none⟩:=fun z=>by unfold Addr.add;rw [if_neg (by omega)]
    rw [e] at hrowx hrowy;exact ⟨⟨⟨ad.block,ad.off+3,none⟩,ca - 1,by rw [hnx],by omega,by omega,by omega,hKad,hrowx⟩,⟨⟨bd.block,bd.off+3,none⟩,cb - 1,by rw [hny],by omega,by omega,by omega,hKbd,hrowy⟩⟩)
   have HNX:=hQ hnx;have HNY:=hQ hny;have HSM:=hQ hm;have HWB:=hQ hwb;have HBZ:=hQ hbz;clear hkx0 hky0 hxk hyk hown hall hpre hrow hrow' hrowx hrowy hkidx hkidy hall' hat hrest hlt hrx hry hcx hcy hheld hJk hgF hFK hpop hlen hlen1 hlen2 hm hnx hny hrl hlb hwb hbz hKwb hx hy hKF hFn
   gi_wp2
   rw [HWB.out]
   refine' Zgq (β:=Nat) (γ:=Nat) _ (fun gx gy wc=>Hn < gx/\Hn < gy/\Box3 wc gx 38 (.int .i64 ek) (.slice eL el elc) (.slice A' xk d')/\Box3 wc gy 38 (.int .i64 jk) (.slice jL jl jlc) (.slice B' yk b')/\Below wb.heap.size wb wc) ?first5 ?rest5
   case first5=>
    refine wpIn_wide.2 ?_;have hbz:=HBZ.out;have n0:=World.new_ne wb _ k0;have n1:=World.new_ne wb _ k1;have n2:=World.new_ne wb _ p0;have n3:=World.new_ne wb _ p1;have n4:=World.new_ne wb _ p2;have n5:=World.new_ne wb _ q0;have n6:=World.new_ne wb _ q1;have n7:=World.new_ne wb _ q2;go_region_held3 (fun W=>W.cell? ⟨Hn,0,none⟩=some (.slice (some ad) (nx+1) ca)/\W.cell? ⟨Hn,1,none⟩=some (.slice (some bd) (nx+1) cb)/\W.cell? ad=some (.int .i64 ek)/\W.cell? ⟨ad.block,ad.off+1,none⟩=some (.slice eL el elc)/\W.cell? ⟨ad.block,ad.off+2,none⟩=some (.slice A' xk d')/\W.cell? bd=some (.int .i64 jk)/\W.cell? ⟨bd.block,bd.off+1,none⟩=some (.slice jL jl jlc)/\W.cell? ⟨bd.block,bd.off+2,none⟩=some (.slice B' yk b')) (first | (refine ⟨?_,?_,?_,?_,?_,?_,?_,?_⟩ <;> assumption) | go_keep) (fail)
    ·obtain ⟨gx,hgx⟩:∃ gx,gx=Hn+1:=⟨_,rfl⟩
     obtain ⟨gy,hgy⟩:∃ gy,gy=gx+1:=⟨_,rfl⟩;rw [<-hgx,<-hgy];refine Zdp gx gy ?_;refine ⟨by omega,by omega,?_,?_,((bQ.alloc nQ _).alloc (by simp) _).drew⟩
     ·have e:gx=wb.heap.size:=by omega
      rw [e];exact (Box3.new wb 38 (.int .i64 ek) (.slice eL el elc) (.slice A' xk d')).alloc (.cells #[.int .i64 jk,.slice jL jl jlc,.slice B' yk b'] 38)
     ·have e:gy=(wb.alloc (.cells #[.int .i64 ek,.slice eL el elc,.slice A' xk d'] 38)).heap.size:=by simp;omega
      rw [e];exact Box3.new (wb.alloc (.cells #[.int .i64 ek,.slice eL el elc,.slice A' xk d'] 38)) 38 (.int .i64 jk) (.slice jL jl jlc) (.slice B' yk b')
    ·obtain ⟨gy,hgy⟩:∃ gy,gy=Hn+1:=⟨_,rfl⟩
     obtain ⟨gx,hgx⟩:∃ gx,gx=gy+1:=⟨_,rfl⟩;rw [<-hgy,<-hgx];refine Zdp gx gy ?_;refine ⟨by omega,by omega,?_,?_,((bQ.alloc nQ _).alloc (by simp) _).drew⟩
     ·have e:gx=(wb.alloc (.cells #[.int .i64 jk,.slice jL jl jlc,.slice B' yk b'] 38)).heap.size:=by simp;omega
      rw [e];exact Box3.new (wb.alloc (.cells #[.int .i64 jk,.slice jL jl jlc,.slice B' yk b'] 38)) 38 (.int .i64 ek) (.slice eL el elc) (.slice A' xk d')
     ·have e:gy=wb.heap.size:=by omega
      rw [e];exact (Box3.new wb 38 (.int .i64 jk) (.slice jL jl jlc) (.slice B' yk b')).alloc (.cells #[.int .i64 ek,.slice eL el elc,.slice A' xk d'] 38)
   case rest5=>
    rintro gx gy wc ⟨hgx,hgy,bx,by0,hbc⟩;obtain ⟨fn,tmps,assign,body,hy,hR⟩:=HYY.out wc hbc;have ux0:=bx.c0;have ux1:=bx.c1;have ux2:=bx.c2;have vy0:=by0.c0;have vy1:=by0.c1;have vy2:=by0.c2;have HBX0:=hQ bx;have HBY0:=hQ by0;have HBC:=hQ hbc;clear k0 k1 p0 p1 p2 q0 q1 q2 bx by0 hbc
    gi_wp2
    refine hR.mono ?_;rintro e W3 (⟨rfl,hon,hh,F',hF',hJ3⟩|⟨rfl,hJx3⟩)
    ·have hst:=HSTP.out wc W3 F' HBC.out hh hF' hJ3
     obtain ⟨k0,k1⟩:=HHN.out wc W3 HBC.out hh;have HBX:Hid (Box3 W3 gx 38 (.int .i64 ek) (.slice eL el elc) (.slice A' xk d')):=hQ ((hh.block gx HBX0.out.lt (fun hf=>by have:=HFN.out gx hf;omega)).trans HBX0.out);have HBY:Hid (Box3 W3 gy 38 (.int .i64 jk) (.slice jL jl jlc) (.slice B' yk b')):=hQ ((hh.block gy HBY0.out.lt (fun hf=>by have:=HFN.out gy hf;omega)).trans HBY0.out);have z0:=(HY2.out W3 hst.2.2.1).cell;have hxy:xk=yk:=by have h:=hon x y HAT.out;rw [HXK.out,HYK.out] at h;exact h
     have HST:=hQ hst;clear hst hh hF' hJ3 hon hR hy ux0 ux1 ux2 vy0 vy1 vy2;have HNE0:Hid (∀ q,(q=Bx+2∨q=gx∨q=gy)->(Value.slice (some ⟨g,0,none⟩) mm cap).ownBlock≠some q):=hQ (by
      intro q hq e
      have e:g=q:=by injection e
      have h1:=HGB.out;have h2:=HBL.out;have h3:=HGL.out
      omega)
     by_cases hn0:nx=0
     ·have HNE:=HNE0
      have HPT:Hid (pairL x.kids y.kids ++ pairS (S')=(pre2 a b).drop (k+1)):=hQ (by have h:=HRS.out;have e:xs=[]:=List.eq_nil_of_length_eq_zero (by rw [HNX.out];exact hn0);rw [e,Zhd,List.nil_append] at h;exact h);have HS5:Hid (∀ w5,Below (W3).heap.size (W3) w5->PSt (RTy w0) 3 W2 K 212 (B+2) J (S') (k+1) (Value.slice (some ⟨g,0,none⟩) mm cap) w5):=hQ (fun w5 hb=>HST.out.under HJ.out hb);have HOW:Hid (∀ w5,PSt (RTy w0) 3 W2 K 212 (B+2) J (S') (k+1) (Value.slice (some ⟨g,0,none⟩) mm cap) w5->w5.ownsRow (B+2) 212 2 (Value.slice (some ⟨g,0,none⟩) mm cap) (mm) (rowPN S')):=hQ (fun w5 h=>by have h2:=h.2.1;rw [HSM.out] at h2;exact h2);have ux0:=HBX.out.c0;have ux1:=HBX.out.c1;have ux2:=HBX.out.c2;have vy0:=HBY.out.c0;have vy1:=HBY.out.c1;have vy2:=HBY.out.c2;by_cases hk0:xk=0
      ·have HG0:Hid (∀ w5,Below (W3).heap.size (W3) w5->∃ S k',PInvN (RTy w0) 3 W2 K a b 212 (B+2) J S k' (Value.slice (some ⟨g,0,none⟩) mm cap) w5/\(pre2 a b).length - k' < μ):=hQ (by
        intro w5 hb5
        have e:x.kids=[]:=List.eq_nil_of_length_eq_zero (by rw [HXK.out];exact hk0);have h:=HPT.out;rw [e,Zhd,List.nil_append] at h;have h1:=HLT.out;have h2:=HME.out;exact ⟨_,k+1,⟨h1,h,HS5.out w5 hb5⟩,by omega⟩)
       rw [hk0] at ux2;clear HKX HKY
       gi_wp2_with (refine ⟨trivial,?_⟩;gi_at_call 87;refine (callsIn_wide.2 (Zbm _ _ _ _)).mono ?_;rintro e w5 ⟨rfl,hw5⟩;have HG:=hQ (HG0.out w5 (by rw [hw5];exact bQ.alloc nQ _));clear hw5)
       go_roundw
       case rel=>
        obtain ⟨S,k',h1,h2⟩:=HG.out;exact ⟨S,k',h1⟩
       case measure=>
        rw [HMU.out];obtain ⟨S,k',h1,h2⟩:=HG.out;have h5:=(Zbb (Q:=fun z=>∃ S k,PInvN (RTy w0) 3 W2 K a b 212 (B+2) J S k (Value.slice (some ⟨g,0,none⟩) mm cap) w5/\z=(pre2 a b).length - k) ⟨S,k',h1,rfl⟩).2 _ ⟨S,k',h1,rfl⟩
        omega
      ·obtain ⟨ka,hka,hkl⟩:=HKX.out (by omega)
       obtain ⟨kb,hkb,hkl'⟩:=HKY.out (by omega);have hxk0:0 < xk:=by omega
       subst hka hkb hxy;have HKL:=hQ hkl;have HKL':=hQ hkl';have HB0:=hQ HBX.out;clear HKX HKY hkl hkl' hk0
       gi_wp2_with (refine ⟨trivial,?_⟩;gi_at_call 87;refine (callsIn_wide.2 (Zbm _ _ _ _)).mono ?_;rintro e w5 ⟨rfl,hw5⟩;have HB5:=hQ (show Below (W3).heap.size (W3) w5 by rw [hw5];exact bQ.alloc nQ _);clear hw5)
       have hst5:=HS5.out w5 HB5.out;have HSW:=hQ hst5;have hBz:B+2<=w5.heap.size:=by have h1:=hst5.2.2.1.size;have h2:=HB2.out;omega
       have HSS:Hid (∀ w8,Below w5.heap.size w5 w8->w8.cell? ⟨Bx+2,0,none⟩=some (.func (.func 87) #[] #[])/\w8.cell? ⟨gx,0,none⟩=some (.int .i64 ek)/\w8.cell? ⟨gx,1,none⟩=some (.slice eL el elc)/\w8.cell? ⟨gx,2,none⟩=some (.slice (some ka) xk d')/\w8.cell? ⟨gy,0,none⟩=some (.int .i64 jk)/\w8.cell? ⟨gy,1,none⟩=some (.slice jL jl jlc)/\w8.cell? ⟨gy,2,none⟩=some (.slice (some kb) xk b')):=hQ (by
        intro w8 hb8
        have hb:=HB5.out.trans (hb8.mono HB5.out.size);have z:=(HY2.out w8 ((HS5.out w5 HB5.out).under HJ.out hb8).2.2.1).cell;have bx:=HBX.out.under hb HBX.out.lt;have by0:=HBY.out.under hb HBY.out.lt;exact ⟨z,bx.c0,bx.c1,bx.c2,by0.c0,by0.c1,by0.c2⟩)
       obtain ⟨r0,r1,r2,r3,r4,r5,r6⟩:=HSS.out w5 bQ;have HSL:Hid (∀ wa w6,Below w5.heap.size w5 wa->wa.grownBy w6 (Value.slice (some ⟨g,0,none⟩) mm cap).ownBlock->w6.cell? ⟨Bx+2,0,none⟩=some (.func (.func 87) #[] #[])/\w6.cell? ⟨gx,0,none⟩=some (.int .i64 ek)/\w6.cell? ⟨gx,1,none⟩=some (.slice eL el elc)/\w6.cell? ⟨gx,2,none⟩=some (.slice (some ka) xk d')/\w6.cell? ⟨gy,0,none⟩=some (.int .i64 jk)/\w6.cell? ⟨gy,1,none⟩=some (.slice jL jl jlc)/\w6.cell? ⟨gy,2,none⟩=some (.slice (some kb) xk b')):=hQ (by
        intro wa w6 hb hg
        have hq:∀ q j u,(q=Bx+2∨q=gx∨q=gy)->w5.cell? ⟨q,j,none⟩=some u->w6.cell? ⟨q,j,none⟩=some u:=fun q j u hq hc=>by
         have hl:q < w5.heap.size:=World.block_lt_of_cell? w5 ⟨q,j,none⟩ hc;have hbk:w6.heap[q]?=w5.heap[q]?:=(hg.block q (by have:=hb.size;omega) (fun e=>HNE.out q hq e.symm)).trans (hb.block q hl);exact (World.cell?_of_block (a:=⟨q,j,none⟩) hbk).trans hc
        exact ⟨hq _ _ _ (.inl rfl) r0,hq _ _ _ (.inr (.inl rfl)) r1,hq _ _ _ (.inr (.inl rfl)) r2,hq _ _ _ (.inr (.inl rfl)) r3,hq _ _ _ (.inr (.inr rfl)) r4,hq _ _ _ (.inr (.inr rfl)) r5,hq _ _ _ (.inr (.inr rfl)) r6⟩)
       have HAX:Hid (∀ W',Below w5.heap.size w5 W'->Calls Tryz.prog 87 #[.agg #[.int .i64 ek,.slice eL el elc,.slice (some ka) xk d']] W' (fun e w8=>e=.returned (.slice (some ka) xk d')/\Below w5.heap.size w5 w8/\w8.cell? ⟨Bx+2,0,none⟩=some (.func (.func 87) #[] #[])/\w8.cell? ⟨gx,0,none⟩=some (.int .i64 ek)/\w8.cell? ⟨gx,1,none⟩=some (.slice eL el elc)/\w8.cell? ⟨gx,2,none⟩=some (.slice (some ka) xk d')/\w8.cell? ⟨gy,0,none⟩=some (.int .i64 jk)/\w8.cell? ⟨gy,1,none⟩=some (.slice jL jl jlc)/\w8.cell? ⟨gy,2,none⟩=some (.slice (some kb) xk b'))):=hQ (by
        intro W' hb
        refine (Zbm _ _ _ W').mono ?_;rintro e w8 ⟨rfl,hw8⟩;have hb8:Below w5.heap.size w5 w8:=by rw [hw8];exact hb.alloc hb.size _
        exact ⟨rfl,hb8,HSS.out w8 hb8⟩)
       have HAY:Hid (∀ W',Below w5.heap.size w5 W'->Calls Tryz.prog 87 #[.agg #[.int .i64 jk,.slice jL jl jlc,.slice (some kb) xk b']] W' (fun e w8=>e=.returned (.slice (some kb) xk b')/\Below w5.heap.size w5 w8/\w8.cell? ⟨Bx+2,0,none⟩=some (.func (.func 87) #[] #[])/\w8.cell? ⟨gx,0,none⟩=some (.int .i64 ek)/\w8.cell? ⟨gx,1,none⟩=some (.slice eL el elc)/\w8.cell? ⟨gx,2,none⟩=some (.slice (some ka) xk d')/\w8.cell? ⟨gy,0,none⟩=some (.int .i64 jk)/\w8.cell? ⟨gy,1,none⟩=some (.slice jL jl jlc)/\w8.cell? ⟨gy,2,none⟩=some (.slice (some kb) xk b'))):=hQ (by
        intro W' hb
        refine (Zbm _ _ _ W').mono ?_;rintro e w8 ⟨rfl,hw8⟩;have hb8:Below w5.heap.size w5 w8:=by rw [hw8];exact hb.alloc hb.size _
        exact ⟨rfl,hb8,HSS.out w8 hb8⟩)
       have HOWN:Hid (∀ w9,Below w5.heap.size w5 w9->w9.ownsRow (B+2) 212 2 (Value.slice (some ⟨g,0,none⟩) mm cap) (mm) (rowPN S')):=hQ (fun w9 hb=>HOW.out w9 (HSW.out.under HJ.out hb));have HAP:Hid (∀ wa v6 w6,Below w5.heap.size w5 wa->w6.ownsRow (B+2) 212 2 v6 (mm+1) (rowPN S' ++ [.slice (some ka) xk d',.slice (some kb) xk b'])->wa.grownBy w6 (Value.slice (some ⟨g,0,none⟩) mm cap).ownBlock->(v6.ownBlock=(Value.slice (some ⟨g,0,none⟩) mm cap).ownBlock∨v6.ownBlock=some wa.heap.size)->∃ S k',PInvN (RTy w0) 3 W2 K a b 212 (B+2) J S k' v6 w6/\(pre2 a b).length - k' < μ):=hQ (by
        intro wa v6 w6 hb ho hg hor
        have h1:=HLT.out;have h2:=HME.out;have h3:pairS (((x.kids,.slice (some ka) xk d'),(y.kids,.slice (some kb) xk b')) :: S')=(pre2 a b).drop (k+1):=HPT.out;refine ⟨_,k+1,⟨h1,h3,PSt.push HSW.out HJ.out HJB.out (by rw [HB.out];omega) HKB.out HKL.out HKL'.out (by rw [HXK.out,HYK.out]) hb ?_ hg (hor.imp id fun h=>⟨_,h,hb.size⟩)⟩,by omega⟩;rw [HSM.out];exact ho)
       clear ux0 ux1 ux2 vy0 vy1 vy2 z0 hst5
       refine' Zgq (β:=Value) (γ:=Nat) _ (fun v6 _ w6=>∃ S k',PInvN (RTy w0) 3 W2 K a b 212 (B+2) J S k' v6 w6/\(pre2 a b).length - k' < μ) ?first10 ?rest10
       case first10=>
        refine wpIn_wide.2 ?_;go_region_held3 (fun W=>W.cell? ⟨Bx+2,0,none⟩=some (.func (.func 87) #[] #[])/\W.cell? ⟨gx,0,none⟩=some (.int .i64 ek)/\W.cell? ⟨gx,1,none⟩=some (.slice eL el elc)/\W.cell? ⟨gx,2,none⟩=some (.slice (some ka) xk d')/\W.cell? ⟨gy,0,none⟩=some (.int .i64 jk)/\W.cell? ⟨gy,1,none⟩=some (.slice jL jl jlc)/\W.cell? ⟨gy,2,none⟩=some (.slice (some kb) xk b')) (first | (refine ⟨?_,?_,?_,?_,?_,?_,?_⟩ <;> assumption) | go_keep)
         (first | ((go_at_call 87;refine (HAY.out _ hb8).mono ?_;rintro e w9 ⟨rfl,hb9,t0,t1,t2,t3,t4,t5,t6⟩)) | ((go_at_call 87;refine (HAX.out _ bQ.drew).mono ?_;rintro e w8 ⟨rfl,hb8,s0,s1,s2,s3,s4,s5,s6⟩)) | (refine Zfe (by rfl) (.tmp 61) (.tmp 69) 213 (by rfl) (B+2) 212 i0 (.agg #[.slice none 0 0,.slice none 0 0]) 2 48 Tryz.underlying213 hi hz0 hz1 hz2 (by rfl) (by decide) (Value.slice (some ⟨g,0,none⟩) mm cap) (mm) (rowPN S') (by rfl) ((HOWN.out w9 hb9).alloc _) ⟨w9.heap.size,0,none⟩ 1 1 [.slice (some ka) xk d',.slice (some kb) xk b'] (by rfl) (by rfl) (Zaz _ _ _ _) (by intro u hu;simp at hu;rcases hu with rfl | rfl <;> rfl) (by unfold maxLen;omega) (by omega) (by have:=hb9.size;simp;omega) ?_;intro v6 w6 hown6 hg6 hor6;have HF:=hQ (HAP.out _ v6 w6 (hb9.alloc hb9.size _) hown6 hg6 hor6);obtain ⟨s0,s1,s2,s3,s4,s5,s6⟩:=HSL.out _ w6 (hb9.alloc hb9.size _) hg6;clear hown6 hg6 hor6))
        generalize w9.heap.size=q9;refine Zdp v6 q9 ?_;exact HF.out
       case rest10=>
       rintro v6 q9 w6 hG;have HG:=hQ hG;clear hG r0 r1 r2 r3 r4 r5 r6
       gi_wp2
       go_roundw
       case rel=>
        obtain ⟨S,k',h1,h2⟩:=HG.out;exact ⟨S,k',h1⟩
       case measure=>
        rw [HMU.out];obtain ⟨S,k',h1,h2⟩:=HG.out;have h5:=(Zbb (Q:=fun z=>∃ S k,PInvN (RTy w0) 3 W2 K a b 212 (B+2) J S k v6 w6/\z=(pre2 a b).length - k) ⟨S,k',h1,rfl⟩).2 _ ⟨S,k',h1,rfl⟩
        omega
     ·have hn1:0 < nx:=by omega
      have z1:(1:Int)<=(nx:Int)+1:=by omega
      have z2:(nx:Int)+1<=(ca:Int):=by omega
      have z3:(nx:Int)+1<=(cb:Int):=by omega
      have z4:(1:Int)<=(ca:Int):=by omega
      have z5:(1:Int)<=(cb:Int):=by omega
      have z6:(0:Int)<=(nx:Int):=by omega
      have z7:ca≠1:=by omega
      have z8:cb≠1:=by omega
      have n0:=World.new_ne W3 _ k0;have n1:=World.new_ne W3 _ k1;have HAP8:Hid (∀ wa v4 w4,Below W3.heap.size W3 wa->w4.ownsRow (B+2) 212 2 v4 (mm+1) (rowPN S' ++ [.slice (some ⟨ad.block,ad.off+3,none⟩) nx (ca - 1),.slice (some ⟨bd.block,bd.off+3,none⟩) nx (cb - 1)])->wa.grownBy w4 (Value.slice (some ⟨g,0,none⟩) mm cap).ownBlock->(v4.ownBlock=(Value.slice (some ⟨g,0,none⟩) mm cap).ownBlock∨v4.ownBlock=some wa.heap.size)->
        (PSt (RTy w0) 3 W2 K 212 (B+2) J (((xs,.slice (some ⟨ad.block,ad.off+3,none⟩) nx (ca - 1)),(ys,.slice (some ⟨bd.block,bd.off+3,none⟩) nx (cb - 1))) :: S') (k+1) (v4) w4/\Box3 w4 gx 38 (.int .i64 ek) (.slice eL el elc) (.slice A' xk d')/\Box3 w4 gy 38 (.int .i64 jk) (.slice jL jl jlc) (.slice B' yk b')/\(∀ q,(q=Bx+2∨q=gx∨q=gy)->v4.ownBlock≠some q))/\w4.cell? ⟨Hn,0,none⟩=some (.slice (some ad) (nx+1) ca)/\w4.cell? ⟨Hn,1,none⟩=some (.slice (some bd) (nx+1) cb)):=hQ (by
       intro wa v4 w4 hbw ho hg hor
       have hq:∀ q,q < W3.heap.size->q≠g->w4.heap[q]?=W3.heap[q]?:=fun q hq hne=>(hg.block q (by have:=hbw.size;omega) (by intro e;have e:some q=some g:=e;injection e with e;exact hne e)).trans (hbw.block q hq)
       have hgl:=HGL.out;refine ⟨⟨HST.out.push HJ.out HJB.out (by rw [HB.out];omega) HKB.out (HTX.out hn0).1 (HTX.out hn0).2 (by rw [HNX.out,HNY.out]) hbw (by rw [HSM.out];exact ho) hg (hor.imp id fun h=>⟨_,h,hbw.size⟩),(hq gx HBX.out.lt (by omega)).trans HBX.out,(hq gy HBY.out.lt (by omega)).trans HBY.out,fun q hqq e=>?_⟩,?_,?_⟩
       ·rcases hor with h|h
        ·rw [h] at e;exact HNE0.out q hqq e
        ·rw [h] at e
         injection e with e
         have h1:=HBX.out.lt;have h2:=HBY.out.lt;have h3:Bx+2 < W3.heap.size:=World.block_lt_of_cell? W3 ⟨Bx+2,0,none⟩ z0;have h4:=hbw.size
         omega
       ·exact (World.cell?_of_block (a:=⟨Hn,0,none⟩) (hq Hn (World.block_lt_of_cell? W3 ⟨Hn,0,none⟩ k0) (by omega))).trans k0
       ·exact (World.cell?_of_block (a:=⟨Hn,1,none⟩) (hq Hn (World.block_lt_of_cell? W3 ⟨Hn,0,none⟩ k0) (by omega))).trans k1)
      have HO8:Hid (W3.ownsRow (B+2) 212 2 (Value.slice (some ⟨g,0,none⟩) mm cap) mm (rowPN S')):=hQ (by have h:=HST.out.2.1;rw [HSM.out] at h;exact h);have hBz3:B+2<=W3.heap.size:=by have h1:=HST.out.2.2.1.size;have h2:=HB2.out;omega
      gi_wp2
      refine' Zev (β:=Value) _ (fun v4 w4=>PSt (RTy w0) 3 W2 K 212 (B+2) J (((xs,.slice (some ⟨ad.block,ad.off+3,none⟩) nx (ca - 1)),(ys,.slice (some ⟨bd.block,bd.off+3,none⟩) nx (cb - 1))) :: S') (k+1) (v4) w4/\Box3 w4 gx 38 (.int .i64 ek) (.slice eL el elc) (.slice A' xk d')/\Box3 w4 gy 38 (.int .i64 jk) (.slice jL jl jlc) (.slice B' yk b')/\(∀ q,(q=Bx+2∨q=gx∨q=gy)->v4.ownBlock≠some q)) ?first8 ?rest8
      case first8=>
       refine wpIn_wide.2 ?_;go_region_held3 (fun W=>W.cell? ⟨Hn,0,none⟩=some (.slice (some ad) (nx+1) ca)/\W.cell? ⟨Hn,1,none⟩=some (.slice (some bd) (nx+1) cb)) (first | (refine ⟨?_,?_⟩ <;> assumption) | go_keep)
        (first | (refine Zfe (by rfl) (.tmp 46) (.tmp 54) 213 (by rfl) (B+2) 212 i0 (.agg #[.slice none 0 0,.slice none 0 0]) 2 48 Tryz.underlying213 hi hz0 hz1 hz2 (by rfl) (by decide) (Value.slice (some ⟨g,0,none⟩) mm cap) mm (rowPN S') (by rfl) (HO8.out.alloc _) ⟨W3.heap.size,0,none⟩ 1 1 [.slice (some ⟨ad.block,ad.off+3,none⟩) nx (ca - 1),.slice (some ⟨bd.block,bd.off+3,none⟩) nx (cb - 1)] (by rfl) (by rfl) (Zaz _ _ _ _) (by intro u hu;simp at hu;rcases hu with rfl | rfl <;> rfl) (by unfold maxLen;omega) (by omega) (by simp;omega) ?_;intro v4 w4 hown4 hg4 hor4;have HF8:=hQ (HAP8.out _ v4 w4 (bQ.alloc nQ _).drew hown4 hg4 hor4);have k0:=HF8.out.2.1;have k1:=HF8.out.2.2;clear hown4 hg4 hor4))
       refine Zbu v4 ?_;exact HF8.out.1
      case rest8=>
      rintro v4 w4 ⟨hst,hbx,hby,hne⟩;have z0:=(HY2.out w4 hst.2.2.1).cell;have HBX:=hQ hbx;have HBY:=hQ hby
      have HNE:=hQ hne;have HST:=hQ hst;clear hst hbx hby hne HAP8 HO8 z1 z2 z3 z4 z5 z6 z7 z8 n0 n1 k0 k1;have HPT:Hid (pairL x.kids y.kids ++ pairS (((xs,.slice (some ⟨ad.block,ad.off+3,none⟩) nx (ca - 1)),(ys,.slice (some ⟨bd.block,bd.off+3,none⟩) nx (cb - 1))) :: S')=(pre2 a b).drop (k+1)):=hQ (by have h:=HRS.out;exact h);have HS5:Hid (∀ w5,Below (w4).heap.size (w4) w5->PSt (RTy w0) 3 W2 K 212 (B+2) J (((xs,.slice (some ⟨ad.block,ad.off+3,none⟩) nx (ca - 1)),(ys,.slice (some ⟨bd.block,bd.off+3,none⟩) nx (cb - 1))) :: S') (k+1) (v4) w5):=hQ (fun w5 hb=>HST.out.under HJ.out hb);have HOW:Hid (∀ w5,PSt (RTy w0) 3 W2 K 212 (B+2) J (((xs,.slice (some ⟨ad.block,ad.off+3,none⟩) nx (ca - 1)),(ys,.slice (some ⟨bd.block,bd.off+3,none⟩) nx (cb - 1))) :: S') (k+1) (v4) w5->w5.ownsRow (B+2) 212 2 (v4) (mm+1) (rowPN S' ++ [.slice (some ⟨ad.block,ad.off+3,none⟩) nx (ca - 1),.slice (some ⟨bd.block,bd.off+3,none⟩) nx (cb - 1)])):=hQ (fun w5 h=>by have h2:=h.2.1;rw [List.length_cons,HSM.out,Zes] at h2;exact h2);have ux0:=HBX.out.c0;have ux1:=HBX.out.c1;have ux2:=HBX.out.c2;have vy0:=HBY.out.c0;have vy1:=HBY.out.c1;have vy2:=HBY.out.c2;by_cases hk0:xk=0
      ·have HG0:Hid (∀ w5,Below (w4).heap.size (w4) w5->∃ S k',PInvN (RTy w0) 3 W2 K a b 212 (B+2) J S k' (v4) w5/\(pre2 a b).length - k' < μ):=hQ (by
        intro w5 hb5
        have e:x.kids=[]:=List.eq_nil_of_length_eq_zero (by rw [HXK.out];exact hk0);have h:=HPT.out;rw [e,Zhd,List.nil_append] at h;have h1:=HLT.out;have h2:=HME.out;exact ⟨_,k+1,⟨h1,h,HS5.out w5 hb5⟩,by omega⟩)
       rw [hk0] at ux2;clear HKX HKY
       gi_wp2_with (refine ⟨trivial,?_⟩;gi_at_call 87;refine (callsIn_wide.2 (Zbm _ _ _ _)).mono ?_;rintro e w5 ⟨rfl,hw5⟩;have HG:=hQ (HG0.out w5 (by rw [hw5];exact bQ.alloc nQ _));clear hw5)
       go_roundw
       case rel=>
        obtain ⟨S,k',h1,h2⟩:=HG.out;exact ⟨S,k',h1⟩
       case measure=>
        rw [HMU.out];obtain ⟨S,k',h1,h2⟩:=HG.out;have h5:=(Zbb (Q:=fun z=>∃ S k,PInvN (RTy w0) 3 W2 K a b 212 (B+2) J S k (v4) w5/\z=(pre2 a b).length - k) ⟨S,k',h1,rfl⟩).2 _ ⟨S,k',h1,rfl⟩
        omega
      ·obtain ⟨ka,hka,hkl⟩:=HKX.out (by omega)
       obtain ⟨kb,hkb,hkl'⟩:=HKY.out (by omega);have hxk0:0 < xk:=by omega
       subst hka hkb hxy;have HKL:=hQ hkl;have HKL':=hQ hkl';have HB0:=hQ HBX.out;clear HKX HKY hkl hkl' hk0
       gi_wp2_with (refine ⟨trivial,?_⟩;gi_at_call 87;refine (callsIn_wide.2 (Zbm _ _ _ _)).mono ?_;rintro e w5 ⟨rfl,hw5⟩;have HB5:=hQ (show Below (w4).heap.size (w4) w5 by rw [hw5];exact bQ.alloc nQ _);clear hw5)
       have hst5:=HS5.out w5 HB5.out;have HSW:=hQ hst5;have hBz:B+2<=w5.heap.size:=by have h1:=hst5.2.2.1.size;have h2:=HB2.out;omega
       have HSS:Hid (∀ w8,Below w5.heap.size w5 w8->w8.cell? ⟨Bx+2,0,none⟩=some (.func (.func 87) #[] #[])/\w8.cell? ⟨gx,0,none⟩=some (.int .i64 ek)/\w8.cell? ⟨gx,1,none⟩=some (.slice eL el elc)/\w8.cell? ⟨gx,2,none⟩=some (.slice (some ka) xk d')/\w8.cell? ⟨gy,0,none⟩=some (.int .i64 jk)/\w8.cell? ⟨gy,1,none⟩=some (.slice jL jl jlc)/\w8.cell? ⟨gy,2,none⟩=some (.slice (some kb) xk b')):=hQ (by
        intro w8 hb8
        have hb:=HB5.out.trans (hb8.mono HB5.out.size);have z:=(HY2.out w8 ((HS5.out w5 HB5.out).under HJ.out hb8).2.2.1).cell;have bx:=HBX.out.under hb HBX.out.lt;have by0:=HBY.out.under hb HBY.out.lt;exact ⟨z,bx.c0,bx.c1,bx.c2,by0.c0,by0.c1,by0.c2⟩)
       obtain ⟨r0,r1,r2,r3,r4,r5,r6⟩:=HSS.out w5 bQ;have HSL:Hid (∀ wa w6,Below w5.heap.size w5 wa->wa.grownBy w6 (v4).ownBlock->w6.cell? ⟨Bx+2,0,none⟩=some (.func (.func 87) #[] #[])/\w6.cell? ⟨gx,0,none⟩=some (.int .i64 ek)/\w6.cell? ⟨gx,1,none⟩=some (.slice eL el elc)/\w6.cell? ⟨gx,2,none⟩=some (.slice (some ka) xk d')/\w6.cell? ⟨gy,0,none⟩=some (.int .i64 jk)/\w6.cell? ⟨gy,1,none⟩=some (.slice jL jl jlc)/\w6.cell? ⟨gy,2,none⟩=some (.slice (some kb) xk b')):=hQ (by
        intro wa w6 hb hg
        have hq:∀ q j u,(q=Bx+2∨q=gx∨q=gy)->w5.cell? ⟨q,j,none⟩=some u->w6.cell? ⟨q,j,none⟩=some u:=fun q j u hq hc=>by
         have hl:q < w5.heap.size:=World.block_lt_of_cell? w5 ⟨q,j,none⟩ hc;have hbk:w6.heap[q]?=w5.heap[q]?:=(hg.block q (by have:=hb.size;omega) (fun e=>HNE.out q hq e.symm)).trans (hb.block q hl);exact (World.cell?_of_block (a:=⟨q,j,none⟩) hbk).trans hc
        exact ⟨hq _ _ _ (.inl rfl) r0,hq _ _ _ (.inr (.inl rfl)) r1,hq _ _ _ (.inr (.inl rfl)) r2,hq _ _ _ (.inr (.inl rfl)) r3,hq _ _ _ (.inr (.inr rfl)) r4,hq _ _ _ (.inr (.inr rfl)) r5,hq _ _ _ (.inr (.inr rfl)) r6⟩)
       have HAX:Hid (∀ W',Below w5.heap.size w5 W'->Calls Tryz.prog 87 #[.agg #[.int .i64 ek,.slice eL el elc,.slice (some ka) xk d']] W' (fun e w8=>e=.returned (.slice (some ka) xk d')/\Below w5.heap.size w5 w8/\w8.cell? ⟨Bx+2,0,none⟩=some (.func (.func 87) #[] #[])/\w8.cell? ⟨gx,0,none⟩=some (.int .i64 ek)/\w8.cell? ⟨gx,1,none⟩=some (.slice eL el elc)/\w8.cell? ⟨gx,2,none⟩=some (.slice (some ka) xk d')/\w8.cell? ⟨gy,0,none⟩=some (.int .i64 jk)/\w8.cell? ⟨gy,1,none⟩=some (.slice jL jl jlc)/\w8.cell? ⟨gy,2,none⟩=some (.slice (some kb) xk b'))):=hQ (by
        intro W' hb
        refine (Zbm _ _ _ W').mono ?_;rintro e w8 ⟨rfl,hw8⟩;have hb8:Below w5.heap.size w5 w8:=by rw [hw8];exact hb.alloc hb.size _
        exact ⟨rfl,hb8,HSS.out w8 hb8⟩)
       have HAY:Hid (∀ W',Below w5.heap.size w5 W'->Calls Tryz.prog 87 #[.agg #[.int .i64 jk,.slice jL jl jlc,.slice (some kb) xk b']] W' (fun e w8=>e=.returned (.slice (some kb) xk b')/\Below w5.heap.size w5 w8/\w8.cell? ⟨Bx+2,0,none⟩=some (.func (.func 87) #[] #[])/\w8.cell? ⟨gx,0,none⟩=some (.int .i64 ek)/\w8.cell? ⟨gx,1,none⟩=some (.slice eL el elc)/\w8.cell? ⟨gx,2,none⟩=some (.slice (some ka) xk d')/\w8.cell? ⟨gy,0,none⟩=some (.int .i64 jk)/\w8.cell? ⟨gy,1,none⟩=some (.slice jL jl jlc)/\w8.cell? ⟨gy,2,none⟩=some (.slice (some kb) xk b'))):=hQ (by
        intro W' hb
        refine (Zbm _ _ _ W').mono ?_;rintro e w8 ⟨rfl,hw8⟩;have hb8:Below w5.heap.size w5 w8:=by rw [hw8];exact hb.alloc hb.size _
        exact ⟨rfl,hb8,HSS.out w8 hb8⟩)
       have HOWN:Hid (∀ w9,Below w5.heap.size w5 w9->w9.ownsRow (B+2) 212 2 (v4) (mm+1) (rowPN S' ++ [.slice (some ⟨ad.block,ad.off+3,none⟩) nx (ca - 1),.slice (some ⟨bd.block,bd.off+3,none⟩) nx (cb - 1)])):=hQ (fun w9 hb=>HOW.out w9 (HSW.out.under HJ.out hb));have HAP:Hid (∀ wa v6 w6,Below w5.heap.size w5 wa->w6.ownsRow (B+2) 212 2 v6 (mm+1+1) (rowPN S' ++ [.slice (some ⟨ad.block,ad.off+3,none⟩) nx (ca - 1),.slice (some ⟨bd.block,bd.off+3,none⟩) nx (cb - 1)] ++ [.slice (some ka) xk d',.slice (some kb) xk b'])->wa.grownBy w6 (v4).ownBlock->(v6.ownBlock=(v4).ownBlock∨v6.ownBlock=some wa.heap.size)->∃ S k',PInvN (RTy w0) 3 W2 K a b 212 (B+2) J S k' v6 w6/\(pre2 a b).length - k' < μ):=hQ (by
        intro wa v6 w6 hb ho hg hor
        have h1:=HLT.out;have h2:=HME.out;have h3:pairS (((x.kids,.slice (some ka) xk d'),(y.kids,.slice (some kb) xk b')) :: ((xs,.slice (some ⟨ad.block,ad.off+3,none⟩) nx (ca - 1)),(ys,.slice (some ⟨bd.block,bd.off+3,none⟩) nx (cb - 1))) :: S')=(pre2 a b).drop (k+1):=HPT.out;refine ⟨_,k+1,⟨h1,h3,PSt.push HSW.out HJ.out HJB.out (by rw [HB.out];omega) HKB.out HKL.out HKL'.out (by rw [HXK.out,HYK.out]) hb ?_ hg (hor.imp id fun h=>⟨_,h,hb.size⟩)⟩,by omega⟩;rw [List.length_cons,HSM.out,Zes];exact ho)
       clear ux0 ux1 ux2 vy0 vy1 vy2 z0 hst5
       refine' Zgq (β:=Value) (γ:=Nat) _ (fun v6 _ w6=>∃ S k',PInvN (RTy w0) 3 W2 K a b 212 (B+2) J S k' v6 w6/\(pre2 a b).length - k' < μ) ?first10 ?rest10
       case first10=>
        refine wpIn_wide.2 ?_;go_region_held3 (fun W=>W.cell? ⟨Bx+2,0,none⟩=some (.func (.func 87) #[] #[])/\W.cell? ⟨gx,0,none⟩=some (.int .i64 ek)/\W.cell? ⟨gx,1,none⟩=some (.slice eL el elc)/\W.cell? ⟨gx,2,none⟩=some (.slice (some ka) xk d')/\W.cell? ⟨gy,0,none⟩=some (.int .i64 jk)/\W.cell? ⟨gy,1,none⟩=some (.slice jL jl jlc)/\W.cell? ⟨gy,2,none⟩=some (.slice (some kb) xk b')) (first | (refine ⟨?_,?_,?_,?_,?_,?_,?_⟩ <;> assumption) | go_keep)
         (first | ((go_at_call 87;refine (HAY.out _ hb8).mono ?_;rintro e w9 ⟨rfl,hb9,t0,t1,t2,t3,t4,t5,t6⟩)) | ((go_at_call 87;refine (HAX.out _ bQ.drew).mono ?_;rintro e w8 ⟨rfl,hb8,s0,s1,s2,s3,s4,s5,s6⟩)) | (refine Zfe (by rfl) (.tmp 61) (.tmp 69) 213 (by rfl) (B+2) 212 i0 (.agg #[.slice none 0 0,.slice none 0 0]) 2 48 Tryz.underlying213 hi hz0 hz1 hz2 (by rfl) (by decide) (v4) (mm+1) (rowPN S' ++ [.slice (some ⟨ad.block,ad.off+3,none⟩) nx (ca - 1),.slice (some ⟨bd.block,bd.off+3,none⟩) nx (cb - 1)]) (by rfl) ((HOWN.out w9 hb9).alloc _) ⟨w9.heap.size,0,none⟩ 1 1 [.slice (some ka) xk d',.slice (some kb) xk b'] (by rfl) (by rfl) (Zaz _ _ _ _) (by intro u hu;simp at hu;rcases hu with rfl | rfl <;> rfl) (by unfold maxLen;omega) (by omega) (by have:=hb9.size;simp;omega) ?_;intro v6 w6 hown6 hg6 hor6;have HF:=hQ (HAP.out _ v6 w6 (hb9.alloc hb9.size _) hown6 hg6 hor6);obtain ⟨s0,s1,s2,s3,s4,s5,s6⟩:=HSL.out _ w6 (hb9.alloc hb9.size _) hg6;clear hown6 hg6 hor6))
        generalize w9.heap.size=q9;refine Zdp v6 q9 ?_;exact HF.out
       case rest10=>
       rintro v6 q9 w6 hG;have HG:=hQ hG;clear hG r0 r1 r2 r3 r4 r5 r6
       gi_wp2
       go_roundw
       case rel=>
        obtain ⟨S,k',h1,h2⟩:=HG.out;exact ⟨S,k',h1⟩
       case measure=>
        rw [HMU.out];obtain ⟨S,k',h1,h2⟩:=HG.out;have h5:=(Zbb (Q:=fun z=>∃ S k,PInvN (RTy w0) 3 W2 K a b 212 (B+2) J S k v6 w6/\z=(pre2 a b).length - k) ⟨S,k',h1,rfl⟩).2 _ ⟨S,k',h1,rfl⟩
        omega
    ·clear ux0 ux1 ux2 vy0 vy1 vy2 hR hy
     gi_wp2
     refine bodyPost_ret (results_none rfl _ _ _) rfl ?_;exact ⟨⟨_,rfl⟩,.inr hJx3⟩
end Go.Proofs.YtlcedleebbgebaaGreatDoor
