/-
  Merged by program: NodTI.
-/
import Derived.Test.YtlcedleebbgebaaGreatDoorQ14
import Derived.WalkSmall
import Derived.Stop.RegionWithIn
set_option maxRecDepth 100000
set_option maxHeartbeats 4000000
namespace Go.Proofs.YtlcedleebbgebaaGreatDoor
open Go.RowKit Go.Shelf
attribute [local go_sem] Oper.semAt_some
theorem Zwq:(Tryz.prog.info? 208).map (fun i=>(i.zero,i.size,i.bytes))=some (some (.agg #[.slice none 0 0,.int .i64 0]),2,32):=by kernel_rfl
theorem Znc (w0:World)(t:Ty)(c0 c1 c2:Value)(hr:RTy w0 t [c0,c1,c2])(hs:t.size<=1048577)(n Bx:Nat)(hn:2<=n)(Keep:Nat->Prop)(hk0:∀ b,b < w0.heap.size->Keep b)(hkx:Keep (Bx+1))
  (W:World) (hkW:∀ b,Keep b->b < W.heap.size) (hw:Below w0.heap.size w0 W) (hbox:Box3 W Bx 38 c0 c1 c2) (hbox2:Boxed W (Bx+1) 127 (.func (.func 87) #[] #[])) :
  Zco Fence.wide n Tryz.prog 164 #[.pointer (some ⟨Bx,0,none⟩),.pointer (some ⟨Bx+1,0,none⟩)] (t.pre 1).length (NRd (RTy w0) t) (fun _=>True) Keep W:=by
 intro l J Jx hJ hJB hY h0
 obtain ⟨i0,hi,hz0,hz1,hz2⟩:=info_parts Zwq;have x0:=hbox.c0;have x1:=hbox.c1;have x2:=hbox.c2;have h1:1<=n:=by omega
 have hN:(t.pre 1).length<=1048577:=by rw [Zki];exact hs
 obtain ⟨B,hB⟩:∃ B,W.heap.size=B:=⟨_,rfl⟩;obtain ⟨W2,hW2⟩:∃ W2,W.alloc (.cells #[c0,c1,c2] 38)=W2:=⟨_,rfl⟩;obtain ⟨K,hK⟩:∃ K:Nat->Prop,K=fun b=>Keep b∨b=B:=⟨_,rfl⟩
 have hB2:W2.heap.size=B+1:=by rw [<-hW2,<-hB];simp
 have hb2:Below W.heap.size W W2:=by rw [<-hW2];exact bQ.alloc nQ _
 have hw2:Below w0.heap.size w0 W2:=hw.trans (hb2.mono hw.size);have hKB:∀ b,K b->b < B+1:=by rw [hK];rintro b (h|rfl);have:=hkW b h;omega;omega
 have hK0:∀ b,b < w0.heap.size->K b:=by rw [hK];exact fun b h=>.inl (hk0 b h)
 have hy:W2.heap[Bx+1]?=some (.cells #[.func (.func 87) #[] #[]] 127):=(hb2.block _ (hkW _ hkx)).trans hbox2;have HY2:Hid (∀ wr,Held K W2 wr->Boxed wr (Bx+1) 127 (.func (.func 87) #[] #[])):=hQ fun wr h=>(h.block _ (by have:=hkW _ hkx;omega) (by rw [hK];exact .inl hkx)).trans hy
 have H0:Hid (NInv (RTy w0) 3 W2 K t 208 B J [([t],.slice (some ⟨B,0,none⟩) 1 1,1)] 0 (.slice (some ⟨B+1,0,none⟩) 1 1) (W2.alloc (.cells #[.slice (some ⟨B,0,none⟩) 1 1,.int .i64 1] 208))):=by
  obtain ⟨F,hF⟩:=h0;refine ⟨Nat.zero_le _,?_,?_,?_,Held.of_below (bQ.alloc nQ _) fun i hi _=>hi,F,?_,?_,?_⟩
  ·rw [Zhi,Zsi];simp [preS]
  ·intro p hp
   rw [List.mem_singleton.1 hp];refine ⟨⟨B,0,none⟩,1,rfl,Nat.le_refl _,by simp,by simp,by rw [hK];exact .inr rfl,RowN.one hr fun j u hj=>?_⟩;rw [<-hW2,<-hB]
   match j,hj with
  | 0,hj=>simp at hj;subst hj;simp [Addr.add]
  | 1,hj=>simp at hj;subst hj;simp [Addr.add]
  | 2,hj=>simp at hj;subst hj;simp [Addr.add]
   | j+3,hj=>simp at hj
  ·rw [<-hB2]
   exact World.ownsRow_lit (e:=208) W2 #[.slice (some ⟨B,0,none⟩) 1 1,.int .i64 1] 1 (base:=W2.heap.size) (size:=2) nQ (by unfold maxLen;omega) rfl
  ·exact hJ _ _ _ _ hF (Held.of_below (hb2.trans ((bQ.alloc nQ _).mono hb2.size)) fun i hi _=>hi)
  ·intro g hg hf
   have:=(hJB _ _ _ hF g hf).2
   injection hg with hg
   simp at hg
   omega
  ·rw [hK]
   rintro b hb (h|rfl)
   ·exact (hJB _ _ _ hF b hb).1 h
   ·have:=(hJB _ _ _ hF _ hb).2;omega
 have HJ:=hQ hJ;have HJB:=hQ hJB;have HY:=hQ hY;have HW2:=hQ hW2;have HB:=hQ hB;have HB2:=hQ hB2;have HKB:=hQ hKB;have HK0:=hQ hK0;have HWW:=hQ hw2;have HN:=hQ hN;have HS:=hQ hs;clear hJ hJB hY h0 hbox hbox2 hr hs hk0 hkx hkW hw hW2 hB hB2 hKB hK0 hb2 hw2 hy hN hK;refine callsIn_of_wp Tryz.func164 rfl trivial ?_ rfl;simp only [Tryz.ntmps164,List.size_toArray,List.length_cons,List.length_nil,Nat.reduceAdd,Nat.reduceSub,Array.replicate_succ,Array.replicate_zero,List.push_toArray,List.append_toArray,List.nil_append,List.cons_append]
 gi_wp2
 rw [HB.out,HW2.out]
 gi_loopw [4] (fun p wr=>∃ S k,NInv (RTy w0) 3 W2 K t 208 B J S k p wr) (fun p wr=>Classical.epsilon (Least fun m=>∃ S k,NInv (RTy w0) 3 W2 K t 208 B J S k p wr/\m=(t.pre 1).length - k))
 case atStart=>exact ⟨_,_,H0.out⟩
 case round=>
  obtain ⟨p,hp0⟩:∃ p,u4=p:=⟨_,rfl⟩;rw [hp0] at hrel ⊢;obtain ⟨S0,k0,hk0⟩:=hrel;have hle:=Zbb (Q:=fun m=>∃ S k,NInv (RTy w0) 3 W2 K t 208 B J S k p wr/\m=(t.pre 1).length - k) ⟨S0,k0,hk0,rfl⟩;obtain ⟨μ,hμ⟩:∃ μ,Classical.epsilon (Least fun m=>∃ S k,NInv (RTy w0) 3 W2 K t 208 B J S k p wr/\m=(t.pre 1).length - k)=μ:=⟨_,rfl⟩;rw [hμ] at hle;obtain ⟨⟨S,k,⟨hk,hpre,hall,hown,hheld,F,hJk,hgF,hFK⟩,hmu⟩,_⟩:=hle;clear hk0 k0 S0;have HMU:=hQ hμ;have HME:=hQ hmu;clear hμ hmu
  match S with
  | []=>
   obtain ⟨A,c,rfl⟩:=Zfh hown;have he:k=(t.pre 1).length:=by
    have h1:(t.pre 1).drop k=[]:=hpre.symm
    have:=List.drop_eq_nil_iff.1 h1
    omega
   have HE:Hid (∃ F,J (t.pre 1).length F wr):=hQ ⟨F,he ▸ hJk⟩;clear hown hall hpre he hJk hgF hFK hheld
   gi_wp2
   go_end0
   exact ⟨⟨_,rfl⟩,.inl HE.out⟩
  | ([],s,d) :: S'=>
   obtain ⟨_,_,_,_,_,h0,_⟩:=hall _ (List.mem_cons_self ..);exact absurd h0 (by simp)
  | (x :: xs,s,d) :: S'=>
   rw [Zou] at hpre;obtain ⟨hat,hrest,hlt⟩:=Zjo hpre;have hdp:d<=1048577:=by
    have h1:=((Zjf t 1).1 _ (List.mem_of_getElem? hat)).2;have h2:d+1<=1+t.deep:=h1;have h3:=Zgv t
    have:=HS.out
    omega
   obtain ⟨ad,c,hs,hc,hl,_,hKad,hrow⟩:=hall _ (List.mem_cons_self ..);simp only at hs;subst hs;have hall':NAll (RTy w0) 3 W2 K S':=fun p hp=>hall p (List.mem_cons_of_mem _ hp)
   have hlen:=NAll.len hall';have hlen2:(preS S').length<=(t.pre 1).length:=by
    have h1:=congrArg List.length hrest;rw [List.length_drop] at h1;simp only [List.length_append] at h1
    omega
   have hNN:=HN.out;obtain ⟨ad',cx,e1,hrx,hcx,hrow'⟩:=hrow.hd;injection e1 with e1
   subst e1;obtain ⟨e0,e1,e2,rfl⟩:=hrx.three;obtain ⟨A',d',rfl,hd',hl',hkids⟩:=Zhj hrx;have hcw:∀ i u,[e0,e1,.slice A' x.kids.length d'][i]?=some u->wr.cell? (ad.add i)=some u:=fun i u hi=>by
    have h1:=hcx i u hi;exact (World.cell?_of_block (hheld.block _ (World.block_lt_of_cell? W2 _ h1) (by rw [Zcl];exact hKad))).trans h1
   obtain ⟨nx,hnx⟩:∃ n,xs.length=n:=⟨_,rfl⟩;simp only [List.length_cons,hnx] at hown hc hl;rw [Zdh] at hown;obtain ⟨m,hm⟩:∃ m,S'.length=m:=⟨_,rfl⟩;rw [hm] at hown hlen;have hrl:(rowN S').length=m * 2:=by rw [Zsl,hm]
   obtain ⟨g,cap,rfl⟩:=ownsRow_succ hown;have hpop:=ownsRow_pop (last:=[.slice (some ad) (nx+1) c,.int .i64 (d:Int)]) hrl hown;have g0:wr.cell? ⟨g,m * 2,none⟩=some (.slice (some ad) (nx+1) c):=by
    rw [hown.cellAt _ (by omega),List.getElem?_append_right (by omega),hrl]
    simp
   have g1:wr.cell? ⟨g,m * 2+1,none⟩=some (.int .i64 (d:Int)):=by
    rw [hown.cellAt _ (by omega),List.getElem?_append_right (by omega),hrl]
    simp
   have hgl:=hown.lt g rfl;have hcap:m<=cap:=by
    rcases hown.2 with ⟨h0,_⟩|⟨g',cap',cur,hv,_,_,h3,_⟩
    ·cases h0
    ·injection hv with _ _ hv;omega
   have hml:m<=1048577:=by omega
   have hBr:=hheld.size;have hB2:=HB2.out;have hKF:∀ b,K b->¬ F b:=fun b hb hf=>hFK b hf hb
   obtain ⟨Hn,hHn⟩:∃ Hn,wr.heap.size=Hn:=⟨_,rfl⟩;obtain ⟨wb,hwb⟩:∃ wb,wr.alloc (.cells #[.slice (some ad) (nx+1) c,.int .i64 (d:Int)] 208)=wb:=⟨_,rfl⟩;have hbz:wb.heap.size=Hn+1:=by rw [<-hwb,World.size_alloc,hHn]
   have hlb:Below wr.heap.size wr wb:=by rw [<-hwb];exact bQ.alloc nQ _
   have hbb:∀ i u,[e0,e1,.slice A' x.kids.length d'][i]?=some u->wb.cell? (ad.add i)=some u:=fun i u hi=>(hlb.cell (World.block_lt_of_cell? wr _ (hcw i u hi))).trans (hcw i u hi)
   have k0:wb.cell? ⟨Hn,0,none⟩=some (.slice (some ad) (nx+1) c):=by rw [<-hwb,<-hHn];have:=Zaz wr (.slice (some ad) (nx+1) c) (.int .i64 (d:Int)) 208 0 _ rfl;exact this
   have k1:wb.cell? ⟨Hn,1,none⟩=some (.int .i64 (d:Int)):=by rw [<-hwb,<-hHn];have:=Zaz wr (.slice (some ad) (nx+1) c) (.int .i64 (d:Int)) 208 1 _ rfl;exact this
   have q0:wb.cell? ad=some e0:=hbb 0 _ rfl;have q1:wb.cell? ⟨ad.block,ad.off+1,none⟩=some e1:=hbb 1 _ rfl;have q2:wb.cell? ⟨ad.block,ad.off+2,none⟩=some (.slice A' x.kids.length d'):=hbb 2 _ rfl;have hKwb:Held K W2 wb:=hheld.trans (Held.of_below hlb fun i hi _=>hi);have hJb:J k F wb.drew:=HJ.out _ _ _ _ hJk (Held.of_below (hlb.trans bQ.drew) fun i hi _=>hi);obtain ⟨fn,tmps,assign,body,hy,hR⟩:=HY.out k #[.int .i64 (d:Int),.agg #[e0,e1,.slice A' x.kids.length d']] F wb.drew hlt hJb ⟨d,x,_,hat,rfl,hrx⟩;have hR:=hR.mono (R':=fun e W3=>∃ b,e=.returned (.bool b)/\((b=true/\Held (fun i=>¬ F i) wb.drew W3/\∃ F',(∀ b,F' b->F b∨wb.drew.heap.size<=b)/\J (k+1) F' W3)∨(b=false/\Jx W3))) (by
    rintro e W3 (⟨rfl,_,h⟩|⟨rfl,h⟩)
    ·exact ⟨true,rfl,.inl ⟨rfl,h⟩⟩
    ·exact ⟨false,rfl,.inr ⟨rfl,h⟩⟩)
   have hFn:¬ F Hn:=fun hf=>by have:=(HJB.out _ _ _ hJk Hn hf).2;omega
   have hgHn:g≠Hn:=by have:=hgl.2;omega
   have HSTP:Hid (∀ W3 F',Held (fun i=>¬ F i) wb.drew W3->(∀ b,F' b->F b∨wb.drew.heap.size<=b)->J (k+1) F' W3->NSt (RTy w0) 3 W2 K 208 B J S' (k+1) (.slice (some ⟨g,0,none⟩) m cap) W3):=hQ (by
    intro W3 F' hh hF' hJ3
    have hdz:wb.drew.heap.size=Hn+1:=hbz;have hdb:Below wr.heap.size wr wb.drew:=hlb.trans bQ.drew;have hown3:W3.ownsRow (B+1) 208 2 (.slice (some ⟨g,0,none⟩) m cap) S'.length (rowN S'):=by
     rw [hm];exact Zdw hpop (fun q hq=>by
      injection hq with hq
      subst hq;exact (hh.block g (by have:=hgl.2;omega) (hgF g rfl)).trans (hdb.block g hgl.2))
    refine ⟨hall',hown3,(hheld.trans (Held.of_below hdb fun i hi _=>hi)).trans (hh.mono fun i _ hi=>hKF i hi),F',hJ3,fun q hq hf=>?_,fun b hb hkb=>?_⟩
    ·have e:g=q:=by injection hq
     rw [<-e] at hf
     rcases hF' g hf with h|h
     ·exact hgF g rfl h
     ·have:=hgl.2;omega
    ·rcases hF' _ hb with h|h
     ·exact hFK _ h hkb
     ·have:=HKB.out _ hkb;omega)
   have HHN:Hid (∀ W3,Held (fun i=>¬ F i) wb.drew W3->W3.cell? ⟨Hn,0,none⟩=some (.slice (some ad) (nx+1) c)/\W3.cell? ⟨Hn,1,none⟩=some (.int .i64 (d:Int))):=hQ (by
    intro W3 hh
    have hb:W3.heap[Hn]?=wb.heap[Hn]?:=hh.block Hn (by have:wb.drew.heap.size=Hn+1:=hbz;omega) hFn;exact ⟨(World.cell?_of_block (a:=⟨Hn,0,none⟩) hb).trans k0,(World.cell?_of_block (a:=⟨Hn,1,none⟩) hb).trans k1⟩)
   have HC:Hid (∀ wx,Held K W2 wx->wx.cell? ad=some e0/\wx.cell? ⟨ad.block,ad.off+1,none⟩=some e1/\wx.cell? ⟨ad.block,ad.off+2,none⟩=some (.slice A' x.kids.length d')):=hQ (by
    intro wx hx
    have hq:∀ i u,[e0,e1,.slice A' x.kids.length d'][i]?=some u->wx.cell? (ad.add i)=some u:=fun i u hi=>by
     have h1:=hcx i u hi;exact (World.cell?_of_block (hx.block _ (World.block_lt_of_cell? W2 _ h1) (by rw [Zcl];exact hKad))).trans h1
    exact ⟨hq 0 _ rfl,hq 1 _ rfl,hq 2 _ rfl⟩)
   have HRS:=hQ hrest;have HLT:=hQ hlt;have HKI:=hQ (fun h=>Zgp (W:=W2) (K:=K) h hd' hl' hkids HWW.out HK0.out);have HTL:Hid (nx≠0->NList (RTy w0) 3 W2 K xs (.slice (some ⟨ad.block,ad.off+3,none⟩) nx (c - 1))):=hQ (by
    intro h0
    have e:ad.add 3=⟨ad.block,ad.off+3,none⟩:=by unfold Addr.add;rw [if_neg (by omega)]
    rw [e] at hrow';exact ⟨⟨ad.block,ad.off+3,none⟩,c - 1,by rw [hnx],by omega,by omega,by omega,hKad,hrow'⟩)
   have HNX:=hQ hnx;have HSM:=hQ hm;have HWB:=hQ hwb;clear hown hall hpre hrow hrow' hkids hall' hat hrest hlt hrx hcx hcw hheld hJk hgF hFK hpop hlen hlen2 hm hnx hrl hbb hlb hwb hbz
   gi_wp2
   rw [HWB.out]
   refine' Zev (β:=Bool) _ (fun b w'=>(b=true/\Held (fun i=>¬ F i) wb.drew w'/\∃ F',(∀ b,F' b->F b∨wb.drew.heap.size<=b)/\J (k+1) F' w')∨(b=false/\Jx w')) ?first ?rest
   case first=>
    gi_region_with (refine hR.mono ?_;rintro e W3 ⟨b,rfl,hp⟩)
    all_goals (refine Zbu b ?_;exact hp)
   case rest=>
    rintro b W3 (⟨rfl,hh,F',hF',hJ3⟩|⟨rfl,hJx3⟩)
    ·have hst:=HSTP.out W3 F' hh hF' hJ3
     obtain ⟨k0,k1⟩:=HHN.out W3 hh;have hkw:Held K W2 W3:=hst.2.2.1;obtain ⟨q0,q1,q2⟩:=HC.out W3 hkw;have z0:=(HY2.out W3 hkw).cell;have HST:=hQ hst;clear hst hh hF' hJ3 hkw;by_cases hn0:nx=0
     ·have HOW:Hid (∀ w5,NSt (RTy w0) 3 W2 K 208 B J S' (k+1) (Value.slice (some ⟨g,0,none⟩) m cap) w5->w5.ownsRow (B+1) 208 2 (Value.slice (some ⟨g,0,none⟩) m cap) m (rowN S')):=hQ (fun w5 h=>by have h2:=h.2.1;rw [HSM.out] at h2;exact h2)
      gi_wp2
      have HPT:Hid (preL (d+1) x.kids ++ preS (S')=(t.pre 1).drop (k+1)):=hQ (by have h:=HRS.out;have e:xs=[]:=List.eq_nil_of_length_eq_zero (by rw [HNX.out];exact hn0);rw [e,Zfc,List.nil_append] at h;exact h)
      refine' Zff _ (fun w'=>w'=(W3).drew.alloc (.cells #[e0,e1,.slice A' x.kids.length d'] 38)) ?first8 ?rest8
      case first8=>
       gi_region_with (refine ⟨trivial,?_⟩;gi_at_call 87;refine (callsIn_wide.2 (Zbm _ _ _ _)).mono ?_;rintro e w8 ⟨rfl,rfl⟩)
       all_goals (refine Zdo ?_;rfl)
      case rest8=>
      rintro _ rfl;obtain ⟨w5,hw5⟩:∃ w5,(W3).drew.alloc (.cells #[e0,e1,.slice A' x.kids.length d'] 38)=w5:=⟨_,rfl⟩;have hb5:Below (W3).heap.size (W3) w5:=by rw [<-hw5];exact bQ.drew.alloc nQ _
      have k1:w5.cell? ⟨Hn,1,none⟩=some (.int .i64 (d:Int)):=uQ hb5 k1;have HS5:=hQ (HST.out.under HJ.out hb5);rw [hw5];clear k0 q0 q1 q2 z0 hb5 hw5;by_cases hk0:x.kids.length=0
      ·have HG:Hid (∃ S k',NInv (RTy w0) 3 W2 K t 208 B J S k' (Value.slice (some ⟨g,0,none⟩) m cap) w5/\(t.pre 1).length - k' < μ):=hQ (by
        have e:x.kids=[]:=List.eq_nil_of_length_eq_zero hk0;have h:=HPT.out;rw [e,Zfc,List.nil_append] at h;have h1:=HLT.out;have h2:=HME.out;exact ⟨_,k+1,⟨h1,h,HS5.out⟩,by omega⟩)
       rw [hk0]
       gi_wp2
       go_roundw
       case rel=>
        obtain ⟨S,k',h1,h2⟩:=HG.out;exact ⟨S,k',h1⟩
       case measure=>
        rw [HMU.out];obtain ⟨S,k',h1,h2⟩:=HG.out;have h5:=(Zbb (Q:=fun z=>∃ S k,NInv (RTy w0) 3 W2 K t 208 B J S k (Value.slice (some ⟨g,0,none⟩) m cap) w5/\z=(t.pre 1).length - k) ⟨S,k',h1,rfl⟩).2 _ ⟨S,k',h1,rfl⟩
        omega
      ·obtain ⟨ka,hka,hkl⟩:=HKI.out (by omega)
       subst hka;have hov:w5.ownsRow (B+1) 208 2 (Value.slice (some ⟨g,0,none⟩) m cap) (m) (rowN S'):=HOW.out w5 HS5.out;have HAP:Hid (∀ v6 w6,w6.ownsRow (B+1) 208 2 v6 (m+1) (rowN S' ++ [.slice (some ka) x.kids.length d',.int .i64 ((d:Int)+1)])->(w5.alloc (.cells #[.slice (some ka) x.kids.length d',.int .i64 ((d:Int)+1)] 208)).grownBy w6 (Value.slice (some ⟨g,0,none⟩) m cap).ownBlock->(v6.ownBlock=(Value.slice (some ⟨g,0,none⟩) m cap).ownBlock∨v6.ownBlock=some (w5.heap.size+1))->∃ S k',NInv (RTy w0) 3 W2 K t 208 B J S k' v6 w6/\(t.pre 1).length - k' < μ):=hQ (by
        intro v6 w6 ho hg hor
        have h1:=HLT.out;have h2:=HME.out;have h3:preS ((x.kids,.slice (some ka) x.kids.length d',d+1) :: S')=(t.pre 1).drop (k+1):=HPT.out;refine ⟨_,k+1,⟨h1,h3,NSt.push HS5.out HJ.out HJB.out (by rw [HB.out];omega) HKB.out hkl (bQ.alloc nQ _) ?_ hg (by
         rcases hor with h|h
         ·exact .inl h
         ·exact .inr ⟨_,h,by omega⟩)⟩,by omega⟩
        rw [HSM.out];rw [show ((d+1:Nat):Int)=(d:Int)+1 from rfl];exact ho)
       have HO:=hQ (hov.alloc (.cells #[.slice (some ka) x.kids.length d',.int .i64 ((d:Int)+1)] 208));have HCL:=hQ (Zaz w5 (.slice (some ka) x.kids.length d') (.int .i64 ((d:Int)+1)) 208);have hBz:B+1<=w5.heap.size:=by have:=HS5.out.2.2.1.size;have:=HB2.out;omega
       obtain ⟨xk,hxk⟩:∃ xk,x.kids.length=xk:=⟨_,rfl⟩;rw [hxk] at HAP HO HCL hk0 ⊢;clear hov hkl hxk
       gi_wp2_with (gi_at_builtin;refine wpListIn_append_own_at _ rfl _ _ 209 rfl (B+1) 208 i0 (.agg #[.slice none 0 0,.int .i64 0]) 2 32 Tryz.underlying209 hi hz0 hz1 hz2 rfl (by decide) (Value.slice (some ⟨g,0,none⟩) m cap) (m) (rowN S') rfl HO.out ⟨w5.heap.size,0,none⟩ 1 1 [.slice (some ka) xk d',.int .i64 ((d:Int)+1)] rfl rfl HCL.out (by intro u hu;simp at hu;rcases hu with rfl|rfl <;> rfl) (by unfold maxLen;omega) (by omega) (by simp;omega) ?_;intro v6 w6 hown4 hg4 _ hor4)
       have HG:=hQ (HAP.out v6 w6 hown4 hg4 (by simpa using hor4));clear hown4 hg4 hor4
       gi_wp2
       go_roundw
       case rel=>
        obtain ⟨S,k',h1,h2⟩:=HG.out;exact ⟨S,k',h1⟩
       case measure=>
        rw [HMU.out];obtain ⟨S,k',h1,h2⟩:=HG.out;have h5:=(Zbb (Q:=fun z=>∃ S k,NInv (RTy w0) 3 W2 K t 208 B J S k v6 w6/\z=(t.pre 1).length - k) ⟨S,k',h1,rfl⟩).2 _ ⟨S,k',h1,rfl⟩
        omega
     ·have hn1:0 < nx:=by omega
      have z1:(1:Int)<=(nx:Int)+1:=by omega
      have z2:(nx:Int)+1<=(c:Int):=by omega
      have z4:(1:Int)<=(c:Int):=by omega
      have z6:(0:Int)<=(nx:Int):=by omega
      have z7:c≠1:=by omega
      have HAP:Hid (∀ v4 w4,w4.ownsRow (B+1) 208 2 v4 (m+1) (rowN S' ++ [.slice (some ⟨ad.block,ad.off+3,none⟩) nx (c - 1),.int .i64 (d:Int)])->(W3.drew.alloc (.cells #[.slice (some ⟨ad.block,ad.off+3,none⟩) nx (c - 1),.int .i64 (d:Int)] 208)).grownBy w4 (Value.slice (some ⟨g,0,none⟩) m cap).ownBlock->(v4.ownBlock=(Value.slice (some ⟨g,0,none⟩) m cap).ownBlock∨v4.ownBlock=some (W3.drew.alloc (.cells #[.slice (some ⟨ad.block,ad.off+3,none⟩) nx (c - 1),.int .i64 (d:Int)] 208)).heap.size)->
        NSt (RTy w0) 3 W2 K 208 B J ((xs,.slice (some ⟨ad.block,ad.off+3,none⟩) nx (c - 1),d) :: S') (k+1) v4 w4/\w4.cell? ⟨Hn,0,none⟩=some (.slice (some ad) (nx+1) c)/\w4.cell? ⟨Hn,1,none⟩=some (.int .i64 (d:Int))):=hQ (by
       intro v4 w4 ho hg hor
       have hbw:Below W3.heap.size W3 (W3.drew.alloc (.cells #[.slice (some ⟨ad.block,ad.off+3,none⟩) nx (c - 1),.int .i64 (d:Int)] 208)):=bQ.drew.alloc nQ _;refine ⟨HST.out.push HJ.out HJB.out (by rw [HB.out];omega) HKB.out (HTL.out hn0) hbw (by rw [HSM.out];exact ho) hg (hor.imp id fun h=>⟨_,h,hbw.size⟩),?_⟩;have hHl:Hn < W3.heap.size:=World.block_lt_of_cell? W3 _ k0;have hb:w4.heap[Hn]?=W3.heap[Hn]?:=(hg.block Hn (by have:=hbw.size;omega) (by intro e;have e:some Hn=some g:=e;injection e with e;omega)).trans (hbw.block Hn hHl);exact ⟨(World.cell?_of_block (a:=⟨Hn,0,none⟩) hb).trans k0,(World.cell?_of_block (a:=⟨Hn,1,none⟩) hb).trans k1⟩)
      have HO:=hQ (show (W3.drew.alloc (.cells #[.slice (some ⟨ad.block,ad.off+3,none⟩) nx (c - 1),.int .i64 (d:Int)] 208)).ownsRow (B+1) 208 2 (Value.slice (some ⟨g,0,none⟩) m cap) m (rowN S') by
       have h:=HST.out.2.1;rw [HSM.out] at h;exact Zdw h fun q hq=>(bQ.drew.alloc nQ _:Below W3.heap.size W3 _).block q (h.lt q hq).2)
      have HCL:=hQ (Zaz W3.drew (.slice (some ⟨ad.block,ad.off+3,none⟩) nx (c - 1)) (.int .i64 (d:Int)) 208);have hBz:B+1<=W3.heap.size:=by have:=HST.out.2.2.1.size;have:=HB2.out;omega
      have HOW:Hid (∀ v4 w5,NSt (RTy w0) 3 W2 K 208 B J ((xs,.slice (some ⟨ad.block,ad.off+3,none⟩) nx (c - 1),d) :: S') (k+1) v4 w5->w5.ownsRow (B+1) 208 2 v4 (m+1) (rowN S' ++ [.slice (some ⟨ad.block,ad.off+3,none⟩) nx (c - 1),.int .i64 (d:Int)])):=hQ (fun v4 w5 h=>by have h2:=h.2.1;rw [List.length_cons,HSM.out,Zdh] at h2;exact h2)
      gi_wp2
      refine' Zev (β:=Value) _ (fun v4 w4=>NSt (RTy w0) 3 W2 K 208 B J ((xs,.slice (some ⟨ad.block,ad.off+3,none⟩) nx (c - 1),d) :: S') (k+1) v4 w4/\w4.cell? ⟨Hn,0,none⟩=some (.slice (some ad) (nx+1) c)/\w4.cell? ⟨Hn,1,none⟩=some (.int .i64 (d:Int))) ?first7 ?rest7
      case first7=>
       refine wpIn_region_any (by kernel_rfl) ?_
       change wpAnyIn _ _ _ _ _ _ _ _ _ (World.drew _)
       (refine wpAnyIn_take (i:=0) (v:=?_) rfl rfl (by kernel_rfl) (by kernel_rfl) (by kernel_rfl) (fun _ _ _ h=>h) ⟨Or.inl ⟨by rfl,?_⟩,fun _=>rfl⟩ ?_;rotate_left 1;(first | (intro w;go_simp;done) | (intro w;go_simp;with_reducible rfl)))
       (refine wpAnyIn_take (i:=1) (v:=?_) rfl rfl (by kernel_rfl) (by kernel_rfl) (by kernel_rfl) (fun _ _ _ h=>h) ⟨Or.inl ⟨by rfl,?_⟩,fun _=>rfl⟩ ?_;rotate_left 1;(first | (intro w;go_simp;done) | (intro w;go_simp;with_reducible rfl)))
       (refine wpAnyIn_take (i:=4) (v:=?_) rfl rfl (by kernel_rfl) (by kernel_rfl) (by kernel_rfl) (fun _ _ _ h=>h) ⟨Or.inl ⟨by rfl,?_⟩,fun _=>rfl⟩ ?_;rotate_left 1;(first | (intro w;go_simp;done) | (intro w;go_simp;with_reducible rfl)))
       refine wpAnyIn_ready (rs:=[2,5]) (by kernel_rfl) (by simp) ?_;refine AllReadyIn.cons rfl (fun K hK=>?_) ?_
       ·go_simp
        refine hK _ _ ?_;clear hK K
        (refine wpAnyIn_take (i:=3) (v:=?_) rfl rfl (by kernel_rfl) (by kernel_rfl) (by kernel_rfl) (fun _ _ _ h=>h) ⟨Or.inl ⟨by rfl,?_⟩,fun _=>rfl⟩ ?_;rotate_left 1;(first | (intro w;go_simp;done) | (intro w;go_simp;with_reducible rfl)))
        (refine wpAnyIn_ready (rs:=[5]) (by kernel_rfl) (by simp) ?_;refine .cons rfl (fun K hK=>?_) .nil;go_simp;refine hK _ _ ?_;clear hK K)
        (refine wpAnyIn_take (i:=6) (v:=?_) rfl rfl (by kernel_rfl) (by kernel_rfl) (by kernel_rfl) (fun _ _ _ h=>h) ⟨Or.inl ⟨by rfl,?_⟩,fun _=>rfl⟩ ?_;rotate_left 1;(first | (intro w;go_simp;done) | (intro w;go_simp;with_reducible rfl)))
        (refine wpAnyIn_ready (rs:=[7]) (by kernel_rfl) (by simp) ?_;refine .cons rfl (fun K hK=>?_) .nil;go_simp;refine hK _ _ ?_;clear hK K)
        (refine wpAnyIn_ready (rs:=[8]) (by kernel_rfl) (by simp) ?_;refine .cons rfl (fun K hK=>?_) .nil;refine Zci (by rfl) (.tmp 38) (.tmp 45) 209 (by rfl) (B+1) 208 i0 (.agg #[.slice none 0 0,.int .i64 0]) 2 32 Tryz.underlying209 hi hz0 hz1 hz2 (by rfl) (by decide) (Value.slice (some ⟨g,0,none⟩) m cap) m (rowN S') (by rfl) HO.out ⟨W3.heap.size,0,none⟩ 1 1 [.slice (some ⟨ad.block,ad.off+3,none⟩) nx (c - 1),.int .i64 (d:Int)] (by rfl) (by rfl) HCL.out (by intro u hu;simp at hu;rcases hu with rfl|rfl <;> rfl) (by unfold maxLen;omega) (by omega) (by simp;omega) ?_;intro v4 w4 hown4 hg4 hor4;refine hK _ _ ?_;clear hK K)
        (refine wpAnyIn_take (i:=9) (v:=?_) rfl rfl (by kernel_rfl) (by kernel_rfl) (by kernel_rfl) (fun _ _ _ h=>h) ⟨Or.inl ⟨by rfl,?_⟩,fun _=>rfl⟩ ?_;rotate_left 1;(first | (intro w;go_simp;done) | (intro w;go_simp;with_reducible rfl)))
        (refine wpAnyIn_done (by kernel_rfl) ?_ _;refine Zbu v4 ?_;exact HAP.out v4 w4 hown4 hg4 hor4)
       ·refine .cons rfl (fun K hK=>?_) .nil
        go_simp
        refine hK _ _ ?_;clear hK K
        (refine wpAnyIn_ready (rs:=[2]) (by kernel_rfl) (by simp) ?_;refine .cons rfl (fun K hK=>?_) .nil;go_simp;refine hK _ _ ?_;clear hK K)
        (refine wpAnyIn_take (i:=3) (v:=?_) rfl rfl (by kernel_rfl) (by kernel_rfl) (by kernel_rfl) (fun _ _ _ h=>h) ⟨Or.inl ⟨by rfl,?_⟩,fun _=>rfl⟩ ?_;rotate_left 1;(first | (intro w;go_simp;done) | (intro w;go_simp;with_reducible rfl)))
        (refine wpAnyIn_take (i:=6) (v:=?_) rfl rfl (by kernel_rfl) (by kernel_rfl) (by kernel_rfl) (fun _ _ _ h=>h) ⟨Or.inl ⟨by rfl,?_⟩,fun _=>rfl⟩ ?_;rotate_left 1;(first | (intro w;go_simp;done) | (intro w;go_simp;with_reducible rfl)))
        (refine wpAnyIn_ready (rs:=[7]) (by kernel_rfl) (by simp) ?_;refine .cons rfl (fun K hK=>?_) .nil;go_simp;refine hK _ _ ?_;clear hK K)
        (refine wpAnyIn_ready (rs:=[8]) (by kernel_rfl) (by simp) ?_;refine .cons rfl (fun K hK=>?_) .nil;refine Zci (by rfl) (.tmp 38) (.tmp 45) 209 (by rfl) (B+1) 208 i0 (.agg #[.slice none 0 0,.int .i64 0]) 2 32 Tryz.underlying209 hi hz0 hz1 hz2 (by rfl) (by decide) (Value.slice (some ⟨g,0,none⟩) m cap) m (rowN S') (by rfl) HO.out ⟨W3.heap.size,0,none⟩ 1 1 [.slice (some ⟨ad.block,ad.off+3,none⟩) nx (c - 1),.int .i64 (d:Int)] (by rfl) (by rfl) HCL.out (by intro u hu;simp at hu;rcases hu with rfl|rfl <;> rfl) (by unfold maxLen;omega) (by omega) (by simp;omega) ?_;intro v4 w4 hown4 hg4 hor4;refine hK _ _ ?_;clear hK K)
        (refine wpAnyIn_take (i:=9) (v:=?_) rfl rfl (by kernel_rfl) (by kernel_rfl) (by kernel_rfl) (fun _ _ _ h=>h) ⟨Or.inl ⟨by rfl,?_⟩,fun _=>rfl⟩ ?_;rotate_left 1;(first | (intro w;go_simp;done) | (intro w;go_simp;with_reducible rfl)))
        (refine wpAnyIn_done (by kernel_rfl) ?_ _;refine Zbu v4 ?_;exact HAP.out v4 w4 hown4 hg4 hor4)
      case rest7=>
      rintro v4 w4 ⟨hst,k0,k1⟩;have hkw:Held K W2 w4:=hst.2.2.1;obtain ⟨q0,q1,q2⟩:=HC.out w4 hkw;have z0:=(HY2.out w4 hkw).cell;have HST:=hQ hst;have HOW:=hQ (HOW.out v4);clear hst hkw HAP HO HCL z1 z2 z4 z6 z7
      gi_wp2
      have HPT:Hid (preL (d+1) x.kids ++ preS ((xs,.slice (some ⟨ad.block,ad.off+3,none⟩) nx (c - 1),d) :: S')=(t.pre 1).drop (k+1)):=hQ (by have h:=HRS.out;exact h)
      refine' Zff _ (fun w'=>w'=(w4).drew.alloc (.cells #[e0,e1,.slice A' x.kids.length d'] 38)) ?first8 ?rest8
      case first8=>
       gi_region_with (refine ⟨trivial,?_⟩;gi_at_call 87;refine (callsIn_wide.2 (Zbm _ _ _ _)).mono ?_;rintro e w8 ⟨rfl,rfl⟩)
       all_goals (refine Zdo ?_;rfl)
      case rest8=>
      rintro _ rfl;obtain ⟨w5,hw5⟩:∃ w5,(w4).drew.alloc (.cells #[e0,e1,.slice A' x.kids.length d'] 38)=w5:=⟨_,rfl⟩;have hb5:Below (w4).heap.size (w4) w5:=by rw [<-hw5];exact bQ.drew.alloc nQ _
      have k1:w5.cell? ⟨Hn,1,none⟩=some (.int .i64 (d:Int)):=uQ hb5 k1;have HS5:=hQ (HST.out.under HJ.out hb5);rw [hw5];clear k0 q0 q1 q2 z0 hb5 hw5;by_cases hk0:x.kids.length=0
      ·have HG:Hid (∃ S k',NInv (RTy w0) 3 W2 K t 208 B J S k' (v4) w5/\(t.pre 1).length - k' < μ):=hQ (by
        have e:x.kids=[]:=List.eq_nil_of_length_eq_zero hk0;have h:=HPT.out;rw [e,Zfc,List.nil_append] at h;have h1:=HLT.out;have h2:=HME.out;exact ⟨_,k+1,⟨h1,h,HS5.out⟩,by omega⟩)
       rw [hk0]
       gi_wp2
       go_roundw
       case rel=>
        obtain ⟨S,k',h1,h2⟩:=HG.out;exact ⟨S,k',h1⟩
       case measure=>
        rw [HMU.out];obtain ⟨S,k',h1,h2⟩:=HG.out;have h5:=(Zbb (Q:=fun z=>∃ S k,NInv (RTy w0) 3 W2 K t 208 B J S k (v4) w5/\z=(t.pre 1).length - k) ⟨S,k',h1,rfl⟩).2 _ ⟨S,k',h1,rfl⟩
        omega
      ·obtain ⟨ka,hka,hkl⟩:=HKI.out (by omega)
       subst hka;have hov:w5.ownsRow (B+1) 208 2 (v4) (m+1) (rowN S' ++ [.slice (some ⟨ad.block,ad.off+3,none⟩) nx (c - 1),.int .i64 (d:Int)]):=HOW.out w5 HS5.out;have HAP:Hid (∀ v6 w6,w6.ownsRow (B+1) 208 2 v6 (m+1+1) (rowN S' ++ [.slice (some ⟨ad.block,ad.off+3,none⟩) nx (c - 1),.int .i64 (d:Int)] ++ [.slice (some ka) x.kids.length d',.int .i64 ((d:Int)+1)])->(w5.alloc (.cells #[.slice (some ka) x.kids.length d',.int .i64 ((d:Int)+1)] 208)).grownBy w6 (v4).ownBlock->(v6.ownBlock=(v4).ownBlock∨v6.ownBlock=some (w5.heap.size+1))->∃ S k',NInv (RTy w0) 3 W2 K t 208 B J S k' v6 w6/\(t.pre 1).length - k' < μ):=hQ (by
        intro v6 w6 ho hg hor
        have h1:=HLT.out;have h2:=HME.out;have h3:preS ((x.kids,.slice (some ka) x.kids.length d',d+1) :: (xs,.slice (some ⟨ad.block,ad.off+3,none⟩) nx (c - 1),d) :: S')=(t.pre 1).drop (k+1):=HPT.out;refine ⟨_,k+1,⟨h1,h3,NSt.push HS5.out HJ.out HJB.out (by rw [HB.out];omega) HKB.out hkl (bQ.alloc nQ _) ?_ hg (by
         rcases hor with h|h
         ·exact .inl h
         ·exact .inr ⟨_,h,by omega⟩)⟩,by omega⟩
        rw [List.length_cons,HSM.out,Zdh];rw [show ((d+1:Nat):Int)=(d:Int)+1 from rfl];exact ho)
       have HO:=hQ (hov.alloc (.cells #[.slice (some ka) x.kids.length d',.int .i64 ((d:Int)+1)] 208));have HCL:=hQ (Zaz w5 (.slice (some ka) x.kids.length d') (.int .i64 ((d:Int)+1)) 208);have hBz:B+1<=w5.heap.size:=by have:=HS5.out.2.2.1.size;have:=HB2.out;omega
       obtain ⟨xk,hxk⟩:∃ xk,x.kids.length=xk:=⟨_,rfl⟩;rw [hxk] at HAP HO HCL hk0 ⊢;clear hov hkl hxk
       gi_wp2_with (gi_at_builtin;refine wpListIn_append_own_at _ rfl _ _ 209 rfl (B+1) 208 i0 (.agg #[.slice none 0 0,.int .i64 0]) 2 32 Tryz.underlying209 hi hz0 hz1 hz2 rfl (by decide) (v4) (m+1) (rowN S' ++ [.slice (some ⟨ad.block,ad.off+3,none⟩) nx (c - 1),.int .i64 (d:Int)]) rfl HO.out ⟨w5.heap.size,0,none⟩ 1 1 [.slice (some ka) xk d',.int .i64 ((d:Int)+1)] rfl rfl HCL.out (by intro u hu;simp at hu;rcases hu with rfl|rfl <;> rfl) (by unfold maxLen;omega) (by omega) (by simp;omega) ?_;intro v6 w6 hown4 hg4 _ hor4)
       have HG:=hQ (HAP.out v6 w6 hown4 hg4 (by simpa using hor4));clear hown4 hg4 hor4
       gi_wp2
       go_roundw
       case rel=>
        obtain ⟨S,k',h1,h2⟩:=HG.out;exact ⟨S,k',h1⟩
       case measure=>
        rw [HMU.out];obtain ⟨S,k',h1,h2⟩:=HG.out;have h5:=(Zbb (Q:=fun z=>∃ S k,NInv (RTy w0) 3 W2 K t 208 B J S k v6 w6/\z=(t.pre 1).length - k) ⟨S,k',h1,rfl⟩).2 _ ⟨S,k',h1,rfl⟩
        omega
    ·clear k0 k1 q0 q1 q2
     gi_wp2
     refine bodyPost_ret (results_none rfl _ _ _) rfl ?_;exact ⟨⟨_,rfl⟩,.inr hJx3⟩
end Go.Proofs.YtlcedleebbgebaaGreatDoor
