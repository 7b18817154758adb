/-
  Merged by program: TypT.
-/
import Derived.Test.YtlcedleebbgebaaGreatDoorQ42
set_option maxRecDepth 100000
set_option maxHeartbeats 16000000
set_option linter.all false
namespace Go.Proofs.YtlcedleebbgebaaGreatDoor
open Go.RowKit
def TypI (xs:Sc)(t:Te):Prop:=∀ (K:Nat->Prop)(c:Cx)(A:Option Addr)(d:Nat)(ev:Value)(w0 w:World)(ss cs:List Value),RSc w0 xs ss->RTe w0 t cs->Below w0.heap.size w0 w->(∀ i,i < w0.heap.size->K i)->(∀ i,w.heap.size<=i->K i)->RL kTg (veil K w) A c->c.length<=d->c.length+t.size<=1000->(∀ x∈c,wt x.2<=1048576)->t.formE=true->ErrAt ev w->(∃ T v,ev=.iface T v)->
 Calls Tryz.prog 41 #[.agg ss.toArray,.slice A c.length d,.agg cs.toArray] w (PostK K (Tr.typ xs t c) ev w)
theorem Zql {a:TeA}{ks:List Te}{c c':Cx}{ts:List Ty}(hf:Tr.formE (.node a ks)=true)(h:nextC a c ts=some c')(hcw:∀ x∈c,wt x.2<=1048576)(hv:∀ t∈ts,Zae t=true):c'.length<=c.length+1/\∀ x∈c',wt x.2<=1048576:=by
 unfold nextC at h
 split at h
 ·rename_i hk
  injection h with h
  subst h;refine ⟨by simp,fun x hx=>?_⟩
  rcases List.mem_append.1 hx with hx|hx
  ·exact hcw x hx
  ·simp at hx
   subst hx;exact Nat.le_trans (Zbq (Zgm (Zdu hf).2.1 (.inr hk))) (by decide)
 ·split at h
  ·split at h
   ·injection h with h
    subst h;refine ⟨by simp,fun x hx=>?_⟩
    rcases List.mem_append.1 hx with hx|hx
    ·exact hcw x hx
    ·simp at hx
     subst hx;have h1:wt (arg ts 0)<=504:=Znr 0 fun t ht=>Zbq (hv t ht)
     exact Nat.le_trans (Znr (B:=504) 0 fun u hu=>Nat.le_trans (Zjw hu) h1) (by decide)
   ·cases h
  ·injection h with h
   subst h;exact ⟨by omega,hcw⟩
def TInv (K1:Nat->Prop)(xs:Sc)(a:TeA)(ks:List Te)(c:Cx)(W1:World)(v i:Value)(wr:World):Prop:=
 ∃ (k:Nat) (ts:List Ty) (A:Option Addr) (d:Nat) (cells:List Value),k<=ks.length/\i=.int .i64 (k:Int)/\v=.slice A k d/\ts.length=k/\Known xs a ks c k ts/\wr.ownsRow W1.heap.size 38 3 (.slice A k d) k cells/\(∀ j t,ts[j]?=some t->RTy (veil (fun i=>K1 i/\i∉blk A) wr) t (partK 3 cells j))/\Below W1.heap.size W1 wr
theorem row_K {K:Nat->Prop}{w:World}{base:Nat}{e:TypeId}{A:Option Addr}{k d:Nat}{cells:List Value}{ts:List Ty}(h:w.ownsRow base e 3 (.slice A k d) k cells)(hl:ts.length=k)(hr:∀ j t,ts[j]?=some t->RTy (veil K w) t (partK 3 cells j)):RKk K w A ts:=by
 refine ⟨partK 3 cells,fun j t hj=>⟨hr j t hj,?_⟩⟩;have hjl:=(List.getElem?_eq_some_iff.1 hj).1;obtain ⟨g,rfl⟩:∃ g,A=some ⟨g,0,none⟩:=by
  rcases h.2 with ⟨_,h2⟩|⟨g,cap,cur,h1,_⟩
  ·omega
  ·injection h1 with h1 _ _
   exact ⟨g,h1⟩
 refine ⟨_,rfl,fun i u hi=>?_⟩;have hlen:(partK 3 cells j).length=3:=Reads.len (hr j t hj);have hi3:i < 3:=by
  have:=(List.getElem?_eq_some_iff.1 hi).1
  omega
 rw [Zeq _ _ _ _ hi3] at hi;exact h.cells (g:=g) rfl _ u hi
theorem Zaej {K L:Nat->Prop}{w:World}{A:Option Addr}{ts:List Ty}(h:RKk K w A ts)(hKL:∀ i,K i->L i)(hA:∀ ad,A=some ad->L ad.block):RKids (veil L w) A ts:=by
 obtain ⟨ps,hp⟩:=h;refine ⟨ps,fun j t hj=>?_⟩;obtain ⟨h1,ad,e,h2⟩:=hp j t hj;refine ⟨RTy.sub h1 (Sub.held ⟨rfl,rfl,rfl,Nat.le_refl _,fun _ _ _=>rfl⟩ fun i _ hk=>hKL i hk),ad,e,fun i u hi=>Zbg ?_ (h2 i u hi)⟩;have hb:(ad.add (j * 3+i)).block=ad.block:=by unfold Addr.add;split <;> rfl
 show L (ad.add (j * 3+i)).block
 rw [hb];exact hA ad e
theorem Zyu {K1:Nat->Prop}{xs:Sc}{a:TeA}{ks:List Te}{c:Cx}{W1 wr W w4:World}{k:Nat}{ts:List Ty}{t:Ty}{A A4:Option Addr}{d d4:Nat}{cells rs:List Value}{o:Obj}{i:Value}
  (hk:k < ks.length) (hi:i=.int .i64 ((k+1:Nat):Int)) (htl:ts.length=k) (hkn:Known xs a ks c (k+1) (ts ++ [t])) (hrow:wr.ownsRow W1.heap.size 38 3 (.slice A k d) k cells) (hr:∀ j t,ts[j]?=some t->RTy (veil (fun i=>K1 i/\i∉blk A) wr) t (partK 3 cells j)) (hb:Below W1.heap.size W1 wr) (hbW:Below wr.heap.size wr W) (ht:RTy (veil (fun i=>K1 i/\i∉blk A) W) t rs)
  (hown:w4.ownsRow W1.heap.size 38 3 (.slice A4 (k+1) d4) (k+1) (cells ++ rs)) (hgr:(W.alloc o).grownBy w4 (Value.slice A k d).ownBlock)
  (hor:(Value.slice A4 (k+1) d4).ownBlock=(Value.slice A k d).ownBlock∨(Value.slice A4 (k+1) d4).ownBlock=some (W.alloc o).heap.size):TInv K1 xs a ks c W1 (.slice A4 (k+1) d4) i w4:=by
 have hcl:cells.length=k * 3:=hrow.1;have hrl:rs.length=3:=Reads.len ht;have hs2:=hbW.size;have hs1:=hb.size;have hs4:=hgr.size;have hsz:(W.alloc o).heap.size=W.heap.size+1:=by simp
 have hHW:Held (fun b=>some b≠(Value.slice A k d).ownBlock) W w4:=by
  have h1:=Held.of_grown hgr;refine ⟨h1.os,h1.tape,h1.output,by omega,fun b hbl hne=>(h1.block b (by omega) hne).trans ?_⟩;exact ((Below.refl W.heap.size W).alloc nQ o).block b hbl
 have hnew:∀ b,b < W.heap.size->b∉blk A->b∉blk A4:=fun b hbl hn hm=>by
  have e1:=(Zam A4 (k+1) d4 b).2 hm
  rcases hor with h|h
  ·rw [h] at e1
   exact hn ((Zam A k d b).1 e1)
  ·rw [h] at e1
   injection e1 with e1
   omega
 have hsub:Sub (veil (fun i=>K1 i/\i∉blk A) W) (veil (fun i=>K1 i/\i∉blk A4) w4):=by
  refine ⟨by rw [Zdj,Zdj];omega,fun p v hp=>?_⟩;obtain ⟨h1,h2⟩:=Zad hp;have h3:=World.block_lt_of_cell? W _ h2;exact Zbg ⟨h1.1,hnew _ h3 h1.2⟩ (hHW.cell (fun e=>h1.2 ((Zam A k d _).1 e.symm)) h2)
 have hsub0:Sub (veil (fun i=>K1 i/\i∉blk A) wr) (veil (fun i=>K1 i/\i∉blk A) W):=Sub.held (Held.of_below hbW fun i hi _=>hi) fun _ _ h=>h
 have hgb:∀ q,(Value.slice A k d).ownBlock=some q->W1.heap.size<=q:=fun q hq=>(hrow.lt q hq).1
 refine ⟨k+1,ts ++ [t],A4,d4,cells ++ rs,hk,hi,rfl,by simp [htl],hkn,hown,fun j x hj=>?_,(hb.trans ((hbW.alloc hs2 o).mono hs1)).grown hgr (by omega) hgb⟩;by_cases hlt:j < ts.length
 ·rw [List.getElem?_append_left hlt] at hj
  rw [Zfu hcl (by omega)];exact RTy.sub (RTy.sub (hr j x hj) hsub0) hsub
 ·have hjl:=(List.getElem?_eq_some_iff.1 hj).1
  have ej:j=k:=by simp at hjl;omega
  subst ej;rw [List.getElem?_append_right (by omega),htl,Nat.sub_self] at hj;obtain rfl:t=x:=by simpa using hj
  rw [Zfv hcl hrl];exact RTy.sub ht hsub
theorem Zyx (xs:Sc)(hsw:wSc xs<=1000000)(a:TeA)(ks:List Te)(IH:∀ t∈ks,TypI xs t):TypI xs (.node a ks):=by
 intro K c A d ev w0 w ss cs hs h hb0 hK0 hK hp hd hsz hcw hf he hi
 obtain ⟨TE,ve,rfl⟩:=hi;obtain ⟨i1,hi1,hy0,hy1,hy2⟩:=info_parts Zlu;have hkm:ks.length<=1000:=by have:=Zjx a ks;omega
 obtain ⟨_,_,hfk⟩:=Zdu hf;have hrte:=h;have hrsc:=hs;obtain ⟨SA,sd,rfl,hsl,hsd,hsp⟩:=hs.open;obtain ⟨TL,tc,TA,td,LE,lc0,KA,kd,rfl,hT,hLb,hok,_,_,hkp⟩:=h.out;obtain ⟨W1,hW1⟩:∃ W1,((w.alloc (.cells #[.slice SA xs.length sd] 43)).alloc (.cells #[.int .i64 a.kind,.string a.name,.int .i64 a.num,.int .i64 a.type.top.kind,.slice TL a.type.top.labels.length tc,.slice TA a.type.kids.length td,.slice LE a.labels.length lc0,.slice KA ks.length kd] 49)).alloc (.cells #[.int .i64 0,.slice none 0 0,.slice none 0 0] 38)=W1:=⟨_,rfl⟩;obtain ⟨H,hH⟩:∃ H,w.heap.size=H:=⟨_,rfl⟩;have bs:Box1 W1 H 43 (.slice SA xs.length sd):=by rw [<-hW1,<-hH];exact ((Box1.new w _ _).alloc _).alloc _
 have bt:Box8 W1 (H+1) 49 (.int .i64 a.kind) (.string a.name) (.int .i64 a.num) (.int .i64 a.type.top.kind) (.slice TL a.type.top.labels.length tc) (.slice TA a.type.kids.length td) (.slice LE a.labels.length lc0) (.slice KA ks.length kd):=by
  rw [<-hW1,<-hH]
  have:=(Box8.new (w.alloc (.cells #[.slice SA xs.length sd] 43)) 49 (.int .i64 a.kind) (.string a.name) (.int .i64 a.num) (.int .i64 a.type.top.kind) (.slice TL a.type.top.labels.length tc) (.slice TA a.type.kids.length td) (.slice LE a.labels.length lc0) (.slice KA ks.length kd)).alloc (.cells #[.int .i64 0,.slice none 0 0,.slice none 0 0] 38)
  simpa using this
 have br:Box3 W1 (H+1+1) 38 (.int .i64 0) (.slice none 0 0) (.slice none 0 0):=by
  rw [<-hW1,<-hH]
  have:=Box3.new ((w.alloc (.cells #[.slice SA xs.length sd] 43)).alloc (.cells #[.int .i64 a.kind,.string a.name,.int .i64 a.num,.int .i64 a.type.top.kind,.slice TL a.type.top.labels.length tc,.slice TA a.type.kids.length td,.slice LE a.labels.length lc0,.slice KA ks.length kd] 49)) 38 (.int .i64 0) (.slice none 0 0) (.slice none 0 0)
  simpa using this
 have hb1:Below w.heap.size w W1:=by rw [<-hW1];exact ((bQ.alloc nQ _).alloc (by simp) _).alloc (by simp;omega) _
 have hs1:W1.heap.size=H+3:=by rw [<-hW1,<-hH];simp
 obtain ⟨K1,hK1⟩:∃ K1:Nat->Prop,K1=fun i=>(i < H/\K i)∨H+3<=i:=⟨_,rfl⟩
 have hKK:∀ i,K1 i->K i:=by rw [hK1];rintro i (⟨_,h⟩|h);exact h;exact hK i (by omega)
 have hnot:¬ K1 (H+1+1):=by rw [hK1];rintro (⟨h,_⟩|h) <;> omega
 have hlow:∀ i,i < H->K i->K1 i:=fun i h1 h2=>by rw [hK1];exact .inl ⟨h1,h2⟩
 have hhigh:∀ i,H+3<=i->K1 i:=fun i h1=>by rw [hK1];exact .inr h1
 have hw0H:w0.heap.size<=H:=by have:=hb0.size;omega
 have HB1:=hQ hb1;have HS1:=hQ hs1;have HH:=hQ hH;have HW1:=hQ hW1;have BR:=hQ br;have HKK:=hQ hKK;have HNOT:=hQ hnot;have HLOW:=hQ hlow;have HHIGH:=hQ hhigh;have HK0:=hQ hK0;have HW0H:=hQ hw0H;have HB0:=hQ (fun (W:World) (hB:Below W1.heap.size W1 W)=>hb0.trans ((hb1.trans (hB.mono hb1.size)).mono hb0.size));have HBw:=hQ (fun (W:World) (hB:Below W1.heap.size W1 W)=>hb1.trans (hB.mono hb1.size));have HER:=hQ (fun (W:World) (hB:Below W1.heap.size W1 W)=>he.keep (hb1.trans (hB.mono hb1.size)));have HBR:=hQ (fun (W:World) (hB:Below W1.heap.size W1 W)=>br.under hB br.lt);have HBT:=hQ (fun (W:World) (hB:Below W1.heap.size W1 W)=>bt.under hB bt.lt);have HBS:=hQ (fun (W:World) (hB:Below W1.heap.size W1 W)=>bs.under hB bs.lt);have HRS:=hQ hrsc;have HRT:=hQ hrte;have HKP:=hQ hkp;have HP:=hQ hp;have HIH:=hQ IH;have HFK:=hQ hfk;have HCW:=hQ hcw;have HSZ:=hQ hsz;have HF:=hQ hf;have HDD:=hQ hd;have HINV:Hid (TInv K1 xs a ks c W1 (.slice none 0 0) (.int .i64 0) W1):=hQ ⟨0,[],none,0,[],Nat.zero_le _,rfl,rfl,rfl,Zih xs a ks c,⟨by simp,.inl ⟨rfl,rfl⟩⟩,(fun j t hj=>by simp at hj),Below.refl _ _⟩;have x7:=bt.c7;obtain ⟨nk,hnk⟩:∃ nk,ks.length=nk:=⟨_,rfl⟩;have HNK:=hQ hnk;rw [hnk] at HW1 x7 hkm HBT ⊢;clear hs h hrte hrsc hb0 hK0 hK hp hd hsz hcw hf he hfk hsl hsd hsp hT hLb hok hkp hW1 bs bt br hb1 hs1 hK1 hKK hnot hlow hhigh hw0H IH hnk;go_enter Tryz.func41,Tryz.ntmps41;go_wp2_with fail;rw [HW1.out];clear x7;go_loopw [8,19] (fun v i wr=>TInv K1 xs a ks c W1 v i wr) (fun _ i _=>nk - (intOf i).toNat)
 case atStart=>exact HINV.out
 case round=>
  obtain ⟨k,ts,A',d',cells,hk,rfl,rfl,htl,hkn,hrow,hrd,hb⟩:=hrel;rw [HNK.out] at hk;have hA':∀ b∈blk A',H+3<=b/\b < wr.heap.size:=fun b hm=>by have:=hrow.lt b ((Zam A' k d' b).2 hm);have:=HS1.out;omega
  have hv:=Zjy hkn;by_cases hlt:k < nk
  ·have hlk:k < ks.length:=by rw [HNK.out];exact hlt
   obtain ⟨ad,p,k0,k1,k2,k3,k4,k5,k6,k7,rfl,hpe,hkt,q0,q1,q2,q3,q4,q5,q6,q7⟩:=Zfj HKP.out bQ hlk;obtain ⟨gk,gs,gn,gt,gTL,gtl,gtc,gTA,gta,gtd,gL,gl,gc,gA,gm,gd,rfl,rfl,rfl,rfl,rfl,rfl,rfl,rfl⟩:=hkt.shape;have hbw0:=HB0.out wr hb;have q0:=uQ hbw0 q0;have q1:=uQ hbw0 q1;have q2:=uQ hbw0 q2;have q3:=uQ hbw0 q3;have q4:=uQ hbw0 q4;have q5:=uQ hbw0 q5;have q6:=uQ hbw0 q6;have q7:=uQ hbw0 q7;have hmem:ks[k]∈ks:=List.getElem_mem hlk;obtain ⟨K2,hK2⟩:∃ K2:Nat->Prop,K2=fun i=>K1 i/\i∉blk A':=⟨_,rfl⟩
   have h20:∀ i,i < w0.heap.size->K2 i:=fun i hi=>by rw [hK2];have:=HW0H.out;exact ⟨HLOW.out i (by omega) (HK0.out i hi),fun hm=>by have:=hA' i hm;omega⟩
   have h2w:∀ (W:World),Below wr.heap.size wr W->∀ i,W.heap.size<=i->K2 i:=fun W hB i hi=>by rw [hK2];have:=hB.size;have:=hb.size;have:=HS1.out;exact ⟨HHIGH.out i (by omega),fun hm=>by have:=hA' i hm;omega⟩
   rw [<-hK2] at hrd;have hpc:∀ (W:World),Below wr.heap.size wr W->RL kTg (veil K2 W) A c:=fun W hB=>Zeb HP.out (Sub.held (Held.of_below (HBw.out W (hb.trans (hB.mono hb.size))) fun i hi _=>hi) (fun i hi hk=>by rw [hK2];have:=HH.out;exact ⟨HLOW.out i (by omega) hk,fun hm=>by have:=hA' i hm;omega⟩))
   have hal:Below wr.heap.size wr (wr.alloc (.cells #[.int .i64 gk,.string gs,.int .i64 gn,.int .i64 gt,.slice gTL gtl gtc,.slice gTA gta gtd,.slice gL gl gc,.slice gA gm gd] 49)):=bQ.alloc nQ _;have hb2:=hb.trans (hal.mono hb.size);have hrk:RKk K2 (wr.alloc (.cells #[.int .i64 gk,.string gs,.int .i64 gn,.int .i64 gt,.slice gTL gtl gtc,.slice gTA gta gtd,.slice gL gl gc,.slice gA gm gd] 49)) A' ts:=by
    refine row_K (hrow.alloc _) htl fun j t hj=>RTy.sub (hrd j t hj) (Sub.held (Held.of_below hal fun i hi _=>hi) fun _ _ h=>h)
   have HC:=hQ (Ztl K2 a ks c ts A A' d d' (.iface TE ve) w0 (wr.alloc (.cells #[.int .i64 gk,.string gs,.int .i64 gn,.int .i64 gt,.slice gTL gtl gtc,.slice gTA gta gtd,.slice gL gl gc,.slice gA gm gd] 49)) _ HRT.out (HB0.out _ hb2) h20 (h2w _ hal) (hpc _ hal) HDD.out (by have:=HSZ.out;omega) hrk hv (HER.out _ hb2));have hbx:=(HBT.out _ hb2);have x0:=hbx.c0;have x1:=hbx.c1;have x2:=hbx.c2;have x3:=hbx.c3;have x4:=hbx.c4;have x5:=hbx.c5;have x6:=hbx.c6;have x7:=hbx.c7;have hpb:=Box8.new wr 49 (.int .i64 gk) (.string gs) (.int .i64 gn) (.int .i64 gt) (.slice gTL gtl gtc) (.slice gTA gta gtd) (.slice gL gl gc) (.slice gA gm gd);have HPB:=hQ hpb;have HBB:=hQ hb2;have HAL:=hQ hal;have H20:=hQ h20;have H2W:=hQ h2w;have HK2:=hQ hK2;have HKT:=hQ hkt;have HMEM:=hQ hmem;have HROW:=hQ hrow;have HRD:=hQ hrd;have HB:=hQ hb;have HKN:=hQ hkn;have HTL:=hQ htl;have HV:=hQ hv;have hi0:(0:Int)<=(k:Int):=by omega
   have hi1':(k:Int) < (nk:Int):=by omega
   rw [HNK.out,htl] at HC;clear hrow hrd hb hkn htl hv hal hb2 hrk hbx hpb h20 h2w hpc hK2 hkt hmem hA' hbw0;go_wp2_with fail;refine HC.out.mono ?_;rintro e w3 ⟨hb3,hm⟩;have HB3:=hQ (HBB.out.trans (hb3.mono HBB.out.size));have HBX:=hQ (HBw.out w3 HB3.out);have BR3:=hQ (HBR.out w3 HB3.out);have HPB3:=hQ (HPB.out.under hb3 HPB.out.lt);have HR3:=hQ (HAL.out.trans (hb3.mono HAL.out.size));clear hb3 x0 x1 x2 x3 x4 x5 x6 x7 q0 q1 q2 q3 q4 q5 q6 q7 HC;cases hnx:nextC a c ts with
   | none=>
    rw [hnx] at hm;obtain ⟨B,n9,b9,rfl⟩:=hm;have HNN:Hid (Tr.typ xs (.node a ks) c=none):=hQ (Zuz HKN.out hlk hnx);clear hnx;have r0:=BR3.out.c0;have r1:=BR3.out.c1;have r2:=BR3.out.c2;have s0:=BR3.out.free 0;have s1:=BR3.out.free 1;have s2:=BR3.out.free 2;go_wp2_with fail;generalize hU:(((w3.setCell ⟨H+1+1,0,none⟩ (.int .i64 0)).setCell ⟨H+1+1,1,none⟩ (.slice none 0 0)).setCell ⟨H+1+1,2,none⟩ (.slice none 0 0))=U;have hgU:w3.grownBy U (some (H+1+1)):=by rw [<-hU];exact Zaa (Zaa (Zaa (gQ) _) _) _
    have u1:Box3 U (H+1+1) 38 (.int .i64 0) (.slice none 0 0) (.slice none 0 0):=by
     rw [<-hU];exact ((BR3.out.set0 _).set1 _).set2 _
    have HRR:Hid (PostK K (Tr.typ xs (.node a ks) c) (.iface TE ve) w (.returned (.tuple #[.agg #[.int .i64 0,.slice none 0 0,.slice none 0 0],.iface TE ve])) U):=hQ (by rw [HNN.out];exact ⟨HBX.out.grown hgU HBX.out.size (fun k hk=>by injection hk with hk;have:=HH.out;omega),rfl⟩);have tt0:=u1.c0;have tt1:=u1.c1;have tt2:=u1.c2;clear hU hgU u1 r0 r1 r2 s0 s1 s2;exact bodyPost_ret (v:=.tuple #[.agg #[.int .i64 0,.slice none 0 0,.slice none 0 0],.iface TE ve]) (by simp [results,Tryz.results41,go_sem,tt0,tt1,tt2]) rfl HRR.out
   | some c'=>
    rw [hnx] at hm;obtain ⟨B,b9,rfl,hcb,hrl⟩:=hm;obtain ⟨hcl,hcw'⟩:=Zql HF.out hnx HCW.out HV.out;have hrl':RL kTg (veil K2 w3) B c':=hrl;have HC2:=hQ (HIH.out ks[k] HMEM.out K2 c' B b9 (.iface TE ve) w0 w3 _ _ HRS.out HKT.out (HB0.out w3 HB3.out) H20.out (H2W.out w3 HR3.out) hrl' hcb (by have:=HSZ.out;have:=Zdz (a:=a) HMEM.out;omega) hcw' (HFK.out _ HMEM.out) (HER.out w3 HB3.out) ⟨_,_,rfl⟩);obtain ⟨o,ho⟩:∃ o,Tr.typ xs ks[k] c'=o:=⟨_,rfl⟩;have HNO:Hid (o=none->Tr.typ xs (.node a ks) c=none):=hQ (fun e=>Zva HKN.out hlk hnx (ho.trans e));have HYES:Hid (∀ t,o=some t->Known xs a ks c (k+1) (ts ++ [t])):=hQ (fun t e=>Zlw HKN.out hlk hnx (ho.trans e));rw [ho] at HC2;have zs:=(HBS.out w3 HB3.out).c0;have p0:=HPB3.out.c0;have p1:=HPB3.out.c1;have p2:=HPB3.out.c2;have p3:=HPB3.out.c3;have p4:=HPB3.out.c4;have p5:=HPB3.out.c5;have p6:=HPB3.out.c6;have p7:=HPB3.out.c7;clear ho hnx hcl hcw' hrl hrl' hcb HBX BR3;generalize c'.length=cl at *
    go_wp2_with fail
    refine HC2.out.mono ?_;rintro e w4 ⟨hb4,hm4⟩;have HB4:=hQ (HB3.out.trans (hb4.mono HB3.out.size));have HR4:=hQ (HR3.out.trans (hb4.mono HR3.out.size));clear hb4 zs p0 p1 p2 p3 p4 p5 p6 p7 HC2;cases o with
    | none=>
     have hm5:e=.returned (.tuple #[.agg #[.int .i64 0,.slice none 0 0,.slice none 0 0],.iface TE ve]):=hm4;clear hm4;subst hm5;have HNN:Hid (Tr.typ xs (.node a ks) c=none):=hQ (HNO.out rfl);have hal4:Below W1.heap.size W1 (w4.alloc (.cells #[.int .i64 0,.slice none 0 0,.slice none 0 0] 38)):=HB4.out.alloc HB4.out.size _;have HBX:=hQ (HBw.out _ hal4);have BR4:=hQ (HBR.out _ hal4);clear hal4;have r0:=BR4.out.c0;have r1:=BR4.out.c1;have r2:=BR4.out.c2;have s0:=BR4.out.free 0;have s1:=BR4.out.free 1;have s2:=BR4.out.free 2;go_wp2_with fail;generalize hU:((((w4.alloc (.cells #[.int .i64 0,.slice none 0 0,.slice none 0 0] 38)).setCell ⟨H+1+1,0,none⟩ (.int .i64 0)).setCell ⟨H+1+1,1,none⟩ (.slice none 0 0)).setCell ⟨H+1+1,2,none⟩ (.slice none 0 0))=U;have hgU:(w4.alloc (.cells #[.int .i64 0,.slice none 0 0,.slice none 0 0] 38)).grownBy U (some (H+1+1)):=by rw [<-hU];exact Zaa (Zaa (Zaa (gQ) _) _) _
     have u1:Box3 U (H+1+1) 38 (.int .i64 0) (.slice none 0 0) (.slice none 0 0):=by
      rw [<-hU];exact ((BR4.out.set0 _).set1 _).set2 _
     have HRR:Hid (PostK K (Tr.typ xs (.node a ks) c) (.iface TE ve) w (.returned (.tuple #[.agg #[.int .i64 0,.slice none 0 0,.slice none 0 0],.iface TE ve])) U):=hQ (by rw [HNN.out];exact ⟨HBX.out.grown hgU HBX.out.size (fun k hk=>by injection hk with hk;have:=HH.out;omega),rfl⟩);have tt0:=u1.c0;have tt1:=u1.c1;have tt2:=u1.c2;clear hU hgU u1 r0 r1 r2 s0 s1 s2;exact bodyPost_ret (v:=.tuple #[.agg #[.int .i64 0,.slice none 0 0,.slice none 0 0],.iface TE ve]) (by simp [results,Tryz.results41,go_sem,tt0,tt1,tt2]) rfl HRR.out
    | some t1=>
     obtain ⟨y0,L9,y1,l9,A9,y2,d9,rfl,hr9⟩:=hm4;have hrow:=HROW.out;have bn:=Box3.new w4 38 (.int .i64 y0) (.slice L9 y1 l9) (.slice A9 y2 d9);have n0:=bn.c0;have n1:=bn.c1;have n2:=bn.c2;have hal4:Below wr.heap.size wr (w4.alloc (.cells #[.int .i64 y0,.slice L9 y1 l9,.slice A9 y2 d9] 38)):=HR4.out.alloc HR4.out.size _;have hr9':RTy (veil (fun i=>K1 i/\i∉blk A') (w4.alloc (.cells #[.int .i64 y0,.slice L9 y1 l9,.slice A9 y2 d9] 38))) t1 [.int .i64 y0,.slice L9 y1 l9,.slice A9 y2 d9]:=by
      rw [<-HK2.out];exact RTy.sub hr9 (Sub.held (Held.of_below (bQ.alloc nQ _) fun i hi _=>hi) fun _ _ h=>h)
     have hrd':=HRD.out;rw [HK2.out] at hrd';have HRW:Hid (((w4.alloc (.cells #[.int .i64 y0,.slice L9 y1 l9,.slice A9 y2 d9] 38)).alloc (.cells #[.int .i64 y0,.slice L9 y1 l9,.slice A9 y2 d9] 38)).ownsRow W1.heap.size 38 3 (.slice A' k d') k cells):=hQ (Zav hrow (row:=none) (Zid (hal4.alloc hal4.size _)) (fun b _=>by simp));have HNX:=hQ (fun (i:Value) (A4:Option Addr) (d4:Nat) (w5:World) (hii:i=.int .i64 ((k+1:Nat):Int)) (h1:w5.ownsRow W1.heap.size 38 3 (.slice A4 (k+1) d4) (k+1) (cells ++ [.int .i64 y0,.slice L9 y1 l9,.slice A9 y2 d9])) (h2:((w4.alloc (.cells #[.int .i64 y0,.slice L9 y1 l9,.slice A9 y2 d9] 38)).alloc (.cells #[.int .i64 y0,.slice L9 y1 l9,.slice A9 y2 d9] 38)).grownBy w5 (Value.slice A' k d').ownBlock) (h3:(Value.slice A4 (k+1) d4).ownBlock=(Value.slice A' k d').ownBlock∨(Value.slice A4 (k+1) d4).ownBlock=some ((w4.alloc (.cells #[.int .i64 y0,.slice L9 y1 l9,.slice A9 y2 d9] 38)).alloc (.cells #[.int .i64 y0,.slice L9 y1 l9,.slice A9 y2 d9] 38)).heap.size)=>Zyu (K1:=K1) (xs:=xs) (a:=a) (c:=c) (i:=i) hlk hii HTL.out (HYES.out t1 rfl) HROW.out hrd' HB.out hal4 hr9' h1 h2 h3);have HNW:=hQ (news3 (w4.alloc (.cells #[.int .i64 y0,.slice L9 y1 l9,.slice A9 y2 d9] 38)) (.int .i64 y0) (.slice L9 y1 l9) (.slice A9 y2 d9) 38);have HBS4:Hid (W1.heap.size<=((w4.alloc (.cells #[.int .i64 y0,.slice L9 y1 l9,.slice A9 y2 d9] 38)).alloc (.cells #[.int .i64 y0,.slice L9 y1 l9,.slice A9 y2 d9] 38)).heap.size):=hQ (by have:=HB4.out.size;simp;omega);clear hrow hal4 hr9 hr9' hrd' bn;go_wp2_with (at_builtin;refine Zfk _ rfl (.tmp 45) (.tmp 47) 36 rfl W1.heap.size 38 i1 _ 3 56 Tryz.underlying36 hi1 hy0 hy1 hy2 rfl (by omega) (.slice A' k d') k cells rfl HRW.out ⟨w4.heap.size+1,0,none⟩ 1 1 [.int .i64 y0,.slice L9 y1 l9,.slice A9 y2 d9] rfl (by simp) (by simpa using HNW.out) (one3 _ _ _ _ _ _ _) (by unfold maxLen;omega) (by omega) HBS4.out ?_;intro A4 d4 w5 hown4 hgr4 hor4;have HMM:=hQ (fun i hi=>HNX.out i A4 d4 w5 hi hown4 hgr4 hor4);clear hown4 hgr4 hor4);go_roundw
     case rel=>exact HMM.out _ (by go_num)
     case measure=>simp [intOf];omega
  ·have he:k=nk:=by omega
   subst he;have hlen:ts.length=ks.length:=by rw [htl,HNK.out]
   have hKw:∀ i,wr.heap.size<=i->K1 i:=fun i hi=>HHIGH.out i (by have:=hb.size;have:=HS1.out;omega)
   have hcap:ts.length<=d':=by rw [htl];exact Zfs hrow
   have hrk:RKids (veil K1 wr) A' ts:=Zaej (row_K hrow htl hrd) (fun i h=>h.1) (fun ad e=>HHIGH.out _ (by subst e;exact (hA' ad.block (by simp [blk])).1));have hpc:RL kTg (veil K1 wr) A c:=Zeb HP.out (Sub.held (Held.of_below (HBw.out wr hb) fun i hi _=>hi) (fun i hi hk=>HLOW.out i (by have:=HH.out;omega) hk));have HC:=hQ (Zadp K1 xs c a ks ts A A' d d' (.iface TE ve) w0 wr _ _ HRS.out HRT.out (HB0.out wr hb) (fun i hi=>HLOW.out i (by have:=HW0H.out;omega) (HK0.out i hi)) hKw hpc (by have:=HSZ.out;omega) hrk hcap (by omega) hv (HER.out wr hb) ⟨_,_,rfl⟩ HF.out hlen (by omega));have hkn':Known xs a ks c ks.length ts:=by rw [HNK.out];exact hkn
   have HN:Hid (Tr.typ xs (.node a ks) c=okT (Zac xs c a ts)):=hQ (Zabp hkn');have HWT:Hid (∀ t,Zac xs c a ts=some t->wt t<=1048576):=hQ (fun t e=>Zym hsw HCW.out HF.out (by have:=HNK.out;omega) ((Zko hkn').trans e));have hbx:=HBT.out wr hb;have zs:=(HBS.out wr hb).c0;have x0:=hbx.c0;have x1:=hbx.c1;have x2:=hbx.c2;have x3:=hbx.c3;have x4:=hbx.c4;have x5:=hbx.c5;have x6:=hbx.c6;have x7:=hbx.c7;have HB:=hQ hb;rw [HNK.out,htl] at HC;generalize Zac xs c a ts=o at HC HN HWT;clear hrow hrd hb hkn hkn' htl hv hlen hKw hcap hrk hpc hbx hA' hk hlt;go_wp2_with fail;refine HC.out.mono ?_;rintro e w4 ⟨hb4,hm4⟩;have HB4:=hQ (HB.out.trans (hb4.mono HB.out.size));clear hb4 zs x0 x1 x2 x3 x4 x5 x6 x7 HC;cases o with
   | none=>
    have hm5:e=.returned (.tuple #[.agg #[.int .i64 0,.slice none 0 0,.slice none 0 0],.iface TE ve]):=hm4;clear hm4;subst hm5;have HNN:Hid (Tr.typ xs (.node a ks) c=none):=hQ (by rw [HN.out];rfl);have hal4:Below W1.heap.size W1 (w4.alloc (.cells #[.int .i64 0,.slice none 0 0,.slice none 0 0] 38)):=HB4.out.alloc HB4.out.size _;have HBX:=hQ (HBw.out _ hal4);have BR4:=hQ (HBR.out _ hal4);clear hal4;have r0:=BR4.out.c0;have r1:=BR4.out.c1;have r2:=BR4.out.c2;have s0:=BR4.out.free 0;have s1:=BR4.out.free 1;have s2:=BR4.out.free 2;go_wp2_with fail;generalize hU:((((w4.alloc (.cells #[.int .i64 0,.slice none 0 0,.slice none 0 0] 38)).setCell ⟨H+1+1,0,none⟩ (.int .i64 0)).setCell ⟨H+1+1,1,none⟩ (.slice none 0 0)).setCell ⟨H+1+1,2,none⟩ (.slice none 0 0))=U;have hgU:(w4.alloc (.cells #[.int .i64 0,.slice none 0 0,.slice none 0 0] 38)).grownBy U (some (H+1+1)):=by rw [<-hU];exact Zaa (Zaa (Zaa (gQ) _) _) _
    have u1:Box3 U (H+1+1) 38 (.int .i64 0) (.slice none 0 0) (.slice none 0 0):=by
     rw [<-hU];exact ((BR4.out.set0 _).set1 _).set2 _
    have HRR:Hid (PostK K (Tr.typ xs (.node a ks) c) (.iface TE ve) w (.returned (.tuple #[.agg #[.int .i64 0,.slice none 0 0,.slice none 0 0],.iface TE ve])) U):=hQ (by rw [HNN.out];exact ⟨HBX.out.grown hgU HBX.out.size (fun k hk=>by injection hk with hk;have:=HH.out;omega),rfl⟩);have tt0:=u1.c0;have tt1:=u1.c1;have tt2:=u1.c2;clear hU hgU u1 r0 r1 r2 s0 s1 s2;exact bodyPost_ret (v:=.tuple #[.agg #[.int .i64 0,.slice none 0 0,.slice none 0 0],.iface TE ve]) (by simp [results,Tryz.results41,go_sem,tt0,tt1,tt2]) rfl HRR.out
   | some t1=>
    obtain ⟨y0,L9,y1,l9,A9,y2,d9,rfl,hr9⟩:=hm4;obtain ⟨W5,hW5⟩:∃ W5,w4.alloc (.cells #[.int .i64 y0,.slice L9 y1 l9,.slice A9 y2 d9] 38)=W5:=⟨_,rfl⟩;have bn:Box3 W5 w4.heap.size 38 (.int .i64 y0) (.slice L9 y1 l9) (.slice A9 y2 d9):=by rw [<-hW5];exact Box3.new w4 38 _ _ _
    have hal5:Below w4.heap.size w4 W5:=by rw [<-hW5];exact bQ.alloc nQ _
    have HB5:=hQ (HB4.out.trans (hal5.mono HB4.out.size));have hr5:RTy (veil K1 W5) t1 [.int .i64 y0,.slice L9 y1 l9,.slice A9 y2 d9]:=RTy.sub hr9 (Sub.held (Held.of_below hal5 fun i hi _=>hi) fun _ _ h=>h);have hdr:Below W5.heap.size W5 W5.drew:=bQ.drew;have HC1:=hQ (Zcs t1 W5.drew _ (RTy.keep (RTy.sub hr5 (Sub.veil K1 W5)) hdr) (HWT.out t1 rfl));have HC3:=hQ (fun (b:Bool) (w2:World) (hB:Below W5.heap.size W5 w2)=>Zbd K1 t1 b y0 L9 A9 y1 l9 y2 d9 w2 (.iface TE ve) (fun _=>RTy.sub hr5 (Sub.held (Held.of_below hB fun i hi _=>hi) fun _ _ h=>h)) (HER.out w2 (HB5.out.trans (hB.mono HB5.out.size))));have HN2:Hid (Tr.typ xs (.node a ks) c=ifAny (Zae t1) t1):=hQ HN.out;have HUP:=hQ (fun (W:World) (hB:Below W5.heap.size W5 W)=>bn.under hB bn.lt);have n0:=bn.c0;have n1:=bn.c1;have n2:=bn.c2;have m0:=bn.c0;have m1:=bn.c1;have m2:=bn.c2;rw [<-hW5] at m0 m1 m2;have HW5:=hQ hW5;generalize Zae t1=vb at HC1 HN2;clear hr9 hr5 bn hal5 hdr hW5 HN HWT;go_wp2_with fail;rw [HW5.out];go_region_law (first | (go_simp;refine HC1.out.mono ?_;rintro e w6 ⟨rfl,hb6⟩;have B6:Hid (Below W5.heap.size W5 w6):=hQ (((Below.refl W5.heap.size W5).drew).trans hb6);have bx6:=HUP.out w6 B6.out;have zz0:=bx6.c0;have zz1:=bx6.c1;have zz2:=bx6.c2;clear hb6 bx6) | (go_simp;refine (HC3.out _ w6 B6.out).mono ?_;rintro e w3 hp3;obtain ⟨k9,L,n9,c2,A2,m9,d2,v,rfl,hb3,hpk⟩:=hp3.words;have HPK:=hQ hpk;rw [<-HN2.out] at HPK;have HB33:=hQ (HB5.out.trans ((B6.out.trans (hb3.mono B6.out.size)).mono HB5.out.size));have HB3:=hQ (HBw.out w3 HB33.out);have BR2:=hQ (HBR.out w3 HB33.out);have tr0:=BR2.out.c0;have tr1:=BR2.out.c1;have tr2:=BR2.out.c2;have ts0:=BR2.out.free 0;have ts1:=BR2.out.free 1;have ts2:=BR2.out.free 2;clear hp3 hb3 hpk));all_goals (
     go_wp2_with fail
     generalize hU:(((w3.setCell ⟨H+1+1,0,none⟩ (.int .i64 k9)).setCell ⟨H+1+1,1,none⟩ (.slice L n9 c2)).setCell ⟨H+1+1,2,none⟩ (.slice A2 m9 d2))=U;have hgU:w3.grownBy U (some (H+1+1)):=by rw [<-hU];exact Zaa (Zaa (Zaa (gQ) _) _) _
     have u1:Box3 U (H+1+1) 38 (.int .i64 k9) (.slice L n9 c2) (.slice A2 m9 d2):=by
      rw [<-hU];exact ((BR2.out.set0 _).set1 _).set2 _
     have HRR:Hid (PostK K (Tr.typ xs (.node a ks) c) (.iface TE ve) w (.returned (.tuple #[.agg #[.int .i64 k9,.slice L n9 c2,.slice A2 m9 d2],v])) U):=hQ (by
      exact HPK.out K w U (HB3.out.grown hgU HB3.out.size (fun k hk=>by injection hk with hk;have:=HH.out;omega)) (Held.grown hgU fun g hg=>by injection hg with hg;rw [<-hg];exact HNOT.out) fun i _ h=>HKK.out i h)
     have tt0:=u1.c0;have tt1:=u1.c1;have tt2:=u1.c2;clear hU hgU u1;exact bodyPost_ret (v:=.tuple #[.agg #[.int .i64 k9,.slice L n9 c2,.slice A2 m9 d2],v]) (by simp [results,Tryz.results41,go_sem,tt0,tt1,tt2]) rfl HRR.out)
theorem Zabn (xs:Sc)(hsw:wSc xs<=1000000):∀ t:Te,TypI xs t:=Tr.ind fun a ks ih=>Zyx xs hsw a ks ih
end Go.Proofs.YtlcedleebbgebaaGreatDoor
