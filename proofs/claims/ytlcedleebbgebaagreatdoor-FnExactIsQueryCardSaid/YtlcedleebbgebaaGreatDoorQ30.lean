/-
  Merged by program: FieldR, TypN6, TypN7.
-/
import Derived.Test.YtlcedleebbgebaaGreatDoorQ29
set_option maxRecDepth 100000
set_option maxHeartbeats 4000000
set_option linter.all false
namespace Go.Proofs.YtlcedleebbgebaaGreatDoor
open Go.RowKit
theorem Zvy {q:Int}(h:q≠3)(v:Value)(w:World):(Instr.typeAssert (.iface (kindT q) v) 135 167 true).run Tryz.prog w=.ok (.tuple #[.agg #[.int .i64 0,.slice none 0 0,.slice none 0 0],.bool false]) w:=by
 rcases Zem q with (rfl|rfl|rfl|rfl|rfl)|hk
 ·exact Zmj v w
 ·exact Zmk v w
 ·exact absurd rfl h
 ·exact Zmm v w
 ·exact Zmn v w
 ·rw [hk];exact Zmo v w
theorem Zkz (t:Ty)(x:ByteArray)(w:World)(cs:List Value)(h:RTy w t cs)(hw:wt t<=1048576):Calls Tryz.prog 113 #[.agg cs.toArray,.string x] w (MadeP (Zak t x) w):=by
 obtain ⟨a,ks⟩:=t;obtain ⟨L,c,A,d,rfl,k1,k2,k3,k4,k5,k6,hp⟩:=h.out;have hfirst:0 < a.labels.length->∃ g o,L=some ⟨g,o,none⟩:=fun hn=>Zaen k1 (by simpa using hn)
 have hidx:=Zacc a.labels x;have hll:=(Zcy hw).1;obtain ⟨W1,hW1⟩:∃ W1,(w.alloc (.cells #[.int .i64 a.kind,.slice L a.labels.length c,.slice A ks.length d] 38)).alloc (.cells #[.int .i64 0,.slice none 0 0,.slice none 0 0] 38)=W1:=⟨_,rfl⟩;obtain ⟨H,hH⟩:∃ H,w.heap.size=H:=⟨_,rfl⟩;have hz1s:W1.heap.size=H+2:=by rw [<-hW1,<-hH];simp
 have b0:Box3 W1 H 38 (.int .i64 a.kind) (.slice L a.labels.length c) (.slice A ks.length d):=by rw [<-hW1,<-hH];exact (Box3.new w _ _ _ _).alloc _
 have b1:Box3 W1 (H+1) 38 (.int .i64 0) (.slice none 0 0) (.slice none 0 0):=by
  rw [<-hW1,<-hH]
  have:=Box3.new (w.alloc (.cells #[.int .i64 a.kind,.slice L a.labels.length c,.slice A ks.length d] 38)) 38 (.int .i64 0) (.slice none 0 0) (.slice none 0 0)
  simpa using this
 have hb1:Below w.heap.size w W1:=by rw [<-hW1];exact (bQ.alloc nQ _).alloc (by simp) _
 have HV:=hQ (fun W (hB:Below w.heap.size w W)=>Zcs (.node a ks) W _ (h.keep hB) hw);have HWT:=hQ hw;have HW1:=hQ hW1;have HP:=hQ (fun W (hB:Below w.heap.size w W)=>hp.keep hB);have HLS:=hQ (fun W (hB:Below w.heap.size w W)=>k1.below hB);have HB1:=hQ hb1;have B0:=hQ b0;have B1:=hQ b1;have HH:=hQ hH;have HZ:=hQ hz1s;have HFS:=hQ hfirst;have x0:=b0.c0;have x1:=b0.c1;have x2:=b0.c2;obtain ⟨n,hn⟩:∃ n,Lib.idxOfS a.labels x=n:=⟨_,rfl⟩;rw [hn] at hidx;have HNN:=hQ hn;clear h hw hW1 hp hb1 b0 b1 k1 k5 hz1s hn hfirst;by_cases h3:a.kind=3
 ·have HF0:Hid (Zae (.node a ks)=false->Zak (.node a ks) x=(Zap,false)):=hQ (by intro hv;unfold Zak;rw [hv];simp)
  have HF1:Hid (n < 0->Zak (.node a ks) x=(Zap,false)):=hQ (by intro hn0;unfold Zak;rw [if_neg];rintro ⟨_,_,h⟩;have h':0<=Lib.idxOfS a.labels x:=h;rw [HNN.out] at h';omega);have HF2:Hid (Zae (.node a ks)=true->∀ m:Nat,n=m->∃ (hm:m < ks.length) (hl:m < a.labels.length),ks.length=a.labels.length/\Zak (.node a ks) x=(ks[m],true)):=hQ (by
   intro hv m hm
   have hvr:=Zpm hv h3;have hnl:m < a.labels.length:=Zacd (by rw [<-hm];exact HNN.out);have hmk:m < ks.length:=by omega
   refine ⟨hmk,hnl,hvr,?_⟩;unfold Zak;rw [if_pos ⟨hv,h3,by show 0<=Lib.idxOfS a.labels x;rw [HNN.out];omega⟩]
   show (ks.getD (Lib.idxOfS a.labels x).toNat Zap,true)=_
   rw [HNN.out,hm];simp [List.getD,hmk])
  have HLAB:Hid (Zae (.node a ks)=true->0 < a.labels.length):=hQ (by
   intro e
   unfold Zae at e;rw [Zcr] at e;unfold formA labB at e;rw [if_pos h3] at e;simp at e
   omega)
  rw [h3] at HW1 B0 x0 ⊢;have HK:=hQ (Zdl 3 (.slice L a.labels.length c) (.slice A ks.length d) W1);have hv3:=HV.out;rw [h3] at hv3;have HV3:=hQ hv3;unfold Zgf at HK;rw [show kindT 3=167 from rfl] at HK;have a1:=Zml;clear h3 HV hv3 k2 k3;go_enter Tryz.func113,Tryz.ntmps113;go_wp2_with fail;rw [HW1.out];go_wp2_with fail;refine HK.out.mono ?_;rintro e w2 ⟨rfl,hb2⟩;obtain ⟨W3,hW3⟩:∃ W3,w2.alloc (.cells #[.int .i64 3,.slice L a.labels.length c,.slice A ks.length d] 167)=W3:=⟨_,rfl⟩;obtain ⟨G,hG⟩:∃ G,w2.heap.size=G:=⟨_,rfl⟩;have hx3:Box3 W3 G 167 (.int .i64 3) (.slice L a.labels.length c) (.slice A ks.length d):=by rw [<-hW3,<-hG];exact Box3.new w2 _ _ _ _
  have hb23:Below W1.heap.size W1 W3:=by rw [<-hW3];exact hb2.alloc hb2.size _
  have HB3:=hQ (HB1.out.trans (hb23.mono HB1.out.size));have B03:=hQ (B0.out.under hb23 B0.out.lt);have B13:=hQ (B1.out.under hb23 B1.out.lt);have X3:=hQ hx3;have HC:=hQ (HV3.out W3 HB3.out);have hz3:H+2<=W3.heap.size:=by have:=hb23.size;have:=HZ.out;omega
  clear x0 x1 x2;have x0:=B03.out.c0;have x1:=B03.out.c1;have x2:=B03.out.c2;rw [<-hW3] at x0 x1 x2;have HW3:=hQ hW3;clear hb2 hb23 hx3 hW3 HV3 HK B0 B1;go_wp2_with fail;rw [HW3.out];refine HC.out.mono ?_;rintro e W4 ⟨rfl,hb4⟩;have hz4:H+2<=W4.heap.size:=by have:=hb4.size;omega
  have HB4:=hQ (HB3.out.trans (hb4.mono HB3.out.size));have B14:=hQ (B13.out.under hb4 B13.out.lt);have X4:=hQ (X3.out.under hb4 X3.out.lt);clear x0 x1 x2 hb4 HC;have r0:=B14.out.c0;have r1:=B14.out.c1;have r2:=B14.out.c2;have s0:=B14.out.free 0;have s1:=B14.out.free 1;have s2:=B14.out.free 2;cases hv:Zae (.node a ks)
  ·have HF:=hQ (HF0.out hv)
   clear HF0 HF1 HF2;go_wp2_with fail;generalize hU:((W4.setCell ⟨H+1,0,none⟩ (.int .i64 0)).setCell ⟨H+1,1,none⟩ (.slice none 0 0)).setCell ⟨H+1,2,none⟩ (.slice none 0 0)=U;have hgU:(W4).grownBy U (some (H+1)):=by rw [<-hU];exact Zaa (Zaa (Zaa (gQ) _) _) _
   have u1:Box3 U (H+1) 38 (.int .i64 0) (.slice none 0 0) (.slice none 0 0):=by
    rw [<-hU];exact ((B14.out.set0 _).set1 _).set2 _
   have HRR:Hid (MadeP (Zak (.node a ks) x) w (.returned (.tuple #[.agg #[.int .i64 0,.slice none 0 0,.slice none 0 0],.bool false])) U):=hQ (by
    rw [HF.out];exact Zaj (HB4.out.grown hgU HB4.out.size (fun k hk=>by injection hk with hk;have:=HH.out;omega)))
   have t0:=u1.c0;have t1:=u1.c1;have t2:=u1.c2;clear hU hgU u1 r0 r1 r2 s0 s1 s2;exact bodyPost_ret (v:=.tuple #[.agg #[.int .i64 0,.slice none 0 0,.slice none 0 0],.bool false]) (by simp [results,Tryz.results113,go_sem,t0,t1,t2]) rfl HRR.out
  ·by_cases hn0:n < 0
   ·have HF:=hQ (HF1.out hn0)
    have y1:=X4.out.c1;have hlab:=HLAB.out hv;obtain ⟨g,o,rfl⟩:=HFS.out hlab;have HI:=hQ (Zgh g o c a.labels x W4 (HLS.out W4 HB4.out) k4);rw [HNN.out] at HI;clear HF0 HF1 HF2 hv;go_wp2_with fail;refine HI.out.mono ?_;rintro e w' ⟨rfl,rfl⟩;clear y1;go_wp2_with fail;generalize hU:((W4.setCell ⟨H+1,0,none⟩ (.int .i64 0)).setCell ⟨H+1,1,none⟩ (.slice none 0 0)).setCell ⟨H+1,2,none⟩ (.slice none 0 0)=U;have hgU:(W4).grownBy U (some (H+1)):=by rw [<-hU];exact Zaa (Zaa (Zaa (gQ) _) _) _
    have u1:Box3 U (H+1) 38 (.int .i64 0) (.slice none 0 0) (.slice none 0 0):=by
     rw [<-hU];exact ((B14.out.set0 _).set1 _).set2 _
    have HRR:Hid (MadeP (Zak (.node a ks) x) w (.returned (.tuple #[.agg #[.int .i64 0,.slice none 0 0,.slice none 0 0],.bool false])) U):=hQ (by
     rw [HF.out];exact Zaj (HB4.out.grown hgU HB4.out.size (fun k hk=>by injection hk with hk;have:=HH.out;omega)))
    have t0:=u1.c0;have t1:=u1.c1;have t2:=u1.c2;clear hU hgU u1 r0 r1 r2 s0 s1 s2;exact bodyPost_ret (v:=.tuple #[.agg #[.int .i64 0,.slice none 0 0,.slice none 0 0],.bool false]) (by simp [results,Tryz.results113,go_sem,t0,t1,t2]) rfl HRR.out
   ·obtain ⟨m,rfl⟩:∃ m:Nat,n=m:=⟨n.toNat,by omega⟩
    obtain ⟨hmk,hnl,hvr,hft⟩:=HF2.out hv m rfl;obtain ⟨g,o,rfl⟩:=HFS.out (by omega);have HF:=hQ hft;have HI:=hQ (Zgh g o c a.labels x W4 (HLS.out W4 HB4.out) k4);rw [HNN.out] at HI;obtain ⟨ad,p,c0,c1,c2,rfl,hpe,hr,q0,q1,q2⟩:=Zal (HP.out W4 HB4.out) bQ hmk;have hwk:wt ks[m]<=1048576:=Nat.le_trans (Zbn (List.getElem_mem hmk)) HWT.out;have HC:=hQ (Zfa ks[m] W4 [c0,c1,c2] hr hwk);have y1:=X4.out.c1;have y2:=X4.out.c2;clear hr hwk hv hvr HF0 HF1 HF2 hft;go_wp2_with fail;refine HI.out.mono ?_;rintro e w' ⟨rfl,rfl⟩;clear HI;go_wp2_with fail;refine HC.out.mono ?_;rintro e w3 hmade;have hb3:Below W4.heap.size W4 w3:=by
     obtain ⟨_,_,_,_,_,_,_,_,hb3⟩:=hmade;exact hb3
    have HBX:=hQ (B14.out.under hb3 B14.out.lt);have HM:=hQ (fun (U:World) (hU:w3.grownBy U (some (H+1)))=>Zgz (w:=w) (U:=U) hmade HB4.out (by omega) (by have:=HH.out;omega) hU);obtain ⟨LL,AA,lc,dd,rfl,_⟩:=HM.out w3 (gQ);have HM2:Hid (∀ U:World,w3.grownBy U (some (H+1))->MadeP (Zak (.node a ks) x) w (.returned (.tuple #[.agg #[.int .i64 ks[m].top.kind,.slice LL ks[m].top.labels.length lc,.slice AA ks[m].kids.length dd],.bool true])) U):=hQ (by
     intro U hU
     obtain ⟨L9,A9,c9,d9,e9,h9⟩:=HM.out U hU;rw [HF.out];injection e9 with e9
     rw [<-e9] at h9;exact h9)
    clear HM hmade hb3 r0 r1 r2 s0 s1 s2 q0 q1 q2 y1 y2;generalize ks[m].top.kind=z0 at HM2 ⊢;generalize ks[m].top.labels.length=z1 at HM2 ⊢;generalize ks[m].kids.length=z2 at HM2 ⊢;have r0:=HBX.out.c0;have r1:=HBX.out.c1;have r2:=HBX.out.c2;have s0:=HBX.out.free 0;have s1:=HBX.out.free 1;have s2:=HBX.out.free 2;go_wp2_with fail;generalize hU:((w3.setCell ⟨H+1,0,none⟩ (.int .i64 z0)).setCell ⟨H+1,1,none⟩ (.slice LL z1 lc)).setCell ⟨H+1,2,none⟩ (.slice AA z2 dd)=U;have hgU:w3.grownBy U (some (H+1)):=by rw [<-hU];exact Zaa (Zaa (Zaa (gQ) _) _) _
    have u1:Box3 U (H+1) 38 (.int .i64 z0) (.slice LL z1 lc) (.slice AA z2 dd):=by
     rw [<-hU];exact ((HBX.out.set0 _).set1 _).set2 _
    have HRR:=hQ (HM2.out U hgU);have t0:=u1.c0;have t1:=u1.c1;have t2:=u1.c2;clear hU hgU u1 r0 r1 r2 s0 s1 s2;exact bodyPost_ret (v:=.tuple #[.agg #[.int .i64 z0,.slice LL z1 lc,.slice AA z2 dd],.bool true]) (by simp [results,Tryz.results113,go_sem,t0,t1,t2]) rfl HRR.out
 ·have HF:Hid (Zak (.node a ks) x=(Zap,false)):=hQ (by unfold Zak;rw [if_neg];rintro ⟨_,h,_⟩;exact h3 h)
  have HK:=hQ (Zdl a.kind (.slice L a.labels.length c) (.slice A ks.length d) W1);have a1:=Zvy h3;generalize a.kind=q at a1 HK HW1 x0 ⊢;generalize a.labels.length=nn at HK HW1 x1 ⊢;generalize ks.length=mm at HK HW1 x2 ⊢;clear h3 HV k2 k3 B0;go_enter Tryz.func113,Tryz.ntmps113;go_wp2_with fail;rw [HW1.out];go_wp2_with fail;refine HK.out.mono ?_;rintro e w2 ⟨rfl,hb2⟩;have hb23:Below W1.heap.size W1 (w2.alloc (.cells #[.int .i64 0,.slice none 0 0,.slice none 0 0] 167)):=hb2.alloc hb2.size _;have HB3:=hQ (HB1.out.trans (hb23.mono HB1.out.size));have B13:=hQ (B1.out.under hb23 B1.out.lt);clear x0 x1 x2 hb2 hb23 HK;have r0:=B13.out.c0;have r1:=B13.out.c1;have r2:=B13.out.c2;have s0:=B13.out.free 0;have s1:=B13.out.free 1;have s2:=B13.out.free 2;go_wp2_with fail;generalize hU:(((w2.alloc (.cells #[.int .i64 0,.slice none 0 0,.slice none 0 0] 167)).setCell ⟨H+1,0,none⟩ (.int .i64 0)).setCell ⟨H+1,1,none⟩ (.slice none 0 0)).setCell ⟨H+1,2,none⟩ (.slice none 0 0)=U;have hgU:((w2.alloc (.cells #[.int .i64 0,.slice none 0 0,.slice none 0 0] 167))).grownBy U (some (H+1)):=by rw [<-hU];exact Zaa (Zaa (Zaa (gQ) _) _) _
  have u1:Box3 U (H+1) 38 (.int .i64 0) (.slice none 0 0) (.slice none 0 0):=by
   rw [<-hU];exact ((B13.out.set0 _).set1 _).set2 _
  have HRR:Hid (MadeP (Zak (.node a ks) x) w (.returned (.tuple #[.agg #[.int .i64 0,.slice none 0 0,.slice none 0 0],.bool false])) U):=hQ (by
   rw [HF.out];exact Zaj (HB3.out.grown hgU HB3.out.size (fun k hk=>by injection hk with hk;have:=HH.out;omega)))
  have t0:=u1.c0;have t1:=u1.c1;have t2:=u1.c2;clear hU hgU u1 r0 r1 r2 s0 s1 s2;exact bodyPost_ret (v:=.tuple #[.agg #[.int .i64 0,.slice none 0 0,.slice none 0 0],.bool false]) (by simp [results,Tryz.results113,go_sem,t0,t1,t2]) rfl HRR.out
theorem Zafy (K:Nat->Prop)(xs:Sc)(c:Cx)(a:TeA)(es:List Te)(ts:List Ty)(A AS:Option Addr)(d ad:Nat)(ev:Value)(w0 w:World)(ss cs:List Value)(hs:RSc w0 xs ss)(h:RTe w0 (.node a es) cs)(hb0:Below w0.heap.size w0 w)(hK0:∀ i,i < w0.heap.size->K i)(hK:∀ i,w.heap.size<=i->K i)(hp:RL kTg (veil K w) A c)(hl:c.length<=1048576)(hk:RKids (veil K w) AS ts)(hkl:ts.length<=ad)(hkm:ts.length<=9223372036854775807)(hv:∀ t∈ts,Zae t=true)(he:ErrAt ev w)(hi:∃ T v,ev=.iface T v)(hkd:a.kind=6)(t:Ty)(hts:ts=[t]) :
  Calls Tryz.prog 81 #[.agg ss.toArray,.slice A c.length d,.agg cs.toArray,.slice AS ts.length ad] w (PostK K (Zac xs c a ts) ev w):=by
 obtain ⟨SA,sd,rfl,hsl,hsd,hsp⟩:=hs.open;obtain ⟨TL,tc,TA,td,LE,lc0,KA,kd,rfl,hT,hLb,hok,_,_,hkp⟩:=h.out;obtain ⟨W1,hW1⟩:∃ W1,((w.alloc (.cells #[.slice SA xs.length sd] 43)).alloc (.cells #[.int .i64 6,.string a.name,.int .i64 a.num,.int .i64 a.type.top.kind,.slice TL a.type.top.labels.length tc,.slice TA a.type.kids.length td,.slice LE a.labels.length lc0,.slice KA es.length kd] 49)).alloc (.cells #[.int .i64 0,.slice none 0 0,.slice none 0 0] 38)=W1:=⟨_,rfl⟩;obtain ⟨H,hH⟩:∃ H,w.heap.size=H:=⟨_,rfl⟩;have bt:Box8 W1 (H+1) 49 (.int .i64 6) (.string a.name) (.int .i64 a.num) (.int .i64 a.type.top.kind) (.slice TL a.type.top.labels.length tc) (.slice TA a.type.kids.length td) (.slice LE a.labels.length lc0) (.slice KA es.length kd):=by
  rw [<-hW1,<-hH]
  have:=(Box8.new (w.alloc (.cells #[.slice SA xs.length sd] 43)) 49 (.int .i64 6) (.string a.name) (.int .i64 a.num) (.int .i64 a.type.top.kind) (.slice TL a.type.top.labels.length tc) (.slice TA a.type.kids.length td) (.slice LE a.labels.length lc0) (.slice KA es.length kd)).alloc (.cells #[.int .i64 0,.slice none 0 0,.slice none 0 0] 38)
  simpa using this
 have br:Box3 W1 (H+1+1) 38 (.int .i64 0) (.slice none 0 0) (.slice none 0 0):=by
  rw [<-hW1,<-hH]
  have:=Box3.new ((w.alloc (.cells #[.slice SA xs.length sd] 43)).alloc (.cells #[.int .i64 6,.string a.name,.int .i64 a.num,.int .i64 a.type.top.kind,.slice TL a.type.top.labels.length tc,.slice TA a.type.kids.length td,.slice LE a.labels.length lc0,.slice KA es.length kd] 49)) 38 (.int .i64 0) (.slice none 0 0) (.slice none 0 0)
  simpa using this
 have hb1:Below w.heap.size w W1:=by rw [<-hW1];exact ((bQ.alloc nQ _).alloc (by simp) _).alloc (by simp;omega) _
 have hs1:W1.heap.size=H+3:=by rw [<-hW1,<-hH];simp
 obtain ⟨K1,hK1⟩:∃ K1:Nat->Prop,K1=fun i=>(i < H/\K i)∨H+3<=i:=⟨_,rfl⟩
 have hsub:Sub (veil K w) (veil K1 W1):=Sub.held (Held.of_below hb1 fun i hi _=>hi) (fun i hi hk=>by rw [hK1];exact .inl ⟨by omega,hk⟩);have hsub0:Sub w0 (veil K1 W1):=Sub.all (hb0.trans (hb1.mono hb0.size)) (fun i hi=>by rw [hK1];exact .inl ⟨by have:=hb0.size;omega,hK0 i hi⟩);have hKK:∀ i,K1 i->K i:=by rw [hK1];rintro i (⟨_,h⟩|h);exact h;exact hK i (by omega)
 have hnot:¬ K1 (H+1+1):=by rw [hK1];rintro (⟨h,_⟩|h) <;> omega
 have hK3:∀ i,W1.heap.size<=i->K1 i:=by rw [hK1];intro i hi;exact .inr (by omega)
 have hee:=he.keep hb1;have huse:=And.intro (And.intro hl hkl) (And.intro hkm hi);clear huse;have x1:=bt.c1;have x0:=bt.c0;have x3:=bt.c3;have x4:=bt.c4;have x5:=bt.c5;have x6:=bt.c6;have r0:=br.c0;have r1:=br.c1;have r2:=br.c2;have s0:=br.free 0;have s1:=br.free 1;have s2:=br.free 2;have HB1:=hQ hb1;have HH:=hQ hH;have HW1:=hQ hW1;have BR:=hQ br;have BT:=hQ bt;have HS1:=hQ hs1;have HKK:=hQ hKK;have HNOT:=hQ hnot;have HK3:=hQ hK3;have HSUB:=hQ hsub;have HSUB0:=hQ hsub0;have HP:=hQ hp;have HKI:=hQ hk;have HV:=hQ hv;have HEE:=hQ hee;have HT:=hQ hT;have HLB:=hQ hLb;have HOK:=hQ hok;have HN0:Zac xs c a ts=ifAny (Zak (arg ts 0) a.name).2 (Zak (arg ts 0) a.name).1:=by unfold Zac;(iterate 5 rw [if_neg (by rw [hkd];decide)]);rw [if_pos hkd]
 subst hts;obtain ⟨au,pu,u0,u1,u2,eu,hpu,hru,qu0,qu1,qu2⟩:=Zal (hk.sub hsub) bQ (k:=0) (by simp);have hru:RTy (veil K1 W1) t [u0,u1,u2]:=hru;obtain ⟨ku,Lu,nu,cu,Au,mu,du,rfl,rfl,rfl⟩:=hru.shape3;have qu0:=(Zad qu0).2;have qu1:=(Zad qu1).2;have qu2:=(Zad qu2).2;subst eu;have hpu:au=pu:=by rw [<-hpu];rfl
 subst hpu;have hlen:([t]:List Ty).length=1:=rfl;have hdr:Below W1.heap.size W1 W1.drew:=bQ.drew;have hC:=Zkz t a.name W1.drew _ ((hru.sub (Sub.veil K1 W1)).keep hdr) (Nat.le_trans (Zbq (hv t (by simp))) (by decide));have hN:Zac xs c a [t]=ifAny (Zak t a.name).2 (Zak t a.name).1:=HN0;obtain ⟨rr,hrr⟩:∃ rr,Zak t a.name=rr:=⟨_,rfl⟩;rw [hrr] at hC hN;have HC:=hQ hC;have HN:=hQ hN;have HE2:=hQ (fun (W:World) (hB:Below W1.heap.size W1 W)=>hee.keep hB);rw [hkd];clear hs h hb0 hK0 hK hp hk hl hkl hkm hi hv he hsl hsd hsp hT hLb hok hkp hW1 bt br hb1 hs1 hK1 hsub hsub0 hKK hnot hK3 hee hkd hru hdr HN0 hC hN hrr;rw [hlen];go_enter Tryz.func81,Tryz.ntmps81;go_wp2_with fail;rw [HW1.out];go_region_law (first | (go_simp;refine HC.out.mono ?_;rintro e w2 ⟨L2,A2,c2,d2,fp,rfl,hO,hfp,hb2⟩;have B2:Hid (Below W1.heap.size W1 w2):=hQ (((Below.refl W1.heap.size W1).drew).trans hb2);have HC2:=hQ (Zbd K1 rr.1 rr.2 _ L2 A2 _ c2 _ d2 w2 ev (fun _=>kTy.reads (kTy.held hO (Held.veil K1 w2) fun b hb=>HK3.out b (hfp b hb).1)) (HE2.out w2 B2.out));clear hb2 hO hfp) | (go_simp;refine HC2.out.mono ?_;rintro e w3 hp3;obtain ⟨k,L,n,c2,A2,m,d2,v,rfl,hb3,hpk⟩:=hp3.words;have HPK:=hQ hpk;rw [<-HN.out] at HPK;have HB3:=hQ (HB1.out.trans ((B2.out.trans (hb3.mono B2.out.size)).mono HB1.out.size));have BR2:=hQ (BR.out.under (B2.out.trans (hb3.mono B2.out.size)) BR.out.lt);have tr0:=BR2.out.c0;have tr1:=BR2.out.c1;have tr2:=BR2.out.c2;have ts0:=BR2.out.free 0;have ts1:=BR2.out.free 1;have ts2:=BR2.out.free 2;clear hp3 hb3 hpk));all_goals (
  go_wp2_with fail
  generalize hU:(((w3.setCell ⟨H+1+1,0,none⟩ (.int .i64 k)).setCell ⟨H+1+1,1,none⟩ (.slice L n c2)).setCell ⟨H+1+1,2,none⟩ (.slice A2 m d2))=U;have hgU:w3.grownBy U (some (H+1+1)):=by rw [<-hU];exact Zaa (Zaa (Zaa (gQ) _) _) _
  have u1:Box3 U (H+1+1) 38 (.int .i64 k) (.slice L n c2) (.slice A2 m d2):=by
   rw [<-hU];exact ((BR2.out.set0 _).set1 _).set2 _
  have HRR:Hid (PostK K (Zac xs c a [t]) ev w (.returned (.tuple #[.agg #[.int .i64 k,.slice L n c2,.slice A2 m d2],v])) U):=hQ (by
   exact HPK.out K w U (HB3.out.grown hgU HB3.out.size (fun k hk=>by injection hk with hk;have:=HH.out;omega)) (Held.grown hgU fun g hg=>by injection hg with hg;rw [<-hg];exact HNOT.out) fun i _ h=>HKK.out i h)
  have tt0:=u1.c0;have tt1:=u1.c1;have tt2:=u1.c2;clear hU hgU u1;exact bodyPost_ret (v:=.tuple #[.agg #[.int .i64 k,.slice L n c2,.slice A2 m d2],v]) (by simp [results,Tryz.results81,go_sem,tt0,tt1,tt2]) rfl HRR.out)
theorem Zaah {w:World}{t u:Ty}{c0 c1 c2 d0 d1 d2:Value}{ad:Addr}(h:RTy w t [c0,c1,c2])(k:RTy w u [d0,d1,d2])(h0:∀ i v,[c0,c1,c2,d0,d1,d2][i]?=some v->w.cell? (ad.add i)=some v):RKids w (some ad) [t,u]:=by
 refine ⟨fun j=>if j=0 then [c0,c1,c2] else [d0,d1,d2],fun j y hj=>?_⟩
 match j,hj with
 | 0,hj=>
  simp at hj
  subst hj;refine ⟨h,ad,rfl,fun i v hi=>?_⟩;rw [Nat.zero_mul,Nat.zero_add];refine h0 i v ?_
  match i,hi with
  | 0,hi=>exact hi
  | 1,hi=>exact hi
  | 2,hi=>exact hi
 | 1,hj=>
  simp at hj
  subst hj;refine ⟨k,ad,rfl,fun i v hi=>?_⟩;refine h0 (1 * 3+i) v ?_
  match i,hi with
  | 0,hi=>exact hi
  | 1,hi=>exact hi
  | 2,hi=>exact hi
theorem Zads (K:Nat->Prop)(xs:Sc)(c:Cx)(a:TeA)(es:List Te)(ts:List Ty)(A AS:Option Addr)(d ad:Nat)(ev:Value)(w0 w:World)(ss cs:List Value)(hs:RSc w0 xs ss)(h:RTe w0 (.node a es) cs)(hb0:Below w0.heap.size w0 w)(hK0:∀ i,i < w0.heap.size->K i)(hK:∀ i,w.heap.size<=i->K i)(hp:RL kTg (veil K w) A c)(hl:c.length<=1048576)(hk:RKids (veil K w) AS ts)(hkl:ts.length<=ad)(hkm:ts.length<=9223372036854775807)(hv:∀ t∈ts,Zae t=true)(he:ErrAt ev w)(hi:∃ T v,ev=.iface T v)(hkd:a.kind=13)(t:Ty)(hts:ts=[t]) :
  Calls Tryz.prog 81 #[.agg ss.toArray,.slice A c.length d,.agg cs.toArray,.slice AS ts.length ad] w (PostK K (Zac xs c a ts) ev w):=by
 obtain ⟨SA,sd,rfl,hsl,hsd,hsp⟩:=hs.open;obtain ⟨TL,tc,TA,td,LE,lc0,KA,kd,rfl,hT,hLb,hok,_,_,hkp⟩:=h.out;obtain ⟨W1,hW1⟩:∃ W1,((w.alloc (.cells #[.slice SA xs.length sd] 43)).alloc (.cells #[.int .i64 13,.string a.name,.int .i64 a.num,.int .i64 a.type.top.kind,.slice TL a.type.top.labels.length tc,.slice TA a.type.kids.length td,.slice LE a.labels.length lc0,.slice KA es.length kd] 49)).alloc (.cells #[.int .i64 0,.slice none 0 0,.slice none 0 0] 38)=W1:=⟨_,rfl⟩;obtain ⟨H,hH⟩:∃ H,w.heap.size=H:=⟨_,rfl⟩;have bt:Box8 W1 (H+1) 49 (.int .i64 13) (.string a.name) (.int .i64 a.num) (.int .i64 a.type.top.kind) (.slice TL a.type.top.labels.length tc) (.slice TA a.type.kids.length td) (.slice LE a.labels.length lc0) (.slice KA es.length kd):=by
  rw [<-hW1,<-hH]
  have:=(Box8.new (w.alloc (.cells #[.slice SA xs.length sd] 43)) 49 (.int .i64 13) (.string a.name) (.int .i64 a.num) (.int .i64 a.type.top.kind) (.slice TL a.type.top.labels.length tc) (.slice TA a.type.kids.length td) (.slice LE a.labels.length lc0) (.slice KA es.length kd)).alloc (.cells #[.int .i64 0,.slice none 0 0,.slice none 0 0] 38)
  simpa using this
 have br:Box3 W1 (H+1+1) 38 (.int .i64 0) (.slice none 0 0) (.slice none 0 0):=by
  rw [<-hW1,<-hH]
  have:=Box3.new ((w.alloc (.cells #[.slice SA xs.length sd] 43)).alloc (.cells #[.int .i64 13,.string a.name,.int .i64 a.num,.int .i64 a.type.top.kind,.slice TL a.type.top.labels.length tc,.slice TA a.type.kids.length td,.slice LE a.labels.length lc0,.slice KA es.length kd] 49)) 38 (.int .i64 0) (.slice none 0 0) (.slice none 0 0)
  simpa using this
 have hb1:Below w.heap.size w W1:=by rw [<-hW1];exact ((bQ.alloc nQ _).alloc (by simp) _).alloc (by simp;omega) _
 have hs1:W1.heap.size=H+3:=by rw [<-hW1,<-hH];simp
 obtain ⟨K1,hK1⟩:∃ K1:Nat->Prop,K1=fun i=>(i < H/\K i)∨H+3<=i:=⟨_,rfl⟩
 have hsub:Sub (veil K w) (veil K1 W1):=Sub.held (Held.of_below hb1 fun i hi _=>hi) (fun i hi hk=>by rw [hK1];exact .inl ⟨by omega,hk⟩);have hsub0:Sub w0 (veil K1 W1):=Sub.all (hb0.trans (hb1.mono hb0.size)) (fun i hi=>by rw [hK1];exact .inl ⟨by have:=hb0.size;omega,hK0 i hi⟩);have hKK:∀ i,K1 i->K i:=by rw [hK1];rintro i (⟨_,h⟩|h);exact h;exact hK i (by omega)
 have hnot:¬ K1 (H+1+1):=by rw [hK1];rintro (⟨h,_⟩|h) <;> omega
 have hK3:∀ i,W1.heap.size<=i->K1 i:=by rw [hK1];intro i hi;exact .inr (by omega)
 have hee:=he.keep hb1;have huse:=And.intro (And.intro hl hkl) (And.intro hkm hi);clear huse;have x1:=bt.c1;have x0:=bt.c0;have x3:=bt.c3;have x4:=bt.c4;have x5:=bt.c5;have x6:=bt.c6;have r0:=br.c0;have r1:=br.c1;have r2:=br.c2;have s0:=br.free 0;have s1:=br.free 1;have s2:=br.free 2;have HB1:=hQ hb1;have HH:=hQ hH;have HW1:=hQ hW1;have BR:=hQ br;have BT:=hQ bt;have HS1:=hQ hs1;have HKK:=hQ hKK;have HNOT:=hQ hnot;have HK3:=hQ hK3;have HSUB:=hQ hsub;have HSUB0:=hQ hsub0;have HP:=hQ hp;have HKI:=hQ hk;have HV:=hQ hv;have HEE:=hQ hee;have HT:=hQ hT;have HLB:=hQ hLb;have HOK:=hQ hok;have HN0:Zac xs c a ts=some (tyFun a.type (arg ts 0)):=by unfold Zac;(iterate 12 rw [if_neg (by rw [hkd];decide)]);rw [if_pos hkd]
 subst hts;obtain ⟨au,pu,u0,u1,u2,eu,hpu,hru,qu0,qu1,qu2⟩:=Zal (hk.sub hsub) bQ (k:=0) (by simp);have hru:RTy (veil K1 W1) t [u0,u1,u2]:=hru;obtain ⟨ku,Lu,nu,cu,Au,mu,du,rfl,rfl,rfl⟩:=hru.shape3;have qu0:=(Zad qu0).2;have qu1:=(Zad qu1).2;have qu2:=(Zad qu2).2;subst eu;have hpu:au=pu:=by rw [<-hpu];rfl
 subst hpu;have hlen:([t]:List Ty).length=1:=rfl;have HN:Hid (Zac xs c a [t]=some (tyFun a.type t)):=hQ HN0;have HRU:=hQ hru;have HTK:=hQ (hT.sub hsub0);have hz1:=hs1;rw [hkd];clear hs h hb0 hK0 hK hp hk hl hkl hkm hi hv he hsl hsd hsp hT hLb hok hkp hW1 bt br hb1 hs1 hK1 hsub hsub0 hKK hnot hK3 hee hkd hru HN0;rw [hlen];go_enter Tryz.func81,Tryz.ntmps81;go_wp2_with fail;rw [HW1.out];go_region_law (fail);all_goals (
  go_wp2_with fail
  obtain ⟨V,hV⟩:∃ V,((W1.setCell ⟨H+1+1,0,none⟩ (.int .i64 5)).setCell ⟨H+1+1,1,none⟩ (.slice none 0 0)).setCell ⟨H+1+1,2,none⟩ (.slice (some ⟨H+3,0,none⟩) 2 2)=V:=⟨_,rfl⟩;have hgV:W1.grownBy V (some (H+1+1)):=by rw [<-hV];exact Zaa (Zaa (Zaa (gQ) _) _) _
  have hsV:V.heap.size=H+3:=by rw [<-hV,<-HS1.out];simp [World.setCell]
  have v1:Box3 V (H+1+1) 38 (.int .i64 5) (.slice none 0 0) (.slice (some ⟨H+3,0,none⟩) 2 2):=by
   rw [<-hV];exact ((BR.out.set0 _).set1 _).set2 _
  rw [hV];generalize hU:(V.alloc (.cells #[.int .i64 a.type.top.kind,.slice TL a.type.top.labels.length tc,.slice TA a.type.kids.length td,.int .i64 ku,.slice Lu nu cu,.slice Au mu du] 38)).drew=U;have hbVU:Below V.heap.size V U:=by rw [<-hU];exact (bQ.alloc nQ _).drew
  have u1:Box3 U (H+1+1) 38 (.int .i64 5) (.slice none 0 0) (.slice (some ⟨H+3,0,none⟩) 2 2):=v1.under hbVU v1.lt;have hnew:U.heap[H+3]?=some (.cells #[.int .i64 a.type.top.kind,.slice TL a.type.top.labels.length tc,.slice TA a.type.kids.length td,.int .i64 ku,.slice Lu nu cu,.slice Au mu du] 38):=by
   rw [<-hU,<-hsV];exact World.alloc_heap_new V _
  have hhU:Held K1 W1 U:=(Held.grown hgV fun g hg=>by injection hg with hg;rw [<-hg];exact HNOT.out).trans (Held.of_below hbVU fun i hi _=>hi);have hsU:Sub (veil K1 W1) (veil K U):=Sub.held hhU fun i _ h=>HKK.out i h
  have hbU:Below w.heap.size w U:=(HB1.out.grown hgV HB1.out.size (fun k hk=>by injection hk with hk;have:=HH.out;omega)).trans (hbVU.mono (by have:=HH.out;omega));have hkn:K (H+3):=HKK.out _ (HK3.out _ (by have:=HS1.out;omega));have HRR:Hid (PostK K (Zac xs c a [t]) ev w (.returned (.tuple #[.agg #[.int .i64 5,.slice none 0 0,.slice (some ⟨H+3,0,none⟩) 2 2],.nilIface])) U):=hQ (by
   rw [HN.out];refine ⟨hbU,5,none,0,0,some ⟨H+3,0,none⟩,2,2,rfl,Zhp (a:=⟨5,[]⟩) (ks:=[a.type,t]) (fun j u hj=>by simp at hj) ⟨by decide,by decide,by simp,by simp⟩ (by simp) (by simp) (Zaah (HTK.out.sub hsU) (HRU.out.sub hsU) fun i v hi=>?_)⟩
   match i,hi with
   | 0,hi=>simp at hi;subst hi;exact Zbg (by simpa [Addr.add] using hkn) (by simp [World.cell?,Addr.add,hnew])
   | 1,hi=>simp at hi;subst hi;exact Zbg (by simpa [Addr.add] using hkn) (by simp [World.cell?,Addr.add,hnew])
   | 2,hi=>simp at hi;subst hi;exact Zbg (by simpa [Addr.add] using hkn) (by simp [World.cell?,Addr.add,hnew])
   | 3,hi=>simp at hi;subst hi;exact Zbg (by simpa [Addr.add] using hkn) (by simp [World.cell?,Addr.add,hnew])
   | 4,hi=>simp at hi;subst hi;exact Zbg (by simpa [Addr.add] using hkn) (by simp [World.cell?,Addr.add,hnew])
   | 5,hi=>simp at hi;subst hi;exact Zbg (by simpa [Addr.add] using hkn) (by simp [World.cell?,Addr.add,hnew]))
  have tt0:=u1.c0;have tt1:=u1.c1;have tt2:=u1.c2;clear hV hgV hsV v1 hU hbVU u1 hnew hhU hsU hbU hkn;exact bodyPost_ret (v:=.tuple #[.agg #[.int .i64 5,.slice none 0 0,.slice (some ⟨H+3,0,none⟩) 2 2],.nilIface]) (by simp [results,Tryz.results81,go_sem,tt0,tt1,tt2]) rfl HRR.out)
end Go.Proofs.YtlcedleebbgebaaGreatDoor
