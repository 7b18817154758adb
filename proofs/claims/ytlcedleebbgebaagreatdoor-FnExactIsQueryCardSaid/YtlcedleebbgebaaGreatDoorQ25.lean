/-
  Merged by program: TypN2, TypN3, TypN4, Seen, Plc.
-/
import Derived.Test.YtlcedleebbgebaaGreatDoorQ24
import Derived.Maps.OwnSet
set_option maxRecDepth 100000
set_option maxHeartbeats 4000000
set_option linter.all false
namespace Go.Proofs.YtlcedleebbgebaaGreatDoor
open Go.RowKit
theorem Zfd {w:World}{t:Ty}{k:Int}{x y:Value}(h:RTy w t [.int .i64 k,x,y]):t.top.kind=k:=by
 cases t with
 | node a ks=>
  obtain ⟨L,c,A,d,e,_⟩:=RTy.out h;simp only [List.cons.injEq,Value.int.injEq,true_and] at e;exact e.1.symm
theorem Zadu (K:Nat->Prop)(xs:Sc)(c:Cx)(a:TeA)(es:List Te)(ts:List Ty)(A AS:Option Addr)(d ad:Nat)(ev:Value)(w0 w:World)(ss cs:List Value)(hs:RSc w0 xs ss)(h:RTe w0 (.node a es) cs)(hb0:Below w0.heap.size w0 w)(hK0:∀ i,i < w0.heap.size->K i)(hK:∀ i,w.heap.size<=i->K i)(hp:RL kTg (veil K w) A c)(hl:c.length<=1048576)(hk:RKids (veil K w) AS ts)(hkl:ts.length<=ad)(hkm:ts.length<=9223372036854775807)(hv:∀ t∈ts,Zae t=true)(he:ErrAt ev w)(hi:∃ T v,ev=.iface T v)(hkd:a.kind=15)(t:Ty)(hts:ts=[t]) :
  Calls Tryz.prog 81 #[.agg ss.toArray,.slice A c.length d,.agg cs.toArray,.slice AS ts.length ad] w (PostK K (Zac xs c a ts) ev w):=by
 obtain ⟨SA,sd,rfl,hsl,hsd,hsp⟩:=hs.open;obtain ⟨TL,tc,TA,td,LE,lc0,KA,kd,rfl,hT,hLb,hok,_,_,hkp⟩:=h.out;obtain ⟨W1,hW1⟩:∃ W1,((w.alloc (.cells #[.slice SA xs.length sd] 43)).alloc (.cells #[.int .i64 15,.string a.name,.int .i64 a.num,.int .i64 a.type.top.kind,.slice TL a.type.top.labels.length tc,.slice TA a.type.kids.length td,.slice LE a.labels.length lc0,.slice KA es.length kd] 49)).alloc (.cells #[.int .i64 0,.slice none 0 0,.slice none 0 0] 38)=W1:=⟨_,rfl⟩;obtain ⟨H,hH⟩:∃ H,w.heap.size=H:=⟨_,rfl⟩;have bt:Box8 W1 (H+1) 49 (.int .i64 15) (.string a.name) (.int .i64 a.num) (.int .i64 a.type.top.kind) (.slice TL a.type.top.labels.length tc) (.slice TA a.type.kids.length td) (.slice LE a.labels.length lc0) (.slice KA es.length kd):=by
  rw [<-hW1,<-hH]
  have:=(Box8.new (w.alloc (.cells #[.slice SA xs.length sd] 43)) 49 (.int .i64 15) (.string a.name) (.int .i64 a.num) (.int .i64 a.type.top.kind) (.slice TL a.type.top.labels.length tc) (.slice TA a.type.kids.length td) (.slice LE a.labels.length lc0) (.slice KA es.length kd)).alloc (.cells #[.int .i64 0,.slice none 0 0,.slice none 0 0] 38)
  simpa using this
 have br:Box3 W1 (H+1+1) 38 (.int .i64 0) (.slice none 0 0) (.slice none 0 0):=by
  rw [<-hW1,<-hH]
  have:=Box3.new ((w.alloc (.cells #[.slice SA xs.length sd] 43)).alloc (.cells #[.int .i64 15,.string a.name,.int .i64 a.num,.int .i64 a.type.top.kind,.slice TL a.type.top.labels.length tc,.slice TA a.type.kids.length td,.slice LE a.labels.length lc0,.slice KA es.length kd] 49)) 38 (.int .i64 0) (.slice none 0 0) (.slice none 0 0)
  simpa using this
 have hb1:Below w.heap.size w W1:=by rw [<-hW1];exact ((bQ.alloc nQ _).alloc (by simp) _).alloc (by simp;omega) _
 have hs1:W1.heap.size=H+3:=by rw [<-hW1,<-hH];simp
 obtain ⟨K1,hK1⟩:∃ K1:Nat->Prop,K1=fun i=>(i < H/\K i)∨H+3<=i:=⟨_,rfl⟩
 have hsub:Sub (veil K w) (veil K1 W1):=Sub.held (Held.of_below hb1 fun i hi _=>hi) (fun i hi hk=>by rw [hK1];exact .inl ⟨by omega,hk⟩);have hsub0:Sub w0 (veil K1 W1):=Sub.all (hb0.trans (hb1.mono hb0.size)) (fun i hi=>by rw [hK1];exact .inl ⟨by have:=hb0.size;omega,hK0 i hi⟩);have hKK:∀ i,K1 i->K i:=by rw [hK1];rintro i (⟨_,h⟩|h);exact h;exact hK i (by omega)
 have hnot:¬ K1 (H+1+1):=by rw [hK1];rintro (⟨h,_⟩|h) <;> omega
 have hK3:∀ i,W1.heap.size<=i->K1 i:=by rw [hK1];intro i hi;exact .inr (by omega)
 have hee:=he.keep hb1;have huse:=And.intro (And.intro hl hkl) (And.intro hkm hi);clear huse;have x1:=bt.c1;have x0:=bt.c0;have x3:=bt.c3;have x4:=bt.c4;have x5:=bt.c5;have x6:=bt.c6;have r0:=br.c0;have r1:=br.c1;have r2:=br.c2;have s0:=br.free 0;have s1:=br.free 1;have s2:=br.free 2;have HB1:=hQ hb1;have HH:=hQ hH;have HW1:=hQ hW1;have BR:=hQ br;have BT:=hQ bt;have HS1:=hQ hs1;have HKK:=hQ hKK;have HNOT:=hQ hnot;have HK3:=hQ hK3;have HSUB:=hQ hsub;have HSUB0:=hQ hsub0;have HP:=hQ hp;have HKI:=hQ hk;have HV:=hQ hv;have HEE:=hQ hee;have HT:=hQ hT;have HLB:=hQ hLb;have HOK:=hQ hok;have HN0:Zac xs c a ts=ifAny (isBag (arg ts 0)) Zah:=by unfold Zac;(iterate 14 rw [if_neg (by rw [hkd];decide)]);rw [if_pos hkd]
 subst hts;obtain ⟨au,pu,u0,u1,u2,eu,hpu,hru,qu0,qu1,qu2⟩:=Zal (hk.sub hsub) bQ (k:=0) (by simp);have hru:RTy (veil K1 W1) t [u0,u1,u2]:=hru;obtain ⟨ku,Lu,nu,cu,Au,mu,du,rfl,rfl,rfl⟩:=hru.shape3;have qu0:=(Zad qu0).2;have qu1:=(Zad qu1).2;have qu2:=(Zad qu2).2;subst eu;have hpu:au=pu:=by rw [<-hpu];rfl
 subst hpu;have hlen:([t]:List Ty).length=1:=rfl;have hku:=Zfd hru;have HN:Hid (Zac xs c a [t]=ifAny (decide (ku=4)) Zah):=hQ (by rw [HN0];show ifAny (decide (t.top.kind=4)) _=_;rw [hku]);rw [<-hW1] at qu0 qu1 qu2;have HC:=hQ (Zbl ku _ _ Lu Au nu cu mu du W1 rfl rfl);have HC2:=hQ (fun (b:Bool) (w2:World) (hb2:Below W1.heap.size W1 w2)=>Zbd K1 Zah b 2 none none 0 0 0 0 w2 ev (fun _=>Zjg _ 2 (by decide) (by decide)) (hee.keep hb2));rw [hkd];clear hs h hb0 hK0 hK hp hk hl hkl hkm hi hv he hsl hsd hsp hT hLb hok hkp hW1 bt br hb1 hs1 hK1 hsub hsub0 hKK hnot hK3 hee hkd hru hlen hku HN0;go_enter Tryz.func81,Tryz.ntmps81;go_wp2_with fail;rw [HW1.out];refine HC.out.mono ?_;rintro e w2 ⟨rfl,hb2⟩;have HC3:=hQ (HC2.out (decide (ku=4)) w2 hb2);have B2:=hQ hb2;generalize decide (ku=4)=bb at *
 clear hb2 HC HC2;go_wp2_with fail;refine HC3.out.mono ?_;rintro e w3 hp3;obtain ⟨k,L,n,c2,A2,m,d2,v,rfl,hb3,hpk⟩:=hp3.words;have HPK:=hQ hpk;rw [<-HN.out] at HPK;have HB13:=hQ (B2.out.trans (hb3.mono B2.out.size));have HB3:=hQ (HB1.out.trans (HB13.out.mono HB1.out.size));have BR2:=hQ (BR.out.under HB13.out BR.out.lt);have r0:=BR2.out.c0;have r1:=BR2.out.c1;have r2:=BR2.out.c2;have s0:=BR2.out.free 0;have s1:=BR2.out.free 1;have s2:=BR2.out.free 2;clear hp3 hb3 hpk;go_wp2_with fail;generalize hU:(((w3.setCell ⟨H+1+1,0,none⟩ (.int .i64 k)).setCell ⟨H+1+1,1,none⟩ (.slice L n c2)).setCell ⟨H+1+1,2,none⟩ (.slice A2 m d2))=U;have hgU:w3.grownBy U (some (H+1+1)):=by rw [<-hU];exact Zaa (Zaa (Zaa (gQ) _) _) _
 have u1:Box3 U (H+1+1) 38 (.int .i64 k) (.slice L n c2) (.slice A2 m d2):=by
  rw [<-hU];exact ((BR2.out.set0 _).set1 _).set2 _
 have HRR:Hid (PostK K (Zac xs c a [t]) ev w (.returned (.tuple #[.agg #[.int .i64 k,.slice L n c2,.slice A2 m d2],v])) U):=hQ (by
  exact HPK.out K w U (HB3.out.grown hgU HB3.out.size (fun k hk=>by injection hk with hk;have:=HH.out;omega)) (Held.grown hgU fun g hg=>by injection hg with hg;rw [<-hg];exact HNOT.out) fun i _ h=>HKK.out i h)
 have tt0:=u1.c0;have tt1:=u1.c1;have tt2:=u1.c2;clear hU hgU u1 r0 r1 r2 s0 s1 s2;exact bodyPost_ret (v:=.tuple #[.agg #[.int .i64 k,.slice L n c2,.slice A2 m d2],v]) (by simp [results,Tryz.results81,go_sem,tt0,tt1,tt2]) rfl HRR.out
theorem Zadv (K:Nat->Prop)(xs:Sc)(c:Cx)(a:TeA)(es:List Te)(ts:List Ty)(A AS:Option Addr)(d ad:Nat)(ev:Value)(w0 w:World)(ss cs:List Value)(hs:RSc w0 xs ss)(h:RTe w0 (.node a es) cs)(hb0:Below w0.heap.size w0 w)(hK0:∀ i,i < w0.heap.size->K i)(hK:∀ i,w.heap.size<=i->K i)(hp:RL kTg (veil K w) A c)(hl:c.length<=1048576)(hk:RKids (veil K w) AS ts)(hkl:ts.length<=ad)(hkm:ts.length<=9223372036854775807)(hv:∀ t∈ts,Zae t=true)(he:ErrAt ev w)(hi:∃ T v,ev=.iface T v)(hkd:a.kind=16)(t:Ty)(hts:ts=[t]) :
  Calls Tryz.prog 81 #[.agg ss.toArray,.slice A c.length d,.agg cs.toArray,.slice AS ts.length ad] w (PostK K (Zac xs c a ts) ev w):=by
 obtain ⟨SA,sd,rfl,hsl,hsd,hsp⟩:=hs.open;obtain ⟨TL,tc,TA,td,LE,lc0,KA,kd,rfl,hT,hLb,hok,_,_,hkp⟩:=h.out;obtain ⟨W1,hW1⟩:∃ W1,((w.alloc (.cells #[.slice SA xs.length sd] 43)).alloc (.cells #[.int .i64 16,.string a.name,.int .i64 a.num,.int .i64 a.type.top.kind,.slice TL a.type.top.labels.length tc,.slice TA a.type.kids.length td,.slice LE a.labels.length lc0,.slice KA es.length kd] 49)).alloc (.cells #[.int .i64 0,.slice none 0 0,.slice none 0 0] 38)=W1:=⟨_,rfl⟩;obtain ⟨H,hH⟩:∃ H,w.heap.size=H:=⟨_,rfl⟩;have bt:Box8 W1 (H+1) 49 (.int .i64 16) (.string a.name) (.int .i64 a.num) (.int .i64 a.type.top.kind) (.slice TL a.type.top.labels.length tc) (.slice TA a.type.kids.length td) (.slice LE a.labels.length lc0) (.slice KA es.length kd):=by
  rw [<-hW1,<-hH]
  have:=(Box8.new (w.alloc (.cells #[.slice SA xs.length sd] 43)) 49 (.int .i64 16) (.string a.name) (.int .i64 a.num) (.int .i64 a.type.top.kind) (.slice TL a.type.top.labels.length tc) (.slice TA a.type.kids.length td) (.slice LE a.labels.length lc0) (.slice KA es.length kd)).alloc (.cells #[.int .i64 0,.slice none 0 0,.slice none 0 0] 38)
  simpa using this
 have br:Box3 W1 (H+1+1) 38 (.int .i64 0) (.slice none 0 0) (.slice none 0 0):=by
  rw [<-hW1,<-hH]
  have:=Box3.new ((w.alloc (.cells #[.slice SA xs.length sd] 43)).alloc (.cells #[.int .i64 16,.string a.name,.int .i64 a.num,.int .i64 a.type.top.kind,.slice TL a.type.top.labels.length tc,.slice TA a.type.kids.length td,.slice LE a.labels.length lc0,.slice KA es.length kd] 49)) 38 (.int .i64 0) (.slice none 0 0) (.slice none 0 0)
  simpa using this
 have hb1:Below w.heap.size w W1:=by rw [<-hW1];exact ((bQ.alloc nQ _).alloc (by simp) _).alloc (by simp;omega) _
 have hs1:W1.heap.size=H+3:=by rw [<-hW1,<-hH];simp
 obtain ⟨K1,hK1⟩:∃ K1:Nat->Prop,K1=fun i=>(i < H/\K i)∨H+3<=i:=⟨_,rfl⟩
 have hsub:Sub (veil K w) (veil K1 W1):=Sub.held (Held.of_below hb1 fun i hi _=>hi) (fun i hi hk=>by rw [hK1];exact .inl ⟨by omega,hk⟩);have hsub0:Sub w0 (veil K1 W1):=Sub.all (hb0.trans (hb1.mono hb0.size)) (fun i hi=>by rw [hK1];exact .inl ⟨by have:=hb0.size;omega,hK0 i hi⟩);have hKK:∀ i,K1 i->K i:=by rw [hK1];rintro i (⟨_,h⟩|h);exact h;exact hK i (by omega)
 have hnot:¬ K1 (H+1+1):=by rw [hK1];rintro (⟨h,_⟩|h) <;> omega
 have hK3:∀ i,W1.heap.size<=i->K1 i:=by rw [hK1];intro i hi;exact .inr (by omega)
 have hee:=he.keep hb1;have huse:=And.intro (And.intro hl hkl) (And.intro hkm hi);clear huse;have x1:=bt.c1;have x0:=bt.c0;have x3:=bt.c3;have x4:=bt.c4;have x5:=bt.c5;have x6:=bt.c6;have r0:=br.c0;have r1:=br.c1;have r2:=br.c2;have s0:=br.free 0;have s1:=br.free 1;have s2:=br.free 2;have HB1:=hQ hb1;have HH:=hQ hH;have HW1:=hQ hW1;have BR:=hQ br;have BT:=hQ bt;have HS1:=hQ hs1;have HKK:=hQ hKK;have HNOT:=hQ hnot;have HK3:=hQ hK3;have HSUB:=hQ hsub;have HSUB0:=hQ hsub0;have HP:=hQ hp;have HKI:=hQ hk;have HV:=hQ hv;have HEE:=hQ hee;have HT:=hQ hT;have HLB:=hQ hLb;have HOK:=hQ hok;have HN0:Zac xs c a ts=ifAny (isBag (arg ts 0)) tyInt:=by unfold Zac;(iterate 15 rw [if_neg (by rw [hkd];decide)]);rw [if_pos hkd]
 subst hts;obtain ⟨au,pu,u0,u1,u2,eu,hpu,hru,qu0,qu1,qu2⟩:=Zal (hk.sub hsub) bQ (k:=0) (by simp);have hru:RTy (veil K1 W1) t [u0,u1,u2]:=hru;obtain ⟨ku,Lu,nu,cu,Au,mu,du,rfl,rfl,rfl⟩:=hru.shape3;have qu0:=(Zad qu0).2;have qu1:=(Zad qu1).2;have qu2:=(Zad qu2).2;subst eu;have hpu:au=pu:=by rw [<-hpu];rfl
 subst hpu;have hlen:([t]:List Ty).length=1:=rfl;have hku:=Zfd hru;have HN:Hid (Zac xs c a [t]=ifAny (decide (ku=4)) tyInt):=hQ (by rw [HN0];show ifAny (decide (t.top.kind=4)) _=_;rw [hku]);rw [<-hW1] at qu0 qu1 qu2;have HC:=hQ (Zbl ku _ _ Lu Au nu cu mu du W1 rfl rfl);have HC2:=hQ (fun (b:Bool) (w2:World) (hb2:Below W1.heap.size W1 w2)=>Zbd K1 tyInt b 1 none none 0 0 0 0 w2 ev (fun _=>Zjg _ 1 (by decide) (by decide)) (hee.keep hb2));rw [hkd];clear hs h hb0 hK0 hK hp hk hl hkl hkm hi hv he hsl hsd hsp hT hLb hok hkp hW1 bt br hb1 hs1 hK1 hsub hsub0 hKK hnot hK3 hee hkd hru hlen hku HN0;go_enter Tryz.func81,Tryz.ntmps81;go_wp2_with fail;rw [HW1.out];refine HC.out.mono ?_;rintro e w2 ⟨rfl,hb2⟩;have HC3:=hQ (HC2.out (decide (ku=4)) w2 hb2);have B2:=hQ hb2;generalize decide (ku=4)=bb at *
 clear hb2 HC HC2;go_wp2_with fail;refine HC3.out.mono ?_;rintro e w3 hp3;obtain ⟨k,L,n,c2,A2,m,d2,v,rfl,hb3,hpk⟩:=hp3.words;have HPK:=hQ hpk;rw [<-HN.out] at HPK;have HB13:=hQ (B2.out.trans (hb3.mono B2.out.size));have HB3:=hQ (HB1.out.trans (HB13.out.mono HB1.out.size));have BR2:=hQ (BR.out.under HB13.out BR.out.lt);have r0:=BR2.out.c0;have r1:=BR2.out.c1;have r2:=BR2.out.c2;have s0:=BR2.out.free 0;have s1:=BR2.out.free 1;have s2:=BR2.out.free 2;clear hp3 hb3 hpk;go_wp2_with fail;generalize hU:(((w3.setCell ⟨H+1+1,0,none⟩ (.int .i64 k)).setCell ⟨H+1+1,1,none⟩ (.slice L n c2)).setCell ⟨H+1+1,2,none⟩ (.slice A2 m d2))=U;have hgU:w3.grownBy U (some (H+1+1)):=by rw [<-hU];exact Zaa (Zaa (Zaa (gQ) _) _) _
 have u1:Box3 U (H+1+1) 38 (.int .i64 k) (.slice L n c2) (.slice A2 m d2):=by
  rw [<-hU];exact ((BR2.out.set0 _).set1 _).set2 _
 have HRR:Hid (PostK K (Zac xs c a [t]) ev w (.returned (.tuple #[.agg #[.int .i64 k,.slice L n c2,.slice A2 m d2],v])) U):=hQ (by
  exact HPK.out K w U (HB3.out.grown hgU HB3.out.size (fun k hk=>by injection hk with hk;have:=HH.out;omega)) (Held.grown hgU fun g hg=>by injection hg with hg;rw [<-hg];exact HNOT.out) fun i _ h=>HKK.out i h)
 have tt0:=u1.c0;have tt1:=u1.c1;have tt2:=u1.c2;clear hU hgU u1 r0 r1 r2 s0 s1 s2;exact bodyPost_ret (v:=.tuple #[.agg #[.int .i64 k,.slice L n c2,.slice A2 m d2],v]) (by simp [results,Tryz.results81,go_sem,tt0,tt1,tt2]) rfl HRR.out
theorem Zadt (K:Nat->Prop)(xs:Sc)(c:Cx)(a:TeA)(es:List Te)(ts:List Ty)(A AS:Option Addr)(d ad:Nat)(EV:Value)(w0 w:World)(ss cs:List Value)(hs:RSc w0 xs ss)(h:RTe w0 (.node a es) cs)(hb0:Below w0.heap.size w0 w)(hK0:∀ i,i < w0.heap.size->K i)(hK:∀ i,w.heap.size<=i->K i)(hp:RL kTg (veil K w) A c)(hl:c.length<=1048576)(hk:RKids (veil K w) AS ts)(hkl:ts.length<=ad)(hkm:ts.length<=9223372036854775807)(hv:∀ t∈ts,Zae t=true)(he:ErrAt EV w)(hi:∃ T v,EV=.iface T v)(hkd:a.kind=14)(f x:Ty)(hts:ts=[f,x]) :
  Calls Tryz.prog 81 #[.agg ss.toArray,.slice A c.length d,.agg cs.toArray,.slice AS ts.length ad] w (PostK K (Zac xs c a ts) EV w):=by
 obtain ⟨SA,sd,rfl,hsl,hsd,hsp⟩:=hs.open;obtain ⟨TL,tc,TA,td,LE,lc0,KA,kd,rfl,hT,hLb,hok,_,_,hkp⟩:=h.out;obtain ⟨W1,hW1⟩:∃ W1,((w.alloc (.cells #[.slice SA xs.length sd] 43)).alloc (.cells #[.int .i64 14,.string a.name,.int .i64 a.num,.int .i64 a.type.top.kind,.slice TL a.type.top.labels.length tc,.slice TA a.type.kids.length td,.slice LE a.labels.length lc0,.slice KA es.length kd] 49)).alloc (.cells #[.int .i64 0,.slice none 0 0,.slice none 0 0] 38)=W1:=⟨_,rfl⟩;obtain ⟨H,hH⟩:∃ H,w.heap.size=H:=⟨_,rfl⟩;have bt:Box8 W1 (H+1) 49 (.int .i64 14) (.string a.name) (.int .i64 a.num) (.int .i64 a.type.top.kind) (.slice TL a.type.top.labels.length tc) (.slice TA a.type.kids.length td) (.slice LE a.labels.length lc0) (.slice KA es.length kd):=by
  rw [<-hW1,<-hH]
  have:=(Box8.new (w.alloc (.cells #[.slice SA xs.length sd] 43)) 49 (.int .i64 14) (.string a.name) (.int .i64 a.num) (.int .i64 a.type.top.kind) (.slice TL a.type.top.labels.length tc) (.slice TA a.type.kids.length td) (.slice LE a.labels.length lc0) (.slice KA es.length kd)).alloc (.cells #[.int .i64 0,.slice none 0 0,.slice none 0 0] 38)
  simpa using this
 have br:Box3 W1 (H+1+1) 38 (.int .i64 0) (.slice none 0 0) (.slice none 0 0):=by
  rw [<-hW1,<-hH]
  have:=Box3.new ((w.alloc (.cells #[.slice SA xs.length sd] 43)).alloc (.cells #[.int .i64 14,.string a.name,.int .i64 a.num,.int .i64 a.type.top.kind,.slice TL a.type.top.labels.length tc,.slice TA a.type.kids.length td,.slice LE a.labels.length lc0,.slice KA es.length kd] 49)) 38 (.int .i64 0) (.slice none 0 0) (.slice none 0 0)
  simpa using this
 have hb1:Below w.heap.size w W1:=by rw [<-hW1];exact ((bQ.alloc nQ _).alloc (by simp) _).alloc (by simp;omega) _
 have hs1:W1.heap.size=H+3:=by rw [<-hW1,<-hH];simp
 obtain ⟨K1,hK1⟩:∃ K1:Nat->Prop,K1=fun i=>(i < H/\K i)∨H+3<=i:=⟨_,rfl⟩
 have hsub:Sub (veil K w) (veil K1 W1):=Sub.held (Held.of_below hb1 fun i hi _=>hi) (fun i hi hk=>by rw [hK1];exact .inl ⟨by omega,hk⟩);have hsub0:Sub w0 (veil K1 W1):=Sub.all (hb0.trans (hb1.mono hb0.size)) (fun i hi=>by rw [hK1];exact .inl ⟨by have:=hb0.size;omega,hK0 i hi⟩);have hKK:∀ i,K1 i->K i:=by rw [hK1];rintro i (⟨_,h⟩|h);exact h;exact hK i (by omega)
 have hnot:¬ K1 (H+1+1):=by rw [hK1];rintro (⟨h,_⟩|h) <;> omega
 have hK3:∀ i,W1.heap.size<=i->K1 i:=by rw [hK1];intro i hi;exact .inr (by omega)
 have hee:=he.keep hb1;have huse:=And.intro (And.intro hl hkl) (And.intro hkm hi);clear huse;have x1:=bt.c1;have x0:=bt.c0;have x3:=bt.c3;have x4:=bt.c4;have x5:=bt.c5;have x6:=bt.c6;have r0:=br.c0;have r1:=br.c1;have r2:=br.c2;have s0:=br.free 0;have s1:=br.free 1;have s2:=br.free 2;have HB1:=hQ hb1;have HH:=hQ hH;have HW1:=hQ hW1;have BR:=hQ br;have BT:=hQ bt;have HS1:=hQ hs1;have HKK:=hQ hKK;have HNOT:=hQ hnot;have HK3:=hQ hK3;have HSUB:=hQ hsub;have HSUB0:=hQ hsub0;have HP:=hQ hp;have HKI:=hQ hk;have HV:=hQ hv;have HEE:=hQ hee;have HT:=hQ hT;have HLB:=hQ hLb;have HOK:=hQ hok;have HN0:Zac xs c a ts=appT (arg ts 0) (arg ts 1):=by unfold Zac;(iterate 13 rw [if_neg (by rw [hkd];decide)]);rw [if_pos hkd]
 subst hts;obtain ⟨au,pu,u0,u1,u2,eu,hpu,hru,qu0,qu1,qu2⟩:=Zal (hk.sub hsub) bQ (k:=0) (by simp);have hru:RTy (veil K1 W1) f [u0,u1,u2]:=hru;obtain ⟨ku,Lu,nu,cu,Au,mu,du,rfl,rfl,rfl⟩:=hru.shape3;have qu0:=(Zad qu0).2;have qu1:=(Zad qu1).2;have qu2:=(Zad qu2).2;obtain ⟨av,pv,v0,v1,v2,ev,hpv,hrv,qv0,qv1,qv2⟩:=Zal (hk.sub hsub) bQ (k:=1) (by simp);have hrv:RTy (veil K1 W1) x [v0,v1,v2]:=hrv;obtain ⟨kv,Lv,nv,cv,Av,mv,dv,rfl,rfl,rfl⟩:=hrv.shape3;have qv0:=(Zad qv0).2;have qv1:=(Zad qv1).2;have qv2:=(Zad qv2).2;subst eu;injection ev with ev0
 subst ev0;have hpu:au=pu:=by rw [<-hpu];rfl
 subst hpu;have hpw:au.add 3=pv:=hpv;have hlen:([f,x]:List Ty).length=2:=rfl;have HN:Hid (Zac xs c a [f,x]=appT f x):=hQ HN0;have hdr:Below W1.heap.size W1 W1.drew:=bQ.drew;have hsd1:Sub (veil K1 W1) (veil K1 W1.drew):=Sub.held (Held.of_below hdr fun i hi _=>hi) fun _ _ h=>h
 have HC:=hQ (Zwo K1 f x W1.drew _ _ EV (hru.sub hsd1) (hrv.sub hsd1) (HV.out f (by simp)) (hee.keep hdr));rw [hkd];clear hs h hb0 hK0 hK hp hk hl hkl hkm hi hv he hsl hsd hsp hT hLb hok hkp hW1 bt br hb1 hs1 hK1 hsub hsub0 hKK hnot hK3 hee hkd hru hrv hdr hsd1 HN0 hpv;rw [hlen];go_enter Tryz.func81,Tryz.ntmps81;go_wp2_with fail;rw [HW1.out];go_region_law (first | (go_simp;refine HC.out.mono ?_;rintro e w2 hp2;obtain ⟨k,L,n,c2,A2,m,d2,v,rfl,hb2,hpk⟩:=hp2.words;have HPK:=hQ hpk;rw [<-HN.out] at HPK;have HB2:=hQ (HB1.out.drew.trans (hb2.mono HB1.out.drew.size));have BR2:=hQ (BR.out.under (show Below W1.heap.size W1 w2 from ((Below.refl W1.heap.size W1).drew).trans hb2) BR.out.lt);have tr0:=BR2.out.c0;have tr1:=BR2.out.c1;have tr2:=BR2.out.c2;have ts0:=BR2.out.free 0;have ts1:=BR2.out.free 1;have ts2:=BR2.out.free 2;clear hp2 hb2 hpk));all_goals (
  go_wp2_with fail
  generalize hU:(((w2.setCell ⟨H+1+1,0,none⟩ (.int .i64 k)).setCell ⟨H+1+1,1,none⟩ (.slice L n c2)).setCell ⟨H+1+1,2,none⟩ (.slice A2 m d2))=U;have hgU:w2.grownBy U (some (H+1+1)):=by rw [<-hU];exact Zaa (Zaa (Zaa (gQ) _) _) _
  have u1:Box3 U (H+1+1) 38 (.int .i64 k) (.slice L n c2) (.slice A2 m d2):=by
   rw [<-hU];exact ((BR2.out.set0 _).set1 _).set2 _
  have HRR:Hid (PostK K (Zac xs c a [f,x]) EV w (.returned (.tuple #[.agg #[.int .i64 k,.slice L n c2,.slice A2 m d2],v])) U):=hQ (by
   exact HPK.out K w U (HB2.out.grown hgU HB2.out.size (fun k hk=>by injection hk with hk;have:=HH.out;omega)) (Held.grown hgU fun g hg=>by injection hg with hg;rw [<-hg];exact HNOT.out) fun i _ h=>HKK.out i h)
  have tt0:=u1.c0;have tt1:=u1.c1;have tt2:=u1.c2;clear hU hgU u1;exact bodyPost_ret (v:=.tuple #[.agg #[.int .i64 k,.slice L n c2,.slice A2 m d2],v]) (by simp [results,Tryz.results81,go_sem,tt0,tt1,tt2]) rfl HRR.out)
theorem Zadq (K:Nat->Prop)(xs:Sc)(c:Cx)(a:TeA)(es:List Te)(ts:List Ty)(A AS:Option Addr)(d ad:Nat)(EV:Value)(w0 w:World)(ss cs:List Value)(hs:RSc w0 xs ss)(h:RTe w0 (.node a es) cs)(hb0:Below w0.heap.size w0 w)(hK0:∀ i,i < w0.heap.size->K i)(hK:∀ i,w.heap.size<=i->K i)(hp:RL kTg (veil K w) A c)(hl:c.length<=1048576)(hk:RKids (veil K w) AS ts)(hkl:ts.length<=ad)(hkm:ts.length<=9223372036854775807)(hv:∀ t∈ts,Zae t=true)(he:ErrAt EV w)(hi:∃ T v,EV=.iface T v)(hkd:a.kind=10)(f x:Ty)(hts:ts=[f,x]) :
  Calls Tryz.prog 81 #[.agg ss.toArray,.slice A c.length d,.agg cs.toArray,.slice AS ts.length ad] w (PostK K (Zac xs c a ts) EV w):=by
 obtain ⟨SA,sd,rfl,hsl,hsd,hsp⟩:=hs.open;obtain ⟨TL,tc,TA,td,LE,lc0,KA,kd,rfl,hT,hLb,hok,_,_,hkp⟩:=h.out;obtain ⟨W1,hW1⟩:∃ W1,((w.alloc (.cells #[.slice SA xs.length sd] 43)).alloc (.cells #[.int .i64 10,.string a.name,.int .i64 a.num,.int .i64 a.type.top.kind,.slice TL a.type.top.labels.length tc,.slice TA a.type.kids.length td,.slice LE a.labels.length lc0,.slice KA es.length kd] 49)).alloc (.cells #[.int .i64 0,.slice none 0 0,.slice none 0 0] 38)=W1:=⟨_,rfl⟩;obtain ⟨H,hH⟩:∃ H,w.heap.size=H:=⟨_,rfl⟩;have bt:Box8 W1 (H+1) 49 (.int .i64 10) (.string a.name) (.int .i64 a.num) (.int .i64 a.type.top.kind) (.slice TL a.type.top.labels.length tc) (.slice TA a.type.kids.length td) (.slice LE a.labels.length lc0) (.slice KA es.length kd):=by
  rw [<-hW1,<-hH]
  have:=(Box8.new (w.alloc (.cells #[.slice SA xs.length sd] 43)) 49 (.int .i64 10) (.string a.name) (.int .i64 a.num) (.int .i64 a.type.top.kind) (.slice TL a.type.top.labels.length tc) (.slice TA a.type.kids.length td) (.slice LE a.labels.length lc0) (.slice KA es.length kd)).alloc (.cells #[.int .i64 0,.slice none 0 0,.slice none 0 0] 38)
  simpa using this
 have br:Box3 W1 (H+1+1) 38 (.int .i64 0) (.slice none 0 0) (.slice none 0 0):=by
  rw [<-hW1,<-hH]
  have:=Box3.new ((w.alloc (.cells #[.slice SA xs.length sd] 43)).alloc (.cells #[.int .i64 10,.string a.name,.int .i64 a.num,.int .i64 a.type.top.kind,.slice TL a.type.top.labels.length tc,.slice TA a.type.kids.length td,.slice LE a.labels.length lc0,.slice KA es.length kd] 49)) 38 (.int .i64 0) (.slice none 0 0) (.slice none 0 0)
  simpa using this
 have hb1:Below w.heap.size w W1:=by rw [<-hW1];exact ((bQ.alloc nQ _).alloc (by simp) _).alloc (by simp;omega) _
 have hs1:W1.heap.size=H+3:=by rw [<-hW1,<-hH];simp
 obtain ⟨K1,hK1⟩:∃ K1:Nat->Prop,K1=fun i=>(i < H/\K i)∨H+3<=i:=⟨_,rfl⟩
 have hsub:Sub (veil K w) (veil K1 W1):=Sub.held (Held.of_below hb1 fun i hi _=>hi) (fun i hi hk=>by rw [hK1];exact .inl ⟨by omega,hk⟩);have hsub0:Sub w0 (veil K1 W1):=Sub.all (hb0.trans (hb1.mono hb0.size)) (fun i hi=>by rw [hK1];exact .inl ⟨by have:=hb0.size;omega,hK0 i hi⟩);have hKK:∀ i,K1 i->K i:=by rw [hK1];rintro i (⟨_,h⟩|h);exact h;exact hK i (by omega)
 have hnot:¬ K1 (H+1+1):=by rw [hK1];rintro (⟨h,_⟩|h) <;> omega
 have hK3:∀ i,W1.heap.size<=i->K1 i:=by rw [hK1];intro i hi;exact .inr (by omega)
 have hee:=he.keep hb1;have huse:=And.intro (And.intro hl hkl) (And.intro hkm hi);clear huse;have x1:=bt.c1;have x0:=bt.c0;have x3:=bt.c3;have x4:=bt.c4;have x5:=bt.c5;have x6:=bt.c6;have r0:=br.c0;have r1:=br.c1;have r2:=br.c2;have s0:=br.free 0;have s1:=br.free 1;have s2:=br.free 2;have HB1:=hQ hb1;have HH:=hQ hH;have HW1:=hQ hW1;have BR:=hQ br;have BT:=hQ bt;have HS1:=hQ hs1;have HKK:=hQ hKK;have HNOT:=hQ hnot;have HK3:=hQ hK3;have HSUB:=hQ hsub;have HSUB0:=hQ hsub0;have HP:=hQ hp;have HKI:=hQ hk;have HV:=hQ hv;have HEE:=hQ hee;have HT:=hQ hT;have HLB:=hQ hLb;have HOK:=hQ hok;have HN0:Zac xs c a ts=ifAny (isBag (arg ts 1)) (arg ts 1):=by unfold Zac;(iterate 9 rw [if_neg (by rw [hkd];decide)]);rw [if_pos hkd]
 subst hts;obtain ⟨av,pv,v0,v1,v2,ev,hpv,hrv,qv0,qv1,qv2⟩:=Zal (hk.sub hsub) bQ (k:=1) (by simp);have hrv:RTy (veil K1 W1) x [v0,v1,v2]:=hrv;obtain ⟨kv,Lv,nv,cv,Av,mv,dv,rfl,rfl,rfl⟩:=hrv.shape3;have qv0:=(Zad qv0).2;have qv1:=(Zad qv1).2;have qv2:=(Zad qv2).2;subst ev;have hpw:av.add 3=pv:=hpv;have hlen:([f,x]:List Ty).length=2:=rfl;have hkv:=Zfd hrv;have HN:Hid (Zac xs c a [f,x]=ifAny (decide (kv=4)) x):=hQ (by rw [HN0];show ifAny (decide (x.top.kind=4)) x=_;rw [hkv]);have hdr:Below W1.heap.size W1 W1.drew:=bQ.drew;have HC:=hQ (Zbl kv _ _ Lv Av nv cv mv dv W1.drew rfl rfl);have HUP:=hQ (fun (W:World) (hB:Below W1.heap.size W1 W)=>And.intro (uQ hB qv0) (And.intro (uQ hB qv1) (uQ hB qv2)));have HC2:=hQ (fun (b:Bool) (w2:World) (hb2:Below W1.heap.size W1 w2)=>Zbd K1 x b kv Lv Av nv cv mv dv w2 EV (fun _=>hrv.sub (Sub.held (Held.of_below hb2 fun i hi _=>hi) fun _ _ h=>h)) (hee.keep hb2));rw [hkd];clear hs h hb0 hK0 hK hp hk hl hkl hkm hi hv he hsl hsd hsp hT hLb hok hkp hW1 bt br hb1 hs1 hK1 hsub hsub0 hKK hnot hK3 hee hkd hrv hdr HN0 hkv hpv;rw [hlen];go_enter Tryz.func81,Tryz.ntmps81;go_wp2_with fail;rw [HW1.out];generalize decide (kv=4)=bb at HC HN;go_region_law (first | (go_simp;refine HC.out.mono ?_;rintro e w2 ⟨rfl,hb2⟩;have B2:Hid (Below W1.heap.size W1 w2):=hQ (((Below.refl W1.heap.size W1).drew).trans hb2);obtain ⟨z0,z1,z2⟩:=HUP.out w2 B2.out;clear hb2) | (go_simp;refine (HC2.out _ w2 B2.out).mono ?_;rintro e w3 hp3;obtain ⟨k,L,n,c2,A2,m,d2,v,rfl,hb3,hpk⟩:=hp3.words;have HPK:=hQ hpk;rw [<-HN.out] at HPK;have HB3:=hQ (HB1.out.trans ((B2.out.trans (hb3.mono B2.out.size)).mono HB1.out.size));have BR2:=hQ (BR.out.under (B2.out.trans (hb3.mono B2.out.size)) BR.out.lt);have tr0:=BR2.out.c0;have tr1:=BR2.out.c1;have tr2:=BR2.out.c2;have ts0:=BR2.out.free 0;have ts1:=BR2.out.free 1;have ts2:=BR2.out.free 2;clear hp3 hb3 hpk));all_goals (
  go_wp2_with fail
  generalize hU:(((w3.setCell ⟨H+1+1,0,none⟩ (.int .i64 k)).setCell ⟨H+1+1,1,none⟩ (.slice L n c2)).setCell ⟨H+1+1,2,none⟩ (.slice A2 m d2))=U;have hgU:w3.grownBy U (some (H+1+1)):=by rw [<-hU];exact Zaa (Zaa (Zaa (gQ) _) _) _
  have u1:Box3 U (H+1+1) 38 (.int .i64 k) (.slice L n c2) (.slice A2 m d2):=by
   rw [<-hU];exact ((BR2.out.set0 _).set1 _).set2 _
  have HRR:Hid (PostK K (Zac xs c a [f,x]) EV w (.returned (.tuple #[.agg #[.int .i64 k,.slice L n c2,.slice A2 m d2],v])) U):=hQ (by
   exact HPK.out K w U (HB3.out.grown hgU HB3.out.size (fun k hk=>by injection hk with hk;have:=HH.out;omega)) (Held.grown hgU fun g hg=>by injection hg with hg;rw [<-hg];exact HNOT.out) fun i _ h=>HKK.out i h)
  have tt0:=u1.c0;have tt1:=u1.c1;have tt2:=u1.c2;clear hU hgU u1;exact bodyPost_ret (v:=.tuple #[.agg #[.int .i64 k,.slice L n c2,.slice A2 m d2],v]) (by simp [results,Tryz.results81,go_sem,tt0,tt1,tt2]) rfl HRR.out)
end Go.Proofs.YtlcedleebbgebaaGreatDoor
namespace Go.Proofs.YtlcedleebbgebaaGreatDoor
open Go.RowKit Go.Maps
theorem Zacf:Keyed Tryz.prog 9:=string_keyed Tryz.underlying9
def lit (s:ByteArray):Lit:=.string s.data.toList
theorem Zadn {a b:ByteArray}(h:lit a=lit b):a=b:=by
 injection h with h
 exact ByteArray.ext (Array.toList_inj.1 h)
theorem Zxf {s:ByteArray}(h:s.size<=maxLen):keyOf Tryz.prog 9 (.string s)=some (lit s):=WideMaps.keyOf_string_mk Tryz.underlying9 h
def idxN:List ByteArray->ByteArray->Option Nat
 | [],_=>none
 | n :: ns,s=>if n=s then some 0 else (idxN ns s).map (·+1)
def plc (ns:List ByteArray)(k:Nat)(s:ByteArray):Option Nat:=(idxN (ns.drop k) s).map (·+k)
theorem Zaec (ns:List ByteArray)(s:ByteArray):plc ns ns.length s=none:=by unfold plc;rw [List.drop_length];rfl
theorem Zaau (ns:List ByteArray)(s:ByteArray):plc ns 0 s=idxN ns s:=by
 unfold plc;rw [List.drop_zero];cases idxN ns s <;> rfl
theorem Zaat {ns:List ByteArray}{k:Nat}(hk:k < ns.length)(s:ByteArray):plc ns k s=if ns[k]=s then some k else plc ns (k+1) s:=by
 unfold plc;rw [List.drop_eq_getElem_cons hk,idxN]
 split
 ·simp
 ·rw [Option.map_map]
  congr 1
  funext x
  show x+1+k=x+(k+1)
  omega
theorem Zwn {β:Type}(t:List (ByteArray×β))(nm:ByteArray):(∀ j,idxN (t.map fun d=>d.1) nm=some j->∃ h:j < t.length,t[j].1=nm/\t.find? (fun d=>decide (d.1=nm))=some t[j])/\(idxN (t.map fun d=>d.1) nm=none->t.find? (fun d=>decide (d.1=nm))=none):=by
 induction t with
 | nil=>exact ⟨fun j h=>by simp [idxN] at h,fun _=>rfl⟩
 | cons d t ih=>
  rw [List.map_cons,idxN];by_cases e:d.1=nm
  ·rw [if_pos e,List.find?_cons_of_pos (by simp [e])]
   refine ⟨fun j h=>?_,fun h=>by cases h⟩;injection h with h
   subst h;exact ⟨by simp,e,rfl⟩
  ·rw [if_neg e,List.find?_cons_of_neg (by simp [e])]
   refine ⟨fun j h=>?_,fun h=>?_⟩
   ·cases hi:idxN (t.map fun d=>d.1) nm with
    | none=>rw [hi] at h;cases h
    | some i=>
     rw [hi] at h;injection h with h
     subst h;obtain ⟨h1,h2,h3⟩:=ih.1 i hi;exact ⟨by simpa using h1,by simpa using h2,by rw [h3];simp⟩
   ·cases hi:idxN (t.map fun d=>d.1) nm with
    | none=>exact ih.2 hi
    | some i=>rw [hi] at h;cases h
theorem Zaet (w:World):(zeroValue 3).run Tryz.prog w=.ok (.int .i64 0) w:=by kernel_rfl
theorem Zagp (k:Nat)(h:k<=1048576):(Lit.int .i64 (k:Int)).wf=true:=by
 show (decide (IntKind.i64.min<=(k:Int)) && decide ((k:Int)<=IntKind.i64.max))=true
 rw [decide_eq_true (show IntKind.i64.min<=(k:Int) by show (-9223372036854775808:Int)<=_;omega),decide_eq_true (show (k:Int)<=IntKind.i64.max by show _<=(9223372036854775807:Int);omega)]
 rfl
def PlcAt (D:DataW Unit)(s:ByteArray)(o:Option Nat):Prop:=
 match o with
 | some j=>∀ z,D.atKey (lit s) z=.lit (.int .i64 (j:Int))
 | none=>∀ z,D.atKey (lit s) z=z
def Plc (w:World)(b n:Nat)(ns:List ByteArray)(k:Nat):Prop:=
 ∃ D:DataW Unit,w.ownsMap Tryz.prog 9 (plainElem Tryz.prog 3) b n D/\IsMap D/\∀ s,PlcAt D s (plc ns k s)
theorem Plc.made (w:World)(ns:List ByteArray):Plc (w.alloc (.map #[] 0)) w.heap.size 0 ns ns.length:=
 ⟨.map [],World.ownsMap_made _ _ _ _,isMap_empty,fun s=>by rw [Zaec];exact fun z=>rfl⟩
theorem Plc.at {w w':World}{b n:Nat}{ns:List ByteArray}{k:Nat}(h:Plc w b n ns k)(he:w'.heap[b]?=w.heap[b]?):Plc w' b n ns k:=by
 obtain ⟨D,⟨es,clock,hb,F,hs,hD⟩,h2⟩:=h;exact ⟨D,⟨es,clock,he.trans hb,F,hs,hD⟩,h2⟩
theorem Plc.lt {w:World}{b n:Nat}{ns:List ByteArray}{k:Nat}(h:Plc w b n ns k):b < w.heap.size:=by
 obtain ⟨D,h1,_⟩:=h;exact h1.lt
theorem Plc.step {w:World}{b n:Nat}{ns:List ByteArray}{k:Nat}(h:Plc w b n ns (k+1))(hk:k < ns.length)(hl:ns.length<=1048576)(hn:n < maxLen) {s:ByteArray}(hs:ns[k]=s)(hsz:s.size<=maxLen) :
  ∃ w',(Instr.mapUpdate 193 (.map (some b)) (.string s) (.int .i64 (k:Int))).run Tryz.prog w=.ok () w'/\Plc w' b (n+1) ns k/\w.grownBy w' (some b):=by
 obtain ⟨D,h1,h2,h3⟩:=h;obtain ⟨w',hrun,hown,hg⟩:=h1.update Zacf Tryz.underlying193 hn (Zxf hsz) (plainElem_int (a:=(k:Int)) Tryz.underlying3 (Zagp k (by omega)));refine ⟨w',hrun,⟨_,hown,h2.put _ _,fun y=>?_⟩,hg⟩;rw [Zaat hk];by_cases e:ns[k]=y
 ·rw [if_pos e]
  have e2:s=y:=hs.symm.trans e;subst e2;exact fun z=>atKey_put_same (k:=lit s) h2 trivial _ _
 ·rw [if_neg e]
  have hne:lit y≠lit s:=fun e'=>e (by rw [hs,Zadn e'])
  have h4:=h3 y;unfold PlcAt at h4 ⊢
  split
  ·rename_i j hj
   rw [hj] at h4;exact fun z=>by rw [atKey_put_other hne];exact h4 z
  ·rename_i hj
   rw [hj] at h4;exact fun z=>by rw [atKey_put_other hne];exact h4 z
theorem Plc.look {w:World}{b n:Nat}{ns:List ByteArray}{k:Nat}(h:Plc w b n ns k) {s:ByteArray}(hs:s.size<=maxLen) :
  ∃ c,(Instr.lookup 193 (.map (some b)) (.string s) true).run Tryz.prog w=.ok (.tuple #[.int .i64 c,.bool (plc ns k s).isSome]) w/\∀ j,plc ns k s=some j->c=(j:Int):=by
 obtain ⟨D,h1,_,h3⟩:=h;obtain ⟨v,ps,hrun,hv⟩:=h1.look_ok Zacf Tryz.underlying193 (Zaet w) (plainElem_int (a:=0) Tryz.underlying3 (by decide)) (Zxf hs);obtain ⟨c,rfl,hc,_⟩:=plainElem_int_inv Tryz.underlying3 hv;simp only [Prod.mk.injEq] at hc;have h4:=h3 s;unfold PlcAt at h4;cases hp:plc ns k s with
 | none=>
  rw [hp] at h4;rw [has_false_of_atKey h4] at hrun;exact ⟨c,hrun,fun j hj=>by cases hj⟩
 | some j=>
  rw [hp] at h4;simp only at h4;rw [has_true_of_atKey h4] at hrun;refine ⟨c,hrun,fun j' hj=>?_⟩;injection hj with hj
  subst hj;rw [h4] at hc
  have:=hc.1
  simp only [DataW.lit.injEq,Lit.int.injEq,true_and] at this;exact this.symm
def PlcOf (ns:List ByteArray)(w:World)(e:Ending)(w':World):Prop:=∃ (b n:Nat),e=.returned (.map (some b))/\Plc w' b n ns 0/\Below w.heap.size w w'
end Go.Proofs.YtlcedleebbgebaaGreatDoor
