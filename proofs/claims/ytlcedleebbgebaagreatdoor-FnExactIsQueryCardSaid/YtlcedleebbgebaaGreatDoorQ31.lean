/-
  Merged by program: TypN8.
-/
import Derived.Test.YtlcedleebbgebaaGreatDoorQ30
set_option maxRecDepth 100000
set_option maxHeartbeats 4000000
set_option linter.all false
namespace Go.Proofs.YtlcedleebbgebaaGreatDoor
open Go.RowKit
theorem Zmh {t:Ty}(h:Zae t=true):t.size<=1048577:=by
 unfold Zae at h;simp only [Bool.and_eq_true,decide_eq_true_eq] at h
 omega
theorem Zub (K:Nat->Prop)(xs:Sc)(c:Cx)(a:TeA)(es:List Te)(ts:List Ty)(A AS:Option Addr)(d ad:Nat)(EV:Value)(w0 w:World)(ss cs:List Value)(hs:RSc w0 xs ss)(h:RTe w0 (.node a es) cs)(hb0:Below w0.heap.size w0 w)(hK0:∀ i,i < w0.heap.size->K i)(hK:∀ i,w.heap.size<=i->K i)(hp:RL kTg (veil K w) A c)(hl:c.length<=1048576)(hk:RKids (veil K w) AS ts)(hkl:ts.length<=ad)(hkm:ts.length<=9223372036854775807)(hv:∀ t∈ts,Zae t=true)(he:ErrAt EV w)(hi:∃ T v,EV=.iface T v)(hkd:a.kind=9)(f x:Ty)(hts:ts=[f,x])(hbg:f.top.kind=4) :
  Calls Tryz.prog 81 #[.agg ss.toArray,.slice A c.length d,.agg cs.toArray,.slice AS ts.length ad] w (PostK K (Zac xs c a ts) EV w):=by
 obtain ⟨SA,sd,rfl,hsl,hsd,hsp⟩:=hs.open;obtain ⟨TL,tc,TA,td,LE,lc0,KA,kd,rfl,hT,hLb,hok,_,_,hkp⟩:=h.out;obtain ⟨W1,hW1⟩:∃ W1,((w.alloc (.cells #[.slice SA xs.length sd] 43)).alloc (.cells #[.int .i64 9,.string a.name,.int .i64 a.num,.int .i64 a.type.top.kind,.slice TL a.type.top.labels.length tc,.slice TA a.type.kids.length td,.slice LE a.labels.length lc0,.slice KA es.length kd] 49)).alloc (.cells #[.int .i64 0,.slice none 0 0,.slice none 0 0] 38)=W1:=⟨_,rfl⟩;obtain ⟨H,hH⟩:∃ H,w.heap.size=H:=⟨_,rfl⟩;have bt:Box8 W1 (H+1) 49 (.int .i64 9) (.string a.name) (.int .i64 a.num) (.int .i64 a.type.top.kind) (.slice TL a.type.top.labels.length tc) (.slice TA a.type.kids.length td) (.slice LE a.labels.length lc0) (.slice KA es.length kd):=by
  rw [<-hW1,<-hH]
  have:=(Box8.new (w.alloc (.cells #[.slice SA xs.length sd] 43)) 49 (.int .i64 9) (.string a.name) (.int .i64 a.num) (.int .i64 a.type.top.kind) (.slice TL a.type.top.labels.length tc) (.slice TA a.type.kids.length td) (.slice LE a.labels.length lc0) (.slice KA es.length kd)).alloc (.cells #[.int .i64 0,.slice none 0 0,.slice none 0 0] 38)
  simpa using this
 have br:Box3 W1 (H+1+1) 38 (.int .i64 0) (.slice none 0 0) (.slice none 0 0):=by
  rw [<-hW1,<-hH]
  have:=Box3.new ((w.alloc (.cells #[.slice SA xs.length sd] 43)).alloc (.cells #[.int .i64 9,.string a.name,.int .i64 a.num,.int .i64 a.type.top.kind,.slice TL a.type.top.labels.length tc,.slice TA a.type.kids.length td,.slice LE a.labels.length lc0,.slice KA es.length kd] 49)) 38 (.int .i64 0) (.slice none 0 0) (.slice none 0 0)
  simpa using this
 have hb1:Below w.heap.size w W1:=by rw [<-hW1];exact ((bQ.alloc nQ _).alloc (by simp) _).alloc (by simp;omega) _
 have hs1:W1.heap.size=H+3:=by rw [<-hW1,<-hH];simp
 obtain ⟨K1,hK1⟩:∃ K1:Nat->Prop,K1=fun i=>(i < H/\K i)∨H+3<=i:=⟨_,rfl⟩
 have hsub:Sub (veil K w) (veil K1 W1):=Sub.held (Held.of_below hb1 fun i hi _=>hi) (fun i hi hk=>by rw [hK1];exact .inl ⟨by omega,hk⟩);have hsub0:Sub w0 (veil K1 W1):=Sub.all (hb0.trans (hb1.mono hb0.size)) (fun i hi=>by rw [hK1];exact .inl ⟨by have:=hb0.size;omega,hK0 i hi⟩);have hKK:∀ i,K1 i->K i:=by rw [hK1];rintro i (⟨_,h⟩|h);exact h;exact hK i (by omega)
 have hnot:¬ K1 (H+1+1):=by rw [hK1];rintro (⟨h,_⟩|h) <;> omega
 have hK3:∀ i,W1.heap.size<=i->K1 i:=by rw [hK1];intro i hi;exact .inr (by omega)
 have hee:=he.keep hb1;have huse:=And.intro (And.intro hl hkl) (And.intro hkm hi);clear huse;have x1:=bt.c1;have x0:=bt.c0;have x3:=bt.c3;have x4:=bt.c4;have x5:=bt.c5;have x6:=bt.c6;have r0:=br.c0;have r1:=br.c1;have r2:=br.c2;have s0:=br.free 0;have s1:=br.free 1;have s2:=br.free 2;have HB1:=hQ hb1;have HH:=hQ hH;have HW1:=hQ hW1;have BR:=hQ br;have BT:=hQ bt;have HS1:=hQ hs1;have HKK:=hQ hKK;have HNOT:=hQ hnot;have HK3:=hQ hK3;have HSUB:=hQ hsub;have HSUB0:=hQ hsub0;have HP:=hQ hp;have HKI:=hQ hk;have HV:=hQ hv;have HEE:=hQ hee;have HT:=hQ hT;have HLB:=hQ hLb;have HOK:=hQ hok;have HN0:Zac xs c a ts=ifAny (isBag (arg ts 0) && same (arg ts 0) (arg ts 1)) (arg ts 0):=by unfold Zac;(iterate 8 rw [if_neg (by rw [hkd];decide)]);rw [if_pos hkd]
 subst hts;obtain ⟨au,pu,u0,u1,u2,eu,hpu,hru,qu0,qu1,qu2⟩:=Zal (hk.sub hsub) bQ (k:=0) (by simp);have hru:RTy (veil K1 W1) f [u0,u1,u2]:=hru;obtain ⟨ku,Lu,nu,cu,Au,mu,du,rfl,rfl,rfl⟩:=hru.shape3;have qu0:=(Zad qu0).2;have qu1:=(Zad qu1).2;have qu2:=(Zad qu2).2;obtain ⟨av,pv,v0,v1,v2,ev,hpv,hrv,qv0,qv1,qv2⟩:=Zal (hk.sub hsub) bQ (k:=1) (by simp);have hrv:RTy (veil K1 W1) x [v0,v1,v2]:=hrv;obtain ⟨kv,Lv,nv,cv,Av,mv,dv,rfl,rfl,rfl⟩:=hrv.shape3;have qv0:=(Zad qv0).2;have qv1:=(Zad qv1).2;have qv2:=(Zad qv2).2;subst eu;injection ev with ev0
 subst ev0;have hpu:au=pu:=by rw [<-hpu];rfl
 subst hpu;have hpw:au.add 3=pv:=hpv;have hlen:([f,x]:List Ty).length=2:=rfl;have hku:ku=4:=by rw [<-Zfd hru];exact hbg
 have hN:Zac xs c a [f,x]=ifAny (same f x) f:=by rw [HN0];show ifAny (decide (f.top.kind=4) && same f x) f=_;rw [hbg];rfl
 subst hku;have hdr:Below W1.heap.size W1 W1.drew:=bQ.drew;have HC:=hQ (Zbl 4 _ _ Lu Au nu cu mu du W1.drew rfl rfl);have HUPu:=hQ (fun (W:World) (hB:Below W1.heap.size W1 W)=>And.intro (uQ hB qu0) (And.intro (uQ hB qu1) (uQ hB qu2)));have HUPv:=hQ (fun (W:World) (hB:Below W1.heap.size W1 W)=>And.intro (uQ hB qv0) (And.intro (uQ hB qv1) (uQ hB qv2)));have HC2:=hQ (fun (w2:World) (hb2:Below W1.heap.size W1 w2)=>Zcb f x w2 _ _ ((hru.sub (Sub.veil K1 W1)).keep hb2) ((hrv.sub (Sub.veil K1 W1)).keep hb2) (Zmh (HV.out f (by simp))));have HC3:=hQ (fun (b:Bool) (w2:World) (hb2:Below W1.heap.size W1 w2)=>Zbd K1 f b 4 Lu Au nu cu mu du w2 EV (fun _=>hru.sub (Sub.held (Held.of_below hb2 fun i hi _=>hi) fun _ _ h=>h)) (hee.keep hb2));have HN:=hQ hN;generalize same f x=bb at HC2 HN;rw [hkd];clear hs h hb0 hK0 hK hp hk hl hkl hkm hi hv he hsl hsd hsp hT hLb hok hkp hW1 bt br hb1 hs1 hK1 hsub hsub0 hKK hnot hK3 hee hkd hru hrv hdr HN0 hpv hN hbg;rw [hlen];go_enter Tryz.func81,Tryz.ntmps81;go_wp2_with fail;rw [HW1.out];go_region_law (first | (go_simp;refine HC.out.mono ?_;rintro e w2 ⟨rfl,hb2⟩;have B2:Hid (Below W1.heap.size W1 w2):=hQ (((Below.refl W1.heap.size W1).drew).trans hb2);obtain ⟨z0,z1,z2⟩:=HUPu.out w2 B2.out;obtain ⟨y0,y1,y2⟩:=HUPv.out w2 B2.out;clear hb2) | (go_simp;refine (HC2.out w2 B2.out).mono ?_;rintro e w5 ⟨rfl,hb5⟩;have B5:=hQ (B2.out.trans (hb5.mono B2.out.size));obtain ⟨zz0,zz1,zz2⟩:=HUPu.out w5 B5.out;clear hb5) | (go_simp;refine (HC3.out _ w5 B5.out).mono ?_;rintro e w3 hp3;obtain ⟨k,L,n,c2,A2,m,d2,v,rfl,hb3,hpk⟩:=hp3.words;have HPK:=hQ hpk;rw [<-HN.out] at HPK;have HB3:=hQ (HB1.out.trans ((B5.out.trans (hb3.mono B5.out.size)).mono HB1.out.size));have BR2:=hQ (BR.out.under (B5.out.trans (hb3.mono B5.out.size)) BR.out.lt);have tr0:=BR2.out.c0;have tr1:=BR2.out.c1;have tr2:=BR2.out.c2;have ts0:=BR2.out.free 0;have ts1:=BR2.out.free 1;have ts2:=BR2.out.free 2;clear hp3 hb3 hpk));all_goals (
  go_wp2_with fail
  generalize hU:(((w3.setCell ⟨H+1+1,0,none⟩ (.int .i64 k)).setCell ⟨H+1+1,1,none⟩ (.slice L n c2)).setCell ⟨H+1+1,2,none⟩ (.slice A2 m d2))=U;have hgU:w3.grownBy U (some (H+1+1)):=by rw [<-hU];exact Zaa (Zaa (Zaa (gQ) _) _) _
  have u1:Box3 U (H+1+1) 38 (.int .i64 k) (.slice L n c2) (.slice A2 m d2):=by
   rw [<-hU];exact ((BR2.out.set0 _).set1 _).set2 _
  have HRR:Hid (PostK K (Zac xs c a [f,x]) EV w (.returned (.tuple #[.agg #[.int .i64 k,.slice L n c2,.slice A2 m d2],v])) U):=hQ (by
   exact HPK.out K w U (HB3.out.grown hgU HB3.out.size (fun k hk=>by injection hk with hk;have:=HH.out;omega)) (Held.grown hgU fun g hg=>by injection hg with hg;rw [<-hg];exact HNOT.out) fun i _ h=>HKK.out i h)
  have tt0:=u1.c0;have tt1:=u1.c1;have tt2:=u1.c2;clear hU hgU u1;exact bodyPost_ret (v:=.tuple #[.agg #[.int .i64 k,.slice L n c2,.slice A2 m d2],v]) (by simp [results,Tryz.results81,go_sem,tt0,tt1,tt2]) rfl HRR.out)
end Go.Proofs.YtlcedleebbgebaaGreatDoor
