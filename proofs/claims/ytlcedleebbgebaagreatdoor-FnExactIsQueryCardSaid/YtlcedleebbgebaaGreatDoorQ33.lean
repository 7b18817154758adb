/-
  Merged by program: TypNA.
-/
import Derived.Test.YtlcedleebbgebaaGreatDoorQ32
set_option maxRecDepth 100000
set_option maxHeartbeats 4000000
set_option linter.all false
namespace Go.Proofs.YtlcedleebbgebaaGreatDoor
open Go.RowKit
theorem Zxm (K:Nat->Prop)(xs:Sc)(c:Cx)(a:TeA)(es:List Te)(ts:List Ty)(A AS:Option Addr)(d ad:Nat)(EV:Value)(w0 w:World)(ss cs:List Value)(hs:RSc w0 xs ss)(h:RTe w0 (.node a es) cs)(hb0:Below w0.heap.size w0 w)(hK0:∀ i,i < w0.heap.size->K i)(hK:∀ i,w.heap.size<=i->K i)(hp:RL kTg (veil K w) A c)(hl:c.length<=1048576)(hk:RKids (veil K w) AS ts)(hkl:ts.length<=ad)(hkm:ts.length<=9223372036854775807)(hv:∀ t∈ts,Zae t=true)(he:ErrAt EV w)(hi:∃ T v,EV=.iface T v)(hkd:a.kind=9)(f x:Ty)(hts:ts=[f,x])(hbg:¬ f.top.kind=4) :
  Calls Tryz.prog 81 #[.agg ss.toArray,.slice A c.length d,.agg cs.toArray,.slice AS ts.length ad] w (PostK K (Zac xs c a ts) EV w):=by
 obtain ⟨SA,sd,rfl,hsl,hsd,hsp⟩:=hs.open;obtain ⟨TL,tc,TA,td,LE,lc0,KA,kd,rfl,hT,hLb,hok,_,_,hkp⟩:=h.out;obtain ⟨W1,hW1⟩:∃ W1,((w.alloc (.cells #[.slice SA xs.length sd] 43)).alloc (.cells #[.int .i64 9,.string a.name,.int .i64 a.num,.int .i64 a.type.top.kind,.slice TL a.type.top.labels.length tc,.slice TA a.type.kids.length td,.slice LE a.labels.length lc0,.slice KA es.length kd] 49)).alloc (.cells #[.int .i64 0,.slice none 0 0,.slice none 0 0] 38)=W1:=⟨_,rfl⟩;obtain ⟨H,hH⟩:∃ H,w.heap.size=H:=⟨_,rfl⟩;have bt:Box8 W1 (H+1) 49 (.int .i64 9) (.string a.name) (.int .i64 a.num) (.int .i64 a.type.top.kind) (.slice TL a.type.top.labels.length tc) (.slice TA a.type.kids.length td) (.slice LE a.labels.length lc0) (.slice KA es.length kd):=by
  rw [<-hW1,<-hH]
  have:=(Box8.new (w.alloc (.cells #[.slice SA xs.length sd] 43)) 49 (.int .i64 9) (.string a.name) (.int .i64 a.num) (.int .i64 a.type.top.kind) (.slice TL a.type.top.labels.length tc) (.slice TA a.type.kids.length td) (.slice LE a.labels.length lc0) (.slice KA es.length kd)).alloc (.cells #[.int .i64 0,.slice none 0 0,.slice none 0 0] 38)
  simpa using this
 have br:Box3 W1 (H+1+1) 38 (.int .i64 0) (.slice none 0 0) (.slice none 0 0):=by
  rw [<-hW1,<-hH]
  have:=Box3.new ((w.alloc (.cells #[.slice SA xs.length sd] 43)).alloc (.cells #[.int .i64 9,.string a.name,.int .i64 a.num,.int .i64 a.type.top.kind,.slice TL a.type.top.labels.length tc,.slice TA a.type.kids.length td,.slice LE a.labels.length lc0,.slice KA es.length kd] 49)) 38 (.int .i64 0) (.slice none 0 0) (.slice none 0 0)
  simpa using this
 have hb1:Below w.heap.size w W1:=by rw [<-hW1];exact ((bQ.alloc nQ _).alloc (by simp) _).alloc (by simp;omega) _
 have hs1:W1.heap.size=H+3:=by rw [<-hW1,<-hH];simp
 obtain ⟨K1,hK1⟩:∃ K1:Nat->Prop,K1=fun i=>(i < H/\K i)∨H+3<=i:=⟨_,rfl⟩
 have hsub:Sub (veil K w) (veil K1 W1):=Sub.held (Held.of_below hb1 fun i hi _=>hi) (fun i hi hk=>by rw [hK1];exact .inl ⟨by omega,hk⟩);have hsub0:Sub w0 (veil K1 W1):=Sub.all (hb0.trans (hb1.mono hb0.size)) (fun i hi=>by rw [hK1];exact .inl ⟨by have:=hb0.size;omega,hK0 i hi⟩);have hKK:∀ i,K1 i->K i:=by rw [hK1];rintro i (⟨_,h⟩|h);exact h;exact hK i (by omega)
 have hnot:¬ K1 (H+1+1):=by rw [hK1];rintro (⟨h,_⟩|h) <;> omega
 have hK3:∀ i,W1.heap.size<=i->K1 i:=by rw [hK1];intro i hi;exact .inr (by omega)
 have hee:=he.keep hb1;have huse:=And.intro (And.intro hl hkl) (And.intro hkm hi);clear huse;have x1:=bt.c1;have x0:=bt.c0;have x3:=bt.c3;have x4:=bt.c4;have x5:=bt.c5;have x6:=bt.c6;have r0:=br.c0;have r1:=br.c1;have r2:=br.c2;have s0:=br.free 0;have s1:=br.free 1;have s2:=br.free 2;have HB1:=hQ hb1;have HH:=hQ hH;have HW1:=hQ hW1;have BR:=hQ br;have BT:=hQ bt;have HS1:=hQ hs1;have HKK:=hQ hKK;have HNOT:=hQ hnot;have HK3:=hQ hK3;have HSUB:=hQ hsub;have HSUB0:=hQ hsub0;have HP:=hQ hp;have HKI:=hQ hk;have HV:=hQ hv;have HEE:=hQ hee;have HT:=hQ hT;have HLB:=hQ hLb;have HOK:=hQ hok;have HN0:Zac xs c a ts=ifAny (isBag (arg ts 0) && same (arg ts 0) (arg ts 1)) (arg ts 0):=by unfold Zac;(iterate 8 rw [if_neg (by rw [hkd];decide)]);rw [if_pos hkd]
 subst hts;obtain ⟨au,pu,u0,u1,u2,eu,hpu,hru,qu0,qu1,qu2⟩:=Zal (hk.sub hsub) bQ (k:=0) (by simp);have hru:RTy (veil K1 W1) f [u0,u1,u2]:=hru;obtain ⟨ku,Lu,nu,cu,Au,mu,du,rfl,rfl,rfl⟩:=hru.shape3;have hva:=(Zad qu0).1;have qu0:=(Zad qu0).2;have qu1:=(Zad qu1).2;have qu2:=(Zad qu2).2;subst eu;have hpu:au=pu:=by rw [<-hpu];rfl
 subst hpu;have hlen:([f,x]:List Ty).length=2:=rfl;have hku:¬ ku=4:=by rw [<-Zfd hru];exact hbg
 have hN:Zac xs c a [f,x]=ifAny false f:=by rw [HN0];show ifAny (decide (f.top.kind=4) && same f x) f=_;rw [decide_eq_false hbg];rfl
 have hgn:au.block≠H+1+1:=fun e=>hnot (e ▸ hva)
 have hdr:Below W1.heap.size W1 W1.drew:=bQ.drew;have hqd:decide (ku=4)=false:=decide_eq_false hku;have HC:=hQ (Zbl ku _ _ Lu Au nu cu mu du W1.drew rfl rfl);rw [hqd] at HC;have HUPu:=hQ (fun (W:World) (hB:Below W1.heap.size W1 W)=>And.intro (uQ hB qu0) (And.intro (uQ hB qu1) (uQ hB qu2)));have HC3:=hQ (fun (w2:World) (hb2:Below W1.heap.size W1 w2)=>Zbd K1 f false ku Lu Au nu cu mu du w2 EV (fun h=>by cases h) (hee.keep hb2));have HN:=hQ hN;rw [hkd];clear hs h hb0 hK0 hK hp hk hl hkl hkm hi hv he hsl hsd hsp hT hLb hok hkp hW1 bt br hb1 hs1 hK1 hsub hsub0 hKK hnot hK3 hee hkd hru hdr HN0 hN hbg hva hku hqd;rw [hlen];go_enter Tryz.func81,Tryz.ntmps81;go_wp2_with fail;rw [HW1.out];go_wp2_with fail;clear r0 r1 r2 s0 s1 s2;refine wp_region_noPanic ?_;refine wp_region_held_drew (S:=(fun W=>W.cell? au=some (.int .i64 ku)/\W.cell? ⟨au.block,au.off+1,none⟩=some (.slice Lu nu cu)/\W.cell? ⟨au.block,au.off+2,none⟩=some (.slice Au mu du))) (by kernel_rfl) ?_ (fun hHeld=>?_)
 ·(try dsimp only);(refine ⟨?_,?_,?_⟩ <;> assumption)
 refine wpAnyH_take (i:=0) (oi:=⟨some 68,.move (.tmp 3),36, "l10_typing.go:94",#[],none⟩) (v:=?v0a) rfl (by kernel_rfl) (by kernel_rfl) (by kernel_rfl) (fun _ _ _ h=>h) (Or.inl ⟨by rfl,?y0a⟩) (by assumption) ?r0a
 case y0a=>(intro w' hSw;(try dsimp only at hSw);go_simp;all_goals with_reducible rfl)
 try simp only [Act.put,sQ,tQ,vQ]
 refine wpAnyH_take (i:=1) (oi:=⟨some 69,.indexAddr 36 (.tmp 68) (.const (.int .i64 0)),0, "l10_typing.go:94",#[⟨0,.data⟩],none⟩) (v:=?v1a) rfl (by kernel_rfl) (by kernel_rfl) (by kernel_rfl) (fun _ _ _ h=>h) (Or.inl ⟨by rfl,?y1a⟩) (by assumption) ?r1a
 case y1a=>(intro w' hSw;(try dsimp only at hSw);go_simp;all_goals with_reducible rfl)
 try simp only [Act.put,sQ,tQ,vQ]
 refine wpAnyH_take (i:=2) (oi:=⟨some 70,.load 38 (.tmp 69),38, "l10_typing.go:94",#[⟨1,.data⟩],none⟩) (v:=?v2a) rfl (by kernel_rfl) (by kernel_rfl) (by kernel_rfl) (fun _ _ _ h=>h) (Or.inl ⟨by rfl,?y2a⟩) (by assumption) ?r2a
 case y2a=>(intro w' hSw;(try dsimp only at hSw);go_simp;all_goals with_reducible rfl)
 try simp only [Act.put,sQ,tQ,vQ]
 refine wpAnyH_take (i:=3) (oi:=⟨some 71,.move (.tmp 3),36, "l10_typing.go:94",#[],none⟩) (v:=?v3a) rfl (by kernel_rfl) (by kernel_rfl) (by kernel_rfl) (fun _ _ _ h=>h) (Or.inl ⟨by rfl,?y3a⟩) (by assumption) ?r3a
 case y3a=>(intro w' hSw;(try dsimp only at hSw);go_simp;all_goals with_reducible rfl)
 try simp only [Act.put,sQ,tQ,vQ]
 refine wpAnyH_take (i:=4) (oi:=⟨some 72,.indexAddr 36 (.tmp 71) (.const (.int .i64 0)),0, "l10_typing.go:94",#[⟨3,.data⟩],none⟩) (v:=?v4a) rfl (by kernel_rfl) (by kernel_rfl) (by kernel_rfl) (fun _ _ _ h=>h) (Or.inl ⟨by rfl,?y4a⟩) (by assumption) ?r4a
 case y4a=>(intro w' hSw;(try dsimp only at hSw);go_simp;all_goals with_reducible rfl)
 try simp only [Act.put,sQ,tQ,vQ]
 refine wpAnyH_take (i:=5) (oi:=⟨some 73,.load 38 (.tmp 72),38, "l10_typing.go:94",#[⟨4,.data⟩],none⟩) (v:=?v5a) rfl (by kernel_rfl) (by kernel_rfl) (by kernel_rfl) (fun _ _ _ h=>h) (Or.inl ⟨by rfl,?y5a⟩) (by assumption) ?r5a
 case y5a=>(intro w' hSw;(try dsimp only at hSw);go_simp;all_goals with_reducible rfl)
 try simp only [Act.put,sQ,tQ,vQ]
 refine wpAnyH_ready (rs:=[6]) (by kernel_rfl) (by simp) ?_;refine AllReadyH.cons (o:=⟨some 74,.call ⟨.value (.func 58),#[.tmp 73],#[38]⟩,4, "l10_typing.go:94",#[⟨5,.data⟩],none⟩) rfl (fun Kc hKc=>?_) AllReadyH.nil;clear hHeld;go_simp;refine HC.out.mono ?_;rintro e w2 ⟨rfl,hb2⟩;have B2:Hid (Below W1.heap.size W1 w2):=hQ (((Below.refl W1.heap.size W1).drew).trans hb2);clear hb2
 try dsimp only
 refine hKc _ _ (HUPu.out w2 B2.out) (fun hHeld=>?_);clear hKc Kc
 try simp only [Act.put,sQ,tQ,vQ]
 refine wpAnyH_take (i:=7) (oi:=⟨some 75,.move (.tmp 74),4, "l10_typing.go:94",#[⟨6,.data⟩,⟨6,.chain⟩],none⟩) (v:=?v7a) rfl (by kernel_rfl) (by kernel_rfl) (by kernel_rfl) (fun _ _ _ h=>h) (Or.inl ⟨by rfl,?y7a⟩) (by assumption) ?r7a
 case y7a=>(intro w' hSw;(try dsimp only at hSw);go_simp;all_goals with_reducible rfl)
 try simp only [Act.put,sQ,tQ,vQ]
 refine wpAnyH_take (i:=8) (oi:=⟨some 76,.move (.tmp 3),36, "l10_typing.go:94",#[⟨7,.guard⟩],some (7,true)⟩) (v:=undef) rfl (by kernel_rfl) (by kernel_rfl) (by kernel_rfl) (fun _ _ _ h=>h) (Or.inr ⟨by rfl,rfl⟩) (by assumption) ?_
 try simp only [Act.put,sQ,tQ,vQ]
 refine wpAnyH_take (i:=9) (oi:=⟨some 77,.indexAddr 36 (.tmp 76) (.const (.int .i64 0)),0, "l10_typing.go:94",#[⟨8,.data⟩,⟨7,.guard⟩],some (7,true)⟩) (v:=undef) rfl (by kernel_rfl) (by kernel_rfl) (by kernel_rfl) (fun _ _ _ h=>h) (Or.inr ⟨by rfl,rfl⟩) (by assumption) ?_
 try simp only [Act.put,sQ,tQ,vQ]
 refine wpAnyH_take (i:=10) (oi:=⟨some 78,.load 38 (.tmp 77),38, "l10_typing.go:94",#[⟨9,.data⟩,⟨7,.guard⟩],some (7,true)⟩) (v:=undef) rfl (by kernel_rfl) (by kernel_rfl) (by kernel_rfl) (fun _ _ _ h=>h) (Or.inr ⟨by rfl,rfl⟩) (by assumption) ?_
 try simp only [Act.put,sQ,tQ,vQ]
 refine wpAnyH_take (i:=11) (oi:=⟨some 79,.move (.tmp 3),36, "l10_typing.go:94",#[⟨7,.guard⟩],some (7,true)⟩) (v:=undef) rfl (by kernel_rfl) (by kernel_rfl) (by kernel_rfl) (fun _ _ _ h=>h) (Or.inr ⟨by rfl,rfl⟩) (by assumption) ?_
 try simp only [Act.put,sQ,tQ,vQ]
 refine wpAnyH_take (i:=12) (oi:=⟨some 80,.indexAddr 36 (.tmp 79) (.const (.int .i64 1)),0, "l10_typing.go:94",#[⟨11,.data⟩,⟨7,.guard⟩],some (7,true)⟩) (v:=undef) rfl (by kernel_rfl) (by kernel_rfl) (by kernel_rfl) (fun _ _ _ h=>h) (Or.inr ⟨by rfl,rfl⟩) (by assumption) ?_
 try simp only [Act.put,sQ,tQ,vQ]
 refine wpAnyH_take (i:=13) (oi:=⟨some 81,.load 38 (.tmp 80),38, "l10_typing.go:94",#[⟨12,.data⟩,⟨7,.guard⟩],some (7,true)⟩) (v:=undef) rfl (by kernel_rfl) (by kernel_rfl) (by kernel_rfl) (fun _ _ _ h=>h) (Or.inr ⟨by rfl,rfl⟩) (by assumption) ?_
 try simp only [Act.put,sQ,tQ,vQ]
 refine wpAnyH_take (i:=14) (oi:=⟨some 82,.call ⟨.value (.func 115),#[.tmp 78,.tmp 81],#[38,38]⟩,4, "l10_typing.go:94",#[⟨10,.data⟩,⟨13,.data⟩,⟨7,.chain⟩,⟨7,.guard⟩],some (7,true)⟩) (v:=undef) rfl (by kernel_rfl) (by kernel_rfl) (by kernel_rfl) (fun _ _ _ h=>h) (Or.inr ⟨by rfl,rfl⟩) (by assumption) ?_
 try simp only [Act.put,sQ,tQ,vQ]
 refine wpAnyH_take (i:=15) (oi:=⟨some 83,.pick (.tmp 75) (.tmp 82) (.const (.bool false)),4, "l10_typing.go:94",#[⟨7,.data⟩,⟨14,.data⟩],none⟩) (v:=?v15a) rfl (by kernel_rfl) (by kernel_rfl) (by kernel_rfl) (fun _ _ _ h=>h) (Or.inl ⟨by rfl,?y15a⟩) (by assumption) ?r15a
 case y15a=>(intro w' hSw;(try dsimp only at hSw);go_simp;all_goals with_reducible rfl)
 try simp only [Act.put,sQ,tQ,vQ]
 refine wpAnyH_ready (rs:=[16]) (by kernel_rfl) (by simp) ?_;refine AllReadyH.cons (o:=⟨some 84,.call ⟨.value (.func 82),#[.tmp 70,.tmp 83],#[38,4]⟩,81, "l10_typing.go:94",#[⟨2,.data⟩,⟨15,.data⟩,⟨14,.chain⟩],none⟩) rfl (fun Kc hKc=>?_) AllReadyH.nil;clear hHeld;go_simp;refine (HC3.out w2 B2.out).mono ?_;rintro e w3 hp3;obtain ⟨k,L,n,c2,A2,m,d2,v,rfl,hb3,hpk⟩:=hp3.words;have HP3:=hQ (B2.out.trans (hb3.mono B2.out.size));have HPK:=hQ hpk;rw [<-HN.out] at HPK;have HB3:=hQ (HB1.out.trans ((B2.out.trans (hb3.mono B2.out.size)).mono HB1.out.size));have BR2:=hQ (BR.out.under (B2.out.trans (hb3.mono B2.out.size)) BR.out.lt);have tr0:=BR2.out.c0;have tr1:=BR2.out.c1;have tr2:=BR2.out.c2;have ts0:=BR2.out.free 0;have ts1:=BR2.out.free 1;have ts2:=BR2.out.free 2;clear hp3 hb3 hpk
 try dsimp only
 refine hKc _ _ (HUPu.out w3 HP3.out) (fun hHeld=>?_);clear hKc Kc
 try simp only [Act.put,sQ,tQ,vQ]
 refine wpAnyH_take (i:=17) (oi:=⟨some 85,.extract (.tmp 84) 0,38, "l10_typing.go:94",#[⟨16,.data⟩],none⟩) (v:=?v17a) rfl (by kernel_rfl) (by kernel_rfl) (by kernel_rfl) (fun _ _ _ h=>h) (Or.inl ⟨by rfl,?y17a⟩) (by assumption) ?r17a
 case y17a=>(intro w' hSw;(try dsimp only at hSw);go_simp;all_goals with_reducible rfl)
 try simp only [Act.put,sQ,tQ,vQ]
 refine wpAnyH_take (i:=18) (oi:=⟨some 86,.extract (.tmp 84) 1,80, "l10_typing.go:94",#[⟨16,.data⟩],none⟩) (v:=?v18a) rfl (by kernel_rfl) (by kernel_rfl) (by kernel_rfl) (fun _ _ _ h=>h) (Or.inl ⟨by rfl,?y18a⟩) (by assumption) ?r18a
 case y18a=>(intro w' hSw;(try dsimp only at hSw);go_simp;all_goals with_reducible rfl)
 try simp only [Act.put,sQ,tQ,vQ]
 refine wpAnyH_ready (rs:=[19]) (by kernel_rfl) (by simp) ?_;refine AllReadyH.cons (o:=⟨none,.store 38 (.tmp 8) (.tmp 85),0, "l10_typing.go:94",#[⟨17,.data⟩,⟨16,.chain⟩,⟨0,.phase⟩,⟨1,.phase⟩,⟨2,.phase⟩,⟨3,.phase⟩,⟨4,.phase⟩,⟨5,.phase⟩,⟨6,.phase⟩,⟨7,.phase⟩,⟨8,.phase⟩,⟨9,.phase⟩,⟨10,.phase⟩,⟨11,.phase⟩,⟨12,.phase⟩,⟨13,.phase⟩,⟨14,.phase⟩,⟨15,.phase⟩,⟨16,.phase⟩,⟨17,.phase⟩,⟨18,.phase⟩],none⟩) rfl (fun Kc hKc=>?_) AllReadyH.nil;clear hHeld;go_simp;refine hKc _ _ ⟨((World.cell?_setCell_far _ _ _ _ hgn.symm).trans ((World.cell?_setCell_far _ _ _ _ hgn.symm).trans ((World.cell?_setCell_far _ _ _ _ hgn.symm).trans (HUPu.out w3 HP3.out).1))),((World.cell?_setCell_far _ _ _ _ hgn.symm).trans ((World.cell?_setCell_far _ _ _ _ hgn.symm).trans ((World.cell?_setCell_far _ _ _ _ hgn.symm).trans (HUPu.out w3 HP3.out).2.1))),((World.cell?_setCell_far _ _ _ _ hgn.symm).trans ((World.cell?_setCell_far _ _ _ _ hgn.symm).trans ((World.cell?_setCell_far _ _ _ _ hgn.symm).trans (HUPu.out w3 HP3.out).2.2)))⟩ (fun hHeld=>?_);clear hKc Kc
 try simp only [Act.put,sQ,tQ,vQ]
 refine wpAnyH_take (i:=20) (oi:=⟨some 9,.assign (.tmp 86),80, "l10_typing.go:94",#[⟨18,.data⟩,⟨19,.chain⟩,⟨0,.phase⟩,⟨1,.phase⟩,⟨2,.phase⟩,⟨3,.phase⟩,⟨4,.phase⟩,⟨5,.phase⟩,⟨6,.phase⟩,⟨7,.phase⟩,⟨8,.phase⟩,⟨9,.phase⟩,⟨10,.phase⟩,⟨11,.phase⟩,⟨12,.phase⟩,⟨13,.phase⟩,⟨14,.phase⟩,⟨15,.phase⟩,⟨16,.phase⟩,⟨17,.phase⟩,⟨18,.phase⟩,⟨19,.phase⟩],none⟩) (v:=?v20a) rfl (by kernel_rfl) (by kernel_rfl) (by kernel_rfl) (fun _ _ _ h=>h) (Or.inl ⟨by rfl,?y20a⟩) (by assumption) ?r20a
 case y20a=>(intro w' hSw;(try dsimp only at hSw);go_simp;all_goals with_reducible rfl)
 try simp only [Act.put,sQ,tQ,vQ]
 refine wpAnyH_done (by kernel_rfl) ?_ _;refine NoPanic.normal ?_;go_wp2_with fail;generalize hU:(((w3.setCell ⟨H+1+1,0,none⟩ (.int .i64 k)).setCell ⟨H+1+1,1,none⟩ (.slice L n c2)).setCell ⟨H+1+1,2,none⟩ (.slice A2 m d2))=U;have hgU:w3.grownBy U (some (H+1+1)):=by rw [<-hU];exact Zaa (Zaa (Zaa (gQ) _) _) _
 have u1:Box3 U (H+1+1) 38 (.int .i64 k) (.slice L n c2) (.slice A2 m d2):=by
  rw [<-hU];exact ((BR2.out.set0 _).set1 _).set2 _
 have HRR:Hid (PostK K (Zac xs c a [f,x]) EV w (.returned (.tuple #[.agg #[.int .i64 k,.slice L n c2,.slice A2 m d2],v])) U):=hQ (by
  exact HPK.out K w U (HB3.out.grown hgU HB3.out.size (fun k hk=>by injection hk with hk;have:=HH.out;omega)) (Held.grown hgU fun g hg=>by injection hg with hg;rw [<-hg];exact HNOT.out) fun i _ h=>HKK.out i h)
 have tt0:=u1.c0;have tt1:=u1.c1;have tt2:=u1.c2;clear hU hgU u1;exact bodyPost_ret (v:=.tuple #[.agg #[.int .i64 k,.slice L n c2,.slice A2 m d2],v]) (by simp [results,Tryz.results81,go_sem,tt0,tt1,tt2]) rfl HRR.out
theorem Zua (K:Nat->Prop)(xs:Sc)(c:Cx)(a:TeA)(es:List Te)(ts:List Ty)(A AS:Option Addr)(d ad:Nat)(EV:Value)(w0 w:World)(ss cs:List Value)(hs:RSc w0 xs ss)(h:RTe w0 (.node a es) cs)(hb0:Below w0.heap.size w0 w)(hK0:∀ i,i < w0.heap.size->K i)(hK:∀ i,w.heap.size<=i->K i)(hp:RL kTg (veil K w) A c)(hl:c.length<=1048576)(hk:RKids (veil K w) AS ts)(hkl:ts.length<=ad)(hkm:ts.length<=9223372036854775807)(hv:∀ t∈ts,Zae t=true)(he:ErrAt EV w)(hi:∃ T v,EV=.iface T v)(hkd:a.kind=11)(b f x:Ty)(hts:ts=[b,f,x])(hbg:¬ b.top.kind=2) :
  Calls Tryz.prog 81 #[.agg ss.toArray,.slice A c.length d,.agg cs.toArray,.slice AS ts.length ad] w (PostK K (Zac xs c a ts) EV w):=by
 obtain ⟨SA,sd,rfl,hsl,hsd,hsp⟩:=hs.open;obtain ⟨TL,tc,TA,td,LE,lc0,KA,kd,rfl,hT,hLb,hok,_,_,hkp⟩:=h.out;obtain ⟨W1,hW1⟩:∃ W1,((w.alloc (.cells #[.slice SA xs.length sd] 43)).alloc (.cells #[.int .i64 11,.string a.name,.int .i64 a.num,.int .i64 a.type.top.kind,.slice TL a.type.top.labels.length tc,.slice TA a.type.kids.length td,.slice LE a.labels.length lc0,.slice KA es.length kd] 49)).alloc (.cells #[.int .i64 0,.slice none 0 0,.slice none 0 0] 38)=W1:=⟨_,rfl⟩;obtain ⟨H,hH⟩:∃ H,w.heap.size=H:=⟨_,rfl⟩;have bt:Box8 W1 (H+1) 49 (.int .i64 11) (.string a.name) (.int .i64 a.num) (.int .i64 a.type.top.kind) (.slice TL a.type.top.labels.length tc) (.slice TA a.type.kids.length td) (.slice LE a.labels.length lc0) (.slice KA es.length kd):=by
  rw [<-hW1,<-hH]
  have:=(Box8.new (w.alloc (.cells #[.slice SA xs.length sd] 43)) 49 (.int .i64 11) (.string a.name) (.int .i64 a.num) (.int .i64 a.type.top.kind) (.slice TL a.type.top.labels.length tc) (.slice TA a.type.kids.length td) (.slice LE a.labels.length lc0) (.slice KA es.length kd)).alloc (.cells #[.int .i64 0,.slice none 0 0,.slice none 0 0] 38)
  simpa using this
 have br:Box3 W1 (H+1+1) 38 (.int .i64 0) (.slice none 0 0) (.slice none 0 0):=by
  rw [<-hW1,<-hH]
  have:=Box3.new ((w.alloc (.cells #[.slice SA xs.length sd] 43)).alloc (.cells #[.int .i64 11,.string a.name,.int .i64 a.num,.int .i64 a.type.top.kind,.slice TL a.type.top.labels.length tc,.slice TA a.type.kids.length td,.slice LE a.labels.length lc0,.slice KA es.length kd] 49)) 38 (.int .i64 0) (.slice none 0 0) (.slice none 0 0)
  simpa using this
 have hb1:Below w.heap.size w W1:=by rw [<-hW1];exact ((bQ.alloc nQ _).alloc (by simp) _).alloc (by simp;omega) _
 have hs1:W1.heap.size=H+3:=by rw [<-hW1,<-hH];simp
 obtain ⟨K1,hK1⟩:∃ K1:Nat->Prop,K1=fun i=>(i < H/\K i)∨H+3<=i:=⟨_,rfl⟩
 have hsub:Sub (veil K w) (veil K1 W1):=Sub.held (Held.of_below hb1 fun i hi _=>hi) (fun i hi hk=>by rw [hK1];exact .inl ⟨by omega,hk⟩);have hsub0:Sub w0 (veil K1 W1):=Sub.all (hb0.trans (hb1.mono hb0.size)) (fun i hi=>by rw [hK1];exact .inl ⟨by have:=hb0.size;omega,hK0 i hi⟩);have hKK:∀ i,K1 i->K i:=by rw [hK1];rintro i (⟨_,h⟩|h);exact h;exact hK i (by omega)
 have hnot:¬ K1 (H+1+1):=by rw [hK1];rintro (⟨h,_⟩|h) <;> omega
 have hK3:∀ i,W1.heap.size<=i->K1 i:=by rw [hK1];intro i hi;exact .inr (by omega)
 have hee:=he.keep hb1;have huse:=And.intro (And.intro hl hkl) (And.intro hkm hi);clear huse;have x1:=bt.c1;have x0:=bt.c0;have x3:=bt.c3;have x4:=bt.c4;have x5:=bt.c5;have x6:=bt.c6;have r0:=br.c0;have r1:=br.c1;have r2:=br.c2;have s0:=br.free 0;have s1:=br.free 1;have s2:=br.free 2;have HB1:=hQ hb1;have HH:=hQ hH;have HW1:=hQ hW1;have BR:=hQ br;have BT:=hQ bt;have HS1:=hQ hs1;have HKK:=hQ hKK;have HNOT:=hQ hnot;have HK3:=hQ hK3;have HSUB:=hQ hsub;have HSUB0:=hQ hsub0;have HP:=hQ hp;have HKI:=hQ hk;have HV:=hQ hv;have HEE:=hQ hee;have HT:=hQ hT;have HLB:=hQ hLb;have HOK:=hQ hok;have HN0:Zac xs c a ts=ifAny (decide ((arg ts 0).top.kind=2) && same (arg ts 1) (arg ts 2)) (arg ts 1):=by unfold Zac;(iterate 10 rw [if_neg (by rw [hkd];decide)]);rw [if_pos hkd]
 subst hts;obtain ⟨ar,pr,r0,r1,r2,er,hpr,hrr,qr0,qr1,qr2⟩:=Zal (hk.sub hsub) bQ (k:=0) (by simp);have hrr:RTy (veil K1 W1) b [r0,r1,r2]:=hrr;obtain ⟨kr,Lr,nr,cr,Ar,mr,dr,rfl,rfl,rfl⟩:=hrr.shape3;have hva:=(Zad qr0).1;have qr0:=(Zad qr0).2;have qr1:=(Zad qr1).2;have qr2:=(Zad qr2).2;obtain ⟨au,pu,u0,u1,u2,eu,hpu,hru,qu0,qu1,qu2⟩:=Zal (hk.sub hsub) bQ (k:=1) (by simp);have hru:RTy (veil K1 W1) f [u0,u1,u2]:=hru;obtain ⟨ku,Lu,nu,cu,Au,mu,du,rfl,rfl,rfl⟩:=hru.shape3;have hvu:=(Zad qu0).1;have qu0:=(Zad qu0).2;have qu1:=(Zad qu1).2;have qu2:=(Zad qu2).2;subst er;injection eu with eu0
 subst eu0;have hpr:ar=pr:=by rw [<-hpr];rfl
 subst hpr;have hpq:ar.add 3=pu:=hpu;have hlen:([b,f,x]:List Ty).length=3:=rfl;have hkr:¬ kr=2:=by rw [<-Zfd hrr];exact hbg
 have hqb:(kr == 2)=false:=by simpa using hkr
 have hN:Zac xs c a [b,f,x]=ifAny false f:=by rw [HN0];show ifAny (decide (b.top.kind=2) && same f x) f=_;rw [decide_eq_false hbg];rfl
 have hgn:ar.block≠H+1+1:=fun e=>hnot (e ▸ hva)
 have hgp:pu.block≠H+1+1:=fun e=>hnot (e ▸ hvu)
 have hdr:Below W1.heap.size W1 W1.drew:=bQ.drew;have HUPu:=hQ (fun (W:World) (hB:Below W1.heap.size W1 W)=>And.intro (uQ hB qu0) (And.intro (uQ hB qu1) (uQ hB qu2)));have HUPr:=hQ (fun (W:World) (hB:Below W1.heap.size W1 W)=>And.intro (uQ hB qr0) (And.intro (uQ hB qr1) (uQ hB qr2)));have HUP6:=hQ (fun (W:World) (hB:Below W1.heap.size W1 W)=>(⟨(HUPr.out W hB).1,(HUPr.out W hB).2.1,(HUPr.out W hB).2.2,(HUPu.out W hB).1,(HUPu.out W hB).2.1,(HUPu.out W hB).2.2⟩:W.cell? ar=some (.int .i64 kr)/\W.cell? ⟨ar.block,ar.off+1,none⟩=some (.slice Lr nr cr)/\W.cell? ⟨ar.block,ar.off+2,none⟩=some (.slice Ar mr dr)/\W.cell? pu=some (.int .i64 ku)/\W.cell? ⟨pu.block,pu.off+1,none⟩=some (.slice Lu nu cu)/\W.cell? ⟨pu.block,pu.off+2,none⟩=some (.slice Au mu du)));have HC3:=hQ (fun (w2:World) (hb2:Below W1.heap.size W1 w2)=>Zbd K1 f false ku Lu Au nu cu mu du w2 EV (fun h=>by cases h) (hee.keep hb2));have HN:=hQ hN;rw [hkd];clear hs h hb0 hK0 hK hp hk hl hkl hkm hi hv he hsl hsd hsp hT hLb hok hkp hW1 bt br hb1 hs1 hK1 hsub hsub0 hKK hnot hK3 hee hkd hru hrr HN0 hpu hN hbg hva hvu hkr;rw [hlen];go_enter Tryz.func81,Tryz.ntmps81;go_wp2_with fail;rw [HW1.out];go_wp2_with fail;clear r0 r1 r2 s0 s1 s2;refine wp_region_noPanic ?_;refine wp_region_held_drew (S:=(fun W=>W.cell? ar=some (.int .i64 kr)/\W.cell? ⟨ar.block,ar.off+1,none⟩=some (.slice Lr nr cr)/\W.cell? ⟨ar.block,ar.off+2,none⟩=some (.slice Ar mr dr)/\W.cell? pu=some (.int .i64 ku)/\W.cell? ⟨pu.block,pu.off+1,none⟩=some (.slice Lu nu cu)/\W.cell? ⟨pu.block,pu.off+2,none⟩=some (.slice Au mu du))) (by kernel_rfl) ?_ (fun hHeld=>?_)
 ·(try dsimp only);(refine ⟨?_,?_,?_,?_,?_,?_⟩ <;> assumption)
 refine wpAnyH_take (i:=0) (oi:=⟨some 101,.move (.tmp 3),36, "l10_typing.go:98",#[],none⟩) (v:=?v0b) rfl (by kernel_rfl) (by kernel_rfl) (by kernel_rfl) (fun _ _ _ h=>h) (Or.inl ⟨by rfl,?y0b⟩) (by assumption) ?r0b
 case y0b=>(intro w' hSw;(try dsimp only at hSw);go_simp;all_goals with_reducible rfl)
 try simp only [Act.put,sQ,tQ,vQ]
 refine wpAnyH_take (i:=1) (oi:=⟨some 102,.indexAddr 36 (.tmp 101) (.const (.int .i64 1)),0, "l10_typing.go:98",#[⟨0,.data⟩],none⟩) (v:=?v1b) rfl (by kernel_rfl) (by kernel_rfl) (by kernel_rfl) (fun _ _ _ h=>h) (Or.inl ⟨by rfl,?y1b⟩) (by assumption) ?r1b
 case y1b=>(intro w' hSw;(try dsimp only at hSw);go_simp;all_goals with_reducible rfl)
 try simp only [Act.put,sQ,tQ,vQ]
 refine wpAnyH_take (i:=2) (oi:=⟨some 103,.load 38 (.tmp 102),38, "l10_typing.go:98",#[⟨1,.data⟩],none⟩) (v:=?v2b) rfl (by kernel_rfl) (by kernel_rfl) (by kernel_rfl) (fun _ _ _ h=>h) (Or.inl ⟨by rfl,?y2b⟩) (by assumption) ?r2b
 case y2b=>(intro w' hSw;(try dsimp only at hSw);go_simp;all_goals with_reducible rfl)
 try simp only [Act.put,sQ,tQ,vQ]
 refine wpAnyH_take (i:=3) (oi:=⟨some 104,.move (.tmp 3),36, "l10_typing.go:98",#[],none⟩) (v:=?v3b) rfl (by kernel_rfl) (by kernel_rfl) (by kernel_rfl) (fun _ _ _ h=>h) (Or.inl ⟨by rfl,?y3b⟩) (by assumption) ?r3b
 case y3b=>(intro w' hSw;(try dsimp only at hSw);go_simp;all_goals with_reducible rfl)
 try simp only [Act.put,sQ,tQ,vQ]
 refine wpAnyH_take (i:=4) (oi:=⟨some 105,.indexAddr 36 (.tmp 104) (.const (.int .i64 0)),0, "l10_typing.go:98",#[⟨3,.data⟩],none⟩) (v:=?v4b) rfl (by kernel_rfl) (by kernel_rfl) (by kernel_rfl) (fun _ _ _ h=>h) (Or.inl ⟨by rfl,?y4b⟩) (by assumption) ?r4b
 case y4b=>(intro w' hSw;(try dsimp only at hSw);go_simp;all_goals with_reducible rfl)
 try simp only [Act.put,sQ,tQ,vQ]
 refine wpAnyH_take (i:=5) (oi:=⟨some 106,.fieldAddr 38 (.tmp 105) 0,0, "l10_typing.go:98",#[⟨4,.data⟩],none⟩) (v:=?v5b) rfl (by kernel_rfl) (by kernel_rfl) (by kernel_rfl) (fun _ _ _ h=>h) (Or.inl ⟨by rfl,?y5b⟩) (by assumption) ?r5b
 case y5b=>(intro w' hSw;(try dsimp only at hSw);go_simp;all_goals with_reducible rfl)
 try simp only [Act.put,sQ,tQ,vQ]
 refine wpAnyH_take (i:=6) (oi:=⟨some 107,.load 3 (.tmp 106),3, "l10_typing.go:98",#[⟨5,.data⟩],none⟩) (v:=?v6b) rfl (by kernel_rfl) (by kernel_rfl) (by kernel_rfl) (fun _ _ _ h=>h) (Or.inl ⟨by rfl,?y6b⟩) (by assumption) ?r6b
 case y6b=>(intro w' hSw;(try dsimp only at hSw);go_simp;all_goals with_reducible rfl)
 try simp only [Act.put,sQ,tQ,vQ]
 refine wpAnyH_take (i:=7) (oi:=⟨some 108,.binOp .eql 3 (.tmp 107) (.const (.int .i64 2)) 3,4, "l10_typing.go:98",#[⟨6,.data⟩],none⟩) (v:=.bool false) rfl (by kernel_rfl) (by kernel_rfl) (by kernel_rfl) (fun _ _ _ h=>h) (Or.inl ⟨by rfl,?y7b⟩) (by assumption) ?r7b
 case y7b=>(intro w' hSw;(try dsimp only at hSw);go_simp;all_goals first | with_reducible rfl | simp [hqb])
 try simp only [Act.put,sQ,tQ,vQ]
 refine wpAnyH_take (i:=8) (oi:=⟨some 109,.move (.tmp 108),4, "l10_typing.go:98",#[⟨7,.data⟩],none⟩) (v:=?v8b) rfl (by kernel_rfl) (by kernel_rfl) (by kernel_rfl) (fun _ _ _ h=>h) (Or.inl ⟨by rfl,?y8b⟩) (by assumption) ?r8b
 case y8b=>(intro w' hSw;(try dsimp only at hSw);go_simp;all_goals with_reducible rfl)
 try simp only [Act.put,sQ,tQ,vQ]
 refine wpAnyH_take (i:=9) (oi:=⟨some 110,.move (.tmp 3),36, "l10_typing.go:98",#[⟨8,.guard⟩],some (8,true)⟩) (v:=undef) rfl (by kernel_rfl) (by kernel_rfl) (by kernel_rfl) (fun _ _ _ h=>h) (Or.inr ⟨by rfl,rfl⟩) (by assumption) ?_
 try simp only [Act.put,sQ,tQ,vQ]
 refine wpAnyH_take (i:=10) (oi:=⟨some 111,.indexAddr 36 (.tmp 110) (.const (.int .i64 1)),0, "l10_typing.go:98",#[⟨9,.data⟩,⟨8,.guard⟩],some (8,true)⟩) (v:=undef) rfl (by kernel_rfl) (by kernel_rfl) (by kernel_rfl) (fun _ _ _ h=>h) (Or.inr ⟨by rfl,rfl⟩) (by assumption) ?_
 try simp only [Act.put,sQ,tQ,vQ]
 refine wpAnyH_take (i:=11) (oi:=⟨some 112,.load 38 (.tmp 111),38, "l10_typing.go:98",#[⟨10,.data⟩,⟨8,.guard⟩],some (8,true)⟩) (v:=undef) rfl (by kernel_rfl) (by kernel_rfl) (by kernel_rfl) (fun _ _ _ h=>h) (Or.inr ⟨by rfl,rfl⟩) (by assumption) ?_
 try simp only [Act.put,sQ,tQ,vQ]
 refine wpAnyH_take (i:=12) (oi:=⟨some 113,.move (.tmp 3),36, "l10_typing.go:98",#[⟨8,.guard⟩],some (8,true)⟩) (v:=undef) rfl (by kernel_rfl) (by kernel_rfl) (by kernel_rfl) (fun _ _ _ h=>h) (Or.inr ⟨by rfl,rfl⟩) (by assumption) ?_
 try simp only [Act.put,sQ,tQ,vQ]
 refine wpAnyH_take (i:=13) (oi:=⟨some 114,.indexAddr 36 (.tmp 113) (.const (.int .i64 2)),0, "l10_typing.go:98",#[⟨12,.data⟩,⟨8,.guard⟩],some (8,true)⟩) (v:=undef) rfl (by kernel_rfl) (by kernel_rfl) (by kernel_rfl) (fun _ _ _ h=>h) (Or.inr ⟨by rfl,rfl⟩) (by assumption) ?_
 try simp only [Act.put,sQ,tQ,vQ]
 refine wpAnyH_take (i:=14) (oi:=⟨some 115,.load 38 (.tmp 114),38, "l10_typing.go:98",#[⟨13,.data⟩,⟨8,.guard⟩],some (8,true)⟩) (v:=undef) rfl (by kernel_rfl) (by kernel_rfl) (by kernel_rfl) (fun _ _ _ h=>h) (Or.inr ⟨by rfl,rfl⟩) (by assumption) ?_
 try simp only [Act.put,sQ,tQ,vQ]
 refine wpAnyH_take (i:=15) (oi:=⟨some 116,.call ⟨.value (.func 115),#[.tmp 112,.tmp 115],#[38,38]⟩,4, "l10_typing.go:98",#[⟨11,.data⟩,⟨14,.data⟩,⟨8,.chain⟩,⟨8,.guard⟩],some (8,true)⟩) (v:=undef) rfl (by kernel_rfl) (by kernel_rfl) (by kernel_rfl) (fun _ _ _ h=>h) (Or.inr ⟨by rfl,rfl⟩) (by assumption) ?_
 try simp only [Act.put,sQ,tQ,vQ]
 refine wpAnyH_take (i:=16) (oi:=⟨some 117,.pick (.tmp 109) (.tmp 116) (.const (.bool false)),4, "l10_typing.go:98",#[⟨8,.data⟩,⟨15,.data⟩],none⟩) (v:=?v16b) rfl (by kernel_rfl) (by kernel_rfl) (by kernel_rfl) (fun _ _ _ h=>h) (Or.inl ⟨by rfl,?y16b⟩) (by assumption) ?r16b
 case y16b=>(intro w' hSw;(try dsimp only at hSw);go_simp;all_goals with_reducible rfl)
 try simp only [Act.put,sQ,tQ,vQ]
 refine wpAnyH_ready (rs:=[17]) (by kernel_rfl) (by simp) ?_;refine AllReadyH.cons (o:=⟨some 118,.call ⟨.value (.func 82),#[.tmp 103,.tmp 117],#[38,4]⟩,81, "l10_typing.go:98",#[⟨2,.data⟩,⟨16,.data⟩,⟨15,.chain⟩],none⟩) rfl (fun Kc hKc=>?_) AllReadyH.nil;clear hHeld;go_simp;refine (HC3.out W1.drew hdr).mono ?_;rintro e w3 hp3;obtain ⟨k,L,n,c2,A2,m,d2,v,rfl,hb3,hpk⟩:=hp3.words;have HP3:=hQ (hdr.trans (hb3.mono hdr.size));have B2:=hQ hdr;have HPK:=hQ hpk;rw [<-HN.out] at HPK;have HB3:=hQ (HB1.out.trans ((B2.out.trans (hb3.mono B2.out.size)).mono HB1.out.size));have BR2:=hQ (BR.out.under (B2.out.trans (hb3.mono B2.out.size)) BR.out.lt);have tr0:=BR2.out.c0;have tr1:=BR2.out.c1;have tr2:=BR2.out.c2;have ts0:=BR2.out.free 0;have ts1:=BR2.out.free 1;have ts2:=BR2.out.free 2;clear hp3 hb3 hpk
 try dsimp only
 refine hKc _ _ (HUP6.out w3 HP3.out) (fun hHeld=>?_);clear hKc Kc
 try simp only [Act.put,sQ,tQ,vQ]
 refine wpAnyH_take (i:=18) (oi:=⟨some 119,.extract (.tmp 118) 0,38, "l10_typing.go:98",#[⟨17,.data⟩],none⟩) (v:=?v18b) rfl (by kernel_rfl) (by kernel_rfl) (by kernel_rfl) (fun _ _ _ h=>h) (Or.inl ⟨by rfl,?y18b⟩) (by assumption) ?r18b
 case y18b=>(intro w' hSw;(try dsimp only at hSw);go_simp;all_goals with_reducible rfl)
 try simp only [Act.put,sQ,tQ,vQ]
 refine wpAnyH_take (i:=19) (oi:=⟨some 120,.extract (.tmp 118) 1,80, "l10_typing.go:98",#[⟨17,.data⟩],none⟩) (v:=?v19b) rfl (by kernel_rfl) (by kernel_rfl) (by kernel_rfl) (fun _ _ _ h=>h) (Or.inl ⟨by rfl,?y19b⟩) (by assumption) ?r19b
 case y19b=>(intro w' hSw;(try dsimp only at hSw);go_simp;all_goals with_reducible rfl)
 try simp only [Act.put,sQ,tQ,vQ]
 refine wpAnyH_ready (rs:=[20]) (by kernel_rfl) (by simp) ?_;refine AllReadyH.cons (o:=⟨none,.store 38 (.tmp 8) (.tmp 119),0, "l10_typing.go:98",#[⟨18,.data⟩,⟨17,.chain⟩,⟨0,.phase⟩,⟨1,.phase⟩,⟨2,.phase⟩,⟨3,.phase⟩,⟨4,.phase⟩,⟨5,.phase⟩,⟨6,.phase⟩,⟨7,.phase⟩,⟨8,.phase⟩,⟨9,.phase⟩,⟨10,.phase⟩,⟨11,.phase⟩,⟨12,.phase⟩,⟨13,.phase⟩,⟨14,.phase⟩,⟨15,.phase⟩,⟨16,.phase⟩,⟨17,.phase⟩,⟨18,.phase⟩,⟨19,.phase⟩],none⟩) rfl (fun Kc hKc=>?_) AllReadyH.nil;clear hHeld;go_simp;refine hKc _ _ ⟨((World.cell?_setCell_far _ _ _ _ hgn.symm).trans ((World.cell?_setCell_far _ _ _ _ hgn.symm).trans ((World.cell?_setCell_far _ _ _ _ hgn.symm).trans (HUP6.out w3 HP3.out).1))),((World.cell?_setCell_far _ _ _ _ hgn.symm).trans ((World.cell?_setCell_far _ _ _ _ hgn.symm).trans ((World.cell?_setCell_far _ _ _ _ hgn.symm).trans (HUP6.out w3 HP3.out).2.1))),((World.cell?_setCell_far _ _ _ _ hgn.symm).trans ((World.cell?_setCell_far _ _ _ _ hgn.symm).trans ((World.cell?_setCell_far _ _ _ _ hgn.symm).trans (HUP6.out w3 HP3.out).2.2.1))),((World.cell?_setCell_far _ _ _ _ hgp.symm).trans ((World.cell?_setCell_far _ _ _ _ hgp.symm).trans ((World.cell?_setCell_far _ _ _ _ hgp.symm).trans (HUP6.out w3 HP3.out).2.2.2.1))),((World.cell?_setCell_far _ _ _ _ hgp.symm).trans ((World.cell?_setCell_far _ _ _ _ hgp.symm).trans ((World.cell?_setCell_far _ _ _ _ hgp.symm).trans (HUP6.out w3 HP3.out).2.2.2.2.1))),((World.cell?_setCell_far _ _ _ _ hgp.symm).trans ((World.cell?_setCell_far _ _ _ _ hgp.symm).trans ((World.cell?_setCell_far _ _ _ _ hgp.symm).trans (HUP6.out w3 HP3.out).2.2.2.2.2)))⟩ (fun hHeld=>?_);clear hKc Kc
 try simp only [Act.put,sQ,tQ,vQ]
 refine wpAnyH_take (i:=21) (oi:=⟨some 9,.assign (.tmp 120),80, "l10_typing.go:98",#[⟨19,.data⟩,⟨20,.chain⟩,⟨0,.phase⟩,⟨1,.phase⟩,⟨2,.phase⟩,⟨3,.phase⟩,⟨4,.phase⟩,⟨5,.phase⟩,⟨6,.phase⟩,⟨7,.phase⟩,⟨8,.phase⟩,⟨9,.phase⟩,⟨10,.phase⟩,⟨11,.phase⟩,⟨12,.phase⟩,⟨13,.phase⟩,⟨14,.phase⟩,⟨15,.phase⟩,⟨16,.phase⟩,⟨17,.phase⟩,⟨18,.phase⟩,⟨19,.phase⟩,⟨20,.phase⟩],none⟩) (v:=?v21b) rfl (by kernel_rfl) (by kernel_rfl) (by kernel_rfl) (fun _ _ _ h=>h) (Or.inl ⟨by rfl,?y21b⟩) (by assumption) ?r21b
 case y21b=>(intro w' hSw;(try dsimp only at hSw);go_simp;all_goals with_reducible rfl)
 try simp only [Act.put,sQ,tQ,vQ]
 refine wpAnyH_done (by kernel_rfl) ?_ _;refine NoPanic.normal ?_;go_wp2_with fail;generalize hU:(((w3.setCell ⟨H+1+1,0,none⟩ (.int .i64 k)).setCell ⟨H+1+1,1,none⟩ (.slice L n c2)).setCell ⟨H+1+1,2,none⟩ (.slice A2 m d2))=U;have hgU:w3.grownBy U (some (H+1+1)):=by rw [<-hU];exact Zaa (Zaa (Zaa (gQ) _) _) _
 have u1:Box3 U (H+1+1) 38 (.int .i64 k) (.slice L n c2) (.slice A2 m d2):=by
  rw [<-hU];exact ((BR2.out.set0 _).set1 _).set2 _
 have HRR:Hid (PostK K (Zac xs c a [b,f,x]) EV w (.returned (.tuple #[.agg #[.int .i64 k,.slice L n c2,.slice A2 m d2],v])) U):=hQ (by
  exact HPK.out K w U (HB3.out.grown hgU HB3.out.size (fun k hk=>by injection hk with hk;have:=HH.out;omega)) (Held.grown hgU fun g hg=>by injection hg with hg;rw [<-hg];exact HNOT.out) fun i _ h=>HKK.out i h)
 have tt0:=u1.c0;have tt1:=u1.c1;have tt2:=u1.c2;clear hU hgU u1;exact bodyPost_ret (v:=.tuple #[.agg #[.int .i64 k,.slice L n c2,.slice A2 m d2],v]) (by simp [results,Tryz.results81,go_sem,tt0,tt1,tt2]) rfl HRR.out
end Go.Proofs.YtlcedleebbgebaaGreatDoor
