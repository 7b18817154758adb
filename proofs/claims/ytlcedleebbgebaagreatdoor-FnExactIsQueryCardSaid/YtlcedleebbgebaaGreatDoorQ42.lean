/-
  Merged by program: TypNB, TypI4, TypK3.
-/
import Derived.Test.YtlcedleebbgebaaGreatDoorQ33
import Derived.Test.YtlcedleebbgebaaGreatDoorQ41
import Derived.Deep.RegionLawGrows
set_option maxRecDepth 100000
set_option maxHeartbeats 3200000
set_option linter.all false
namespace Go.Proofs.YtlcedleebbgebaaGreatDoor
open Go.RowKit
theorem Zacm {p:Int}{s:ByteArray}{l n:Nat}(h:(n:Int)=arN p s l):p=1∨p=2∨p=3∨p=7∨p=12∨p=4∨p=5∨(p=6/\n=1)∨(p=8/\n=1)∨(p=9/\n=2)∨(p=10/\n=2)∨(p=11/\n=3)∨(p=13/\n=1)∨(p=14/\n=2)∨(p=15/\n=1)∨(p=16/\n=1):=by
 rcases Nat.eq_zero_or_pos n with h0|h0
 ·subst h0
  unfold arN at h
  split at h
  ·rename_i hh
   rcases hh with hh|hh|hh|hh|hh
   ·exact .inl hh
   ·exact .inr (.inl hh)
   ·exact .inr (.inr (.inl hh))
   ·exact .inr (.inr (.inr (.inl hh)))
   ·exact .inr (.inr (.inr (.inr (.inl hh))))
  split at h
  ·rename_i hh
   exact .inr (.inr (.inr (.inr (.inr (.inl hh)))))
  split at h
  ·rename_i hh
   exact .inr (.inr (.inr (.inr (.inr (.inr (.inl hh))))))
  split at h
  ·exact absurd h (by decide)
  split at h
  ·exact absurd h (by decide)
  split at h
  ·exact absurd h (by decide)
  ·exact absurd h (by decide)
 ·exact .inr (.inr (.inr (.inr (.inr (Znq h h0)))))
theorem Zadp (K:Nat->Prop)(xs:Sc)(c:Cx)(a:TeA)(es:List Te)(ts:List Ty)(A AS:Option Addr)(d ad:Nat)(ev:Value)(w0 w:World)(ss cs:List Value)(hs:RSc w0 xs ss)(h:RTe w0 (.node a es) cs)(hb0:Below w0.heap.size w0 w)(hK0:∀ i,i < w0.heap.size->K i)(hK:∀ i,w.heap.size<=i->K i)(hp:RL kTg (veil K w) A c)(hl:c.length<=1048576)(hk:RKids (veil K w) AS ts)(hkl:ts.length<=ad)(hkm:ts.length<=9223372036854775807)(hv:∀ t∈ts,Zae t=true)(he:ErrAt ev w)(hi:∃ T v,ev=.iface T v)(hf:Tr.formE (.node a es)=true)(hn:ts.length=es.length)(hsw:wSc xs<=1048576) :
  Calls Tryz.prog 81 #[.agg ss.toArray,.slice A c.length d,.agg cs.toArray,.slice AS ts.length ad] w (PostK K (Zac xs c a ts) ev w):=by
 obtain ⟨hark,hfb,_⟩:=Zdu hf;have hnm:a.name.size<=maxLen:=by
  obtain ⟨_,_,_,_,_,_,_,_,_,_,_,hok,_,_,_⟩:=h.out
  have:=hok.2.2.1
  unfold maxLen
  omega
 rw [<-hn] at hark
 rcases Zacm hark with k|k|k|k|k|k|k|⟨k,n⟩|⟨k,n⟩|⟨k,n⟩|⟨k,n⟩|⟨k,n⟩|⟨k,n⟩|⟨k,n⟩|⟨k,n⟩|⟨k,n⟩
 ·exact Zaft K xs c a es ts A AS d ad ev w0 w ss cs hs h hb0 hK0 hK hp hl hk hkl hkm hv he hi k
 ·exact Zafu K xs c a es ts A AS d ad ev w0 w ss cs hs h hb0 hK0 hK hp hl hk hkl hkm hv he hi k
 ·exact Zafv K xs c a es ts A AS d ad ev w0 w ss cs hs h hb0 hK0 hK hp hl hk hkl hkm hv he hi k
 ·exact Zafz K xs c a es ts A AS d ad ev w0 w ss cs hs h hb0 hK0 hK hp hl hk hkl hkm hv he hi k
 ·exact Zadr K xs c a es ts A AS d ad ev w0 w ss cs hs h hb0 hK0 hK hp hl hk hkl hkm hv he hi k hsw hnm
 ·exact Zafw K xs c a es ts A AS d ad ev w0 w ss cs hs h hb0 hK0 hK hp hl hk hkl hkm hv he hi k (Zlr hfb k)
 ·exact Zafx K xs c a es ts A AS d ad ev w0 w ss cs hs h hb0 hK0 hK hp hl hk hkl hkm hv he hi k
 ·obtain ⟨t,e⟩:=len1 n
  exact Zafy K xs c a es ts A AS d ad ev w0 w ss cs hs h hb0 hK0 hK hp hl hk hkl hkm hv he hi k t e
 ·obtain ⟨t,e⟩:=len1 n
  exact Zaga K xs c a es ts A AS d ad ev w0 w ss cs hs h hb0 hK0 hK hp hl hk hkl hkm hv he hi k t e
 ·obtain ⟨f,x,e⟩:=len2 n
  by_cases hb:f.top.kind=4
  ·exact Zub K xs c a es ts A AS d ad ev w0 w ss cs hs h hb0 hK0 hK hp hl hk hkl hkm hv he hi k f x e hb
  ·exact Zxm K xs c a es ts A AS d ad ev w0 w ss cs hs h hb0 hK0 hK hp hl hk hkl hkm hv he hi k f x e hb
 ·obtain ⟨f,x,e⟩:=len2 n
  exact Zadq K xs c a es ts A AS d ad ev w0 w ss cs hs h hb0 hK0 hK hp hl hk hkl hkm hv he hi k f x e
 ·obtain ⟨b,f,x,e⟩:=len3 n
  by_cases hb:b.top.kind=2
  ·exact Zop K xs c a es ts A AS d ad ev w0 w ss cs hs h hb0 hK0 hK hp hl hk hkl hkm hv he hi k b f x e hb
  ·exact Zua K xs c a es ts A AS d ad ev w0 w ss cs hs h hb0 hK0 hK hp hl hk hkl hkm hv he hi k b f x e hb
 ·obtain ⟨t,e⟩:=len1 n
  exact Zads K xs c a es ts A AS d ad ev w0 w ss cs hs h hb0 hK0 hK hp hl hk hkl hkm hv he hi k t e
 ·obtain ⟨f,x,e⟩:=len2 n
  exact Zadt K xs c a es ts A AS d ad ev w0 w ss cs hs h hb0 hK0 hK hp hl hk hkl hkm hv he hi k f x e
 ·obtain ⟨t,e⟩:=len1 n
  exact Zadu K xs c a es ts A AS d ad ev w0 w ss cs hs h hb0 hK0 hK hp hl hk hkl hkm hv he hi k t e
 ·obtain ⟨t,e⟩:=len1 n
  exact Zadv K xs c a es ts A AS d ad ev w0 w ss cs hs h hb0 hK0 hK hp hl hk hkl hkm hv he hi k t e
theorem Zzr (A:Option Addr)(n c:Nat)(w:World)(hc:n<=c)(hn:n<=9223372036854775807):Calls Tryz.prog 146 #[.slice A n c] w (fun e w'=>e=.returned (.slice A n n)/\w'=w):=by
 have h0:(n:Int)<=(c:Int):=by omega
 have h1:(0:Int)<=(n:Int):=by omega
 go_enter Tryz.func146,Tryz.ntmps146
 cases A
 all_goals (
  go_wp2_with fail
  go_ret
  exact ⟨by simp,rfl⟩)
def Zrh (K:Nat->Prop)(c:Cx)(w:World)(e:Ending)(w':World):Prop:=∃ (B:Option Addr)(b:Nat),e=.returned (.slice B c.length b)/\c.length<=b/\RL kTg (veil K w') B c/\Below w.heap.size w w'
def RKk (K:Nat->Prop)(w:World)(A:Option Addr)(ts:List Ty):Prop:=∃ ps:Nat->List Value,∀ j t,ts[j]?=some t->RTy (veil K w) t (ps j)/\∃ ad,A=some ad/\∀ i u,(ps j)[i]?=some u->w.cell? (ad.add (j * 3+i))=some u
theorem Zadk {K:Nat->Prop}{w wr:World}{A:Option Addr}{ks:List Ty}(h:RKk K w A ks)(hb:Below w.heap.size w wr) {k:Nat}(hk:k < ks.length):∃ (ad p:Addr)(c0 c1 c2:Value),A=some ad/\ad.add (k * 3)=p/\RTy (veil K wr) ks[k] [c0,c1,c2]/\wr.cell? p=some c0/\wr.cell? ⟨p.block,p.off+1,none⟩=some c1/\wr.cell? ⟨p.block,p.off+2,none⟩=some c2:=by
 obtain ⟨ps,hp⟩:=h;obtain ⟨hr,ad,hA,hc⟩:=hp k ks[k] (List.getElem?_eq_getElem hk);have hl:(ps k).length=3:=Reads.len hr;have hcell:∀ i u,(ps k)[i]?=some u->wr.cell? (ad.add (k * 3+i))=some u:=fun i u hi=>(hb.cell (World.block_lt_of_cell? w _ (hc i u hi))).trans (hc i u hi)
 obtain ⟨c0,c1,c2,he⟩:∃ c0 c1 c2,ps k=[c0,c1,c2]:=by
  match ps k,hl with
  | [a,b,c],_=>exact ⟨a,b,c,rfl⟩
 rw [he] at hcell hr;refine ⟨ad,_,c0,c1,c2,hA,rfl,hr.sub (Sub.held (Held.of_below hb fun i hi _=>hi) fun _ _ h=>h),hcell 0 _ rfl,?_,?_⟩
 ·rw [<-Zao ad (k * 3) 1 (by omega)];exact hcell 1 _ rfl
 ·rw [<-Zao ad (k * 3) 2 (by omega)];exact hcell 2 _ rfl
theorem Zpt (K:Nat->Prop)(t:Ty)(w:World)(cs:List Value)(ev:Value)(h:RTy (veil K w) t cs)(hv:Zae t=true)(he:ErrAt ev w):Calls Tryz.prog 110 #[.agg cs.toArray] w (PostK K (ifAny (isBag t) (arg t.kids 0)) ev w):=by
 obtain ⟨a,ks⟩:=t;obtain ⟨L,c,A,d,rfl,_,_,_,_,_,_,hp⟩:=h.out;obtain ⟨W1,hW1⟩:∃ W1,(w.alloc (.cells #[.int .i64 a.kind,.slice L a.labels.length c,.slice A ks.length d] 38)).alloc (.cells #[.int .i64 0,.slice none 0 0,.slice none 0 0] 38)=W1:=⟨_,rfl⟩;obtain ⟨H,hH⟩:∃ H,w.heap.size=H:=⟨_,rfl⟩;have b0:Box3 W1 H 38 (.int .i64 a.kind) (.slice L a.labels.length c) (.slice A ks.length d):=by rw [<-hW1,<-hH];exact (Box3.new w _ _ _ _).alloc _
 have br:Box3 W1 (H+1) 38 (.int .i64 0) (.slice none 0 0) (.slice none 0 0):=by
  rw [<-hW1,<-hH]
  have:=Box3.new (w.alloc (.cells #[.int .i64 a.kind,.slice L a.labels.length c,.slice A ks.length d] 38)) 38 (.int .i64 0) (.slice none 0 0) (.slice none 0 0)
  simpa using this
 have hb1:Below w.heap.size w W1:=by rw [<-hW1];exact (bQ.alloc nQ _).alloc (by simp) _
 have HB1:=hQ hb1;have HH:=hQ hH;have HW1:=hQ hW1;have B0:=hQ b0;have BR:=hQ br;have HP:=hQ hp;have HE:=hQ he;have HV:=hQ hv;have HIB:=hQ (Zbl a.kind _ _ L A a.labels.length c ks.length d W1 rfl rfl);have x0:=b0.c0;have x1:=b0.c1;have x2:=b0.c2;have HD:Hid (isBag (Tr.node a ks)=decide (a.kind=4)):=hQ rfl;clear h he hv hW1 b0 br hb1 hp;go_enter Tryz.func110,Tryz.ntmps110;go_wp2_with fail;rw [HW1.out];refine HIB.out.mono ?_;rintro e w2 ⟨rfl,hb2⟩;have HB2:=hQ (HB1.out.trans (hb2.mono HB1.out.size));have B2:=hQ (B0.out.under hb2 B0.out.lt);have BR2:=hQ (BR.out.under hb2 BR.out.lt);have ee:w2.cell? ⟨0,0,none⟩=some ev:=HE.out.keep HB2.out;have r0:=BR2.out.c0;have r1:=BR2.out.c1;have r2:=BR2.out.c2;have s0:=BR2.out.free 0;have s1:=BR2.out.free 1;have s2:=BR2.out.free 2;clear x0 x1 x2 hb2;by_cases hk:a.kind=4
 ·obtain ⟨u,hu⟩:=Zyy HV.out hk
  have hu:ks=[u]:=hu;subst hu;obtain ⟨ad,p,c0,c1,c2,rfl,hpe,hr,q0,q1,q2⟩:=Zal HP.out bQ (k:=0) (by simp);have q0:=(Zad q0).2;have q1:=(Zad q1).2;have q2:=(Zad q2).2;have hpe:ad=p:=by rw [<-hpe];rfl
  subst hpe;have hr:RTy (veil K w) u [c0,c1,c2]:=hr;have q0:=uQ HB2.out q0;have q1:=uQ HB2.out q1;have q2:=uQ HB2.out q2;obtain ⟨q,L9,n9,c9,A9,m9,d9,rfl,rfl,rfl⟩:=hr.shape3;have y2:=B2.out.c2;have hl1:([u]:List Ty).length=1:=rfl;rw [hl1] at *
  have HPP:Hid (PostK K (ifAny (isBag (Tr.node a [u])) (arg (Tr.node a [u]).kids 0)) ev w=PostK K (some u) ev w):=hQ (by rw [HD.out,decide_eq_true hk];rfl);have HR:=hQ hr;rw [decide_eq_true hk];clear hr hk;go_wp2_with fail;generalize hU:((w2.setCell ⟨H+1,0,none⟩ (.int .i64 q)).setCell ⟨H+1,1,none⟩ (.slice L9 n9 c9)).setCell ⟨H+1,2,none⟩ (.slice A9 m9 d9)=U;have hgU:w2.grownBy U (some (H+1)):=by rw [<-hU];exact Zaa (Zaa (Zaa (gQ) _) _) _
  have u1:Box3 U (H+1) 38 (.int .i64 q) (.slice L9 n9 c9) (.slice A9 m9 d9):=by
   rw [<-hU];exact ((BR2.out.set0 _).set1 _).set2 _
  have hbU:Below w.heap.size w U:=HB2.out.grown hgU HB2.out.size (fun k hk=>by injection hk with hk;have:=HH.out;omega);have HRR:Hid (PostK K (some u) ev w (.returned (.tuple #[.agg #[.int .i64 q,.slice L9 n9 c9,.slice A9 m9 d9],.nilIface])) U):=hQ ⟨hbU,q,L9,n9,c9,A9,m9,d9,rfl,HR.out.sub (Sub.held (Held.of_below hbU fun i hi _=>hi) fun _ _ h=>h)⟩;have tt0:=u1.c0;have tt1:=u1.c1;have tt2:=u1.c2;clear hU hgU u1 hbU r0 r1 r2 s0 s1 s2;exact bodyPost_ret (v:=.tuple #[.agg #[.int .i64 q,.slice L9 n9 c9,.slice A9 m9 d9],.nilIface]) (by simp [results,Tryz.results110,go_sem,tt0,tt1,tt2]) rfl (by rw [HPP.out];exact HRR.out)
 ·have HPP:Hid (PostK K (ifAny (isBag (Tr.node a ks)) (arg (Tr.node a ks).kids 0)) ev w=PostK K none ev w):=hQ (by rw [HD.out,decide_eq_false hk];rfl)
  rw [decide_eq_false hk];go_wp2_with fail;go_region_law (fail);all_goals (
   go_wp2_with fail
   generalize hU:(((w2.setCell ⟨H+1,0,none⟩ (.int .i64 0)).setCell ⟨H+1,1,none⟩ (.slice none 0 0)).setCell ⟨H+1,2,none⟩ (.slice none 0 0)).drew=U;have hgU:w2.drew.grownBy U (some (H+1)):=by rw [<-hU];exact Zaa (Zaa (Zaa (gQ) _) _) _
   have u1:Box3 U (H+1) 38 (.int .i64 0) (.slice none 0 0) (.slice none 0 0):=by
    rw [<-hU];exact ((BR2.out.set0 _).set1 _).set2 _
   have hbU:Below w.heap.size w U:=HB2.out.drew.grown hgU HB2.out.drew.size (fun k hk=>by injection hk with hk;have:=HH.out;omega);have HRR:Hid (PostK K none ev w (.returned (.tuple #[.agg #[.int .i64 0,.slice none 0 0,.slice none 0 0],ev])) U):=hQ ⟨hbU,rfl⟩;have tt0:=u1.c0;have tt1:=u1.c1;have tt2:=u1.c2;clear hU hgU u1 hbU r0 r1 r2 s0 s1 s2;exact bodyPost_ret (v:=.tuple #[.agg #[.int .i64 0,.slice none 0 0,.slice none 0 0],ev]) (by simp [results,Tryz.results110,go_sem,tt0,tt1,tt2]) rfl (by rw [HPP.out];exact HRR.out))
theorem Zwa {K:Nat->Prop}{w Z w5:World}{c:Cx}{nm:ByteArray}{ty:Ty}{base:Nat}{B:Option Addr}{b:Nat}{e:TypeId}{cells cs:List Value}(hcl:cells.length=c.length * 4)(hr:∀ j x,c[j]?=some x->kTg.R (veil K w) x (partK 4 cells j))(hy:kTy.R (veil K w) ty cs)(hn:nm.size<=9223372036854775807)
  (hb:Below w.heap.size w Z) (ho5:w5.ownsRow base e 4 (.slice B (c.length+1) b) (c.length+1) (cells ++ (.string nm :: cs))) (hg:Z.grownBy w5 none) (hK:∀ i,w.heap.size<=i->K i) (hbs:w.heap.size<=base):Zrh K (c ++ [(nm,ty)]) w (.returned (.slice B (c.length+1) b)) w5:=by
 have hb5:Below w.heap.size w w5:=hb.grown hg hb.size (fun k hk=>by cases hk);have hsub:Sub (veil K w) (veil K w5):=Sub.held (Held.of_below hb5 fun i hi _=>hi) fun _ _ h=>h
 refine ⟨B,b,by simp,by rw [List.length_append];exact Zfs ho5,?_,hb5⟩;refine Zach (a:=kTg) (e:=e) (base:=base) (n:=c.length+1) (c:=b) (cells:=cells ++ (.string nm :: cs)) (Zft ho5 (Held.veil K w5) fun q hq=>hK q (by have:=(ho5.lt q ((Zam B _ b q).2 hq)).1;omega)) (by simp) fun j x hj=>?_
 by_cases hlt:j < c.length
 ·rw [List.getElem?_append_left hlt] at hj
  show kTg.R (veil K w5) x (partK 4 (cells ++ _) j)
  rw [Zfu hcl hlt];exact Zqb (hr j x hj) hsub
 ·have hjl:=(List.getElem?_eq_some_iff.1 hj).1
  have e1:j=c.length:=by simp at hjl;omega
  subst e1;rw [List.getElem?_append_right nQ] at hj;simp at hj;subst hj;have hd:kTg.R (veil K w) (nm,ty) (.string nm :: cs):=Zgx hn hy
  show kTg.R (veil K w5) (nm,ty) (partK 4 (cells ++ _) c.length)
  rw [Zfv hcl (kTg.len hd)];exact Zqb hd hsub
theorem Ztk (K:Nat->Prop)(A:Option Addr)(d:Nat)(c:Cx)(nm:ByteArray)(ty:Ty)(tk:Int)(TL TA:Option Addr)(tl tc ta td:Nat)(w:World)(hK:∀ i,w.heap.size<=i->K i)(hpv:RL kTg (veil K w) A c)(hd:c.length<=d)(hl:c.length<=1048576)(hn:nm.size<=9223372036854775807)(hyv:kTy.R (veil K w) ty [.int .i64 tk,.slice TL tl tc,.slice TA ta td]) :
  Calls Tryz.prog 109 #[.slice A c.length d,.string nm,.agg #[.int .i64 tk,.slice TL tl tc,.slice TA ta td]] w (Zrh K (c ++ [(nm,ty)]) w):=by
 have hp:=Zeb hpv (Sub.veil K w);have hy:kTy.R w ty [.int .i64 tk,.slice TL tl tc,.slice TA ta td]:=RTy.sub hyv (Sub.veil K w);obtain ⟨i1,hi1,hy0,hy1,hy2⟩:=info_parts Zace;obtain ⟨cells,hcl,hcsv,hc1,hcr⟩:=Zow (a:=kTg) Zmy hpv;have hcs:=hcsv.sub (Sub.veil K w);obtain ⟨W1,hW1⟩:∃ W1,w.alloc (.cells #[.int .i64 tk,.slice TL tl tc,.slice TA ta td] 38)=W1:=⟨_,rfl⟩;obtain ⟨H,hH⟩:∃ H,w.heap.size=H:=⟨_,rfl⟩;have hbox:Box3 W1 H 38 (.int .i64 tk) (.slice TL tl tc) (.slice TA ta td):=by rw [<-hW1,<-hH];exact Box3.new w _ _ _ _
 have hb1:Below w.heap.size w W1:=by rw [<-hW1];exact bQ.alloc nQ _
 have hcl4:cells.length=c.length * 4:=hcl;have hba:Below w.heap.size w (W1.alloc (.cells #[.string nm,.int .i64 tk,.slice TL tl tc,.slice TA ta td] 74)):=hb1.alloc hb1.size _;have hone:∀ u∈[Value.string nm,.int .i64 tk,.slice TL tl tc,.slice TA ta td],u.oneCell'=true:=Zmy (Zgx (w:=w) (x:=(nm,ty)) hn hy);have HCL:=hQ (fun (W:World)=>Zzr A c.length d W hd (by omega));have HNONE:Hid (A=none->c.length=0/\c.length=0):=hQ (fun e=>by
  subst e;cases c with
  | nil=>exact ⟨rfl,rfl⟩
  | cons x c=>
   obtain ⟨ps,hps⟩:=hp;obtain ⟨_,ad,e,_⟩:=hps 0 x rfl;cases e)
 have HOLD:Hid (∀ b,A=some b->∀ j u,cells[j]?=some u->(W1.alloc (.cells #[.string nm,.int .i64 tk,.slice TL tl tc,.slice TA ta td] 74)).drew.cell? (b.add j)=some u):=hQ (fun b e j u hj=>by
  obtain ⟨ad,e2,hc⟩:=(hcs.below hba) j u hj;rw [e] at e2;injection e2 with e2
  subst e2;exact hc)
 have HNEW:Hid (∀ (j:Nat) (u:Value),[Value.string nm,.int .i64 tk,.slice TL tl tc,.slice TA ta td][j]?=some u->(W1.alloc (.cells #[.string nm,.int .i64 tk,.slice TL tl tc,.slice TA ta td] 74)).drew.cell? ((⟨W1.heap.size,0,none⟩:Addr).add j)=some u):=hQ (fun j u hj=>by
  obtain ⟨ad,e2,hc⟩:=Zacg W1 (.string nm) (.int .i64 tk) (.slice TL tl tc) (.slice TA ta td) 74 j u hj;injection e2 with e2
  subst e2;exact hc)
 have HEND:=hQ (fun (w5:World) (B:Option Addr) (b:Nat) ho5 hg5=>Zwa (w5:=w5) (B:=B) (b:=b) (base:=(W1.alloc (.cells #[.string nm,.int .i64 tk,.slice TL tl tc,.slice TA ta td] 74)).drew.heap.size) (e:=74) hcl4 hcr hyv hn hba.drew ho5 hg5 hK hba.drew.size);have x0:=hbox.c0;have x1:=hbox.c1;have x2:=hbox.c2;have j0:=(hbox.alloc (.cells #[.string nm,.int .i64 tk,.slice TL tl tc,.slice TA ta td] 74)).c0;have j1:=(hbox.alloc (.cells #[.string nm,.int .i64 tk,.slice TL tl tc,.slice TA ta td] 74)).c1;have j2:=(hbox.alloc (.cells #[.string nm,.int .i64 tk,.slice TL tl tc,.slice TA ta td] 74)).c2;have HW1:=hQ hW1;clear hp hpv hyv hcsv hK hy hW1 hbox hb1 hba hcs hcr hcl hd;go_enter Tryz.func109,Tryz.ntmps109;go_wp2_with fail;rw [HW1.out];go_region_law (first
  | (go_simp;refine (HCL.out _).mono ?_;rintro e w2 ⟨rfl,rfl⟩)
  | (refine step_append_grows (by rfl) (.tmp 8) (.tmp 12) 45 (by rfl) 74 i1 _ 4 72 Tryz.underlying45 hi1 hy0 hy1 hy2 (by rfl) (by omega) A c.length c.length cells (by rfl) HNONE.out hcl4 HOLD.out ⟨W1.heap.size,0,none⟩ 1 1 [.string nm,.int .i64 tk,.slice TL tl tc,.slice TA ta td] (by rfl) (by rfl) HNEW.out hone (by omega) (by unfold maxLen;omega) (by omega) ?_;intro v5 w5 hown5 hg5;obtain ⟨B,b,rfl⟩:=Zep hown5;have HM:=hQ (HEND.out w5 B b hown5 hg5);clear hown5 hg5))
 all_goals (
  go_wp2_with fail
  go_ret
  exact HM.out)
def Zfl (K:Nat->Prop)(o:Option Cx)(ev:Value)(w:World)(e:Ending)(w':World):Prop:=
 Below w.heap.size w w'/\match o with
 | some c=>∃ (B:Option Addr) (b:Nat),e=.returned (.tuple #[.slice B c.length b,.nilIface])/\c.length<=b/\RL kTg (veil K w') B c
 | none=>∃ (B:Option Addr) (n b:Nat),e=.returned (.tuple #[.slice B n b,ev])
theorem Ztl (K:Nat->Prop)(a:TeA)(ks:List Te)(c:Cx)(known:List Ty)(A KN:Option Addr)(d kd2:Nat)(ev:Value)(w0 w:World)(cs:List Value)(h:RTe w0 (.node a ks) cs)(hb0:Below w0.heap.size w0 w)(hK0:∀ i,i < w0.heap.size->K i)(hK:∀ i,w.heap.size<=i->K i)(hp:RL kTg (veil K w) A c)(hd:c.length<=d)(hl:c.length<=1048576)(hk:RKk K w KN known)(hv:∀ t∈known,Zae t=true)(he:ErrAt ev w) :
  Calls Tryz.prog 80 #[.slice A c.length d,.agg cs.toArray,.slice KN known.length kd2] w (Zfl K (nextC a c known) ev w):=by
 obtain ⟨TL,tc,TA,td,LE,lc0,KA,kd,rfl,hT,_,hok,_,_,_⟩:=h.out;have hTv:RTy (veil K w) a.type _:=hT.sub (Sub.all hb0 hK0);obtain ⟨W1,hW1⟩:∃ W1,w.alloc (.cells #[.int .i64 a.kind,.string a.name,.int .i64 a.num,.int .i64 a.type.top.kind,.slice TL a.type.top.labels.length tc,.slice TA a.type.kids.length td,.slice LE a.labels.length lc0,.slice KA ks.length kd] 49)=W1:=⟨_,rfl⟩;obtain ⟨H,hH⟩:∃ H,w.heap.size=H:=⟨_,rfl⟩;have bt:Box8 W1 H 49 (.int .i64 a.kind) (.string a.name) (.int .i64 a.num) (.int .i64 a.type.top.kind) (.slice TL a.type.top.labels.length tc) (.slice TA a.type.kids.length td) (.slice LE a.labels.length lc0) (.slice KA ks.length kd):=by rw [<-hW1,<-hH];exact Box8.new w _ _ _ _ _ _ _ _ _
 have hb1:Below w.heap.size w W1:=by rw [<-hW1];exact bQ.alloc nQ _
 have HBI:=hQ (fun (W:World) (hB:Below w.heap.size w W) (ty:Ty) (tk:Int) (TL TA:Option Addr) (tl tc ta td:Nat) (hy:kTy.R (veil K W) ty [.int .i64 tk,.slice TL tl tc,.slice TA ta td])=>Ztk K A d c a.name ty tk TL TA tl tc ta td W (fun i hi=>hK i (Nat.le_trans hB.size hi)) (Zeb hp (Sub.held (Held.of_below hB fun i hi _=>hi) fun _ _ h=>h)) hd hl hok.2.2.1 hy);have HTY:=hQ (fun (W:World) (hB:Below w.heap.size w W)=>hTv.sub (Sub.held (Held.of_below hB fun i hi _=>hi) fun _ _ h=>h));have HB1:=hQ hb1;have HW1:=hQ hW1;have HP:=hQ hp;have HD:=hQ hd;have HE:=hQ he;have BT:=hQ bt;have x0:=bt.c0;have x1:=bt.c1;have x3:=bt.c3;have x4:=bt.c4;have x5:=bt.c5;by_cases h13:a.kind=13
 ·have HN:Hid (nextC a c known=some (c ++ [(a.name,a.type)])):=hQ (Zon h13)
  have HC:=hQ (HBI.out W1 hb1 a.type _ _ _ _ _ _ _ (HTY.out W1 hb1));rw [h13] at HW1 x0 ⊢;clear h hp hd hk hv he hT hTv hb0 hK0 hK hok hW1 bt hb1 h13 HBI HTY;go_enter Tryz.func80,Tryz.ntmps80;go_wp2_with fail;rw [HW1.out];refine HC.out.mono ?_;rintro e w2 ⟨B,b,rfl,hb,hr,hb2⟩;have HR:Hid (Zfl K (nextC a c known) ev w (.returned (.tuple #[.slice B (c ++ [(a.name,a.type)]).length b,.nilIface])) w2):=hQ (by rw [HN.out];exact ⟨HB1.out.trans (hb2.mono HB1.out.size),B,b,rfl,hb,hr⟩);clear hb hr hb2;generalize (c ++ [(a.name,a.type)]).length=nl at *
  go_wp2_with fail
  exact bodyPost_ret (v:=.tuple #[.slice B nl b,.nilIface]) (by simp [results,Tryz.results80,go_sem]) rfl HR.out
 ·by_cases h10:a.kind=10/\known.length=1
  ·obtain ⟨h10,hkl⟩:=h10
   obtain ⟨u,rfl⟩:∃ u,known=[u]:=by
    match known,hkl with
    | [u],_=>exact ⟨u,rfl⟩
   have HN:Hid (nextC a c [u]=if isBag u then some (c ++ [(a.name,arg u.kids 0)]) else none):=hQ (Zlx h10);obtain ⟨ad,p,c0,c1,c2,rfl,hpe,hr,q0,q1,q2⟩:=Zadk hk hb1 (k:=0) (by simp);have hpe:ad=p:=by rw [<-hpe];rfl
   subst hpe;have hr:RTy (veil K W1) u [c0,c1,c2]:=hr;have HEL:=hQ (Zpt K u W1 [c0,c1,c2] ev hr (hv u (by simp)) (he.keep hb1));obtain ⟨q,L9,n9,c9,A9,m9,d9,rfl,rfl,rfl⟩:=hr.shape3;have hl1:([u]:List Ty).length=1:=rfl;rw [hl1] at *
   rw [h10] at HW1 x0 ⊢;have jq0:=q0;have jq1:=q1;have jq2:=q2;rw [<-HW1.out] at jq0 jq1 jq2;clear h hp hd hk hv he hT hTv hb0 hK0 hK hok hW1 bt hb1 h13 h10 hkl HTY hr hl1;go_enter Tryz.func80,Tryz.ntmps80;go_wp2_with fail;rw [HW1.out];refine HEL.out.mono ?_;rintro e w2 ⟨hb2,hpe⟩;have BT2:=hQ (BT.out.under hb2 BT.out.lt);have HB2:=hQ (HB1.out.trans (hb2.mono HB1.out.size));have y1:=(BT2.out.alloc (.cells #[.int .i64 0,.slice none 0 0,.slice none 0 0] 38)).c1;clear q0 q1 q2 jq0 jq1 jq2 x0 x1 x3 x4 x5;cases hib:isBag u
   ·rw [hib] at hpe
    have hpe:e=.returned (.tuple #[.agg #[.int .i64 0,.slice none 0 0,.slice none 0 0],ev]):=hpe;subst hpe;have hal:Below w2.heap.size w2 (w2.alloc (.cells #[.int .i64 0,.slice none 0 0,.slice none 0 0] 38)):=bQ.alloc nQ _;have HB3:=hQ (HB2.out.trans (hal.mono HB2.out.size));have bn:=Box3.new w2 38 (.int .i64 0) (.slice none 0 0) (.slice none 0 0);have n0:=bn.c0;have n1:=bn.c1;have n2:=bn.c2;have HC:=hQ (HBI.out _ HB3.out Zap 0 none none 0 0 0 0 (OTy.reads (Zsu _)));have HPP:Hid (Zfl K (nextC a c [u]) ev w=Zfl K none ev w):=hQ (by rw [HN.out,hib];rfl);clear hal bn hb2 hib;go_wp2_with fail;refine HC.out.mono ?_;rintro e w4 ⟨B,b,rfl,hb,hr,hb4⟩;have HR:Hid (Zfl K none ev w (.returned (.tuple #[.slice B (c ++ [(a.name,Zap)]).length b,ev])) w4):=hQ ⟨HB3.out.trans (hb4.mono HB3.out.size),B,_,b,rfl⟩;clear hb hr hb4 n0 n1 n2 y1;generalize (c ++ [(a.name,Zap)]).length=nl at *
    go_wp2_with fail
    exact bodyPost_ret (v:=.tuple #[.slice B nl b,ev]) (by simp [results,Tryz.results80,go_sem]) rfl (by rw [HPP.out];exact HR.out)
   ·rw [hib] at hpe
    obtain ⟨q4,L4,n4,c4,A4,m4,d4,rfl,hr4⟩:=hpe;have y1:=(BT2.out.alloc (.cells #[.int .i64 q4,.slice L4 n4 c4,.slice A4 m4 d4] 38)).c1;have hal:Below w2.heap.size w2 (w2.alloc (.cells #[.int .i64 q4,.slice L4 n4 c4,.slice A4 m4 d4] 38)):=bQ.alloc nQ _;have HB3:=hQ (HB2.out.trans (hal.mono HB2.out.size));have bn:=Box3.new w2 38 (.int .i64 q4) (.slice L4 n4 c4) (.slice A4 m4 d4);have n0:=bn.c0;have n1:=bn.c1;have n2:=bn.c2;have HC:=hQ (HBI.out _ HB3.out (arg u.kids 0) q4 L4 A4 n4 c4 m4 d4 (hr4.sub (Sub.held (Held.of_below hal fun i hi _=>hi) fun _ _ h=>h)));have HPP:Hid (Zfl K (nextC a c [u]) ev w=Zfl K (some (c ++ [(a.name,arg u.kids 0)])) ev w):=hQ (by rw [HN.out,hib];rfl);clear hal bn hb2 hib hr4;go_wp2_with fail;refine HC.out.mono ?_;rintro e w4 ⟨B,b,rfl,hb,hr,hb4⟩;have HR:Hid (Zfl K (some (c ++ [(a.name,arg u.kids 0)])) ev w (.returned (.tuple #[.slice B (c ++ [(a.name,arg u.kids 0)]).length b,.nilIface])) w4):=hQ ⟨HB3.out.trans (hb4.mono HB3.out.size),B,b,rfl,hb,hr⟩;clear hb hr hb4 n0 n1 n2 y1;generalize (c ++ [(a.name,arg u.kids 0)]).length=nl at *
    go_wp2_with fail
    exact bodyPost_ret (v:=.tuple #[.slice B nl b,.nilIface]) (by simp [results,Tryz.results80,go_sem]) rfl (by rw [HPP.out];exact HR.out)
  ·have HN:Hid (Zfl K (nextC a c known) ev w=Zfl K (some c) ev w):=hQ (by unfold nextC;rw [if_neg h13,if_neg h10])
   have HR:Hid (Zfl K (some c) ev w (.returned (.tuple #[.slice A c.length d,.nilIface])) W1):=hQ ⟨hb1,A,d,rfl,hd,Zeb hp (Sub.held (Held.of_below hb1 fun i hi _=>hi) fun _ _ h=>h)⟩;have f13:(a.kind == 13)=false:=by simpa using h13
   have HNN:Hid (a.kind=10->¬ known.length=1):=hQ (fun h h2=>h10 ⟨h,h2⟩);by_cases h1:a.kind=10
   ·have h2:=HNN.out h1
    have f2:¬ (known.length:Int)=1:=by omega
    rw [h1] at HW1 x0 ⊢;generalize known.length=nk at *
    clear h hp hd hk hv he hT hTv hb0 hK0 hK hok hW1 bt hb1 h13 f13 h10 HBI HTY h1 h2;go_enter Tryz.func80,Tryz.ntmps80;go_wp2_with fail;rw [HW1.out];exact bodyPost_ret (v:=.tuple #[.slice A c.length d,.nilIface]) (by simp [results,Tryz.results80,go_sem]) rfl (by rw [HN.out];exact HR.out)
   ·generalize a.kind=q at *
    generalize known.length=nk at *
    clear h hp hd hk hv he hT hTv hb0 hK0 hK hok hW1 bt hb1 f13 h10 HBI HTY HNN;go_enter Tryz.func80,Tryz.ntmps80;go_wp2_with fail;rw [HW1.out];exact bodyPost_ret (v:=.tuple #[.slice A c.length d,.nilIface]) (by simp [results,Tryz.results80,go_sem]) rfl (by rw [HN.out];exact HR.out)
end Go.Proofs.YtlcedleebbgebaaGreatDoor
