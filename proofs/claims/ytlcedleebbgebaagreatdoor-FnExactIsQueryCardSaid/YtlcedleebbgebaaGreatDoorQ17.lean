/-
  Merged by program: TypI1, TypI2, HasE, TypI3, TypK, Pre2, PairC.
-/
import Derived.Test.YtlcedleebbgebaaGreatDoorQ16
set_option maxRecDepth 100000
set_option maxHeartbeats 1600000
namespace Go.Proofs.YtlcedleebbgebaaGreatDoor
open Go.RowKit
theorem Zsw {q:Int}(h:q≠4)(v:Value)(w:World):(Instr.typeAssert (.iface (kindT q) v) 135 132 true).run Tryz.prog w=.ok (.tuple #[.agg #[.int .i64 0,.slice none 0 0,.slice none 0 0],.bool false]) w:=by
 rcases Zem q with (rfl|rfl|rfl|rfl|rfl)|hk
 ·exact Zrl v w
 ·exact Zrm v w
 ·exact Zrn v w
 ·exact absurd rfl h
 ·exact Zrp v w
 ·rw [hk];exact Zrq v w
theorem Zbl (q:Int)(c1 c2:Value)(L A:Option Addr)(n c m d:Nat)(w:World)(e1:c1=.slice L n c)(e2:c2=.slice A m d):Calls Tryz.prog 58 #[.agg #[.int .i64 q,c1,c2]] w (Truth (decide (q=4)) w):=by
 subst e1 e2;obtain ⟨W1,hW1⟩:∃ W1,w.alloc (.cells #[.int .i64 q,.slice L n c,.slice A m d] 38)=W1:=⟨_,rfl⟩;have hb1:Below w.heap.size w W1:=by rw [<-hW1];exact bQ.alloc nQ _
 have HK:=hQ (Zdl q (.slice L n c) (.slice A m d) W1);have HB1:=hQ hb1;have HW1:=hQ hW1;clear hW1 hb1;by_cases hq:q=4
 ·subst hq
  have a1:=Zro;unfold Zgf at HK;rw [show kindT 4=132 from rfl] at HK;go_enter Tryz.func58,Tryz.ntmps58;go_wp2_with fail;rw [HW1.out];refine HK.out.mono ?_;rintro e w2 ⟨rfl,hb2⟩;have HB2:=hQ (HB1.out.trans (hb2.mono HB1.out.size));clear hb2 HK;go_wp2_with fail;go_ret;exact ⟨rfl,HB2.out.alloc HB2.out.size _⟩
 ·have a1:=Zsw hq
  have HD:Hid (∀ W,Below w.heap.size w W->Truth (decide (q=4)) w (.returned (.bool false)) W):=hQ (fun W hB=>⟨by rw [decide_eq_false hq],hB⟩);unfold Zgf at HK;generalize kindT q=kt at a1 HK;clear hq;go_enter Tryz.func58,Tryz.ntmps58;go_wp2_with fail;rw [HW1.out];refine HK.out.mono ?_;rintro e w2 ⟨rfl,hb2⟩;have HB2:=hQ (HB1.out.trans (hb2.mono HB1.out.size));clear hb2 HK;go_wp2_with fail;go_ret;exact HD.out _ (HB2.out.alloc HB2.out.size _)
def ErrAt (ev:Value)(w:World):Prop:=w.cell? ⟨0,0,none⟩=some ev
theorem ErrAt.keep {ev:Value}{w w':World}(h:ErrAt ev w)(hb:Below w.heap.size w w'):ErrAt ev w':=(hb.cell (World.block_lt_of_cell? w _ h)).trans h
def PostE (o:Option Ty)(ev:Value)(w:World)(e:Ending)(w':World):Prop:=
 Below w.heap.size w w'/\match o with
 | some t=>∃ (k:Int) (L:Option Addr) (n c:Nat) (A:Option Addr) (m d:Nat),e=.returned (.tuple #[.agg #[.int .i64 k,.slice L n c,.slice A m d],.nilIface])/\RTy w' t [.int .i64 k,.slice L n c,.slice A m d]
 | none=>e=.returned (.tuple #[.agg #[.int .i64 0,.slice none 0 0,.slice none 0 0],ev])
theorem Zcw (t:Ty)(b:Bool)(k:Int)(L A:Option Addr)(n c m d:Nat)(w:World)(ev:Value)(h:b=true->RTy w t [.int .i64 k,.slice L n c,.slice A m d])(he:ErrAt ev w):Calls Tryz.prog 82 #[.agg #[.int .i64 k,.slice L n c,.slice A m d],.bool b] w (PostE (ifAny b t) ev w):=by
 obtain ⟨W1,hW1⟩:∃ W1,(w.alloc (.cells #[.int .i64 k,.slice L n c,.slice A m d] 38)).alloc (.cells #[.int .i64 0,.slice none 0 0,.slice none 0 0] 38)=W1:=⟨_,rfl⟩;obtain ⟨H,hH⟩:∃ H,w.heap.size=H:=⟨_,rfl⟩;have b0:Box3 W1 H 38 (.int .i64 k) (.slice L n c) (.slice A m d):=by rw [<-hW1,<-hH];exact (Box3.new w _ _ _ _).alloc _
 have br:Box3 W1 (H+1) 38 (.int .i64 0) (.slice none 0 0) (.slice none 0 0):=by
  rw [<-hW1,<-hH]
  have:=Box3.new (w.alloc (.cells #[.int .i64 k,.slice L n c,.slice A m d] 38)) 38 (.int .i64 0) (.slice none 0 0) (.slice none 0 0)
  simpa using this
 have hb1:Below w.heap.size w W1:=by rw [<-hW1];exact (bQ.alloc nQ _).alloc (by simp) _
 have HB1:=hQ hb1;have HH:=hQ hH;have HW1:=hQ hW1;have BR:=hQ br;have HR:=hQ h;have HE:=hQ (he.keep hb1);have x0:=b0.c0;have x1:=b0.c1;have x2:=b0.c2;have ee:=he.keep hb1;have r0:=br.c0;have r1:=br.c1;have r2:=br.c2;have s0:=br.free 0;have s1:=br.free 1;have s2:=br.free 2;unfold ErrAt at ee;clear h he hW1 b0 br hb1;cases b
 ·go_enter Tryz.func82,Tryz.ntmps82
  go_wp2_with fail
  rw [HW1.out];go_region_law (fail);all_goals (
   go_wp2_with fail
   generalize hU:(((W1.setCell ⟨H+1,0,none⟩ (.int .i64 0)).setCell ⟨H+1,1,none⟩ (.slice none 0 0)).setCell ⟨H+1,2,none⟩ (.slice none 0 0)).drew=U;have hgU:W1.drew.grownBy U (some (H+1)):=by rw [<-hU];exact Zaa (Zaa (Zaa (gQ) _) _) _
   have u1:Box3 U (H+1) 38 (.int .i64 0) (.slice none 0 0) (.slice none 0 0):=by
    rw [<-hU];exact ((BR.out.set0 _).set1 _).set2 _
   have hbU:Below w.heap.size w U:=HB1.out.drew.grown hgU HB1.out.drew.size (fun k hk=>by injection hk with hk;have:=HH.out;omega);have HRR:Hid (PostE none ev w (.returned (.tuple #[.agg #[.int .i64 0,.slice none 0 0,.slice none 0 0],ev])) U):=hQ ⟨hbU,rfl⟩;have tt0:=u1.c0;have tt1:=u1.c1;have tt2:=u1.c2;clear hU hgU u1 hbU r0 r1 r2 s0 s1 s2;exact bodyPost_ret (v:=.tuple #[.agg #[.int .i64 0,.slice none 0 0,.slice none 0 0],ev]) (by simp [results,Tryz.results82,go_sem,tt0,tt1,tt2]) rfl HRR.out)
 ·go_enter Tryz.func82,Tryz.ntmps82
  go_wp2_with fail
  generalize hU:(w.alloc (.cells #[.int .i64 k,.slice L n c,.slice A m d] 38)).alloc (.cells #[.int .i64 k,.slice L n c,.slice A m d] 38)=U;have u1:Box3 U (H+1) 38 (.int .i64 k) (.slice L n c) (.slice A m d):=by
   rw [<-hU,<-HH.out]
   have:=Box3.new (w.alloc (.cells #[.int .i64 k,.slice L n c,.slice A m d] 38)) 38 (.int .i64 k) (.slice L n c) (.slice A m d)
   simpa using this
  have hbU:Below w.heap.size w U:=by rw [<-hU];exact (bQ.alloc nQ _).alloc (by simp) _
  have HRR:Hid (PostE (some t) ev w (.returned (.tuple #[.agg #[.int .i64 k,.slice L n c,.slice A m d],.nilIface])) U):=hQ ⟨hbU,k,L,n,c,A,m,d,rfl,(HR.out (by simp)).keep hbU⟩;have tt0:=u1.c0;have tt1:=u1.c1;have tt2:=u1.c2;clear hU u1 hbU r0 r1 r2 s0 s1 s2;exact bodyPost_ret (v:=.tuple #[.agg #[.int .i64 k,.slice L n c,.slice A m d],.nilIface]) (by simp [results,Tryz.results82,go_sem,tt0,tt1,tt2]) rfl HRR.out
theorem Zhp {w:World}{a:TyA}{ks:List Ty}{L A:Option Addr}{c d:Nat}(hL:Sl w L (a.labels.map Value.string))(hok:a.ok)(h3:ks.length<=9223372036854775807)(h6:ks.length<=d)(hp:RKids w A ks):RTy w (.node a ks) [.int .i64 a.kind,.slice L a.labels.length c,.slice A ks.length d]:=by
 obtain ⟨ps,hp⟩:=hp;refine Reads.node a ks [.int .i64 a.kind,.slice L a.labels.length c] A d ps ?_ rfl h3 (fun j hj=>?_) (fun j t hj=>(hp j t hj).1) h6
 ·exact ⟨L,c,rfl,hL,hok⟩
 ·obtain ⟨h1,ad,h2,h3⟩:=hp j _ (List.getElem?_eq_getElem hj)
  exact ⟨Reads.len h1,ad,h2,h3⟩
theorem Zaag {w:World}{t:Ty}{c0 c1 c2:Value}{ad:Addr}(h:RTy w t [c0,c1,c2])(h0:∀ i u,[c0,c1,c2][i]?=some u->w.cell? (ad.add i)=some u):RKids w (some ad) [t]:=by
 refine ⟨fun _=>[c0,c1,c2],fun j u hj=>?_⟩;have e:j=0:=by
  have:=(List.getElem?_eq_some_iff.1 hj).1
  simp at this
  exact this
 subst e;simp at hj;subst hj;exact ⟨h,ad,rfl,fun i u hi=>by rw [Nat.zero_mul,Nat.zero_add];exact h0 i u hi⟩
theorem RTy.shape3 {w:World}{t:Ty}{c0 c1 c2:Value}(h:RTy w t [c0,c1,c2]):∃ q L n c A m d,c0=.int .i64 q/\c1=.slice L n c/\c2=.slice A m d:=by
 cases t with
 | node a ks=>
  obtain ⟨L,c,A,d,he,_⟩:=h.out;injection he with e0 he
  injection he with e1 he
  injection he with e2 _
  exact ⟨_,_,_,_,_,_,_,e0,e1,e2⟩
theorem Zyy {t:Ty}(h:Zae t=true)(hk:t.top.kind=4):∃ u,t.kids=[u]:=by
 obtain ⟨a,ks⟩:=t;have hk:a.kind=4:=hk;unfold Zae at h;simp only [Bool.and_eq_true] at h;have h1:=h.2.2;rw [Zcr] at h1;simp only [Bool.and_eq_true] at h1;have h2:=h1.2;unfold formA at h2;rw [if_neg (by omega)] at h2;simp only [Bool.and_eq_true,decide_eq_true_eq] at h2;have h3:=h2.2.2;rw [hk] at h3;have h4:ks.length=1:=by
  have:want 4=1:=rfl
  omega
 match ks,h4 with
 | [u],_=>exact ⟨u,rfl⟩
def PostK (K:Nat->Prop)(o:Option Ty)(ev:Value)(w:World)(e:Ending)(w':World):Prop:=
 Below w.heap.size w w'/\match o with
 | some t=>∃ (k:Int) (L:Option Addr) (n c:Nat) (A:Option Addr) (m d:Nat),e=.returned (.tuple #[.agg #[.int .i64 k,.slice L n c,.slice A m d],.nilIface])/\RTy (veil K w') t [.int .i64 k,.slice L n c,.slice A m d]
 | none=>e=.returned (.tuple #[.agg #[.int .i64 0,.slice none 0 0,.slice none 0 0],ev])
theorem PostK.words {K:Nat->Prop}{o:Option Ty}{ev:Value}{w w':World}{e:Ending}(h:PostK K o ev w e w'):∃ (k:Int)(L:Option Addr)(n c:Nat)(A:Option Addr)(m d:Nat)(v:Value),e=.returned (.tuple #[.agg #[.int .i64 k,.slice L n c,.slice A m d],v])/\Below w.heap.size w w'/\
  ∀ (L2:Nat->Prop) (w0 U:World),Below w0.heap.size w0 U->Held K w' U->(∀ i,i < w'.heap.size->K i->L2 i)->PostK L2 o ev w0 e U:=by
 obtain ⟨h1,h2⟩:=h;cases o with
 | none=>exact ⟨0,none,0,0,none,0,0,ev,h2,h1,fun L2 w0 U hb _ _=>⟨hb,h2⟩⟩
 | some t=>
  obtain ⟨k,L,n,c,A,m,d,e1,e2⟩:=h2;exact ⟨k,L,n,c,A,m,d,.nilIface,e1,h1,fun L2 w0 U hb hh hk=>⟨hb,k,L,n,c,A,m,d,e1,e2.sub (Sub.held hh hk)⟩⟩
theorem Zbd (K:Nat->Prop)(t:Ty)(b:Bool)(k:Int)(L A:Option Addr)(n c m d:Nat)(w:World)(ev:Value)(h:b=true->RTy (veil K w) t [.int .i64 k,.slice L n c,.slice A m d])(he:ErrAt ev w):Calls Tryz.prog 82 #[.agg #[.int .i64 k,.slice L n c,.slice A m d],.bool b] w (PostK K (ifAny b t) ev w):=by
 obtain ⟨W1,hW1⟩:∃ W1,(w.alloc (.cells #[.int .i64 k,.slice L n c,.slice A m d] 38)).alloc (.cells #[.int .i64 0,.slice none 0 0,.slice none 0 0] 38)=W1:=⟨_,rfl⟩;obtain ⟨H,hH⟩:∃ H,w.heap.size=H:=⟨_,rfl⟩;have b0:Box3 W1 H 38 (.int .i64 k) (.slice L n c) (.slice A m d):=by rw [<-hW1,<-hH];exact (Box3.new w _ _ _ _).alloc _
 have br:Box3 W1 (H+1) 38 (.int .i64 0) (.slice none 0 0) (.slice none 0 0):=by
  rw [<-hW1,<-hH]
  have:=Box3.new (w.alloc (.cells #[.int .i64 k,.slice L n c,.slice A m d] 38)) 38 (.int .i64 0) (.slice none 0 0) (.slice none 0 0)
  simpa using this
 have hb1:Below w.heap.size w W1:=by rw [<-hW1];exact (bQ.alloc nQ _).alloc (by simp) _
 have HB1:=hQ hb1;have HH:=hQ hH;have HW1:=hQ hW1;have BR:=hQ br;have HR:=hQ h;have HE:=hQ (he.keep hb1);have x0:=b0.c0;have x1:=b0.c1;have x2:=b0.c2;have ee:=he.keep hb1;have r0:=br.c0;have r1:=br.c1;have r2:=br.c2;have s0:=br.free 0;have s1:=br.free 1;have s2:=br.free 2;unfold ErrAt at ee;clear h he hW1 b0 br hb1;cases b
 ·go_enter Tryz.func82,Tryz.ntmps82
  go_wp2_with fail
  rw [HW1.out];go_region_law (fail);all_goals (
   go_wp2_with fail
   generalize hU:(((W1.setCell ⟨H+1,0,none⟩ (.int .i64 0)).setCell ⟨H+1,1,none⟩ (.slice none 0 0)).setCell ⟨H+1,2,none⟩ (.slice none 0 0)).drew=U;have hgU:W1.drew.grownBy U (some (H+1)):=by rw [<-hU];exact Zaa (Zaa (Zaa (gQ) _) _) _
   have u1:Box3 U (H+1) 38 (.int .i64 0) (.slice none 0 0) (.slice none 0 0):=by
    rw [<-hU];exact ((BR.out.set0 _).set1 _).set2 _
   have hbU:Below w.heap.size w U:=HB1.out.drew.grown hgU HB1.out.drew.size (fun k hk=>by injection hk with hk;have:=HH.out;omega);have HRR:Hid (PostK K none ev w (.returned (.tuple #[.agg #[.int .i64 0,.slice none 0 0,.slice none 0 0],ev])) U):=hQ ⟨hbU,rfl⟩;have tt0:=u1.c0;have tt1:=u1.c1;have tt2:=u1.c2;clear hU hgU u1 hbU r0 r1 r2 s0 s1 s2;exact bodyPost_ret (v:=.tuple #[.agg #[.int .i64 0,.slice none 0 0,.slice none 0 0],ev]) (by simp [results,Tryz.results82,go_sem,tt0,tt1,tt2]) rfl HRR.out)
 ·go_enter Tryz.func82,Tryz.ntmps82
  go_wp2_with fail
  generalize hU:(w.alloc (.cells #[.int .i64 k,.slice L n c,.slice A m d] 38)).alloc (.cells #[.int .i64 k,.slice L n c,.slice A m d] 38)=U;have u1:Box3 U (H+1) 38 (.int .i64 k) (.slice L n c) (.slice A m d):=by
   rw [<-hU,<-HH.out]
   have:=Box3.new (w.alloc (.cells #[.int .i64 k,.slice L n c,.slice A m d] 38)) 38 (.int .i64 k) (.slice L n c) (.slice A m d)
   simpa using this
  have hbU:Below w.heap.size w U:=by rw [<-hU];exact (bQ.alloc nQ _).alloc (by simp) _
  have HRR:Hid (PostK K (some t) ev w (.returned (.tuple #[.agg #[.int .i64 k,.slice L n c,.slice A m d],.nilIface])) U):=hQ ⟨hbU,k,L,n,c,A,m,d,rfl,(HR.out (by simp)).sub (Sub.held (Held.of_below hbU fun i hi _=>hi) fun _ _ h=>h)⟩;have tt0:=u1.c0;have tt1:=u1.c1;have tt2:=u1.c2;clear hU u1 hbU r0 r1 r2 s0 s1 s2;exact bodyPost_ret (v:=.tuple #[.agg #[.int .i64 k,.slice L n c,.slice A m d],.nilIface]) (by simp [results,Tryz.results82,go_sem,tt0,tt1,tt2]) rfl HRR.out
section
variable {α:Type}
def pre2:Tr α->Tr α->List (Tr α×Tr α)
 | .node a ks,y=>(.node a ks,y) :: ((ks.attach.zip y.kids).map fun ⟨⟨t,_⟩,u⟩=>pre2 t u).flatten
def pairL (ts us:List (Tr α)):List (Tr α×Tr α):=((ts.zip us).map fun p=>pre2 p.1 p.2).flatten
theorem Zje (x y:Tr α):pre2 x y=(x,y) :: pairL x.kids y.kids:=by
 cases x with
 | node a ks=>
  rw [pre2];unfold pairL
  congr 2
  show _=(ks.zip y.kids).map _
  conv=>rhs;rw [<-List.attach_map_subtype_val ks]
  rw [List.zip_map_left,List.map_map]
  rfl
theorem Zhd (us:List (Tr α)):pairL ([]:List (Tr α)) us=[]:=rfl
theorem Zgd (t u:Tr α)(ts us:List (Tr α)):pairL (t :: ts) (u :: us)=pre2 t u ++ pairL ts us:=rfl
theorem Zxs (t u:Tr α):pairL [t] [u]=pre2 t u:=by rw [Zgd,Zhd,List.append_nil]
abbrev NPStk (α:Type):=List ((List (Tr α)×Value)×(List (Tr α)×Value))
def pairS (S:NPStk α):List (Tr α×Tr α):=(S.map fun p=>pairL p.1.1 p.2.1).flatten
theorem Zii (p:(List (Tr α)×Value)×(List (Tr α)×Value))(S:NPStk α):pairS (p :: S)=pairL p.1.1 p.2.1 ++ pairS S:=rfl
theorem Zui (x y:Tr α)(xs ys:List (Tr α))(s t:Value)(S:NPStk α):pairS (((x :: xs,s),(y :: ys,t)) :: S)=(x,y) :: (pairL x.kids y.kids ++ (pairL xs ys ++ pairS S)):=by
 rw [Zii,Zgd,Zje]
 simp
theorem Zaaw (x y:Tr α):0 < (pre2 x y).length:=by rw [Zje];simp
theorem Zxt (S:NPStk α)(h:∀ p∈S,0 < p.1.1.length/\p.1.1.length=p.2.1.length):S.length<=(pairS S).length:=by
 induction S with
 | nil=>simp
 | cons p S ih=>
  have:=ih fun q hq=>h q (List.mem_cons_of_mem _ hq)
  obtain ⟨h1,h2⟩:=h p (List.mem_cons_self ..);rw [Zii,List.length_append,List.length_cons];obtain ⟨⟨ts,s⟩,⟨us,t⟩⟩:=p
  match ts,us,h1,h2 with
  | t1 :: ts,u1 :: us,_,_=>
   rw [show pairL (((t1 :: ts,s),(u1 :: us,t)):(List (Tr α)×Value)×(List (Tr α)×Value)).1.1 (((t1 :: ts,s),(u1 :: us,t)):(List (Tr α)×Value)×(List (Tr α)×Value)).2.1=pre2 t1 u1 ++ pairL ts us from rfl,List.length_append]
   have:=Zaaw t1 u1
   omega
theorem Zaav:∀ (x y:Tr α)(d:Nat),(pre2 x y).length<=(x.pre d).length:=by
 refine Tr.ind ?_
 intro a ks ih y d
 rw [Zje,Zge,List.length_cons,List.length_cons];have h:∀ (ts us:List (Tr α)),(∀ t∈ts,t∈ks)->(pairL ts us).length<=(preL (d+1) ts).length:=by
  intro ts
  induction ts with
  | nil=>intro us _;simp [pairL]
  | cons t ts iht=>
   intro us hm
   cases us with
   | nil=>simp [pairL]
   | cons u us=>
    have h1:=ih t (hm t (by simp)) u (d+1);have h2:=iht us fun x hx=>hm x (by simp [hx])
    rw [Zgd,Zer,List.length_append,List.length_append]
    omega
 have:=h ks y.kids fun t ht=>ht
 show (pairL ks y.kids).length+1<=_
 omega
theorem Zot:∀ x y:Tr α,x=y↔∀ p∈pre2 x y,p.1.top=p.2.top/\p.1.kids.length=p.2.kids.length:=by
 refine Tr.ind ?_
 intro a ks ih y
 cases y with
 | node b ls=>
 rw [Zje]
 show _↔∀ p∈(Tr.node a ks,Tr.node b ls) :: pairL ks ls,_
 have h:∀ (ts us:List (Tr α)),(∀ t∈ts,t∈ks)->ts.length=us.length->(ts=us↔∀ p∈pairL ts us,p.1.top=p.2.top/\p.1.kids.length=p.2.kids.length):=by
  intro ts
  induction ts with
  | nil=>
   intro us _ hl
   have:us=[]:=List.eq_nil_of_length_eq_zero hl.symm
   subst this;simp [pairL]
  | cons t ts iht=>
   intro us hm hl
   cases us with
   | nil=>simp at hl
   | cons u us=>
    have h1:=ih t (hm t (by simp)) u;have h2:=iht us (fun x hx=>hm x (by simp [hx])) (by simpa using hl);rw [Zgd,List.cons.injEq,h1,h2];simp only [List.mem_append]
    constructor
    ·rintro ⟨k1,k2⟩ p (hp|hp)
     ·exact k1 p hp
     ·exact k2 p hp
    ·intro k
     exact ⟨fun p hp=>k p (.inl hp),fun p hp=>k p (.inr hp)⟩
 constructor
 ·intro e
  injection e with e1 e2
  subst e1 e2
  intro p hp
  rcases List.mem_cons.1 hp with rfl|hp
  ·exact ⟨rfl,rfl⟩
  ·exact (h ks ks (fun _ h=>h) rfl).1 rfl p hp
 ·intro k
  obtain ⟨k1,k2⟩:=k _ (List.mem_cons_self ..);have k1:a=b:=k1;have k2:ks.length=ls.length:=k2
  have:=(h ks ls (fun _ h=>h) k2).2 fun p hp=>k p (List.mem_cons_of_mem _ hp)
  rw [k1,this]
end
section
variable {α:Type}
def PRdN (R:Tr α->List Value->Prop)(a b:Tr α)(k:Nat)(v:Array Value):Prop:=
 ∃ (x y:Tr α) (cs ds:List Value),(pre2 a b)[k]?=some (x,y)/\v=#[.agg cs.toArray,.agg ds.toArray]/\R x cs/\R y ds
theorem PRdN.size {R:Tr α->List Value->Prop}{a b:Tr α}{k:Nat}{v:Array Value}(h:PRdN R a b k v):v.size=2:=by
 obtain ⟨x,y,cs,ds,_,rfl,_⟩:=h
 rfl
def POn (a b:Tr α)(k:Nat):Prop:=∀ x y,(pre2 a b)[k]?=some (x,y)->x.kids.length=y.kids.length
def rowPN (S:NPStk α):List Value:=S.reverse.flatMap fun p=>[p.1.2,p.2.2]
theorem Zes (p:(List (Tr α)×Value)×(List (Tr α)×Value))(S:NPStk α):rowPN (p :: S)=rowPN S ++ [p.1.2,p.2.2]:=by simp [rowPN]
theorem Zyg (S:NPStk α):(rowPN S).length=S.length * 2:=by
 induction S with
 | nil=>rfl
 | cons p S ih=>rw [Zes,List.length_append,ih];simp;omega
def PAllN (R:Tr α->List Value->Prop)(m:Nat)(W:World)(K:Nat->Prop)(S:NPStk α):Prop:=∀ p∈S,NList R m W K p.1.1 p.1.2/\NList R m W K p.2.1 p.2.2/\p.1.1.length=p.2.1.length
def PSt (R:Tr α->List Value->Prop)(m:Nat)(W:World)(K:Nat->Prop)(ty:TypeId)(B:Nat)(J:Nat->(Nat->Prop)->World->Prop)(S:NPStk α)(k:Nat)(v:Value)(wr:World):Prop:=
 PAllN R m W K S/\wr.ownsRow B ty 2 v S.length (rowPN S)/\Held K W wr/\∃ F,J k F wr/\(∀ g,v.ownBlock=some g->¬ F g)/\∀ b,F b->¬ K b
def PInvN (R:Tr α->List Value->Prop)(m:Nat)(W:World)(K:Nat->Prop)(a b:Tr α)(ty:TypeId)(B:Nat)(J:Nat->(Nat->Prop)->World->Prop)(S:NPStk α)(k:Nat)(v:Value)(wr:World):Prop:=
 k<=(pre2 a b).length/\pairS S=(pre2 a b).drop k/\PSt R m W K ty B J S k v wr
theorem PAllN.len {R:Tr α->List Value->Prop}{m:Nat}{W:World}{K:Nat->Prop}{S:NPStk α}(h:PAllN R m W K S):S.length<=(pairS S).length:=
 Zxt S fun p hp=>by
  obtain ⟨⟨_,_,_,_,_,h0,_⟩,_,h2⟩:=h p hp;exact ⟨h0,h2⟩
section
variable {R:Tr α->List Value->Prop} {m:Nat} {W:World} {K:Nat->Prop} {ty:TypeId} {B:Nat} {J:Nat->(Nat->Prop)->World->Prop} {S:NPStk α} {k:Nat} {v:Value} {wr w':World}
theorem PSt.under {sz:Nat}(h:PSt R m W K ty B J S k v wr)(hJ:∀ k F A C,J k F A->Held (fun i=>i < sz∨F i) A C->J k F C)(hb:Below wr.heap.size wr w'):PSt R m W K ty B J S k v w':=by
 obtain ⟨h1,h2,h3,F,h4,h5,h6⟩:=h;exact ⟨h1,Zdw h2 (fun g hg=>hb.block g (h2.lt g hg).2),h3.trans (Held.of_below hb fun i hi _=>hi),F,hJ _ _ _ _ h4 (Held.of_below hb fun i hi _=>hi),h5,h6⟩
theorem PSt.push {sz:Nat}{Keep:Nat->Prop}{wa w4:World}{v4:Value}{ts us:List (Tr α)}{s u:Value}(h:PSt R m W K ty B J S k v wr)(hJ:∀ k F A C,J k F A->Held (fun i=>i < sz∨F i) A C->J k F C)
  (hJB:∀ k F A,J k F A->∀ b,F b->¬ Keep b/\b < A.heap.size) (hsz:sz<=B) (hKB:∀ b,K b->b < B) (hl:NList R m W K ts s) (hl':NList R m W K us u) (hlen:ts.length=us.length) (hb:Below wr.heap.size wr wa)
  (ho:w4.ownsRow B ty 2 v4 (S.length+1) (rowPN S ++ [s,u])) (hg:wa.grownBy w4 v.ownBlock) (hor:v4.ownBlock=v.ownBlock∨∃ q,v4.ownBlock=some q/\wr.heap.size<=q):PSt R m W K ty B J (((ts,s),(us,u)) :: S) k v4 w4:=by
 obtain ⟨h1,h2,h3,F,h4,h5,h6⟩:=h;have hgn:∀ q,v.ownBlock=some q->¬ (q < B):=fun q hq=>by have:=(h2.lt q hq).1;omega
 refine ⟨fun p hp=>?_,by rw [Zes];exact ho,(h3.trans (Held.of_below hb fun i hi _=>hi)).trans (Held.grown hg fun q hq hk=>hgn q hq (hKB q hk)),F,hJ _ _ _ _ h4 ((Held.of_below hb fun i hi _=>hi).trans (Held.grown hg fun q hq hk=>?_)),fun q hq hF=>?_,h6⟩
 ·rcases List.mem_cons.1 hp with rfl|hp
  ·exact ⟨hl,hl',hlen⟩
  ·exact h1 p hp
 ·rcases hk with hk|hk
  ·exact hgn q hq (by omega)
  ·exact h5 q hq hk
 ·rcases hor with e|⟨q',e,hq'⟩
  ·exact h5 q (by rw [<-e];exact hq) hF
  ·rw [e] at hq
   injection hq with hq
   have:=(hJB _ _ _ h4 q hF).2
   omega
end
end
def Zlt {β γ:Type}(A:β->γ->Act)(R:β->γ->World->Prop):Exit->Act->World->Prop
 | .normal,a',w'=>∃ x y,a'=A x y/\R x y w'
 | .ret,_,_=>False
 | .exit _,_,_=>False
 | .goto _,_,_=>False
 | .panic _,_,_=>False
 | .outgrown,_,_=>False
theorem Zdp {β γ:Type}{A:β->γ->Act}{R:β->γ->World->Prop}(x:β)(y:γ) {w:World}(h:R x y w):Zlt A R .normal (A x y) w:=⟨x,y,rfl,h⟩
theorem Zgq {β γ:Type}{F:Fence}{n:Nat}{P:Program}{c:Code}{Q:Exit->Act->World->Prop}{a:Act}{w:World}(A:β->γ->Act)(R:β->γ->World->Prop)
  (h:c.wpIn F n P (Zlt A R) a w) (hq:∀ x y w',R x y w'->Q .normal (A x y) w'):c.wpIn F n P Q a w:=
 wpIn_mono h (by
  rintro e a' w' hr;cases e with
  | normal=>obtain ⟨x,y,rfl,hr⟩:=hr;exact hq x y w' hr
  | ret=>exact hr.elim
  | exit _=>exact hr.elim
  | goto _=>exact hr.elim
  | panic _=>exact hr.elim
  | outgrown=>exact hr.elim)
theorem Zfe {P:Program}{ops:Array Oper}{o:Oper}{a:Act}{w:World}{K:Act->World->Prop}{Q:Exit->Act->World->Prop}{E:Prop}(hgd:o.guard=none)(s x:Operand)(t:TypeId)
  (ho:o.op=.call { callee:=.builtin .append,args:=#[s,x],argTypes:=#[t,t] })
  (base:Nat) (e:TypeId) (i:TypeInfo) (z:Value) (size bytes:Nat) (ht:P.underlying t=some (.slice e)) (hi:P.info? e=some i) (hz:i.zero=some z) (hsize:i.size=size) (hby:i.bytes=bytes) (hzs:z.cells.size=size) (hsz:0 < size)
  (v:Value) (n:Nat) (xs:List Value) (hs:a.eval s=v) (hown:w.ownsRow base e size v n xs) (ad:Addr) (m c:Nat) (news:List Value) (hx:a.eval x=.slice (some ad) m c) (hl:news.length=m * size)
  (hnews:∀ j u,news[j]?=some u->w.cell? (ad.add j)=some u) (h1:∀ u∈news,u.oneCell'=true) (h63:n+m<=maxLen) (hbytes:(n+m) * bytes<=140737488355328) (hbase:base<=w.heap.size)
  (h:∀ v4 w4,w4.ownsRow base e size v4 (n+m) (xs ++ news)->w.grownBy w4 v.ownBlock->(v4.ownBlock=v.ownBlock∨v4.ownBlock=some w.heap.size)->K (a.put o.dst v4) w4) :
  if Region.wanted o (yielded ops a.tmps)=true then Oper.wp P o a w K Q else E:=by
 obtain ⟨v',w',hr,h2,h3,_,h4⟩:=run_append_own_at (P:=P) w base t o.type e i z size bytes ht hi hz hsize hby hzs hsz v n xs hown ad m c news hl hnews h1 h63 hbytes hbase;have hw:Region.wanted o (yielded ops a.tmps)=true:=by simp [Region.wanted,hgd]
 rw [if_pos hw];exact Lib.wp_append_run w s x t t ho _ _ hs hx _ w' hr (h v' w' h2 h3 h4)
end Go.Proofs.YtlcedleebbgebaaGreatDoor
