/-
  Merged by program: TypS9.
-/
import Derived.Test.YtlcedleebbgebaaGreatDoorQ40
set_option maxRecDepth 100000
set_option maxHeartbeats 16000000
set_option linter.all false
namespace Go.Proofs.YtlcedleebbgebaaGreatDoor
open Go.RowKit
theorem Zpa (xs:Sc)(a:TeA)(ks:List Te)(A:Option Addr)(n d:Nat)(w:World)(ss cs:List Value)(o:Option Ty)(hs:RSc w xs ss)(h:RTe w (.node a ks) cs)(hk:a.kind=13)
  (HS:∀ W,Below w.heap.size w W->Calls Tryz.prog 101 #[.agg ss.toArray,.slice A n d,.agg cs.toArray] W (Zau o W)):Calls Tryz.prog 68 #[.agg ss.toArray,.slice A n d,.agg cs.toArray] w (Zau o w):=by
 obtain ⟨SA,sd,rfl,hsl,hsd,hsp⟩:=hs.open;obtain ⟨TL,tc,TA,td,LE,lc0,KA,kd,rfl,hT,hLb,hok,_,_,hkp⟩:=h.out;obtain ⟨W1,hW1⟩:∃ W1,((w.alloc (.cells #[.slice SA xs.length sd] 43)).alloc (.cells #[.int .i64 a.kind,.string a.name,.int .i64 a.num,.int .i64 a.type.top.kind,.slice TL a.type.top.labels.length tc,.slice TA a.type.kids.length td,.slice LE a.labels.length lc0,.slice KA ks.length kd] 49)).alloc (.cells #[.int .i64 0,.slice none 0 0,.slice none 0 0] 38)=W1:=⟨_,rfl⟩;obtain ⟨H,hH⟩:∃ H,w.heap.size=H:=⟨_,rfl⟩;have bs:Box1 W1 H 43 (.slice SA xs.length sd):=by rw [<-hW1,<-hH];exact ((Box1.new w _ _).alloc _).alloc _
 have bt:Box8 W1 (H+1) 49 (.int .i64 a.kind) (.string a.name) (.int .i64 a.num) (.int .i64 a.type.top.kind) (.slice TL a.type.top.labels.length tc) (.slice TA a.type.kids.length td) (.slice LE a.labels.length lc0) (.slice KA ks.length kd):=by
  rw [<-hW1,<-hH]
  have:=(Box8.new (w.alloc (.cells #[.slice SA xs.length sd] 43)) 49 (.int .i64 a.kind) (.string a.name) (.int .i64 a.num) (.int .i64 a.type.top.kind) (.slice TL a.type.top.labels.length tc) (.slice TA a.type.kids.length td) (.slice LE a.labels.length lc0) (.slice KA ks.length kd)).alloc (.cells #[.int .i64 0,.slice none 0 0,.slice none 0 0] 38)
  simpa using this
 have br:Box3 W1 (H+1+1) 38 (.int .i64 0) (.slice none 0 0) (.slice none 0 0):=by
  rw [<-hW1,<-hH]
  have:=Box3.new ((w.alloc (.cells #[.slice SA xs.length sd] 43)).alloc (.cells #[.int .i64 a.kind,.string a.name,.int .i64 a.num,.int .i64 a.type.top.kind,.slice TL a.type.top.labels.length tc,.slice TA a.type.kids.length td,.slice LE a.labels.length lc0,.slice KA ks.length kd] 49)) 38 (.int .i64 0) (.slice none 0 0) (.slice none 0 0)
  simpa using this
 have hb1:Below w.heap.size w W1:=by rw [<-hW1];exact ((bQ.alloc nQ _).alloc (by simp) _).alloc (by simp;omega) _
 have hs1:W1.heap.size=H+3:=by rw [<-hW1,<-hH];simp
 have HB1:=hQ hb1;have HS1:=hQ hs1;have HH:=hQ hH;have HW1:=hQ hW1;have BR:=hQ br;have HC:=hQ (HS W1 hb1);have x0:=bt.c0;have x1:=bt.c1;have x2:=bt.c2;have x3:=bt.c3;have x4:=bt.c4;have x5:=bt.c5;have x6:=bt.c6;have x7:=bt.c7;have z0:=bs.c0;rw [hk] at HW1 x0 HC ⊢;clear hk hs h hsp hT hLb hok hkp hW1 bs bt br hb1 hs1 hsl hsd HS;go_enter Tryz.func68,Tryz.ntmps68;go_wp2_with fail;rw [HW1.out];go_wp2_with fail;refine HC.out.mono ?_;rintro e w3 ⟨t',ht',hmade⟩;have hb3:Below W1.heap.size W1 w3:=by
  obtain ⟨_,_,_,_,_,_,_,_,hb3⟩:=hmade;exact hb3
 have HBX:=hQ (BR.out.under hb3 BR.out.lt);have HM:=hQ (fun (U:World) (hU:w3.grownBy U (some (H+1+1)))=>Zdv (w:=w) (U:=U) hmade HB1.out (by have:=HS1.out;omega) (by have:=HH.out;omega) hU);obtain ⟨LL,AA,lc,dd,rfl,_⟩:=HM.out w3 (gQ);have HM2:Hid (∀ U:World,w3.grownBy U (some (H+1+1))->Zau o w (.returned (.tuple #[.agg #[.int .i64 ((t',o.isSome)).1.top.kind,.slice LL ((t',o.isSome)).1.top.labels.length lc,.slice AA ((t',o.isSome)).1.kids.length dd],.bool ((t',o.isSome)).2])) U):=hQ (by
  intro U hU
  obtain ⟨L9,A9,c9,d9,e9,h9⟩:=HM.out U hU;injection e9 with e9
  rw [<-e9] at h9;exact (fun h=>⟨t',ht',h⟩) h9)
 generalize ((t',o.isSome)).1.top.kind=y0 at HM2 ⊢;generalize ((t',o.isSome)).1.top.labels.length=y1 at HM2 ⊢;generalize ((t',o.isSome)).1.kids.length=y2 at HM2 ⊢;generalize ((t',o.isSome)).2=bb at HM2 ⊢;have bn:=Box3.new w3 38 (.int .i64 y0) (.slice LL y1 lc) (.slice AA y2 dd);have n0:=bn.c0;have n1:=bn.c1;have n2:=bn.c2;have HBA:=hQ (HBX.out.alloc (.cells #[.int .i64 y0,.slice LL y1 lc,.slice AA y2 dd] 38));have r0:=HBA.out.c0;have r1:=HBA.out.c1;have r2:=HBA.out.c2;have s0:=HBA.out.free 0;have s1:=HBA.out.free 1;have s2:=HBA.out.free 2;clear hmade hb3 HM bn;go_wp2_with fail;generalize hU:(((w3.alloc (.cells #[.int .i64 y0,.slice LL y1 lc,.slice AA y2 dd] 38)).setCell ⟨H+1+1,0,none⟩ (.int .i64 y0)).setCell ⟨H+1+1,1,none⟩ (.slice LL y1 lc)).setCell ⟨H+1+1,2,none⟩ (.slice AA y2 dd)=U;have hgU:w3.grownBy U (some (H+1+1)):=by rw [<-hU];exact Zaa (Zaa (Zaa (Zbk _ _) _) _) _
 have u1:Box3 U (H+1+1) 38 (.int .i64 y0) (.slice LL y1 lc) (.slice AA y2 dd):=by
  rw [<-hU];exact ((HBA.out.set0 _).set1 _).set2 _
 have HRR:=hQ (HM2.out U hgU);have tt0:=u1.c0;have tt1:=u1.c1;have tt2:=u1.c2;clear hU hgU u1 r0 r1 r2 s0 s1 s2 n0 n1 n2;exact bodyPost_ret (v:=.tuple #[.agg #[.int .i64 y0,.slice LL y1 lc,.slice AA y2 dd],.bool bb]) (by simp [results,Tryz.results68,go_sem,tt0,tt1,tt2]) rfl HRR.out
theorem Zoz (xs:Sc)(a:TeA)(ks:List Te)(A:Option Addr)(n d:Nat)(w:World)(ss cs:List Value)(o:Option Ty)(hs:RSc w xs ss)(h:RTe w (.node a ks) cs)(hk:a.kind=10)
  (HS:∀ W,Below w.heap.size w W->Calls Tryz.prog 101 #[.agg ss.toArray,.slice A n d,.agg cs.toArray] W (Zau o W)):Calls Tryz.prog 68 #[.agg ss.toArray,.slice A n d,.agg cs.toArray] w (Zau o w):=by
 obtain ⟨SA,sd,rfl,hsl,hsd,hsp⟩:=hs.open;obtain ⟨TL,tc,TA,td,LE,lc0,KA,kd,rfl,hT,hLb,hok,_,_,hkp⟩:=h.out;obtain ⟨W1,hW1⟩:∃ W1,((w.alloc (.cells #[.slice SA xs.length sd] 43)).alloc (.cells #[.int .i64 a.kind,.string a.name,.int .i64 a.num,.int .i64 a.type.top.kind,.slice TL a.type.top.labels.length tc,.slice TA a.type.kids.length td,.slice LE a.labels.length lc0,.slice KA ks.length kd] 49)).alloc (.cells #[.int .i64 0,.slice none 0 0,.slice none 0 0] 38)=W1:=⟨_,rfl⟩;obtain ⟨H,hH⟩:∃ H,w.heap.size=H:=⟨_,rfl⟩;have bs:Box1 W1 H 43 (.slice SA xs.length sd):=by rw [<-hW1,<-hH];exact ((Box1.new w _ _).alloc _).alloc _
 have bt:Box8 W1 (H+1) 49 (.int .i64 a.kind) (.string a.name) (.int .i64 a.num) (.int .i64 a.type.top.kind) (.slice TL a.type.top.labels.length tc) (.slice TA a.type.kids.length td) (.slice LE a.labels.length lc0) (.slice KA ks.length kd):=by
  rw [<-hW1,<-hH]
  have:=(Box8.new (w.alloc (.cells #[.slice SA xs.length sd] 43)) 49 (.int .i64 a.kind) (.string a.name) (.int .i64 a.num) (.int .i64 a.type.top.kind) (.slice TL a.type.top.labels.length tc) (.slice TA a.type.kids.length td) (.slice LE a.labels.length lc0) (.slice KA ks.length kd)).alloc (.cells #[.int .i64 0,.slice none 0 0,.slice none 0 0] 38)
  simpa using this
 have br:Box3 W1 (H+1+1) 38 (.int .i64 0) (.slice none 0 0) (.slice none 0 0):=by
  rw [<-hW1,<-hH]
  have:=Box3.new ((w.alloc (.cells #[.slice SA xs.length sd] 43)).alloc (.cells #[.int .i64 a.kind,.string a.name,.int .i64 a.num,.int .i64 a.type.top.kind,.slice TL a.type.top.labels.length tc,.slice TA a.type.kids.length td,.slice LE a.labels.length lc0,.slice KA ks.length kd] 49)) 38 (.int .i64 0) (.slice none 0 0) (.slice none 0 0)
  simpa using this
 have hb1:Below w.heap.size w W1:=by rw [<-hW1];exact ((bQ.alloc nQ _).alloc (by simp) _).alloc (by simp;omega) _
 have hs1:W1.heap.size=H+3:=by rw [<-hW1,<-hH];simp
 have HB1:=hQ hb1;have HS1:=hQ hs1;have HH:=hQ hH;have HW1:=hQ hW1;have BR:=hQ br;have HC:=hQ (HS W1 hb1);have x0:=bt.c0;have x1:=bt.c1;have x2:=bt.c2;have x3:=bt.c3;have x4:=bt.c4;have x5:=bt.c5;have x6:=bt.c6;have x7:=bt.c7;have z0:=bs.c0;rw [hk] at HW1 x0 HC ⊢;clear hk hs h hsp hT hLb hok hkp hW1 bs bt br hb1 hs1 hsl hsd HS;go_enter Tryz.func68,Tryz.ntmps68;go_wp2_with fail;rw [HW1.out];go_wp2_with fail;refine HC.out.mono ?_;rintro e w3 ⟨t',ht',hmade⟩;have hb3:Below W1.heap.size W1 w3:=by
  obtain ⟨_,_,_,_,_,_,_,_,hb3⟩:=hmade;exact hb3
 have HBX:=hQ (BR.out.under hb3 BR.out.lt);have HM:=hQ (fun (U:World) (hU:w3.grownBy U (some (H+1+1)))=>Zdv (w:=w) (U:=U) hmade HB1.out (by have:=HS1.out;omega) (by have:=HH.out;omega) hU);obtain ⟨LL,AA,lc,dd,rfl,_⟩:=HM.out w3 (gQ);have HM2:Hid (∀ U:World,w3.grownBy U (some (H+1+1))->Zau o w (.returned (.tuple #[.agg #[.int .i64 ((t',o.isSome)).1.top.kind,.slice LL ((t',o.isSome)).1.top.labels.length lc,.slice AA ((t',o.isSome)).1.kids.length dd],.bool ((t',o.isSome)).2])) U):=hQ (by
  intro U hU
  obtain ⟨L9,A9,c9,d9,e9,h9⟩:=HM.out U hU;injection e9 with e9
  rw [<-e9] at h9;exact (fun h=>⟨t',ht',h⟩) h9)
 generalize ((t',o.isSome)).1.top.kind=y0 at HM2 ⊢;generalize ((t',o.isSome)).1.top.labels.length=y1 at HM2 ⊢;generalize ((t',o.isSome)).1.kids.length=y2 at HM2 ⊢;generalize ((t',o.isSome)).2=bb at HM2 ⊢;have bn:=Box3.new w3 38 (.int .i64 y0) (.slice LL y1 lc) (.slice AA y2 dd);have n0:=bn.c0;have n1:=bn.c1;have n2:=bn.c2;have HBA:=hQ (HBX.out.alloc (.cells #[.int .i64 y0,.slice LL y1 lc,.slice AA y2 dd] 38));have r0:=HBA.out.c0;have r1:=HBA.out.c1;have r2:=HBA.out.c2;have s0:=HBA.out.free 0;have s1:=HBA.out.free 1;have s2:=HBA.out.free 2;clear hmade hb3 HM bn;go_wp2_with fail;generalize hU:(((w3.alloc (.cells #[.int .i64 y0,.slice LL y1 lc,.slice AA y2 dd] 38)).setCell ⟨H+1+1,0,none⟩ (.int .i64 y0)).setCell ⟨H+1+1,1,none⟩ (.slice LL y1 lc)).setCell ⟨H+1+1,2,none⟩ (.slice AA y2 dd)=U;have hgU:w3.grownBy U (some (H+1+1)):=by rw [<-hU];exact Zaa (Zaa (Zaa (Zbk _ _) _) _) _
 have u1:Box3 U (H+1+1) 38 (.int .i64 y0) (.slice LL y1 lc) (.slice AA y2 dd):=by
  rw [<-hU];exact ((HBA.out.set0 _).set1 _).set2 _
 have HRR:=hQ (HM2.out U hgU);have tt0:=u1.c0;have tt1:=u1.c1;have tt2:=u1.c2;clear hU hgU u1 r0 r1 r2 s0 s1 s2 n0 n1 n2;exact bodyPost_ret (v:=.tuple #[.agg #[.int .i64 y0,.slice LL y1 lc,.slice AA y2 dd],.bool bb]) (by simp [results,Tryz.results68,go_sem,tt0,tt1,tt2]) rfl HRR.out
theorem Zyj (xs:Sc)(a:TeA)(A:Option Addr)(n d:Nat)(w:World)(ss cs:List Value)(o:Option Ty)(hs:RSc w xs ss)(h:RTe w (.node a []) cs)(h13:a.kind≠13)(h10:a.kind≠10)
  (HS:∀ W,Below w.heap.size w W->Calls Tryz.prog 102 #[.agg ss.toArray,.slice A n d,.agg cs.toArray] W (Zau o W)):Calls Tryz.prog 68 #[.agg ss.toArray,.slice A n d,.agg cs.toArray] w (Zau o w):=by
 obtain ⟨SA,sd,rfl,hsl,hsd,hsp⟩:=hs.open;obtain ⟨TL,tc,TA,td,LE,lc0,KA,kd,rfl,hT,hLb,hok,_,_,hkp⟩:=h.out;obtain ⟨W1,hW1⟩:∃ W1,((w.alloc (.cells #[.slice SA xs.length sd] 43)).alloc (.cells #[.int .i64 a.kind,.string a.name,.int .i64 a.num,.int .i64 a.type.top.kind,.slice TL a.type.top.labels.length tc,.slice TA a.type.kids.length td,.slice LE a.labels.length lc0,.slice KA 0 kd] 49)).alloc (.cells #[.int .i64 0,.slice none 0 0,.slice none 0 0] 38)=W1:=⟨_,rfl⟩;obtain ⟨H,hH⟩:∃ H,w.heap.size=H:=⟨_,rfl⟩;have bs:Box1 W1 H 43 (.slice SA xs.length sd):=by rw [<-hW1,<-hH];exact ((Box1.new w _ _).alloc _).alloc _
 have bt:Box8 W1 (H+1) 49 (.int .i64 a.kind) (.string a.name) (.int .i64 a.num) (.int .i64 a.type.top.kind) (.slice TL a.type.top.labels.length tc) (.slice TA a.type.kids.length td) (.slice LE a.labels.length lc0) (.slice KA 0 kd):=by
  rw [<-hW1,<-hH]
  have:=(Box8.new (w.alloc (.cells #[.slice SA xs.length sd] 43)) 49 (.int .i64 a.kind) (.string a.name) (.int .i64 a.num) (.int .i64 a.type.top.kind) (.slice TL a.type.top.labels.length tc) (.slice TA a.type.kids.length td) (.slice LE a.labels.length lc0) (.slice KA 0 kd)).alloc (.cells #[.int .i64 0,.slice none 0 0,.slice none 0 0] 38)
  simpa using this
 have br:Box3 W1 (H+1+1) 38 (.int .i64 0) (.slice none 0 0) (.slice none 0 0):=by
  rw [<-hW1,<-hH]
  have:=Box3.new ((w.alloc (.cells #[.slice SA xs.length sd] 43)).alloc (.cells #[.int .i64 a.kind,.string a.name,.int .i64 a.num,.int .i64 a.type.top.kind,.slice TL a.type.top.labels.length tc,.slice TA a.type.kids.length td,.slice LE a.labels.length lc0,.slice KA 0 kd] 49)) 38 (.int .i64 0) (.slice none 0 0) (.slice none 0 0)
  simpa using this
 have hb1:Below w.heap.size w W1:=by rw [<-hW1];exact ((bQ.alloc nQ _).alloc (by simp) _).alloc (by simp;omega) _
 have hs1:W1.heap.size=H+3:=by rw [<-hW1,<-hH];simp
 have HB1:=hQ hb1;have HS1:=hQ hs1;have HH:=hQ hH;have HW1:=hQ hW1;have BR:=hQ br;have HC:=hQ (HS W1 hb1);have hk0:([]:List Te).length=0:=rfl;rw [hk0] at *
 have x0:=bt.c0;have x1:=bt.c1;have x2:=bt.c2;have x3:=bt.c3;have x4:=bt.c4;have x5:=bt.c5;have x6:=bt.c6;have x7:=bt.c7;have z0:=bs.c0;generalize a.kind=kq at *
 have h13b:(kq == 13)=false:=by simpa using h13
 have h10b:(kq == 10)=false:=by simpa using h10
 clear hs h hsp hT hLb hok hkp hW1 bs bt br hb1 hs1 hsl hsd HS hk0;go_enter Tryz.func68,Tryz.ntmps68;go_wp2_with fail;rw [HW1.out];go_wp2_with fail;refine HC.out.mono ?_;rintro e w3 ⟨t',ht',hmade⟩;have hb3:Below W1.heap.size W1 w3:=by
  obtain ⟨_,_,_,_,_,_,_,_,hb3⟩:=hmade;exact hb3
 have HBX:=hQ (BR.out.under hb3 BR.out.lt);have HM:=hQ (fun (U:World) (hU:w3.grownBy U (some (H+1+1)))=>Zdv (w:=w) (U:=U) hmade HB1.out (by have:=HS1.out;omega) (by have:=HH.out;omega) hU);obtain ⟨LL,AA,lc,dd,rfl,_⟩:=HM.out w3 (gQ);have HM2:Hid (∀ U:World,w3.grownBy U (some (H+1+1))->Zau o w (.returned (.tuple #[.agg #[.int .i64 ((t',o.isSome)).1.top.kind,.slice LL ((t',o.isSome)).1.top.labels.length lc,.slice AA ((t',o.isSome)).1.kids.length dd],.bool ((t',o.isSome)).2])) U):=hQ (by
  intro U hU
  obtain ⟨L9,A9,c9,d9,e9,h9⟩:=HM.out U hU;injection e9 with e9
  rw [<-e9] at h9;exact (fun h=>⟨t',ht',h⟩) h9)
 generalize ((t',o.isSome)).1.top.kind=y0 at HM2 ⊢;generalize ((t',o.isSome)).1.top.labels.length=y1 at HM2 ⊢;generalize ((t',o.isSome)).1.kids.length=y2 at HM2 ⊢;generalize ((t',o.isSome)).2=bb at HM2 ⊢;have bn:=Box3.new w3 38 (.int .i64 y0) (.slice LL y1 lc) (.slice AA y2 dd);have n0:=bn.c0;have n1:=bn.c1;have n2:=bn.c2;have HBA:=hQ (HBX.out.alloc (.cells #[.int .i64 y0,.slice LL y1 lc,.slice AA y2 dd] 38));have r0:=HBA.out.c0;have r1:=HBA.out.c1;have r2:=HBA.out.c2;have s0:=HBA.out.free 0;have s1:=HBA.out.free 1;have s2:=HBA.out.free 2;clear hmade hb3 HM bn;go_wp2_with fail;generalize hU:(((w3.alloc (.cells #[.int .i64 y0,.slice LL y1 lc,.slice AA y2 dd] 38)).setCell ⟨H+1+1,0,none⟩ (.int .i64 y0)).setCell ⟨H+1+1,1,none⟩ (.slice LL y1 lc)).setCell ⟨H+1+1,2,none⟩ (.slice AA y2 dd)=U;have hgU:w3.grownBy U (some (H+1+1)):=by rw [<-hU];exact Zaa (Zaa (Zaa (Zbk _ _) _) _) _
 have u1:Box3 U (H+1+1) 38 (.int .i64 y0) (.slice LL y1 lc) (.slice AA y2 dd):=by
  rw [<-hU];exact ((HBA.out.set0 _).set1 _).set2 _
 have HRR:=hQ (HM2.out U hgU);have tt0:=u1.c0;have tt1:=u1.c1;have tt2:=u1.c2;clear hU hgU u1 r0 r1 r2 s0 s1 s2 n0 n1 n2;exact bodyPost_ret (v:=.tuple #[.agg #[.int .i64 y0,.slice LL y1 lc,.slice AA y2 dd],.bool bb]) (by simp [results,Tryz.results68,go_sem,tt0,tt1,tt2]) rfl HRR.out
theorem Zwx:∀ ks:List Te,ks.length<=(ks.map Tr.size).sum
 | []=>by simp
 | k :: ks=>by
  have h1:=Zwx ks;have h2:1<=k.size:=by obtain ⟨a,l⟩:=k;show 1<=Tr.sum _ _;rw [Tr.sum_node];omega
  simp only [List.map_cons,List.sum_cons,List.length_cons]
  omega
theorem Zjx (a:TeA)(ks:List Te):ks.length+1<=(Tr.node a ks).size:=by
 have h:(Tr.node a ks).size=1+(ks.map Tr.size).sum:=Tr.sum_node _ a ks
 have:=Zwx ks
 omega
theorem Zyl {xs:Sc}{a:TeA}{ks:List Te}{c:Cx}{k:Nat}(h:Zan a c ((ks.take k).map (Tr.typ xs)) []=none):someT xs c a ks=none:=by
 unfold someT;have e:ks.map (Tr.typ xs)=(ks.take k).map (Tr.typ xs) ++ (ks.drop k).map (Tr.typ xs):=by rw [<-List.map_append,List.take_append_drop]
 rw [e,Zdr,h]
 rfl
theorem Zko {xs:Sc}{a:TeA}{ks:List Te}{c:Cx}{ts:List Ty}(h:Known xs a ks c ks.length ts):someT xs c a ks=Zac xs c a ts:=by
 unfold Known at h;rw [List.take_length] at h;unfold someT;rw [h]
 rfl
def Zpp (xs:Sc)(a:TeA)(ks:List Te)(c:Cx)(W1:World)(v i:Value)(wr:World):Prop:=
 ∃ (k:Nat) (ts:List Ty) (A:Option Addr) (d:Nat) (cells:List Value) (fs:Nat->List Nat) (fp:List Nat),k<=ks.length/\i=.int .i64 (k:Int)/\v=.slice A k d/\ts.length=k/\Known xs a ks c k ts/\OLc kTy 38 wr ts A d cells fs fp/\(∀ b∈fp,W1.heap.size<=b/\b < wr.heap.size)/\Below W1.heap.size W1 wr
theorem Zyk {xs:Sc}{a:TeA}{ks:List Te}{c:Cx}{W1 wr W w4:World}{k P:Nat}{ts:List Ty}{t:Ty}{A A4:Option Addr}{d d4:Nat}{cells:List Value}{fs:Nat->List Nat}{fp fx:List Nat}{y0:Int}{L9 A9:Option Addr}{y1 l9 y2 d9:Nat}{o:Obj}{i:Value}
  (hk:k < ks.length) (hm:ks.length<=1048576) (hi:i=.int .i64 ((k+1:Nat):Int)) (htl:ts.length=k) (hkn:Known xs a ks c (k+1) (ts ++ [t])) (hol:OLc kTy 38 wr ts A d cells fs fp) (hfp:∀ b∈fp,W1.heap.size<=b/\b < wr.heap.size) (hb:Below W1.heap.size W1 wr)
  (hbW:Below wr.heap.size wr W) (hot:OTy W t [.int .i64 y0,.slice L9 y1 l9,.slice A9 y2 d9] fx) (hfx:∀ b∈fx,wr.heap.size<=b/\b < W.heap.size/\b≠P)
  (hown:w4.ownsRow 0 38 3 (.slice A4 (k+1) d4) (k+1) (cells ++ [.int .i64 y0,.slice L9 y1 l9,.slice A9 y2 d9])) (hgr:(W.alloc o).grownBy w4 (Value.slice A k d).ownBlock)
  (hor:(Value.slice A4 (k+1) d4).ownBlock=(Value.slice A k d).ownBlock∨(Value.slice A4 (k+1) d4).ownBlock=some (W.alloc o).heap.size):Zpp xs a ks c W1 (.slice A4 (k+1) d4) i w4:=by
 have hs2:=hbW.size;have hs1:=hb.size;have hs3:(W.alloc o).heap.size=W.heap.size+1:=by simp
 have hb3:Below wr.heap.size wr (W.alloc o):=hbW.alloc hs2 _;have hs4:=hgr.size;have h3:=hol.under hb3;have hx3:kTy.O (W.alloc o) t [.int .i64 y0,.slice L9 y1 l9,.slice A9 y2 d9] fx:=kTy.under hot (bQ.alloc nQ _);subst htl;obtain ⟨fs',fp',h4,hf4⟩:=Zue (A':=A4) (d':=d4) h3 (by omega) hx3 (fun b hb1 hb2=>by have:=hfx b hb1;have:=hfp b hb2;omega) (fun b hb1=>by have:=hfx b hb1;omega) (fun b hb1=>by have:=hfp b hb1;omega) hown hgr hor;have hgb:∀ b,(Value.slice A ts.length d).ownBlock=some b->W1.heap.size<=b:=fun b hm=>by
  have hbm:b∈blk A:=(Zam A ts.length d b).1 hm;exact (hfp b (by rw [hol.2.2.2.1];simp [hbm])).1
 refine ⟨ts.length+1,ts ++ [t],A4,d4,_,fs',fp',hk,hi,rfl,by simp,hkn,h4,fun b hm=>?_,((hb.trans (hb3.mono hs1)).grown hgr (by omega) hgb)⟩;obtain ⟨h5,h6⟩:=hf4 b hm
 rcases h5 with h5|h5|h5
 ·have:=hfp b h5;omega
 ·have:=hfx b h5;omega
 ·omega
theorem Zaff {F:List Nat}{o:Option Ty}{w W w3:World}{e:Ending}{G:Nat}(h:Zbe F o W e w3)(hB:Below w.heap.size w W)(hF:∀ b∈F,G < b/\b < W.heap.size)(hwG:w.heap.size<=G)(hG:G < W.heap.size) :
  ∃ (t:Ty) (L A:Option Addr) (c d:Nat),(∀ u,o=some u->t=u)/\e=.returned (.tuple #[.agg #[.int .i64 t.top.kind,.slice L t.top.labels.length c,.slice A t.kids.length d],.bool o.isSome])/\Below W.heap.size W w3/\∀ U,w3.grownBy U (some G)->Zau o w (.returned (.tuple #[.agg #[.int .i64 t.top.kind,.slice L t.top.labels.length c,.slice A t.kids.length d],.bool o.isSome])) U:=by
 obtain ⟨t,L,A,c,d,fp,h1,rfl,hot,hfp,hb3⟩:=h;refine ⟨t,L,A,c,d,h1,rfl,hb3,fun U hU=>⟨t,h1,L,A,c,d,fp,rfl,hot.keep hU (fun b hm e=>?_),fun b hm=>?_,(hB.trans (hb3.mono hB.size)).grown hU (by have:=hb3.size;omega) (fun k hk=>by injection hk with hk;omega)⟩⟩
 ·injection e with e
  rcases hfp b hm with h|h
  ·have:=hF b h;omega
  ·omega
 ·have:=hU.size
  have:=hb3.size
  rcases hfp b hm with h|h
  ·have:=hF b h;omega
  ·omega
theorem Zuq (xs:Sc)(a:TeA)(ks:List Te)(IH:∀ t∈ks,TypK xs t)(A:Option Addr)(d:Nat)(c:Cx)(w:World)(ss cs:List Value)(hs:RSc w xs ss)(hc:RL kTg w A c)(h:RTe w (.node a ks) cs)(hsz:c.length+(Tr.node a ks).size<=1000)(hcw:∀ x∈c,wt x.2<=1048576)(hf:Tr.formE (.node a ks)=true)(hwt:wte (.node a ks)<=1048576)(h13:a.kind≠13)(h10:a.kind≠10)(hne:0 < ks.length) :
  Calls Tryz.prog 68 #[.agg ss.toArray,.slice A c.length d,.agg cs.toArray] w (Zau (someT xs c a ks) w):=by
 obtain ⟨i1,hi1,hy0,hy1,hy2⟩:=info_parts Zlu;have hkm:ks.length<=1000:=by have:=Zjx a ks;omega
 obtain ⟨hark,_,hfk⟩:=Zdu hf;have hll:a.labels.length<=1048576:=(Zhw hwt).2.2.1;have hrte:=h;obtain ⟨SA,sd,rfl,hsl,hsd,hsp⟩:=hs.open;obtain ⟨TL,tc,TA,td,LE,lc0,KA,kd,rfl,hT,hLb,hok,_,_,hkp⟩:=h.out;obtain ⟨W1,hW1⟩:∃ W1,((w.alloc (.cells #[.slice SA xs.length sd] 43)).alloc (.cells #[.int .i64 a.kind,.string a.name,.int .i64 a.num,.int .i64 a.type.top.kind,.slice TL a.type.top.labels.length tc,.slice TA a.type.kids.length td,.slice LE a.labels.length lc0,.slice KA ks.length kd] 49)).alloc (.cells #[.int .i64 0,.slice none 0 0,.slice none 0 0] 38)=W1:=⟨_,rfl⟩;obtain ⟨H,hH⟩:∃ H,w.heap.size=H:=⟨_,rfl⟩;have bs:Box1 W1 H 43 (.slice SA xs.length sd):=by rw [<-hW1,<-hH];exact ((Box1.new w _ _).alloc _).alloc _
 have bt:Box8 W1 (H+1) 49 (.int .i64 a.kind) (.string a.name) (.int .i64 a.num) (.int .i64 a.type.top.kind) (.slice TL a.type.top.labels.length tc) (.slice TA a.type.kids.length td) (.slice LE a.labels.length lc0) (.slice KA ks.length kd):=by
  rw [<-hW1,<-hH]
  have:=(Box8.new (w.alloc (.cells #[.slice SA xs.length sd] 43)) 49 (.int .i64 a.kind) (.string a.name) (.int .i64 a.num) (.int .i64 a.type.top.kind) (.slice TL a.type.top.labels.length tc) (.slice TA a.type.kids.length td) (.slice LE a.labels.length lc0) (.slice KA ks.length kd)).alloc (.cells #[.int .i64 0,.slice none 0 0,.slice none 0 0] 38)
  simpa using this
 have br:Box3 W1 (H+1+1) 38 (.int .i64 0) (.slice none 0 0) (.slice none 0 0):=by
  rw [<-hW1,<-hH]
  have:=Box3.new ((w.alloc (.cells #[.slice SA xs.length sd] 43)).alloc (.cells #[.int .i64 a.kind,.string a.name,.int .i64 a.num,.int .i64 a.type.top.kind,.slice TL a.type.top.labels.length tc,.slice TA a.type.kids.length td,.slice LE a.labels.length lc0,.slice KA ks.length kd] 49)) 38 (.int .i64 0) (.slice none 0 0) (.slice none 0 0)
  simpa using this
 have hb1:Below w.heap.size w W1:=by rw [<-hW1];exact ((bQ.alloc nQ _).alloc (by simp) _).alloc (by simp;omega) _
 have hs1:W1.heap.size=H+3:=by rw [<-hW1,<-hH];simp
 have HB1:=hQ hb1;have HS1:=hQ hs1;have HH:=hQ hH;have HW1:=hQ hW1;have BR:=hQ br;have HSC:=hQ (fun (W:World) (hB:Below w.heap.size w W)=>hs.keep hB);have HCX:=hQ (fun (W:World) (hB:Below w.heap.size w W)=>hc.keep hB);have HRT:=hQ (fun (W:World) (hB:Below w.heap.size w W)=>hrte.keep hB);have HKP:=hQ (hkp.keep hb1);have HBX1:=hQ (fun (W:World) (hB:Below W1.heap.size W1 W)=>bt.under hB bt.lt);have HBS1:=hQ (fun (W:World) (hB:Below W1.heap.size W1 W)=>bs.under hB bs.lt);have HIH:=hQ IH;have HCW:=hQ hcw;have HFK:=hQ hfk;have HWTE:=hQ hwt;have HARK:=hQ hark;have hcl:c.length<=1000:=by omega
 have HSZ:=hQ hsz;obtain ⟨W2,hW2⟩:∃ W2,W1.alloc (.cells #[] 38)=W2:=⟨_,rfl⟩;have hs2:W2.heap.size=H+4:=by rw [<-hW2];simp [hs1]
 have hrow2:W2.ownsRow W1.heap.size 38 3 (.slice (some ⟨H+3,0,none⟩) 0 0) 0 []:=by
  rw [<-hW2,<-hs1];exact World.ownsRow_made (base:=W1.heap.size) (size:=3) (e:=38) W1 #[] 0 nQ (by unfold maxLen;omega) (by simp)
 have hb12:Below W1.heap.size W1 W2:=by rw [<-hW2];exact bQ.alloc nQ _
 have HINV:Hid (Zpp xs a ks c W1 (.slice (some ⟨H+3,0,none⟩) 0 0) (.int .i64 0) W2):=hQ ⟨0,[],some ⟨H+3,0,none⟩,0,[],fun _=>[],_,Nat.zero_le _,rfl,rfl,rfl,Zih xs a ks c,Zady kTy _ W2 hrow2,fun b hm=>by have:=hrow2.lt b ((Zam _ 0 0 b).2 hm);omega,hb12⟩;have HW2:=hQ hW2;have x0:=bt.c0;have x1:=bt.c1;have x2:=bt.c2;have x3:=bt.c3;have x4:=bt.c4;have x5:=bt.c5;have x6:=bt.c6;have x7:=bt.c7;have z0:=bs.c0;have H13:=hQ h13;have H10:=hQ h10;obtain ⟨kq,hkq⟩:∃ kq,a.kind=kq:=⟨_,rfl⟩;rw [hkq] at HW1 x0 HBX1 h13 h10 ⊢;obtain ⟨nk,hnk⟩:∃ nk,ks.length=nk:=⟨_,rfl⟩;have HNK:=hQ hnk;have HKQ:=hQ hkq;rw [hnk] at HW1 x7 HBX1 hkm hne ⊢;have h13b:(kq == 13)=false:=by simpa using h13
 have h10b:(kq == 10)=false:=by simpa using h10
 have hn0:((nk:Int) == 0)=false:=by simpa using (show ¬ (nk:Int)=0 by omega)
 have hn1:¬ (nk:Int)=0:=by omega
 clear hs hc h hrte hsp hT hLb hok hkp hW1 bs bt br hb1 hs1 hsl hsd IH hcw hf hfk hark hwt hsz h13 h10 hkq hnk hrow2 hb12 hs2 hW2;go_enter Tryz.func68,Tryz.ntmps68;go_wp2_with fail;rw [HW1.out];go_wp2_with fail;rw [HW2.out];clear x0 x1 x2 x3 x4 x5 x6 x7 z0 hn0 hn1 h13b h10b;go_loopw [12,13] (fun v i wr=>Zpp xs a ks c W1 v i wr) (fun _ i _=>nk - (intOf i).toNat)
 case atStart=>exact HINV.out
 case round=>
  obtain ⟨k,ts,A',d',cells,fs,fp,hk,rfl,rfl,htl,hkn,hol,hfp,hb⟩:=hrel;rw [HNK.out] at hk;have bx:=HBX1.out wr hb;have bss:=HBS1.out wr hb;have x7:=bx.c7;have zs:=bss.c0;have HBw:=hQ (HB1.out.trans (hb.mono HB1.out.size));by_cases hlt:k < nk
  ·have hlk:k < ks.length:=by rw [HNK.out];exact hlt
   obtain ⟨ad,p,k0,k1,k2,k3,k4,k5,k6,k7,rfl,hpe,hkt,q0,q1,q2,q3,q4,q5,q6,q7⟩:=Zfj HKP.out hb hlk;obtain ⟨o,ho⟩:∃ o,Tr.typ xs ks[k] c=o:=⟨_,rfl⟩;have hmem:ks[k]∈ks:=List.getElem_mem hlk;have HT:Hid (∀ (W:World) (_:Below wr.heap.size wr W),Calls Tryz.prog 32 #[.agg #[.slice SA xs.length sd],.slice A c.length d,.agg #[k0,k1,k2,k3,k4,k5,k6,k7]] W (MadeP (optP o) W)):=hQ (fun W hB=>by
    have hB0:=HBw.out.trans (hB.mono HBw.out.size);have hh:=HIH.out ks[k] hmem W c A d _ [k0,k1,k2,k3,k4,k5,k6,k7] (HSC.out W hB0) (HCX.out W hB0) (hkt.keep hB) (by have:=HSZ.out;have:=Zdz (a:=a) hmem;omega) HCW.out (HFK.out _ hmem) (Nat.le_trans (Zig hmem) HWTE.out);rw [ho] at hh;exact hh)
   have hnc:nextC a c ts=some c:=Zqk H13.out H10.out;have HNO:Hid (o=none->someT xs c a ks=none):=hQ (fun e=>Zyl (k:=k+1) (by rw [Zfz hkn hlk,hnc];simp only;rw [ho,e]));have HYES:Hid (∀ t,o=some t->Known xs a ks c (k+1) (ts ++ [t])):=hQ (fun t e=>Zlw hkn hlk hnc (ho.trans e));have hi0:(0:Int)<=(k:Int):=by omega
   have hi1':(k:Int) < (nk:Int):=by omega
   have UP:Hid (∀ W,Below wr.heap.size wr W->W.cell? ⟨H,0,none⟩=some (.slice SA xs.length sd)/\W.cell? ⟨H+1,7,none⟩=some (.slice (some ad) nk kd)/\W.cell? p=some k0/\W.cell? ⟨p.block,p.off+1,none⟩=some k1/\W.cell? ⟨p.block,p.off+2,none⟩=some k2/\W.cell? ⟨p.block,p.off+3,none⟩=some k3/\W.cell? ⟨p.block,p.off+4,none⟩=some k4/\W.cell? ⟨p.block,p.off+5,none⟩=some k5/\W.cell? ⟨p.block,p.off+6,none⟩=some k6/\W.cell? ⟨p.block,p.off+7,none⟩=some k7):=hQ (fun W hB=>⟨uQ hB zs,uQ hB x7,uQ hB q0,uQ hB q1,uQ hB q2,uQ hB q3,uQ hB q4,uQ hB q5,uQ hB q6,uQ hB q7⟩);have HOL:=hQ hol;have HFP:=hQ hfp;have HB:=hQ hb;have HTL:=hQ htl;have hdd:k < nk:=hlt;clear hkt ho hmem hnc hkn hol hfp hb htl bx bss q0 q1 q2 q3 q4 q5 q6 q7;go_wp2_with fail;clear x7 zs;obtain ⟨WZ,hWZ⟩:∃ WZ,wr.heap.size=WZ:=⟨_,rfl⟩;have HWZ:=hQ hWZ;clear hWZ;apply Zjd (R:=fun P y0 L9 y1 l9 A9 y2 d9 bb B bd W=>BindR wr WZ o P y0 L9 y1 l9 A9 y2 d9 bb W)
   rotate_left 1
   ·have hq0:Below wr.heap.size wr wr.drew:=bQ.drew
    have UPo:=UP.out;go_region_held3 (fun W=>W.cell? ⟨H,0,none⟩=some (.slice SA xs.length sd)/\W.cell? ⟨H+1,7,none⟩=some (.slice (some ad) nk kd)/\W.cell? p=some k0/\W.cell? ⟨p.block,p.off+1,none⟩=some k1/\W.cell? ⟨p.block,p.off+2,none⟩=some k2/\W.cell? ⟨p.block,p.off+3,none⟩=some k3/\W.cell? ⟨p.block,p.off+4,none⟩=some k4/\W.cell? ⟨p.block,p.off+5,none⟩=some k5/\W.cell? ⟨p.block,p.off+6,none⟩=some k6/\W.cell? ⟨p.block,p.off+7,none⟩=some k7)
     (first | exact UPo _ hq0 | exact UPo _ (by assumption) | exact UPo _ (Below.alloc (by assumption) (Below.size (by assumption)) _) | go_keep)
     (first
      | (go_at_call 32;refine (HT.out _ (by first | exact hq0 | exact hq0.alloc hq0.size _)).mono ?_;rintro e w3 hm;obtain ⟨y0,L9,y1,l9,A9,y2,d9,bb,rfl,hb3,hc3,hN3⟩:=Zjc (w:=wr) (lo:=wr.heap.size) hm (by first | exact hq0 | exact hq0.alloc hq0.size _) (by first | exact hq0.size | exact (hq0.alloc hq0.size _).size) nQ;have hq2:Below wr.heap.size wr w3:=(by first | exact hq0.trans (hb3.mono hq0.size) | exact (hq0.alloc hq0.size _).trans (hb3.mono (hq0.alloc hq0.size _).size));have hq2a:=hc3.1;(try have hN:=hN3 wr.heap.size _ _ _ nQ (Box3.new wr.drew 38 _ _ _));(try have hq3:=hN.2.1);(try have n0:=hN.1.c0);(try have n1:=hN.1.c1);(try have n2:=hN.1.c2);(try have g0:=hN.1.free 0);(try have g1:=hN.1.free 1);(try have g2:=hN.1.free 2);clear hm hb3 hN3))
    all_goals first | refine NoPanic.normal ?_ | skip
    all_goals rw [HWZ.out] at *
    all_goals obtain ⟨B,_⟩:∃ B:Option Addr,True:=⟨none,trivial⟩
    all_goals obtain ⟨bd,_⟩:∃ bd:Nat,True:=⟨0,trivial⟩
    all_goals first
     | (obtain ⟨P,hP⟩:∃ P,WZ=P:=⟨_,rfl⟩;have hh:=hN.2;rw [hP] at hh ⊢;exact Zbc P y0 L9 y1 l9 A9 y2 d9 bb B bd hh)
     | (obtain ⟨P,hP⟩:∃ P,w3.heap.size=P:=⟨_,rfl⟩;have hh:=hc3;rw [hP] at hh ⊢;exact Zbc P y0 L9 y1 l9 A9 y2 d9 bb B bd hh)
   rintro P y0 L9 y1 l9 A9 y2 d9 bb B bd W ⟨hbW,bxP,hP,hbb,t',fp2,ht',e0,e1,e2,hot,hfp2⟩;rw [<-HWZ.out] at hfp2;have n0:=bxP.c0;have n1:=bxP.c1;have n2:=bxP.c2;have HWB:=hQ (HBw.out.trans (hbW.mono HBw.out.size));have HWB1:=hQ (HB.out.trans (hbW.mono HB.out.size));have BRW:=hQ (BR.out.under HWB1.out BR.out.lt);have HBW:=hQ hbW;clear HWZ HT UP bxP hP e0 e1 e2;cases o with
   | none=>
    have hbb2:bb=false:=hbb;clear hbb ht' hot hfp2 hbW;subst hbb2;have HNN:Hid (someT xs c a ks=none):=hQ (HNO.out rfl);have HZZ:Hid (∀ U:World,W.grownBy U (some (H+1+1))->Zau (someT xs c a ks) w (.returned (.tuple #[.agg #[.int .i64 0,.slice none 0 0,.slice none 0 0],.bool false])) U):=hQ (fun U hU=>(fun h=>by rw [HNN.out];exact Zcj h) <| (Zaj (HWB.out.grown hU HWB.out.size (fun k hk=>by injection hk with hk;have:=HH.out;omega))));have r0:=BRW.out.c0;have r1:=BRW.out.c1;have r2:=BRW.out.c2;have s0:=BRW.out.free 0;have s1:=BRW.out.free 1;have s2:=BRW.out.free 2;go_wp2_with fail;generalize hU:((W.setCell ⟨H+1+1,0,none⟩ (.int .i64 0)).setCell ⟨H+1+1,1,none⟩ (.slice none 0 0)).setCell ⟨H+1+1,2,none⟩ (.slice none 0 0)=U;have hgU:W.grownBy U (some (H+1+1)):=by rw [<-hU];exact Zaa (Zaa (Zaa (gQ) _) _) _
    have u1:Box3 U (H+1+1) 38 (.int .i64 0) (.slice none 0 0) (.slice none 0 0):=by
     rw [<-hU];exact ((BRW.out.set0 _).set1 _).set2 _
    have HRR:=hQ (HZZ.out U hgU);have tt0:=u1.c0;have tt1:=u1.c1;have tt2:=u1.c2;clear hU hgU u1 r0 r1 r2 s0 s1 s2 n0 n1 n2;exact bodyPost_ret (v:=.tuple #[.agg #[.int .i64 0,.slice none 0 0,.slice none 0 0],.bool false]) (by simp [results,Tryz.results68,go_sem,tt0,tt1,tt2]) rfl HRR.out
   | some t1=>
    have hbb2:bb=true:=hbb;have ht2:t'=t1:=ht';clear hbb ht';subst hbb2 ht2;have hrow:=HOL.out.row;rw [HTL.out] at hrow;have HRW:Hid ((W.alloc (.cells #[.int .i64 y0,.slice L9 y1 l9,.slice A9 y2 d9] 38)).ownsRow 0 38 3 (.slice A' k d') k cells):=hQ (Zav hrow (row:=none) (Zid (hbW.alloc hbW.size _)) (fun b _=>by simp));have HNX:=hQ (fun (i:Value) (A4:Option Addr) (d4:Nat) (w4:World) (hii:i=.int .i64 ((k+1:Nat):Int)) (h1:w4.ownsRow 0 38 3 (.slice A4 (k+1) d4) (k+1) (cells ++ [.int .i64 y0,.slice L9 y1 l9,.slice A9 y2 d9])) (h2:(W.alloc (.cells #[.int .i64 y0,.slice L9 y1 l9,.slice A9 y2 d9] 38)).grownBy w4 (Value.slice A' k d').ownBlock) (h3:(Value.slice A4 (k+1) d4).ownBlock=(Value.slice A' k d').ownBlock∨(Value.slice A4 (k+1) d4).ownBlock=some (W.alloc (.cells #[.int .i64 y0,.slice L9 y1 l9,.slice A9 y2 d9] 38)).heap.size)=>Zyk (xs:=xs) (a:=a) (c:=c) (W1:=W1) (P:=P) (i:=i) hlk (by have:=HNK.out;omega) hii HTL.out (HYES.out t' rfl) HOL.out HFP.out HB.out hbW hot hfp2 h1 h2 h3);have HNW:=hQ (news3 W (.int .i64 y0) (.slice L9 y1 l9) (.slice A9 y2 d9) 38);clear hbW hot hfp2 hrow;go_wp2_with (at_builtin;refine Zfk _ rfl (.tmp 70) (.tmp 72) 36 rfl 0 38 i1 _ 3 56 Tryz.underlying36 hi1 hy0 hy1 hy2 rfl (by omega) (.slice A' k d') k cells rfl HRW.out ⟨W.heap.size,0,none⟩ 1 1 [.int .i64 y0,.slice L9 y1 l9,.slice A9 y2 d9] rfl rfl HNW.out (one3 _ _ _ _ _ _ _) (by unfold maxLen;omega) (by omega) (Nat.zero_le _) ?_;intro A4 d4 w4 hown4 hgr4 hor4;have HMM:=hQ (fun i hi=>HNX.out i A4 d4 w4 hi hown4 hgr4 hor4);clear hown4 hgr4 hor4);go_roundw
    case rel=>exact HMM.out _ (by go_num)
    case measure=>simp [intOf];omega
  ·have he:k=nk:=by omega
   subst he;have hol':=hol.ol;have hlen:ts.length=ks.length:=by rw [htl,HNK.out]
   have hv:=Zjy hkn;have HC:=hQ (Zzz xs c a ks ts A' d' fp wr _ (HRT.out wr HBw.out) hol' hv (by rw [hlen];exact HARK.out) (by omega) H13.out H10.out (by omega) hll);have HN:Hid (someT xs c a ks=Zac xs c a ts):=hQ (Zko (by rw [HNK.out];exact hkn));have HFF:Hid (∀ b∈fp,H+1+1 < b/\b < wr.heap.size):=hQ (fun b hm=>by have:=hfp b hm;have:=HS1.out;omega);have HG:Hid (H+1+1 < wr.heap.size):=hQ (by have:=hb.size;have:=HS1.out;omega);have BRW:=hQ (BR.out.under hb BR.out.lt);have x0:=bx.c0;have x1:=bx.c1;have x2:=bx.c2;have x3:=bx.c3;have x4:=bx.c4;have x5:=bx.c5;have x6:=bx.c6;rw [HNK.out,HKQ.out,htl] at HC;generalize Zac xs c a ts=o at HC HN;clear hol hol' hfp hb hkn hv htl hlen bx bss hk hlt;go_wp2_with fail;refine HC.out.mono ?_;rintro e w3 hmade;obtain ⟨t',LL,AA,lc,dd,ht',rfl,hb3,hput⟩:=Zaff hmade HBw.out HFF.out (by have:=HH.out;omega) HG.out;have HBX:=hQ (BRW.out.under hb3 BRW.out.lt);have HM2:Hid (∀ U:World,w3.grownBy U (some (H+1+1))->Zau (someT xs c a ks) w (.returned (.tuple #[.agg #[.int .i64 t'.top.kind,.slice LL t'.top.labels.length lc,.slice AA t'.kids.length dd],.bool o.isSome])) U):=hQ (by rw [HN.out];exact hput);generalize t'.top.kind=y0 at HM2 ⊢;generalize t'.top.labels.length=y1 at HM2 ⊢;generalize t'.kids.length=y2 at HM2 ⊢;generalize o.isSome=bb at HM2 ⊢;have bn:=Box3.new w3 38 (.int .i64 y0) (.slice LL y1 lc) (.slice AA y2 dd);have n0:=bn.c0;have n1:=bn.c1;have n2:=bn.c2;have HBA:=hQ (HBX.out.alloc (.cells #[.int .i64 y0,.slice LL y1 lc,.slice AA y2 dd] 38));have r0:=HBA.out.c0;have r1:=HBA.out.c1;have r2:=HBA.out.c2;have s0:=HBA.out.free 0;have s1:=HBA.out.free 1;have s2:=HBA.out.free 2;clear hmade hb3 hput ht' bn x0 x1 x2 x3 x4 x5 x6 x7 zs;go_wp2_with fail;generalize hU:(((w3.alloc (.cells #[.int .i64 y0,.slice LL y1 lc,.slice AA y2 dd] 38)).setCell ⟨H+1+1,0,none⟩ (.int .i64 y0)).setCell ⟨H+1+1,1,none⟩ (.slice LL y1 lc)).setCell ⟨H+1+1,2,none⟩ (.slice AA y2 dd)=U;have hgU:w3.grownBy U (some (H+1+1)):=by rw [<-hU];exact Zaa (Zaa (Zaa (Zbk _ _) _) _) _
   have u1:Box3 U (H+1+1) 38 (.int .i64 y0) (.slice LL y1 lc) (.slice AA y2 dd):=by
    rw [<-hU];exact ((HBA.out.set0 _).set1 _).set2 _
   have HRR:=hQ (HM2.out U hgU);have tt0:=u1.c0;have tt1:=u1.c1;have tt2:=u1.c2;clear hU hgU u1 r0 r1 r2 s0 s1 s2 n0 n1 n2;exact bodyPost_ret (v:=.tuple #[.agg #[.int .i64 y0,.slice LL y1 lc,.slice AA y2 dd],.bool bb]) (by simp [results,Tryz.results68,go_sem,tt0,tt1,tt2]) rfl HRR.out
end Go.Proofs.YtlcedleebbgebaaGreatDoor
