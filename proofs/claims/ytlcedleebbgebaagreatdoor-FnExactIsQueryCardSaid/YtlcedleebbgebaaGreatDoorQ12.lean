/-
  Merged by program: TypD, TypW, TypE, Kind, NameI, EvName, AscI, Parts, RecLab, PartsR.
-/
import Derived.Test.YtlcedleebbgebaaGreatDoorQ11
set_option maxRecDepth 100000
set_option maxHeartbeats 1600000
namespace Go.Proofs.YtlcedleebbgebaaGreatDoor
open Go.RowKit
def tyInt:Ty:=.node ⟨1,[]⟩ []
def Zah:Ty:=.node ⟨2,[]⟩ []
def tyBag (t:Ty):Ty:=.node ⟨4,[]⟩ [t]
def tyFun (a b:Ty):Ty:=.node ⟨5,[]⟩ [a,b]
def tyRec (ls:List ByteArray)(ts:List Ty):Ty:=.node ⟨3,ls⟩ ts
def look:Cx->ByteArray->Option Ty
 | [],_=>none
 | d :: c,x=>match look c x with
  | some t=>some t
  | none=>if d.1=x then some d.2 else none
theorem Zaak (c:Cx)(d:Tg)(x:ByteArray):look (c ++ [d]) x=if d.1=x then some d.2 else look c x:=by
 induction c with
 | nil=>simp [look]
 | cons e c ih=>
  rw [List.cons_append,look,ih];by_cases h:d.1=x
  ·rw [if_pos h,if_pos h]
  ·rw [if_neg h,if_neg h,look]
def Zcu (s:ByteArray):Int:=if s.toList == [38] then 2 else if s.toList == [124] then 2 else if s.toList == [33] then 2 else 1
def Zaq (s:ByteArray):Ty:=if s.toList == [43] then tyInt else if s.toList == [45] then tyInt else Zah
def opT (s:ByteArray)(ts:List Ty):Option Ty:=if ts.all (fun t=>decide (t.top.kind=Zcu s)) then some (Zaq s) else none
def arg (ts:List Ty)(k:Nat):Ty:=ts.getD k Zap
def isBag (t:Ty):Bool:=decide (t.top.kind=4)
def ifAny (b:Bool)(t:Ty):Option Ty:=if b then some t else none
noncomputable def appT (f x:Ty):Option Ty:=ifAny (decide (f.top.kind=5) && same (arg f.kids 0) x) (arg f.kids 1)
noncomputable def Zac (xs:Sc)(c:Cx)(a:TeA)(ts:List Ty):Option Ty:=
 if a.kind=1 then look c a.name
 else if a.kind=2 then some tyInt
 else if a.kind=3 then some Zah
 else if a.kind=4 then opT a.name ts
 else if a.kind=5 then some (tyRec a.labels ts)
 else if a.kind=6 then ifAny (Zak (arg ts 0) a.name).2 (Zak (arg ts 0) a.name).1
 else if a.kind=7 then some (tyBag a.type)
 else if a.kind=8 then some (tyBag (arg ts 0))
 else if a.kind=9 then ifAny (isBag (arg ts 0) && same (arg ts 0) (arg ts 1)) (arg ts 0)
 else if a.kind=10 then ifAny (isBag (arg ts 1)) (arg ts 1)
 else if a.kind=11 then ifAny (decide ((arg ts 0).top.kind=2) && same (arg ts 1) (arg ts 2)) (arg ts 1)
 else if a.kind=12 then ifAny (Zai xs a.name).2 (tyBag (Zai xs a.name).1)
 else if a.kind=13 then some (tyFun a.type (arg ts 0))
 else if a.kind=14 then appT (arg ts 0) (arg ts 1)
 else if a.kind=15 then ifAny (isBag (arg ts 0)) Zah
 else if a.kind=16 then ifAny (isBag (arg ts 0)) tyInt
 else none
def nextC (a:TeA)(c:Cx)(known:List Ty):Option Cx:=
 if a.kind=13 then some (c ++ [(a.name,a.type)])
 else if a.kind=10/\known.length=1 then (if isBag (arg known 0) then some (c ++ [(a.name,arg (arg known 0).kids 0)]) else none)
 else some c
def Zan (a:TeA)(c:Cx):List (Cx->Option Ty)->List Ty->Option (List Ty)
 | [],known=>some known
 | f :: fs,known=>match nextC a c known with
  | none=>none
  | some c'=>match f c' with
   | none=>none
   | some t=>Zan a c fs (known ++ [t])
def okT (o:Option Ty):Option Ty:=o.bind fun t=>ifAny (Zae t) t
noncomputable def Tr.typ (xs:Sc):Te->Cx->Option Ty
 | .node a ks=>fun c=>(Zan a c (ks.attach.map fun ⟨t,_⟩=>t.typ xs) []).bind fun ts=>okT (Zac xs c a ts)
theorem Zjh (xs:Sc)(a:TeA)(ks:List Te)(c:Cx):Tr.typ xs (.node a ks) c=(Zan a c (ks.map (Tr.typ xs)) []).bind fun ts=>okT (Zac xs c a ts):=by
 rw [Tr.typ]
 show (Zan a c (ks.attach.map fun x=>Tr.typ xs x.val) []).bind _=_
 rw [List.attach_map_val (l:=ks) (f:=Tr.typ xs)]
theorem Zaar {o:Option Ty}{t:Ty}(h:okT o=some t):o=some t/\Zae t=true:=by
 unfold okT at h;cases o with
 | none=>cases h
 | some u=>
  simp only [Option.bind_some,ifAny] at h
  split at h
  ·injection h with h;subst h;exact ⟨rfl,by assumption⟩
  ·cases h
theorem Zfy {xs:Sc}{t:Te}{c:Cx}{y:Ty}(h:Tr.typ xs t c=some y):Zae y=true:=by
 obtain ⟨a,ks⟩:=t;rw [Zjh] at h;cases hp:Zan a c (ks.map (Tr.typ xs)) [] with
 | none=>rw [hp] at h;cases h
 | some ts=>rw [hp] at h;exact (Zaar h).2
noncomputable def typeD (xs:Sc)(c:Cx)(e:Te):Option Ty:=if schB xs=true/\ctxB c=true/\Zcx e=true then Tr.typ xs e c else none
theorem Zsd {s:ByteArray}(h:nameB s=true):s.size<=4:=by
 unfold nameB at h;simp only [Bool.and_eq_true,decide_eq_true_eq] at h;exact h.2.2.1
theorem Znn {B:Nat}:∀ {xs:List ByteArray},(∀ x∈xs,x.size<=B)->total xs<=B * xs.length
 | [],_=>by simp [total]
 | x :: xs,h=>by
  have h1:=Znn (xs:=xs) fun y hy=>h y (List.mem_cons_of_mem _ hy)
  have h2:=h x (by simp);unfold total at *
  rw [List.map_cons,List.sum_cons,List.length_cons,Nat.mul_succ]
  omega
theorem Zkc {ls:List ByteArray}(h:labB ls=true):ls.length<=4/\1<=ls.length/\∀ x∈ls,x.size<=4:=by
 unfold labB at h;simp only [Bool.and_eq_true,decide_eq_true_eq,List.all_eq_true] at h;exact ⟨h.2.1.2,h.2.1.1,fun x hx=>Zsd (h.1 x hx)⟩
theorem Zwl {a:TyA}{ks:List Ty}(h:formA a ks=true):wtA a<=20:=by
 unfold formA at h;unfold wtA
 split at h
 ·simp only [Bool.and_eq_true,decide_eq_true_eq] at h
  obtain ⟨h1,_,h2⟩:=Zkc h.2.1
  have:=Znn h2
  omega
 ·simp only [Bool.and_eq_true,decide_eq_true_eq] at h
  have h1:=List.length_eq_zero_iff.1 h.2.1;rw [h1];simp [total]
theorem Zada:∀ t:Ty,t.form=true->t.sum (fun a=>wtA a+1)<=21 * t.size:=by
 refine Tr.ind ?_
 intro a ks ih h
 rw [Zcr] at h;simp only [Bool.and_eq_true,List.all_eq_true] at h;have h1:=Zwl h.2;have e:(Tr.node a ks).size=1+(ks.map Tr.size).sum:=Tr.sum_node _ a ks;have h2:(ks.map (Tr.sum fun a=>wtA a+1)).sum<=21 * (ks.map Tr.size).sum:=by
  have h3:=h.1;clear h h1 e
  induction ks with
  | nil=>simp
  | cons k ks ihk=>
   have h4:=ih k (by simp) (h3 k (by simp));have h5:=ihk (fun t ht=>ih t (List.mem_cons_of_mem _ ht)) (fun t ht=>h3 t (List.mem_cons_of_mem _ ht));simp only [List.map_cons,List.sum_cons]
   omega
 rw [Tr.sum_node,e]
 omega
theorem Zbq {t:Ty}(h:Zae t=true):wt t<=504:=by
 unfold Zae at h;simp only [Bool.and_eq_true,decide_eq_true_eq] at h
 have:=Zada t h.2.2
 unfold wt
 omega
theorem Zdr (a:TeA)(c:Cx):∀ (fs gs:List (Cx->Option Ty))(known:List Ty),Zan a c (fs ++ gs) known=(Zan a c fs known).bind (Zan a c gs)
 | [],gs,known=>by simp [Zan]
 | f :: fs,gs,known=>by
  rw [List.cons_append,Zan,Zan];cases nextC a c known with
  | none=>rfl
  | some c'=>
   show (match f c' with|none=>none|some t=>_)=Option.bind (match f c' with|none=>none|some t=>_) _
   cases f c' with
   | none=>rfl
   | some t=>exact Zdr a c fs gs (known ++ [t])
theorem Zlz {a:TeA}{c:Cx}:∀ {fs:List (Cx->Option Ty)}{known ts:List Ty},Zan a c fs known=some ts->ts.length=known.length+fs.length
 | [],known,ts,h=>by
  rw [Zan] at h;injection h with h
  subst h
  simp
 | f :: fs,known,ts,h=>by
  rw [Zan] at h;cases hn:nextC a c known with
  | none=>rw [hn] at h;cases h
  | some c'=>
   rw [hn] at h;simp only at h;cases hf:f c' with
   | none=>rw [hf] at h;cases h
   | some t=>
    rw [hf] at h
    have:=Zlz (known:=known ++ [t]) h
    rw [this,List.length_append]
    simp
    omega
theorem Zfw {xs:Sc}{a:TeA}{c:Cx}:∀ {ks:List Te}{known ts:List Ty},(∀ t∈known,Zae t=true)->Zan a c (ks.map (Tr.typ xs)) known=some ts->∀ t∈ts,Zae t=true
 | [],known,ts,hk,h=>by
  rw [List.map_nil,Zan] at h;injection h with h
  subst h;exact hk
 | k :: ks,known,ts,hk,h=>by
  rw [List.map_cons,Zan] at h;cases hn:nextC a c known with
  | none=>rw [hn] at h;cases h
  | some c'=>
   rw [hn] at h;simp only at h;cases hf:Tr.typ xs k c' with
   | none=>rw [hf] at h;cases h
   | some t=>
    rw [hf] at h;refine Zfw (fun u hu=>?_) h
    rcases List.mem_append.1 hu with hu|hu
    ·exact hk u hu
    ·simp at hu;subst hu;exact Zfy hf
def Known (xs:Sc)(a:TeA)(ks:List Te)(c:Cx)(k:Nat)(known:List Ty):Prop:=Zan a c ((ks.take k).map (Tr.typ xs)) []=some known
theorem Zih (xs:Sc)(a:TeA)(ks:List Te)(c:Cx):Known xs a ks c 0 []:=by unfold Known;rw [List.take_zero,List.map_nil,Zan]
theorem Zjy {xs:Sc}{a:TeA}{ks:List Te}{c:Cx}{k:Nat}{known:List Ty}(h:Known xs a ks c k known):∀ t∈known,Zae t=true:=Zfw (by simp) h
theorem Zfz {xs:Sc}{a:TeA}{ks:List Te}{c:Cx}{k:Nat}{known:List Ty}(h:Known xs a ks c k known)(hk:k < ks.length) :
  Zan a c ((ks.take (k+1)).map (Tr.typ xs)) []=(match nextC a c known with|none=>none|some c'=>match Tr.typ xs ks[k] c' with|none=>none|some t=>some (known ++ [t])):=by
 rw [List.take_succ_eq_append_getElem hk,List.map_append,Zdr];unfold Known at h;rw [h]
 rfl
theorem Zsr {xs:Sc}{a:TeA}{ks:List Te}{c:Cx}{k:Nat}(h:Zan a c ((ks.take k).map (Tr.typ xs)) []=none):Tr.typ xs (.node a ks) c=none:=by
 rw [Zjh];have e:ks.map (Tr.typ xs)=(ks.take k).map (Tr.typ xs) ++ (ks.drop k).map (Tr.typ xs):=by rw [<-List.map_append,List.take_append_drop]
 rw [e,Zdr,h]
 rfl
theorem Zuz {xs:Sc}{a:TeA}{ks:List Te}{c:Cx}{k:Nat}{known:List Ty}(h:Known xs a ks c k known)(hk:k < ks.length)(hn:nextC a c known=none):Tr.typ xs (.node a ks) c=none:=by
 refine Zsr (k:=k+1) ?_;rw [Zfz h hk,hn]
theorem Zva {xs:Sc}{a:TeA}{ks:List Te}{c c':Cx}{k:Nat}{known:List Ty}(h:Known xs a ks c k known)(hk:k < ks.length)(hn:nextC a c known=some c')(ht:Tr.typ xs ks[k] c'=none):Tr.typ xs (.node a ks) c=none:=by
 refine Zsr (k:=k+1) ?_;rw [Zfz h hk,hn];simp only;rw [ht]
theorem Zlw {xs:Sc}{a:TeA}{ks:List Te}{c c':Cx}{k:Nat}{known:List Ty}{t:Ty}(h:Known xs a ks c k known)(hk:k < ks.length)(hn:nextC a c known=some c')(ht:Tr.typ xs ks[k] c'=some t):Known xs a ks c (k+1) (known ++ [t]):=by
 unfold Known;rw [Zfz h hk,hn];simp only;rw [ht]
theorem Zabp {xs:Sc}{a:TeA}{ks:List Te}{c:Cx}{ts:List Ty}(h:Known xs a ks c ks.length ts):Tr.typ xs (.node a ks) c=okT (Zac xs c a ts):=by
 unfold Known at h;rw [List.take_length] at h;rw [Zjh,h]
 rfl
theorem Zqk {a:TeA}{c:Cx}{known:List Ty}(h1:a.kind≠13)(h2:a.kind≠10):nextC a c known=some c:=by
 unfold nextC;rw [if_neg h1,if_neg (fun h=>h2 h.1)]
theorem Zon {a:TeA}{c:Cx}{known:List Ty}(h1:a.kind=13):nextC a c known=some (c ++ [(a.name,a.type)]):=by
 unfold nextC;rw [if_pos h1]
theorem Ztz {a:TeA}{c:Cx}(h1:a.kind=10):nextC a c []=some c:=by
 unfold nextC;rw [if_neg (by omega),if_neg (fun h=>by simp at h)]
theorem Zlx {a:TeA}{c:Cx}{u:Ty}(h1:a.kind=10):nextC a c [u]=if isBag u then some (c ++ [(a.name,arg u.kids 0)]) else none:=by
 unfold nextC;rw [if_neg (by omega),if_pos ⟨h1,rfl⟩]
 rfl
theorem Zdu {a:TeA}{ks:List Te}(h:Tr.formE (.node a ks)=true):(ks.length:Int)=arN a.kind a.name a.labels.length/\Zdb a=true/\∀ t∈ks,t.formE=true:=by
 rw [Zib] at h;simp only [Bool.and_eq_true,List.all_eq_true] at h;obtain ⟨h1,h2⟩:=h;unfold nodeE at h2;simp only [Bool.and_eq_true,decide_eq_true_eq] at h2;exact ⟨h2.2,h2.1,h1⟩
theorem Zgm {a:TeA}(h:Zdb a=true)(hk:a.kind=7∨a.kind=13):Zae a.type=true:=by
 unfold Zdb at h;simp only [Bool.and_eq_true] at h;have h1:=h.2.1;unfold Zdi at h1;simp only [Bool.and_eq_true,beq_iff_eq] at h1;have e:tyB a.kind=true:=by
  unfold tyB
  rcases hk with h|h <;> rw [h] <;> rfl
 rw [<-h1.1,e]
theorem Zlq {a:TeA}(h:Zdb a=true)(hk:a.kind=5):labB a.labels=true:=by
 unfold Zdb at h;simp only [Bool.and_eq_true] at h;have h1:=h.2.2.1;unfold labOk at h1;rw [if_pos hk] at h1;exact h1
theorem Zlr {a:TeA}(h:Zdb a=true)(hk:a.kind=4):arB a.name≠0:=by
 unfold Zdb at h;simp only [Bool.and_eq_true] at h;have h1:=h.1;unfold Zct at h1;rw [if_pos hk] at h1
 simpa using h1
def kindT (q:Int):TypeId:=if q=1 then 169 else if q=2 then 170 else if q=3 then 167 else if q=4 then 132 else if q=5 then 168 else 171
def Zgf (q:Int)(cs:List Value)(w:World)(e:Ending)(w':World):Prop:=e=.returned (.iface (kindT q) (.agg cs.toArray))/\Below w.heap.size w w'
theorem Zdl (q:Int)(c1 c2:Value)(w:World):Calls Tryz.prog 92 #[.agg #[.int .i64 q,c1,c2]] w (Zgf q [.int .i64 q,c1,c2] w):=by
 have HR:Hid (∀ k,k=kindT q->Zgf q [.int .i64 q,c1,c2] w (.returned (.iface k (.agg #[.int .i64 q,c1,c2]))) (w.alloc (.cells #[.int .i64 q,c1,c2] 38))):=by
  rintro k rfl;exact ⟨rfl,bQ.alloc nQ _⟩
 go_enter Tryz.func92,Tryz.ntmps92
 go_wp2_with fail
 ·rename_i h
  go_ret
  exact HR.out 169 (by rw [eq_of_beq h];rfl)
 ·rename_i h
  go_ret
  exact HR.out 170 (by rw [eq_of_beq h];rfl)
 ·rename_i h
  go_ret
  exact HR.out 167 (by rw [eq_of_beq h];rfl)
 ·rename_i h
  go_ret
  exact HR.out 132 (by rw [eq_of_beq h];rfl)
 ·rename_i h
  go_ret
  exact HR.out 168 (by rw [eq_of_beq h];rfl)
 ·rename_i h1 h2 h3 h4 h5
  go_ret
  exact HR.out 171 (by unfold kindT;simp [ne_of_beq_false h1,ne_of_beq_false h2,ne_of_beq_false h3,ne_of_beq_false h4,ne_of_beq_false h5])
/-! what a test of the type gives -/
theorem Zmj (v:Value)(w:World):(Instr.typeAssert (.iface 169 v) 135 167 true).run Tryz.prog w=.ok (.tuple #[.agg #[.int .i64 0,.slice none 0 0,.slice none 0 0],.bool false]) w:=by kernel_rfl
theorem Zmk (v:Value)(w:World):(Instr.typeAssert (.iface 170 v) 135 167 true).run Tryz.prog w=.ok (.tuple #[.agg #[.int .i64 0,.slice none 0 0,.slice none 0 0],.bool false]) w:=by kernel_rfl
theorem Zml (v:Value)(w:World):(Instr.typeAssert (.iface 167 v) 135 167 true).run Tryz.prog w=.ok (.tuple #[v,.bool true]) w:=by kernel_rfl
theorem Zmm (v:Value)(w:World):(Instr.typeAssert (.iface 132 v) 135 167 true).run Tryz.prog w=.ok (.tuple #[.agg #[.int .i64 0,.slice none 0 0,.slice none 0 0],.bool false]) w:=by kernel_rfl
theorem Zmn (v:Value)(w:World):(Instr.typeAssert (.iface 168 v) 135 167 true).run Tryz.prog w=.ok (.tuple #[.agg #[.int .i64 0,.slice none 0 0,.slice none 0 0],.bool false]) w:=by kernel_rfl
theorem Zmo (v:Value)(w:World):(Instr.typeAssert (.iface 171 v) 135 167 true).run Tryz.prog w=.ok (.tuple #[.agg #[.int .i64 0,.slice none 0 0,.slice none 0 0],.bool false]) w:=by kernel_rfl
theorem Zrl (v:Value)(w:World):(Instr.typeAssert (.iface 169 v) 135 132 true).run Tryz.prog w=.ok (.tuple #[.agg #[.int .i64 0,.slice none 0 0,.slice none 0 0],.bool false]) w:=by kernel_rfl
theorem Zrm (v:Value)(w:World):(Instr.typeAssert (.iface 170 v) 135 132 true).run Tryz.prog w=.ok (.tuple #[.agg #[.int .i64 0,.slice none 0 0,.slice none 0 0],.bool false]) w:=by kernel_rfl
theorem Zrn (v:Value)(w:World):(Instr.typeAssert (.iface 167 v) 135 132 true).run Tryz.prog w=.ok (.tuple #[.agg #[.int .i64 0,.slice none 0 0,.slice none 0 0],.bool false]) w:=by kernel_rfl
theorem Zro (v:Value)(w:World):(Instr.typeAssert (.iface 132 v) 135 132 true).run Tryz.prog w=.ok (.tuple #[v,.bool true]) w:=by kernel_rfl
theorem Zrp (v:Value)(w:World):(Instr.typeAssert (.iface 168 v) 135 132 true).run Tryz.prog w=.ok (.tuple #[.agg #[.int .i64 0,.slice none 0 0,.slice none 0 0],.bool false]) w:=by kernel_rfl
theorem Zrq (v:Value)(w:World):(Instr.typeAssert (.iface 171 v) 135 132 true).run Tryz.prog w=.ok (.tuple #[.agg #[.int .i64 0,.slice none 0 0,.slice none 0 0],.bool false]) w:=by kernel_rfl
theorem Zrr (v:Value)(w:World):(Instr.typeAssert (.iface 169 v) 135 168 true).run Tryz.prog w=.ok (.tuple #[.agg #[.int .i64 0,.slice none 0 0,.slice none 0 0],.bool false]) w:=by kernel_rfl
theorem Zrs (v:Value)(w:World):(Instr.typeAssert (.iface 170 v) 135 168 true).run Tryz.prog w=.ok (.tuple #[.agg #[.int .i64 0,.slice none 0 0,.slice none 0 0],.bool false]) w:=by kernel_rfl
theorem Zrt (v:Value)(w:World):(Instr.typeAssert (.iface 167 v) 135 168 true).run Tryz.prog w=.ok (.tuple #[.agg #[.int .i64 0,.slice none 0 0,.slice none 0 0],.bool false]) w:=by kernel_rfl
theorem Zru (v:Value)(w:World):(Instr.typeAssert (.iface 132 v) 135 168 true).run Tryz.prog w=.ok (.tuple #[.agg #[.int .i64 0,.slice none 0 0,.slice none 0 0],.bool false]) w:=by kernel_rfl
theorem Zrv (v:Value)(w:World):(Instr.typeAssert (.iface 168 v) 135 168 true).run Tryz.prog w=.ok (.tuple #[v,.bool true]) w:=by kernel_rfl
theorem Zrw (v:Value)(w:World):(Instr.typeAssert (.iface 171 v) 135 168 true).run Tryz.prog w=.ok (.tuple #[.agg #[.int .i64 0,.slice none 0 0,.slice none 0 0],.bool false]) w:=by kernel_rfl
theorem Zze (v:Value)(w:World):(Instr.typeAssert (.iface 169 v) 135 169 true).run Tryz.prog w=.ok (.tuple #[v,.bool true]) w:=by kernel_rfl
theorem Zzf (v:Value)(w:World):(Instr.typeAssert (.iface 170 v) 135 169 true).run Tryz.prog w=.ok (.tuple #[.agg #[.int .i64 0,.slice none 0 0,.slice none 0 0],.bool false]) w:=by kernel_rfl
theorem Zzg (v:Value)(w:World):(Instr.typeAssert (.iface 167 v) 135 169 true).run Tryz.prog w=.ok (.tuple #[.agg #[.int .i64 0,.slice none 0 0,.slice none 0 0],.bool false]) w:=by kernel_rfl
theorem Zzh (v:Value)(w:World):(Instr.typeAssert (.iface 132 v) 135 169 true).run Tryz.prog w=.ok (.tuple #[.agg #[.int .i64 0,.slice none 0 0,.slice none 0 0],.bool false]) w:=by kernel_rfl
theorem Zzi (v:Value)(w:World):(Instr.typeAssert (.iface 168 v) 135 169 true).run Tryz.prog w=.ok (.tuple #[.agg #[.int .i64 0,.slice none 0 0,.slice none 0 0],.bool false]) w:=by kernel_rfl
theorem Zzj (v:Value)(w:World):(Instr.typeAssert (.iface 171 v) 135 169 true).run Tryz.prog w=.ok (.tuple #[.agg #[.int .i64 0,.slice none 0 0,.slice none 0 0],.bool false]) w:=by kernel_rfl
theorem Zvs (v:Value)(w:World):(Instr.typeAssert (.iface 169 v) 135 170 true).run Tryz.prog w=.ok (.tuple #[.agg #[.int .i64 0,.slice none 0 0,.slice none 0 0],.bool false]) w:=by kernel_rfl
theorem Zvt (v:Value)(w:World):(Instr.typeAssert (.iface 170 v) 135 170 true).run Tryz.prog w=.ok (.tuple #[v,.bool true]) w:=by kernel_rfl
theorem Zvu (v:Value)(w:World):(Instr.typeAssert (.iface 167 v) 135 170 true).run Tryz.prog w=.ok (.tuple #[.agg #[.int .i64 0,.slice none 0 0,.slice none 0 0],.bool false]) w:=by kernel_rfl
theorem Zvv (v:Value)(w:World):(Instr.typeAssert (.iface 132 v) 135 170 true).run Tryz.prog w=.ok (.tuple #[.agg #[.int .i64 0,.slice none 0 0,.slice none 0 0],.bool false]) w:=by kernel_rfl
theorem Zvw (v:Value)(w:World):(Instr.typeAssert (.iface 168 v) 135 170 true).run Tryz.prog w=.ok (.tuple #[.agg #[.int .i64 0,.slice none 0 0,.slice none 0 0],.bool false]) w:=by kernel_rfl
theorem Zvx (v:Value)(w:World):(Instr.typeAssert (.iface 171 v) 135 170 true).run Tryz.prog w=.ok (.tuple #[.agg #[.int .i64 0,.slice none 0 0,.slice none 0 0],.bool false]) w:=by kernel_rfl
/-! the methods that a call through the interface comes to;100 more than the program has types -/
theorem Zafn (v:Value)(w:World):(method 353 169 v "loop.example/g00587/impl.hasItsParts").run Tryz.prog w=.ok (199,v) w:=by kernel_rfl
theorem Zafo (v:Value)(w:World):(method 353 170 v "loop.example/g00587/impl.hasItsParts").run Tryz.prog w=.ok (200,v) w:=by kernel_rfl
theorem Zafp (v:Value)(w:World):(method 353 167 v "loop.example/g00587/impl.hasItsParts").run Tryz.prog w=.ok (197,v) w:=by kernel_rfl
theorem Zafq (v:Value)(w:World):(method 353 132 v "loop.example/g00587/impl.hasItsParts").run Tryz.prog w=.ok (183,v) w:=by kernel_rfl
theorem Zafr (v:Value)(w:World):(method 353 168 v "loop.example/g00587/impl.hasItsParts").run Tryz.prog w=.ok (198,v) w:=by kernel_rfl
theorem Zafs (v:Value)(w:World):(method 353 171 v "loop.example/g00587/impl.hasItsParts").run Tryz.prog w=.ok (201,v) w:=by kernel_rfl
theorem Zha {s:ByteArray}(h:s.size=0∨4 < s.size∨s.toList=[105,102]∨s.toList=[102,111,114]):nameB s=false:=by
 have e:(decide (1<=s.size) && (decide (s.size<=4) && (!(s.toList == [105,102]) && !(s.toList == [102,111,114]))))=false:=by
  rcases h with h|h|h|h
  ·simp [h]
  ·simp [show ¬ s.size<=4 by omega]
  ·simp [h]
  ·simp [h]
 unfold nameB;rw [e,Bool.and_false]
theorem Zaan {s:ByteArray}(h:NmTo s s.size)(h1:1<=s.size)(h4:s.size<=4)(e1:(s.toList == [105,102])=false)(e2:(s.toList == [102,111,114])=false):nameB s=true:=by
 rw [Zse h,e1,e2];simp [h1,h4]
theorem Zyi (s:ByteArray):s.toList.length=s.size:=by
 rw [ByteArray.toList_eq,Array.length_toList];rfl
def Rn (s:ByteArray)(pos r wd:Nat)(h:pos < s.size):Prop:=(r=(s[pos]'h).toNat/\wd=1)∨(128<=r/\128<=(s[pos]'h).toNat)
theorem Zxj (w:World)(s:ByteArray)(pos:Nat)(h:pos < s.size):∃ r wd:Nat,Rn s pos r wd h/\r<=2147483647/\
  ∀ ty,(Instr.next (.pointer (some ⟨w.heap.size,0,none⟩)) true ty).run Tryz.prog (w.iter s pos)=.ok (.tuple #[.bool true,.int .i64 pos,.int .i32 r]) (w.iter s (pos+wd)):=by
 by_cases ha:(s[pos]'h).toNat < 128
 ·exact ⟨(s[pos]'h).toNat,1,.inl ⟨rfl,rfl⟩,by omega,fun ty=>run_next_ascii w s pos ty h ha⟩
 ·exact ⟨(Utf8.decode s pos).1,(Utf8.decode s pos).2,.inr ⟨(decode_high s pos h (by omega)).1,by omega⟩,decode_le s pos,fun ty=>run_next_any w s pos ty h⟩
theorem Zdt (w:World)(s:ByteArray)(pos:Nat):Below w.heap.size w (w.iter s pos):=bQ.alloc nQ _
def Finds (b:Bool)(w:World)(e:Ending)(w':World):Prop:=e=.returned (.bool b)/\Below w.heap.size w w'
theorem Zdy (s:ByteArray)(w:World)(hs:s.size<=1048576):Calls Tryz.prog 104 #[.string s] w (Finds (nameB s) w):=by
 by_cases h0:s.size=0
 ·have HX:=hQ (Zha (.inl h0))
  obtain rfl:s=⟨#[]⟩:=by
   apply ByteArray.ext
   exact Array.eq_empty_of_size_eq_zero h0
  clear h0;go_enter Tryz.func104,Tryz.ntmps104;go_wp2;go_ret;exact ⟨Zda HX.out.symm,Below.refl _ _⟩
 ·have h00:(s.toList == [])=false:=by
   rw [Bool.eq_false_iff,Ne,beq_iff_eq]
   intro e
   have:=congrArg List.length e
   rw [Zyi] at this;exact h0 this
  by_cases h4:(4:Int) < (s.size:Int)
  ·have HX:=hQ (Zha (s:=s) (.inr (.inl (by omega))))
   clear h0;go_enter Tryz.func104,Tryz.ntmps104;go_wp2;go_ret;exact ⟨Zda HX.out.symm,Below.refl _ _⟩
  ·cases e1:(s.toList == [105,102])
   ·cases e2:(s.toList == [102,111,114])
    ·have H00:=hQ h0
     clear h0;go_enter Tryz.func104,Tryz.ntmps104;go_wp2;go_loopw [3] (fun _ wr=>∃ pos:Nat,wr=w.iter s pos/\pos<=s.size/\NmTo s pos) (fun _ wr=>s.size - wr.iterPos w.heap.size)
     case atStart=>exact ⟨0,rfl,Nat.zero_le _,Zoo _⟩
     case round=>
      obtain ⟨pos,rfl,hpos,hno⟩:=hrel;have HN:=hQ hno;clear hno;by_cases hlt:pos < s.size
      ·obtain ⟨r,wd,hr,hr2,hnx⟩:=Zxj w s pos hlt
       have HR:=hQ hr;clear hr;by_cases hL:(97:Int)<=(r:Int)/\(r:Int)<=122
       ·obtain ⟨ha,hb⟩:=hL
        have HG:Hid (wd=1/\NmTo s (pos+1)):=by
         rcases HR.out with ⟨h1,h2⟩|⟨h1,h2⟩
         ·exact ⟨h2,Zhb HN.out hlt (.inl ⟨by omega,by omega⟩)⟩
         ·omega
        go_wp2
        go_roundw
        case rel=>exact ⟨pos+1,by rw [HG.out.1],hlt,HG.out.2⟩
        case measure=>have:=HG.out.1;simp;omega
       ·rcases Nat.eq_zero_or_pos pos with hp0|hkp
        ·have HX:Hid (nameB s=false):=by
          rcases HR.out with ⟨h1,h2⟩|⟨h1,h2⟩
          ·exact Zfr hlt (by omega) (.inl hp0)
          ·exact Zfr hlt (by omega) (.inl hp0)
         subst hp0;by_cases ha:(97:Int)<=(r:Int)
         ·have hb:(122:Int) < (r:Int):=by omega
          have hb':decide ((r:Int)<=122)=false:=by simpa using hb
          clear hL;go_wp2;go_ret;exact ⟨Zda HX.out.symm,Zdt _ _ _⟩
         ·clear hL
          go_wp2
          go_ret
          exact ⟨Zda HX.out.symm,Zdt _ _ _⟩
        ·have hk0:((pos:Int) == 0)=false:=by simp;omega
         by_cases hD:(48:Int)<=(r:Int)/\(r:Int)<=57
         ·obtain ⟨hc,hd⟩:=hD
          have HG:Hid (wd=1/\NmTo s (pos+1)):=by
           rcases HR.out with ⟨h1,h2⟩|⟨h1,h2⟩
           ·exact ⟨h2,Zhb HN.out hlt (.inr ⟨by omega,by omega,by omega⟩)⟩
           ·omega
          have ha:¬ (97:Int)<=(r:Int):=by omega
          clear hL;go_wp2;go_roundw
          case rel=>exact ⟨pos+1,by rw [HG.out.1],hlt,HG.out.2⟩
          case measure=>have:=HG.out.1;simp;omega
         ·have HX:Hid (nameB s=false):=by
           rcases HR.out with ⟨h1,h2⟩|⟨h1,h2⟩
           ·exact Zfr hlt (by omega) (.inr (by omega))
           ·exact Zfr hlt (by omega) (.inr (.inr (by omega)))
          by_cases ha:(97:Int)<=(r:Int)
          ·have hb:(122:Int) < (r:Int):=by omega
           have hc:(48:Int)<=(r:Int):=by omega
           have hd:(57:Int) < (r:Int):=by omega
           have hb':decide ((r:Int)<=122)=false:=by simpa using hb
           have hd':decide ((r:Int)<=57)=false:=by simpa using hd
           clear hL hD;go_wp2;go_ret;exact ⟨Zda HX.out.symm,Zdt _ _ _⟩
          ·by_cases hc:(48:Int)<=(r:Int)
           ·have hd:(57:Int) < (r:Int):=by omega
            have hd':decide ((r:Int)<=57)=false:=by simpa using hd
            clear hL hD;go_wp2;go_ret;exact ⟨Zda HX.out.symm,Zdt _ _ _⟩
           ·clear hL hD
            go_wp2
            go_ret
            exact ⟨Zda HX.out.symm,Zdt _ _ _⟩
      ·have hnx:∀ ty,(Instr.next (.pointer (some ⟨w.heap.size,0,none⟩)) true ty).run Tryz.prog (w.iter s pos)=_:=fun ty=>run_next_end w s pos ty hlt
       have he:pos=s.size:=by omega
       have HX:Hid (nameB s=true):=by
        have h:=HN.out;rw [he] at h;exact Zaan h (by have:=H00.out;omega) (by omega) e1 e2
       clear he;go_wp2;go_ret;exact ⟨Zda HX.out.symm,Zdt _ _ _⟩
    ·have HX:=hQ (Zha (s:=s) (.inr (.inr (.inr (by simpa using e2)))))
     clear h0;go_enter Tryz.func104,Tryz.ntmps104;go_wp2;go_ret;exact ⟨Zda HX.out.symm,Below.refl _ _⟩
   ·have HX:=hQ (Zha (s:=s) (.inr (.inr (.inl (by simpa using e1)))))
    clear h0;go_enter Tryz.func104,Tryz.ntmps104;go_wp2;go_ret;exact ⟨Zda HX.out.symm,Below.refl _ _⟩
theorem Zmt (A:Option Addr)(c:Nat)(xs:List ByteArray)(w:World)(h:Sl w A (xs.map Value.string))(hn:xs.length<=1048576)(hx:∀ x∈xs,x.size<=1048576) :
  Calls Tryz.prog 165 #[.slice A xs.length c,.func (.func 104) #[] #[]] w (Truth (xs.all nameB) w):=by
 have HX:=hQ hx;have HS:=hQ h;clear hx h;go_enter Tryz.func165,Tryz.ntmps165;go_wp2_with fail;go_loopw [9] (fun i wr=>∃ k:Nat,k<=xs.length/\i=.int .i64 k/\Zhx xs k/\Below w.heap.size w wr) (fun i _=>xs.length - (intOf i).toNat)
 case atStart=>exact ⟨0,Nat.zero_le _,rfl,Zit _,Below.refl _ _⟩
 case round=>
  obtain ⟨k,hk,rfl,hno,hb⟩:=hrel;have HNO:=hQ hno;have HB:=hQ hb;clear hno hb;by_cases hlt:k < xs.length
  ·obtain ⟨ad,rfl,hc⟩:=(HS.out.below HB.out) k (.string xs[k]) (by simp [hlt])
   have HC:=hQ (Zdy xs[k] wr (HX.out _ (List.getElem_mem hlt)));by_cases hf:nameB xs[k]=true
   ·have HN:=hQ (Zis HNO.out hlt hf)
    rw [hf] at HC;clear hf;go_wp2_with fail;refine HC.out.mono ?_;rintro e w2 ⟨rfl,hb2⟩;have HB2:=hQ (HB.out.trans (hb2.mono HB.out.size));clear hb2;go_wp2_with fail;go_roundw
    case rel=>exact ⟨k+1,hlt,by go_num,HN.out,HB2.out⟩
    case measure=>simp [intOf];omega
   ·have hff:nameB xs[k]=false:=by simpa using hf
    rw [hff] at HC;have HE:Hid (xs.all nameB=false):=hQ (by
     rw [Bool.eq_false_iff,Ne,List.all_eq_true]
     intro h
     have:=h _ (List.getElem_mem hlt)
     rw [hff] at this;cases this)
    clear hf hff;go_wp2_with fail;refine HC.out.mono ?_;rintro e w2 ⟨rfl,hb2⟩;have HB2:=hQ (HB.out.trans (hb2.mono HB.out.size));clear hb2;go_wp2_with fail;go_ret;exact ⟨by rw [HE.out];rfl,HB2.out⟩
  ·have he:k=xs.length:=by omega
   have HE:Hid (xs.all nameB=true):=hQ (by
    rw [List.all_eq_true]
    intro x hx
    obtain ⟨j,hj,rfl⟩:=List.getElem_of_mem hx;exact HNO.out j hj (by omega))
   clear he;go_wp2_with fail;go_ret;exact ⟨by rw [HE.out];rfl,HB.out⟩
theorem Zju (A:Option Addr)(c:Nat)(xs:List ByteArray)(w:World)(h:Sl w A (xs.map Value.string))(hn:xs.length<=1048576) :
  Calls Tryz.prog 71 #[.slice A xs.length c] w (Tells (ascL xs) w):=by
 go_enter Tryz.func71,Tryz.ntmps71
 go_wp2
 go_loopw [3] (fun i wr=>∃ k:Nat,i=.int .i64 ((k:Int)+1)/\k<=xs.length/\AscTo xs k/\∃ n,wr=w.drewN n) (fun i _=>xs.length - (intOf i).toNat)
 case atStart=>exact ⟨0,rfl,Nat.zero_le _,Zln _,0,rfl⟩
 case round=>
  obtain ⟨k,rfl,hk,hasc,n,rfl⟩:=hrel;by_cases hlt:k+1 < xs.length
  ·have hk4:k < xs.length:=by omega
   obtain ⟨ad,rfl,hc0⟩:=h k (.string (xs[k]'hk4)) (by simp [hk4]);obtain ⟨m,hm⟩:∃ m,m=k+1:=⟨_,rfl⟩;have hk6:m < xs.length:=by omega
   obtain ⟨ad',e,hc1⟩:=h m (.string (xs[m]'hk6)) (by simp [hk6]);injection e with e
   subst e;have hg:Op.bytesLess (xs[k]'hk4).toList (xs[m]'hk6).toList=okAt xs k:=by subst hm;exact (Zsf hlt).symm
   have hk1:IntKind.i64.wrap (k:Int)=(k:Int):=IntWalk.i64_in _ (by omega);have hk2:(0:Int)<=(k:Int)+1:=by omega
   have hk5:(k:Int)+1 < (xs.length:Int):=by omega
   have hk3:((k:Int)+1).toNat=m:=by omega
   clear hm;cases hb:okAt xs k
   ·rw [hb] at hg
    have hq:=Zmu 9 _ _ hg;simp only [Bool.not_false] at hq;clear hg;have HA:=hQ (Zacb hlt hb);clear hb hasc;go_wp2;go_quiet (fail);clear hk1 hk2 hk3 hq;go_wp2;go_ret;exact ⟨Zce HA.out.symm,_,World.drewN_drewN _ _ _⟩
   ·rw [hb] at hg
    have hq:=Zmu 9 _ _ hg;simp only [Bool.not_true] at hq;clear hg;have HA:=hQ (Zlm hasc hb);clear hb hasc;go_wp2;go_quiet (fail);clear hk1 hk2 hk3 hq;go_wp2;go_roundw
    case rel=>exact ⟨k+1,by go_num,by omega,HA.out,_,rfl⟩
    case measure=>simp [intOf];omega
  ·have HA:=hQ (Zvz hasc (by omega))
   clear hasc;go_wp2;go_ret;exact ⟨Zce HA.out.symm,n,rfl⟩
def Zbj (n m k:Nat):Bool:=decide (n=0) && decide (m=k)
theorem Zhh (c0:Value)(L A:Option Addr)(n c m d k:Nat)(w:World):Calls Tryz.prog 184 #[.agg #[c0,.slice L n c,.slice A m d],.int .i64 (k:Int)] w (Truth (Zbj n m k) w):=by
 have hb0:Below w.heap.size w (w.alloc (.cells #[c0,.slice L n c,.slice A m d] 38)):=bQ.alloc nQ _;have HR:Hid (∀ b,b=Zbj n m k->Truth (Zbj n m k) w (.returned (.bool b)) (w.alloc (.cells #[c0,.slice L n c,.slice A m d] 38))):=by
  rintro b rfl;exact ⟨rfl,hb0⟩
 clear hb0;by_cases hn:n=0
 ·subst hn
  have HE:Hid (((m:Int) == (k:Int))=Zbj 0 m k):=hQ (by
   unfold Zbj;by_cases h:m=k
   ·subst h;simp
   ·have h':(m:Int)≠(k:Int):=by omega
    simp [h,h'])
  go_enter Tryz.func184,Tryz.ntmps184
  go_wp2_with fail
  go_ret
  exact HR.out _ HE.out
 ·have hn':((n:Int) == 0)=false:=by simp [hn]
  have HE:Hid (false=Zbj n m k):=hQ (by unfold Zbj;simp [hn]);clear hn;go_enter Tryz.func184,Tryz.ntmps184;go_wp2_with fail;go_ret;exact HR.out _ HE.out
theorem Zhv {t:TypeId}{b:Bool}{w:World}{cs:Array Value}{e:Ending}{w':World}(h:Truth b (w.alloc (.cells cs t)) e w'):Truth b w e w':=
 ⟨h.1,((Below.refl _ w).alloc nQ _).trans (h.2.mono (by simp))⟩
theorem Zaad (c0:Value)(L A:Option Addr)(n c m d:Nat)(w:World):Calls Tryz.prog 199 #[.agg #[c0,.slice L n c,.slice A m d]] w (Truth (Zbj n m 0) w):=by
 have HC:=hQ (Zhh c0 L A n c m d 0 (w.alloc (.cells #[c0,.slice L n c,.slice A m d] 169)));go_enter Tryz.func199,Tryz.ntmps199;go_wp2_with fail;refine HC.out.mono ?_;rintro e w1 h;have HF:=hQ (Zhv h);obtain ⟨rfl,_⟩:=h;go_wp2_with fail;go_ret;exact HF.out
theorem Zwb (c0:Value)(L A:Option Addr)(n c m d:Nat)(w:World):Calls Tryz.prog 200 #[.agg #[c0,.slice L n c,.slice A m d]] w (Truth (Zbj n m 0) w):=by
 have HC:=hQ (Zhh c0 L A n c m d 0 (w.alloc (.cells #[c0,.slice L n c,.slice A m d] 170)));go_enter Tryz.func200,Tryz.ntmps200;go_wp2_with fail;refine HC.out.mono ?_;rintro e w1 h;have HF:=hQ (Zhv h);obtain ⟨rfl,_⟩:=h;go_wp2_with fail;go_ret;exact HF.out
theorem Zzm (c0:Value)(L A:Option Addr)(n c m d:Nat)(w:World):Calls Tryz.prog 183 #[.agg #[c0,.slice L n c,.slice A m d]] w (Truth (Zbj n m 1) w):=by
 have HC:=hQ (Zhh c0 L A n c m d 1 (w.alloc (.cells #[c0,.slice L n c,.slice A m d] 132)));go_enter Tryz.func183,Tryz.ntmps183;go_wp2_with fail;refine HC.out.mono ?_;rintro e w1 h;have HF:=hQ (Zhv h);obtain ⟨rfl,_⟩:=h;go_wp2_with fail;go_ret;exact HF.out
theorem Zaaa (c0:Value)(L A:Option Addr)(n c m d:Nat)(w:World):Calls Tryz.prog 198 #[.agg #[c0,.slice L n c,.slice A m d]] w (Truth (Zbj n m 2) w):=by
 have HC:=hQ (Zhh c0 L A n c m d 2 (w.alloc (.cells #[c0,.slice L n c,.slice A m d] 168)));go_enter Tryz.func198,Tryz.ntmps198;go_wp2_with fail;refine HC.out.mono ?_;rintro e w1 h;have HF:=hQ (Zhv h);obtain ⟨rfl,_⟩:=h;go_wp2_with fail;go_ret;exact HF.out
theorem Zxo (c0 c1 c2:Value)(w:World):Calls Tryz.prog 201 #[.agg #[c0,c1,c2]] w (Truth false w):=by
 have HF:Hid (Truth false w (.returned (.bool false)) (w.alloc (.cells #[c0,c1,c2] 171))):=⟨rfl,bQ.alloc nQ _⟩;go_enter Tryz.func201,Tryz.ntmps201;go_wp2_with fail;go_ret;exact HF.out
theorem Zadl {ls:List ByteArray}(h:ls.length=0∨4 < ls.length):labB ls=false:=by
 unfold labB
 rcases h with h|h
 ·rw [decide_eq_false (p:=1<=ls.length) (by omega)];simp
 ·rw [decide_eq_false (p:=ls.length<=4) (by omega)];simp
theorem Zaai {ls:List ByteArray}(h1:1<=ls.length)(h4:ls.length<=4):labB ls=(ascL ls && ls.all nameB):=by
 unfold labB;rw [decide_eq_true h1,decide_eq_true h4,Bool.true_and,Bool.true_and,Bool.and_comm]
theorem Zhl (L:Option Addr)(ls:List ByteArray)(c:Nat)(w:World)(h:Sl w L (ls.map Value.string))(hn:ls.length<=1048576)(hx:∀ x∈ls,x.size<=1048576) :
  Calls Tryz.prog 158 #[.slice L ls.length c] w (Truth (labB ls) w):=by
 have HA:=hQ (Zju L c ls w h hn);have HE:=hQ (fun W (hB:Below w.heap.size w W)=>Zmt L c ls W (h.below hB) hn hx);obtain ⟨n,hnn⟩:∃ n,ls.length=n:=⟨_,rfl⟩;clear h hx;by_cases hno:ls.length=0∨4 < ls.length
 ·have HF:Hid (Truth (labB ls) w (.returned (.bool false)) w):=by rw [Zadl hno];exact ⟨rfl,Below.refl _ _⟩
  rw [hnn] at hno ⊢;clear hnn hn HA HE;go_enter Tryz.func158,Tryz.ntmps158;by_cases h0:n=0
  ·subst h0
   clear hno;go_wp2_with fail;go_ret;exact HF.out
  ·have e0:(0:Int) < (n:Int):=by omega
   have e4:¬ (n:Int)<=4:=by omega
   clear hno h0;go_wp2_with fail;go_ret;exact HF.out
 ·have h1:1<=ls.length:=by omega
  have h4:ls.length<=4:=by omega
  have hY:=Zaai h1 h4;rw [hnn] at h1 h4 HA HE ⊢;have e0:(0:Int) < (n:Int):=by omega
  have e4:(n:Int)<=4:=by omega
  have HY:=hQ hY;clear hno h1 h4 hnn hn hY;go_enter Tryz.func158,Tryz.ntmps158;go_wp2_with fail;refine HA.out.mono ?_;rintro e w2 ⟨rfl,i,rfl⟩;have hb2:Below w.heap.size w (w.drewN i):=Zab bQ i;have HB2:=hQ hb2;clear hb2;cases ha:ascL ls with
  | false=>
   have HF:Hid (Truth (labB ls) w (.returned (.bool false)) (w.drewN i)):=by rw [HY.out,ha];exact ⟨rfl,HB2.out⟩
   clear ha;go_wp2_with fail;go_ret;exact HF.out
  | true=>
   have HC:=hQ (HE.out (w.drewN i) HB2.out);have HF:Hid (labB ls=ls.all nameB):=by rw [HY.out,ha];exact Bool.true_and _
   clear ha;go_wp2_with fail;refine HC.out.mono ?_;rintro e w3 ⟨rfl,hb3⟩;have HR:Hid (Truth (labB ls) w (.returned (.bool (ls.all nameB))) w3):=by rw [HF.out];exact ⟨rfl,HB2.out.trans (hb3.mono HB2.out.size)⟩
   clear hb3;generalize ls.all nameB=b at HR ⊢;go_wp2_with fail;go_ret;exact HR.out
def recB (ls:List ByteArray)(m:Nat):Bool:=decide (m=ls.length) && labB ls
theorem Zabf (c0:Value)(L A:Option Addr)(ls:List ByteArray)(c m d:Nat)(w:World)(h:Sl w L (ls.map Value.string))(hn:ls.length<=1048576)(hx:∀ x∈ls,x.size<=1048576) :
  Calls Tryz.prog 197 #[.agg #[c0,.slice L ls.length c,.slice A m d]] w (Truth (recB ls m) w):=by
 obtain ⟨W1,hW1⟩:∃ W1,w.alloc (.cells #[c0,.slice L ls.length c,.slice A m d] 167)=W1:=⟨_,rfl⟩;obtain ⟨H,hH⟩:∃ H,w.heap.size=H:=⟨_,rfl⟩;have hb0:Below w.heap.size w W1:=by rw [<-hW1];exact bQ.alloc nQ _
 have hbox:Box3 W1 H 167 c0 (.slice L ls.length c) (.slice A m d):=by rw [<-hW1,<-hH];exact Box3.new w _ _ _ _
 have HC:=hQ (Zhl L ls c W1 (h.below hb0) hn hx);have hrec:recB ls m=(labB ls && decide (ls.length=m)):=by
  unfold recB;rw [Bool.and_comm]
  congr 1
  by_cases e:m=ls.length
  ·rw [decide_eq_true e,decide_eq_true e.symm]
  ·rw [decide_eq_false e,decide_eq_false (fun e2=>e e2.symm)]
 have HW1:=hQ hW1;have HB1:=hQ hb0;have BX:=hQ hbox;have x1:=hbox.c1;have x2:=hbox.c2;generalize recB ls m=r at hrec ⊢;generalize labB ls=lb at HC hrec;generalize ls.length=n at HC hrec hW1 x1 BX HW1 hn ⊢;have HN:=hQ hrec;clear h hx hb0 hbox hW1 hrec hn;cases lb with
 | false=>
  go_enter Tryz.func197,Tryz.ntmps197
  go_wp2_with fail
  rw [HW1.out];go_wp2_with fail;refine HC.out.mono ?_;rintro e w2 ⟨rfl,hb2⟩;have HF:Hid (Truth r w (.returned (.bool false)) w2):=hQ ⟨by rw [HN.out];rfl,HB1.out.trans (hb2.mono HB1.out.size)⟩;clear hb2 x1 x2;go_wp2_with fail;go_ret;exact HF.out
 | true=>
  have HE:Hid (r=((n:Int) == (m:Int))):=hQ (by
   rw [HN.out,Bool.true_and];by_cases h:n=m
   ·subst h;simp
   ·have h':(n:Int)≠(m:Int):=by omega
    rw [decide_eq_false h,beq_eq_false_iff_ne.2 h'])
  go_enter Tryz.func197,Tryz.ntmps197
  go_wp2_with fail
  rw [HW1.out];go_wp2_with fail;refine HC.out.mono ?_;rintro e w2 ⟨rfl,hb2⟩;have HF:Hid (Truth r w (.returned (.bool ((n:Int) == (m:Int)))) w2):=hQ ⟨by rw [HE.out],HB1.out.trans (hb2.mono HB1.out.size)⟩;have b2:=BX.out.under hb2 BX.out.lt;clear hb2 x1 x2;have x1:=b2.c1;have x2:=b2.c2;clear b2;go_wp2_with fail;go_ret;exact HF.out
end Go.Proofs.YtlcedleebbgebaaGreatDoor
