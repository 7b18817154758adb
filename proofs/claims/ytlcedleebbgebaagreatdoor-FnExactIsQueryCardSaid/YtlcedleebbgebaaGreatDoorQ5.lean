/-
  Merged by program: TySize, TyNum, TyOnly, KdA, MkDc, LawM, SzDc, ToDc, EqDc, ScF, KTg, ToTg.
-/
import Derived.Test.YtlcedleebbgebaaGreatDoorQ4
import Derived.Lib.Props
set_option maxRecDepth 100000
set_option maxHeartbeats 1600000
namespace Go.Proofs.YtlcedleebbgebaaGreatDoor
open Go.RowKit
def Zjj (n:Int)(w:World)(e:Ending)(w':World):Prop:=e=.returned (.int .i64 n)/\Below w.heap.size w w'
def Tr.deep {α:Type}:Tr α->Nat
 | .node _ ks=>(ks.attach.map fun ⟨t,_⟩=>t.deep).foldl max 0+1
theorem Zfn {α:Type}(a:α)(ks:List (Tr α)):(Tr.node a ks).deep=(ks.map Tr.deep).foldl max 0+1:=by
 rw [Tr.deep]
 congr 2
 exact List.attach_map_val (l:=ks) (f:=Tr.deep) ▸ rfl
def Zdf {α:Type}(ks:List (Tr α))(k:Nat):Nat:=((ks.take k).map Tr.deep).foldl max 0
theorem Zjn {α:Type}(ks:List (Tr α))(k:Nat)(h:k < ks.length):Zdf ks (k+1)=max (Zdf ks k) ks[k].deep:=by
 unfold Zdf;rw [List.take_succ_eq_append_getElem h,List.map_append,List.foldl_append]
 rfl
theorem Zlp {α:Type}(a:α)(ks:List (Tr α)):(Tr.node a ks).deep=Zdf ks ks.length+1:=by rw [Zfn,Zdf,List.take_length]
theorem Zbt {m:Nat}:∀ (xs:List Nat)(a:Nat),a<=m->(∀ x∈xs,x<=m)->xs.foldl max a<=m
 | [],a,h,_=>h
 | x :: xs,a,h,hx=>Zbt xs _ (Nat.max_le.2 ⟨h,hx x (by simp)⟩) (fun y hy=>hx y (by simp [hy]))
theorem Zbh {β:Type}(f:β->Nat) {ks:List β}{t:β}(h:t∈ks):f t<=(ks.map f).sum:=by
 induction ks with
 | nil=>cases h
 | cons x xs ih=>
  rcases List.mem_cons.1 h with rfl|h
  ·simp
  ·have:=ih h;simp;omega
theorem Zfm:∀ t:Ty,t.deep<=t.size:=by
 refine Tr.ind ?_
 intro a ks ih
 rw [Zfn,Zet]
 have:=Zbt (m:=(ks.map Tr.size).sum) (ks.map Tr.deep) 0 (Nat.zero_le _) (by
  intro x hx
  obtain ⟨t,ht,rfl⟩:=List.mem_map.1 hx;exact Nat.le_trans (ih t ht) (Zbh Tr.size ht))
 omega
theorem Zqc {a:TyA}{ks:List Ty}{t:Ty}(h:t∈ks):t.size < (Tr.node a ks).size:=by
 rw [Zet]
 have:=Zbh Tr.size h
 omega
theorem Zoj {w:World}{a b:Nat}:Calls Tryz.prog 98 #[.int .i64 a,.int .i64 b] w (Zjj (max a b:Nat) w):=by
 have h1:b < a->(Zjj (max a b:Nat) w (.returned (.int .i64 a)) w):=by
  intro h;refine ⟨?_,Below.refl _ _⟩;rw [Nat.max_eq_left (by omega)]
 have h2:¬ b < a->(Zjj (max a b:Nat) w (.returned (.int .i64 b)) w):=by
  intro h;refine ⟨?_,Below.refl _ _⟩;rw [Nat.max_eq_right (by omega)]
 have H1:=hQ h1;have H2:=hQ h2;clear h1 h2;go_enter Tryz.func98,Tryz.ntmps98;by_cases h:b < a
 ·have hH:=hQ (H1.out h)
  clear H1 H2;go_wp2_with fail;go_ret;exact hH.out
 ·have hH:=hQ (H2.out h)
  clear H1 H2;go_wp2_with fail;go_ret;exact hH.out
theorem Zni:∀ (t:Ty)(w:World)(cs:List Value),RTy w t cs->t.size<=1048577->Calls Tryz.prog 96 #[.agg cs.toArray] w (Zjj t.deep w):=by
 refine Tr.ind ?_
 intro a ks ih w cs h hs
 obtain ⟨L,c,A,d,rfl,k1,k2,k3,k4,k5,k6,hp⟩:=h.out;have hle:=Zfm (.node a ks);have hkd:∀ k,k<=ks.length->Zdf ks k < 1048577:=by
  intro k hk
  have:=Zbt (m:=(ks.map Tr.size).sum) ((ks.take k).map Tr.deep) 0 (Nat.zero_le _) (by
   intro x hx
   obtain ⟨t,ht,rfl⟩:=List.mem_map.1 hx;exact Nat.le_trans (Zfm t) (Zbh Tr.size (List.mem_of_mem_take ht)))
  rw [Zet] at hs;unfold Zdf
  omega
 have hall:=Zlp a ks;obtain ⟨W1,hW1⟩:∃ W1,w.alloc (.cells #[.int .i64 a.kind,.slice L a.labels.length c,.slice A ks.length d] 38)=W1:=⟨_,rfl⟩;have hb0:Below w.heap.size w W1:=by rw [<-hW1];exact bQ.alloc nQ _
 have hbox:W1.cell? ⟨w.heap.size,2,none⟩=some (.slice A ks.length d):=by rw [<-hW1];exact cell_of_row _ _ 2 _ _ _ (heap_alloc_new w _)
 have HP:=hQ hp;have HI:=hQ ih;have HB0:=hQ hb0;have HBOX:=hQ hbox;have HW1:=hQ hW1;have HS:=hQ hs;have HKD:=hQ hkd;have HALL:=hQ hall;clear hp ih hb0 hbox hW1 k1 k5 h hkd hall hle hs;go_enter Tryz.func96,Tryz.ntmps96;go_wp2_with fail;rw [HW1.out];go_loopw [3,4] (fun n i wr=>∃ k:Nat,k<=ks.length/\i=.int .i64 k/\n=.int .i64 ((Zdf ks k:Nat):Int)/\Below W1.heap.size W1 wr) (fun _ i _=>ks.length - (intOf i).toNat)
 case atStart=>exact ⟨0,Nat.zero_le _,rfl,rfl,Below.refl _ _⟩
 case round=>
  obtain ⟨k,hk,rfl,rfl,hb⟩:=hrel;have hbw:=HB0.out.trans (hb.mono HB0.out.size);have hbx:wr.cell? ⟨w.heap.size,2,none⟩=some (.slice A ks.length d):=(hb.cell (World.block_lt_of_cell? W1 _ HBOX.out)).trans HBOX.out;by_cases hlt:k < ks.length
  ·obtain ⟨ad,p,c0,c1,c2,rfl,hpe,hr,q0,q1,q2⟩:=Zal HP.out hbw hlt
   have hst:=Zjn ks k hlt;have hd1:=HKD.out k hk;have hd2:=HKD.out (k+1) hlt;have hc:=HI.out ks[k] (List.getElem_mem hlt) wr [c0,c1,c2] hr (by have:=Zqc (a:=a) (List.getElem_mem hlt);have:=HS.out;omega);obtain ⟨n,hn⟩:∃ n,Zdf ks k=n:=⟨_,rfl⟩;obtain ⟨m,hm⟩:∃ m,ks[k].deep=m:=⟨_,rfl⟩;rw [hst] at hd2;rw [hn,hm] at hst hd2;rw [hn] at hd1;rw [hm] at hc;rw [hn];have hmx:=fun W=>Zoj (w:=W) (a:=n) (b:=m)
   have HC:=hQ hc;have HST:=hQ hst;have HMX:=hQ hmx;have hmm:m < 1048577:=by omega
   clear hc hr hst hn hm hd2 hmx;go_wp2_with fail;refine HC.out.mono ?_;rintro e w2 ⟨rfl,hb2⟩;have hb3:=hb.trans (hb2.mono hb.size);go_wp2_with fail;refine (HMX.out w2).mono ?_;rintro e w3 ⟨rfl,hb4⟩;have hb5:=hb3.trans (hb4.mono hb3.size);go_wp2_with fail;go_roundw
   case rel=>exact ⟨k+1,hlt,by go_num,by rw [HST.out],hb5⟩
   case measure=>simp [intOf];omega
  ·have he:k=ks.length:=by omega
   have hd1:=HKD.out k hk;have HR:Hid (Zjj (((Tr.node a ks).deep:Nat):Int) w (.returned (.int .i64 (((Zdf ks k:Nat):Int)+1))) wr):=by
    rw [HALL.out,he];exact ⟨by rw [Int.natCast_add];rfl,hbw⟩
   obtain ⟨n,hn⟩:∃ n,Zdf ks k=n:=⟨_,rfl⟩;rw [hn] at HR hd1 ⊢;clear he hn;go_wp2_with fail;go_ret;exact HR.out
def Tr.cnt (t:Ty):Nat:=t.sum fun a=>1+a.labels.length
def cntK (ks:List Ty):Nat:=(ks.map Tr.cnt).sum
theorem Zzs (a:TyA)(ks:List Ty):(Tr.node a ks).cnt=1+a.labels.length+cntK ks:=Tr.sum_node _ a ks
theorem Zfk {P:Program}(w:World) {ops:Array Oper}{rest:List Oper}{o:Oper}{a:Act}{Q:Exit->Act->World->Prop}(hgd:o.guard=none)(s x:Operand)(t:TypeId)
  (ho:o.op=.call { callee:=.builtin .append,args:=#[s,x],argTypes:=#[t,t] })
  (base:Nat) (e:TypeId) (i:TypeInfo) (z:Value) (size bytes:Nat) (ht:P.underlying t=some (.slice e)) (hi:P.info? e=some i) (hz:i.zero=some z) (hsize:i.size=size) (hby:i.bytes=bytes) (hzs:z.cells.size=size) (hsz:0 < size)
  (v:Value) (n:Nat) (xs:List Value) (hs:a.eval s=v) (hown:w.ownsRow base e size v n xs) (ad:Addr) (m c:Nat) (news:List Value) (hx:a.eval x=.slice (some ad) m c) (hl:news.length=m * size)
  (hnews:∀ j u,news[j]?=some u->w.cell? (ad.add j)=some u) (h1:∀ u∈news,u.oneCell'=true) (h63:n+m<=maxLen) (hbytes:(n+m) * bytes<=140737488355328) (hbase:base<=w.heap.size)
  (h:∀ A4 d4 w4,w4.ownsRow base e size (.slice A4 (n+m) d4) (n+m) (xs ++ news)->w.grownBy w4 v.ownBlock->((Value.slice A4 (n+m) d4).ownBlock=v.ownBlock∨(Value.slice A4 (n+m) d4).ownBlock=some w.heap.size)->wpList P ops Q rest (a.put o.dst (.slice A4 (n+m) d4)) w4):wpList P ops Q (o :: rest) a w:=by
 obtain ⟨v',w',hr,h2,h3,_,h4⟩:=run_append_own_at (P:=P) w base t o.type e i z size bytes ht hi hz hsize hby hzs hsz v n xs hown ad m c news hl hnews h1 h63 hbytes hbase;obtain ⟨A4,d4,rfl⟩:=Zep h2;exact Lib.wpList_append_run w hgd s x t t ho _ _ hs hx _ w' hr (h A4 d4 w' h2 h3 h4)
section
variable {α:Type}
def OLc (a:Kd α)(e:TypeId)(w:World)(xs:List α)(A:Option Addr)(d:Nat)(cells:List Value)(fs:Nat->List Nat)(fp:List Nat):Prop:=
 xs.length<=9223372036854775807/\w.ownsRow 0 e a.n (.slice A xs.length d) xs.length cells/\(∀ (j:Nat) (x:α),xs[j]?=some x->a.O w x (partK a.n cells j) (fs j))/\fp=blk A ++ (List.range xs.length).flatMap fs/\fp.Nodup
theorem OLc.ol {a:Kd α}{e:TypeId}{w:World}{xs:List α}{A:Option Addr}{d:Nat}{cells:List Value}{fs:Nat->List Nat}{fp:List Nat}(h:OLc a e w xs A d cells fs fp):OL a e w xs (.slice A xs.length d) fp:=⟨A,d,cells,fs,rfl,h⟩
theorem OL.parts {a:Kd α}{e:TypeId}{w:World}{xs:List α}{A:Option Addr}{n d:Nat}{fp:List Nat}(h:OL a e w xs (.slice A n d) fp):n=xs.length/\∃ cells fs,OLc a e w xs A d cells fs fp:=by
 obtain ⟨A',d',cells,fs,e1,h⟩:=h;injection e1 with e1 e2 e3
 subst e1 e2 e3;exact ⟨rfl,cells,fs,h⟩
theorem Zady (a:Kd α)(e:TypeId)(w:World) {base:Nat}{A:Option Addr}{d:Nat}(h:w.ownsRow base e a.n (.slice A 0 d) 0 []):OLc a e w [] A d [] (fun _=>[]) (blk A):=
 ⟨by simp,Zne h,fun j x hj=>by simp at hj,by simp,Zek A⟩
theorem Zfu {β:Type}{n:Nat}{xs rs:List β}{k j:Nat}(hl:xs.length=k * n)(hj:j < k):partK n (xs ++ rs) j=partK n xs j:=by
 apply List.ext_getElem?
 intro i
 by_cases hi:i < n
 ·rw [Zeq _ _ _ _ hi,Zeq _ _ _ _ hi]
  have:j * n+n<=k * n:=by
   have:=Nat.mul_le_mul_right n (show j+1<=k from hj)
   rw [Nat.succ_mul] at this;exact this
  rw [List.getElem?_append_left (by omega)]
 ·unfold partK
  rw [List.getElem?_take_eq_none (by omega),List.getElem?_take_eq_none (by omega)]
theorem Zfv {β:Type}{n:Nat}{xs rs:List β}{k:Nat}(hl:xs.length=k * n)(hr:rs.length=n):partK n (xs ++ rs) k=rs:=by
 unfold partK;rw [List.drop_append_of_le_length (by omega),List.drop_eq_nil_of_le (by omega),List.nil_append,List.take_of_length_le (by omega)]
theorem Zid {w w':World}(hb:Below w.heap.size w w'):w.grownBy w' none:=⟨hb.os,hb.tape,hb.output,hb.size,fun i hi _=>hb.block i hi⟩
theorem Held.of_grown {w w':World}{row:Option Nat}(h:w.grownBy w' row):Held (fun b=>some b≠row) w w':=⟨h.os,h.tape,h.output,h.size,fun i hi hd=>h.block i hi hd⟩
theorem OLc.held {a:Kd α}{e:TypeId}{w w':World}{xs:List α}{A:Option Addr}{d:Nat}{cells:List Value}{fs:Nat->List Nat}{fp:List Nat}{K:Nat->Prop}(h:OLc a e w xs A d cells fs fp)(hH:Held K w w')(hK:∀ b∈fp,K b):OLc a e w' xs A d cells fs fp:=by
 obtain ⟨h1,h2,h3,rfl,h5⟩:=h;refine ⟨h1,Zft h2 hH fun b hb=>hK b (by simp [hb]),fun j x hj=>a.held (h3 j x hj) hH fun b hb=>hK b ?_,rfl,h5⟩;rw [List.mem_append,List.mem_flatMap];exact .inr ⟨j,List.mem_range.2 (List.getElem?_eq_some_iff.1 hj).1,hb⟩
theorem OLc.under {a:Kd α}{e:TypeId}{w w':World}{xs:List α}{A:Option Addr}{d:Nat}{cells:List Value}{fs:Nat->List Nat}{fp:List Nat}(h:OLc a e w xs A d cells fs fp)(hb:Below w.heap.size w w'):OLc a e w' xs A d cells fs fp:=
 h.held (K:=fun _=>True) ⟨hb.os,hb.tape,hb.output,hb.size,fun i hi _=>hb.block i hi⟩ fun _ _=>trivial
theorem OLc.row {a:Kd α}{e:TypeId}{w:World}{xs:List α}{A:Option Addr}{d:Nat}{cells:List Value}{fs:Nat->List Nat}{fp:List Nat}(h:OLc a e w xs A d cells fs fp):w.ownsRow 0 e a.n (.slice A xs.length d) xs.length cells:=h.2.1
theorem Zue {a:Kd α}{e:TypeId}{w3 w4:World}{xs:List α}{x:α}{A A':Option Addr}{d d':Nat}{cells rs:List Value}{fs:Nat->List Nat}{fp fx:List Nat}(h:OLc a e w3 xs A d cells fs fp)(hn:xs.length+1<=9223372036854775807)
  (hx:a.O w3 x rs fx) (hdis:∀ b∈fx,b∉fp) (hxl:∀ b∈fx,b < w3.heap.size) (hfl:∀ b∈fp,b < w3.heap.size) (hown:w4.ownsRow 0 e a.n (.slice A' (xs.length+1) d') (xs.length+1) (cells ++ rs)) (hgr:w3.grownBy w4 (Value.slice A xs.length d).ownBlock)
  (hor:(Value.slice A' (xs.length+1) d').ownBlock=(Value.slice A xs.length d).ownBlock∨(Value.slice A' (xs.length+1) d').ownBlock=some w3.heap.size) :
  ∃ fs' fp',OLc a e w4 (xs ++ [x]) A' d' (cells ++ rs) fs' fp'/\∀ b∈fp',(b∈fp∨b∈fx∨b=w3.heap.size)/\b < w4.heap.size:=by
 obtain ⟨h1,h2,h3,rfl,h5⟩:=h;have hcl:cells.length=xs.length * a.n:=h2.1;have hrl:rs.length=a.n:=a.len (a.reads hx);have hs4:=hgr.size;obtain ⟨nA,nF,dAF⟩:=List.nodup_append.1 h5;have hA':∀ b∈blk A',b∈blk A∨b=w3.heap.size:=by
  intro b hm
  have e1:=(Zam A' (xs.length+1) d' b).2 hm
  rcases hor with h|h
  ·rw [h] at e1;exact .inl ((Zam A _ d b).1 e1)
  ·rw [h] at e1;injection e1 with e1;exact .inr e1.symm
 have notrow:∀ b,b∉blk A->some b≠(Value.slice A xs.length d).ownBlock:=fun b hm e1=>hm ((Zam A _ d b).1 e1.symm)
 have hfj:∀ j,j < xs.length->∀ b∈fs j,b∈(List.range xs.length).flatMap fs:=fun j hj b hm=>List.mem_flatMap.2 ⟨j,List.mem_range.2 hj,hm⟩
 have hfx:∀ b∈fx,b∉blk A/\b∉(List.range xs.length).flatMap fs:=fun b hb=>⟨fun h=>hdis b hb (by simp [h]),fun h=>hdis b hb (List.mem_append.2 (.inr h))⟩
 have hH:=Held.of_grown hgr;refine ⟨fun j=>if j=xs.length then fx else fs j,blk A' ++ ((List.range xs.length).flatMap fs ++ fx),⟨by rw [List.length_append];exact hn,by rw [List.length_append];exact hown,fun j y hj=>?_,?_,?_⟩,?_⟩
 ·by_cases ej:j=xs.length
  ·subst ej
   rw [List.getElem?_append_right nQ,Nat.sub_self] at hj;obtain rfl:x=y:=by simpa using hj
   show a.O _ _ _ (if xs.length=xs.length then fx else fs xs.length)
   rw [if_pos rfl,Zfv hcl hrl];exact a.held hx hH fun b hb=>notrow b (hfx b hb).1
  ·have hjl:j < xs.length:=by
    have:=(List.getElem?_eq_some_iff.1 hj).1
    rw [List.length_append] at this;have e2:[x].length=1:=rfl
    omega
   rw [List.getElem?_append_left hjl] at hj
   show a.O _ _ _ (if j=xs.length then fx else fs j)
   rw [if_neg ej,Zfu hcl hjl];exact a.held (h3 j y hj) hH fun b hb=>notrow b (fun hA=>dAF b hA b (hfj j hjl b hb) rfl)
 ·rw [List.length_append,show [x].length=1 from rfl,Zel]
 ·refine List.nodup_append.2 ⟨Zek _,List.nodup_append.2 ⟨nF,a.nodup hx,fun p hp q hq e1=>?_⟩,fun p hp q hq e1=>?_⟩
  ·subst e1;exact (hfx p hq).2 hp
  ·subst e1
   rcases hA' p hp with h|h
   ·rcases List.mem_append.1 hq with h'|h'
    ·exact dAF p h p h' rfl
    ·exact (hfx p h').1 h
   ·rcases List.mem_append.1 hq with h'|h'
    ·have:=hfl p (List.mem_append.2 (.inr h'));omega
    ·have:=hxl p h';omega
 ·intro b hb
  rcases List.mem_append.1 hb with h|h
  ·have h6:=(hown.lt b ((Zam A' _ d' b).2 h)).2
   rcases hA' b h with h'|h'
   ·exact ⟨.inl (by simp [h']),h6⟩
   ·exact ⟨.inr (.inr h'),h6⟩
  ·rcases List.mem_append.1 h with h'|h'
   ·have:=hfl b (List.mem_append.2 (.inr h'));exact ⟨.inl (List.mem_append.2 (.inr h')),by omega⟩
   ·have:=hxl b h';exact ⟨.inr (.inl h'),by omega⟩
end
def cntDc (d:Dc):Nat:=1+d.2.cnt
def cntSc (t:Sc):Nat:=(t.map cntDc).sum
theorem Zwf (t:Ty):t.cnt<=wt t+1:=by
 have:t.cnt<=t.sum (fun a=>wtA a+1):=by
  refine Tr.ind (m:=fun t=>t.cnt<=t.sum (fun a=>wtA a+1)) (fun a ks ih=>?_) t;rw [Zzs,Tr.sum_node];have h:=Zpd Tr.cnt (Tr.sum fun a=>wtA a+1) ks ih;have h2:cntK ks=(ks.map Tr.cnt).sum:=rfl;have h3:wtA a=a.labels.length+total a.labels:=rfl
  omega
 unfold wt
 omega
theorem Zagf {α:Type}{f g:α->Nat}(h:∀ x,f x<=2 * g x+3)(xs:List α):(xs.map f).sum<=3 * wL g xs:=by
 unfold wL
 induction xs with
 | nil=>simp
 | cons x xs ih=>have:=h x;simp only [List.map_cons,List.sum_cons,List.length_cons] at *;omega
theorem Zacs (t:Sc):cntSc t<=3 * wSc t:=Zagf (fun d=>by have:=Zwf d.2;unfold cntDc wDc;omega) t
theorem Zabj (x:Dc)(w:World)(cs:List Value)(left:Int)(h:kDc.R w x cs)(h0:0<=left)(h1:left<=1048576):Calls Tryz.prog 59 #[.agg cs.toArray,.int .i64 left] w (SzV (wDc x) left w):=by
 obtain ⟨tk,TL,TA,tl,tc,ta,td,rfl,hs,hy⟩:=Zcc h;obtain ⟨W1,hW1⟩:∃ W1,w.alloc (.cells #[.string x.1,.int .i64 tk,.slice TL tl tc,.slice TA ta td] 97)=W1:=⟨_,rfl⟩;obtain ⟨H,hH⟩:∃ H,w.heap.size=H:=⟨_,rfl⟩;have hbox:Box4 W1 H 97 (.string x.1) (.int .i64 tk) (.slice TL tl tc) (.slice TA ta td):=by rw [<-hW1,<-hH];exact Box4.new w _ _ _ _ _
 have hb0:Below w.heap.size w W1:=by rw [<-hW1];exact bQ.alloc nQ _
 have HC:=hQ (fun (l:Int) (g0:0<=l) (g1:l<=1048576)=>Zagg x.2 W1 _ l (kTy.keep hy hb0) g0 g1);have HW1:=hQ hW1;have HB0:=hQ hb0;have x0:=hbox.c0;have x1:=hbox.c1;have x2:=hbox.c2;have x3:=hbox.c3;have HWX:Hid (wDc x=x.1.size+wt x.2):=hQ rfl;generalize wDc x=wx at HWX ⊢;generalize wt x.2=wy at HWX HC;generalize x.1=nm at HWX HW1 hs x0 ⊢;clear h hy hW1 hbox hb0;by_cases hneg:left - nm.size < 0
 ·go_enter Tryz.func59,Tryz.ntmps59
  go_wp2_with fail
  rw [HW1.out];go_wp2_with fail;go_ret;exact ⟨-1,rfl,by omega,by omega,by omega,HB0.out⟩
 ·have HC1:=hQ (HC.out (left - nm.size) (by omega) (by omega))
  go_enter Tryz.func59,Tryz.ntmps59
  go_wp2_with fail
  rw [HW1.out];go_wp2_with fail;refine HC1.out.mono ?_;rintro e w2 ⟨r,rfl,hs1,hs2,hs3,hb2⟩;have HS3:=hQ hs3;have HB2:=hQ (HB0.out.trans (hb2.mono HB0.out.size));clear hs3 hb2;by_cases hz:r < 0
  ·go_wp2_with fail
   go_ret
   exact ⟨-1,rfl,by omega,by omega,by omega,HB2.out⟩
  ·go_wp2_with fail
   go_ret
   refine ⟨r,rfl,by omega,by omega,fun _=>?_,HB2.out⟩;have e2:=HS3.out (by omega);have e3:=HWX.out
   omega
theorem Zyp (xs:List Dc)(w:World)(A:Option Addr)(d:Nat)(left:Int)(hp:RL kDc w A xs)(hl:xs.length<=9223372036854775807)(h0:0<=left)(h1:left<=1048576) :
  Calls Tryz.prog 24 #[.slice A xs.length d,.int .i64 left] w (SzV (wL wDc xs) left w):=by
 have HP:=hQ hp;clear hp;by_cases hneg:left - xs.length < 0
 ·go_enter Tryz.func24,Tryz.ntmps24
  go_wp2_with fail
  go_ret
  exact ⟨-1,rfl,by omega,by omega,by omega,Below.refl _ _⟩
 ·go_enter Tryz.func24,Tryz.ntmps24
  go_wp2_with fail
  go_loopw [1,5] (fun l i wr=>∃ k:Nat,k<=xs.length/\i=.int .i64 k/\∃ r:Int,l=.int .i64 r/\0<=r/\r+xs.length+((xs.take k).map wDc).sum=left/\Below w.heap.size w wr) (fun _ i _=>xs.length - (intOf i).toNat)
  case atStart=>exact ⟨0,Nat.zero_le _,rfl,_,rfl,by omega,by simp,Below.refl _ _⟩
  case round=>
   obtain ⟨k,hk,rfl,r,rfl,hr0,hr,hb⟩:=hrel;have hr1:r<=1048576:=by omega
   have HR:=hQ hr;clear hr;by_cases hlt:k < xs.length
   ·obtain ⟨ad,p,c0,c1,c2,c3,rfl,hpe,hrt,q0,q1,q2,q3⟩:=Zec kDc_n HP.out hb hlt
    have hst:=Zax wDc xs k hlt;have hc:=Zabj xs[k] wr [c0,c1,c2,c3] r hrt hr0 hr1;obtain ⟨m,hm⟩:∃ m,wDc xs[k]=m:=⟨_,rfl⟩;rw [hm] at hst hc;have HC:=hQ hc;have HST:=hQ hst;clear hc hrt hst hm;go_wp2_with fail;refine HC.out.mono ?_;rintro e w2 ⟨r',rfl,hr2,hr3,hr4,hb2⟩;have HB3:=hQ (hb.trans (hb2.mono hb.size));have HR4:=hQ hr4;clear hr4 hb2;by_cases hz:r' < 0
    ·go_wp2_with fail
     go_ret
     exact ⟨-1,rfl,by omega,by omega,by omega,HB3.out⟩
    ·go_wp2_with fail
     go_roundw
     case rel=>exact ⟨k+1,hlt,by go_num,r',rfl,by omega,by have h1:=HR4.out (by omega);have h2:=HR.out;have h3:=HST.out;omega,HB3.out⟩
     case measure=>simp [intOf];omega
   ·have he:k=xs.length:=by omega
    have HS:Hid (r+wL wDc xs=left):=by
     have h:=HR.out;rw [he,List.take_length] at h
     show _=_
     unfold wL
     omega
    clear he;go_wp2_with fail;go_ret;exact ⟨r,rfl,by have:=HR.out;omega,by omega,fun _=>HS.out,hb⟩
theorem Zafg:(Tryz.prog.info? 101).map (fun i=>(i.zero,i.size,i.bytes))=some (some (.agg #[.string ⟨#[]⟩,.int .i64 0,.slice none 0 0,.slice none 0 0]),4,72):=by kernel_rfl
theorem Zabm (x:Dc)(w:World)(cs:List Value)(h:kDc.R w x cs)(hw:wDc x<=1048576):Calls Tryz.prog 69 #[.agg cs.toArray] w (MadeK kDc x (fun cs=>.agg cs.toArray) w):=by
 obtain ⟨tk,TL,TA,tl,tc,ta,td,rfl,hs,hy⟩:=Zcc h;obtain ⟨W1,hW1⟩:∃ W1,((w.alloc (.cells #[.string x.1,.int .i64 tk,.slice TL tl tc,.slice TA ta td] 97)).alloc (.cells #[.string ⟨#[]⟩,.int .i64 0,.slice none 0 0,.slice none 0 0] 101)).alloc (.cells #[.string x.1,.int .i64 0,.slice none 0 0,.slice none 0 0] 101)=W1:=⟨_,rfl⟩;obtain ⟨H,hH⟩:∃ H,w.heap.size=H:=⟨_,rfl⟩;have b0:Box4 W1 H 97 (.string x.1) (.int .i64 tk) (.slice TL tl tc) (.slice TA ta td):=by rw [<-hW1,<-hH];exact ((Box4.new w _ _ _ _ _).alloc _).alloc _
 have b1:Box4 W1 (H+1) 101 (.string ⟨#[]⟩) (.int .i64 0) (.slice none 0 0) (.slice none 0 0):=by
  rw [<-hW1,<-hH]
  have:=(Box4.new (w.alloc (.cells #[.string x.1,.int .i64 tk,.slice TL tl tc,.slice TA ta td] 97)) 101 (.string ⟨#[]⟩) (.int .i64 0) (.slice none 0 0) (.slice none 0 0)).alloc (.cells #[.string x.1,.int .i64 0,.slice none 0 0,.slice none 0 0] 101)
  simpa using this
 have b2:Box4 W1 (H+1+1) 101 (.string x.1) (.int .i64 0) (.slice none 0 0) (.slice none 0 0):=by
  rw [<-hW1,<-hH]
  have:=Box4.new ((w.alloc (.cells #[.string x.1,.int .i64 tk,.slice TL tl tc,.slice TA ta td] 97)).alloc (.cells #[.string ⟨#[]⟩,.int .i64 0,.slice none 0 0,.slice none 0 0] 101)) 101 (.string x.1) (.int .i64 0) (.slice none 0 0) (.slice none 0 0)
  simpa using this
 have hb1:Below w.heap.size w W1:=by rw [<-hW1];exact ((bQ.alloc nQ _).alloc (by simp) _).alloc (by simp;omega) _
 have hs1:W1.heap.size=H+1+1+1:=by rw [<-hW1,<-hH];simp
 have hwy:wt x.2<=1048576:=by unfold wDc at hw;omega
 have HC:=hQ (Zagh x.2 W1 _ (kTy.keep hy hb1) hwy);have HMK:Hid (∀ (U:World) (rs:List Value) (fp:List Nat),kTy.O U x.2 rs fp->(∀ b∈fp,w.heap.size<=b/\b < U.heap.size)->Below w.heap.size w U->MadeK kDc x (fun cs=>.agg cs.toArray) w (.returned (.agg (.string x.1 :: rs).toArray)) U):=hQ (fun U rs fp h1 h2 h3=>⟨_,fp,rfl,Zwv hs h1,h2,h3⟩);have HW1:=hQ hW1;have HB1:=hQ hb1;have HS1:=hQ hs1;have HH:=hQ hH;have B1:=hQ b1;have B2:=hQ b2;have x0:=b0.c0;have x1:=b0.c1;have x2:=b0.c2;have x3:=b0.c3;clear h hy hW1 b0 b1 b2 hb1 hs1 hw hwy;generalize x.1=nm at HW1 HMK B2 hs x0 ⊢;go_enter Tryz.func69,Tryz.ntmps69;go_wp2_with fail;rw [HW1.out];go_wp2_with fail;refine HC.out.mono ?_;rintro e w2 ⟨rs,fp,he,ho,hfp,hb2⟩;obtain ⟨rk,RL,RA,rl,rc,ra,rd,rfl⟩:=Zfo (kTy.reads ho);subst he;have hz2:=hb2.size;have hz1:=HS1.out;have t1:=B1.out.under hb2 (by omega);have t2:=B2.out.under hb2 (by omega);have g0:=t2.c0;have g1:=t2.c1;have g2:=t2.c2;have g3:=t2.c3;have gf1:=t2.free 1;have gf2:=t2.free 2;have gf3:=t2.free 3;have k0:=t1.c0;have k1:=t1.c1;have k2:=t1.c2;have k3:=t1.c3;have kf0:=t1.free 0;have kf1:=t1.free 1;have kf2:=t1.free 2;have kf3:=t1.free 3;have HO:=hQ ho;have HFP:=hQ hfp;have HB2:=hQ hb2;have T1:=hQ t1;have HZ2:=hQ hz2;clear ho hfp hb2 t1 t2 hz2 hz1 x0 x1 x2 x3;go_wp2_with fail;generalize hV:(((w2.setCell ⟨H+1+1,1,none⟩ (.int .i64 rk)).setCell ⟨H+1+1,2,none⟩ (.slice RL rl rc)).setCell ⟨H+1+1,3,none⟩ (.slice RA ra rd))=V;generalize hU:((((V.setCell ⟨H+1,0,none⟩ (.string nm)).setCell ⟨H+1,1,none⟩ (.int .i64 rk)).setCell ⟨H+1,2,none⟩ (.slice RL rl rc)).setCell ⟨H+1,3,none⟩ (.slice RA ra rd))=U;have hg5:w2.grownBy V (some (H+1+1)):=by rw [<-hV];exact Zaa (Zaa (Zaa (gQ) _) _) _
 have hg6:V.grownBy U (some (H+1)):=by rw [<-hU];exact Zaa (Zaa (Zaa (Zaa (gQ) _) _) _) _
 have u1:Box4 U (H+1) 101 (.string nm) (.int .i64 rk) (.slice RL rl rc) (.slice RA ra rd):=by
  rw [<-hU,<-hV];exact (((((((T1.out.far (by show H+1≠H+1+1;omega) _).far (by show H+1≠H+1+1;omega) _).far (by show H+1≠H+1+1;omega) _).set0 _).set1 _).set2 _).set3 _)
 have hww:=HH.out;have hz1:=HS1.out;have hz2:=HZ2.out;have hs5:=hg5.size;have hs6:=hg6.size;have hne:∀ b∈fp,H+1+1 < b:=fun b hb=>by have:=(HFP.out b hb).1;omega
 have hO:=kTy.okeep (kTy.okeep HO.out hg5 (fun b hb e=>by injection e with e;have:=hne b hb;omega)) hg6 (fun b hb e=>by injection e with e;have:=hne b hb;omega);have hbU:Below w.heap.size w U:=((HB1.out.trans (HB2.out.mono HB1.out.size)).grown hg5 (HB1.out.trans (HB2.out.mono HB1.out.size)).size (fun q hq=>by injection hq with hq;omega)).grown hg6 (by have:=(HB1.out.trans (HB2.out.mono HB1.out.size)).size;omega) (fun q hq=>by injection hq with hq;omega);have q0:=u1.c0;have q1:=u1.c1;have q2:=u1.c2;have q3:=u1.c3;have HR:=hQ (HMK.out U _ fp hO (fun b hb=>by have:=HFP.out b hb;omega) hbU);clear hO hbU hne hg5 hg6 hV hU u1;exact bodyPost_ret (v:=.agg #[.string nm,.int .i64 rk,.slice RL rl rc,.slice RA ra rd]) (by simp [results,Tryz.results69,go_sem,q0,q1,q2,q3]) rfl HR.out
theorem Zyv (xs:List Dc)(w:World)(A:Option Addr)(d:Nat)(hp:RL kDc w A xs)(hw:wL wDc xs<=1048576):Calls Tryz.prog 33 #[.slice A xs.length d] w (Zabv kDc 101 xs w):=by
 obtain ⟨i0,hi,hz0,hz1,hz2⟩:=info_parts Zafg;have hl:xs.length<=1048576:=by unfold wL at hw;omega
 have HP:=hQ hp;have HWT:=hQ hw;clear hp hw;go_enter Tryz.func33,Tryz.ntmps33;go_wp2_with (at_make;refine wpList_make_full _ rfl _ _ 41 rfl w.heap.size 101 i0 (.agg #[.string ⟨#[]⟩,.int .i64 0,.slice none 0 0,.slice none 0 0]) 4 Tryz.underlying41 hi hz0 hz1 _ _ _ _ xs.length rfl rfl rfl rfl (by rw [hz2];omega) (by unfold maxLen;omega) nQ ?_;intro w0 hown0 hgrow0);have hb0:Below w.heap.size w w0:=bQ.grown hgrow0 nQ (fun k hk=>by cases hk);go_loopw [4] (fun i wr=>Zlj kDc 101 xs w i wr) (fun i _=>xs.length - (intOf i).toNat)
 case atStart=>exact Zrb kDc 101 xs hown0 hb0
 case round=>
  obtain ⟨k,cells,fs,hk,rfl,hown,hkid,hnd,hbd,hb⟩:=hrel;have HO:=hQ hown;have HK:=hQ hkid;have HN:=hQ hnd;have HBD:=hQ hbd;have HB:=hQ hb;clear hown hkid hnd hbd;by_cases hlt:k < xs.length
  ·obtain ⟨ad,p,c0,c1,c2,c3,rfl,hpe,hrt,q0,q1,q2,q3⟩:=Zec kDc_n HP.out hb hlt
   have HC:=hQ (Zabm xs[k] wr [c0,c1,c2,c3] hrt (wL_le hlt HWT.out).1);clear hrt;go_wp2_with fail;refine HC.out.mono ?_;rintro e w2 ⟨rs,fp,he,hot,hfp,hb2⟩;obtain ⟨rk,RL,RA,rl,rc,ra,rd,hrs,_,_⟩:=Zww hot;subst hrs;subst he;generalize xs[k].1=nm at hot ⊢;have ho2:w2.ownsRow w.heap.size 101 4 (.slice (some ⟨w.heap.size,0,none⟩) xs.length xs.length) xs.length cells:=HO.out.kept (row:=none) ⟨hb2.os,hb2.tape,hb2.output,hb2.size,fun i hi _=>hb2.block i hi⟩ (.inr (by simp [Value.ownBlock]));have hxl:cells.length=xs.length * 4:=ho2.1;have m0:w2.cell? ⟨w.heap.size,k * 4,none⟩=some (cells[k * 4]'(by omega)):=by rw [ho2.cellAt _ (by omega)];exact List.getElem?_eq_getElem _
   have m1:w2.cell? ⟨w.heap.size,k * 4+1,none⟩=some (cells[k * 4+1]'(by omega)):=by rw [ho2.cellAt _ (by omega)];exact List.getElem?_eq_getElem _
   have m2:w2.cell? ⟨w.heap.size,k * 4+2,none⟩=some (cells[k * 4+2]'(by omega)):=by rw [ho2.cellAt _ (by omega)];exact List.getElem?_eq_getElem _
   have m3:w2.cell? ⟨w.heap.size,k * 4+3,none⟩=some (cells[k * 4+3]'(by omega)):=by rw [ho2.cellAt _ (by omega)];exact List.getElem?_eq_getElem _
   have f0:=ho2.frozenAt (k * 4);have f1:=ho2.frozenAt (k * 4+1);have f2:=ho2.frozenAt (k * 4+2);have f3:=ho2.frozenAt (k * 4+3);have HR:Hid (∀ i,i=Value.int .i64 ((k+1:Nat):Int)->Zlj kDc 101 xs w i (Zsn w2 w.heap.size k (.string nm) (.int .i64 rk) (.slice RL rl rc) (.slice RA ra rd))):=fun i hi=>Znm kDc_n hlt hi HO.out HK.out HN.out HBD.out HB.out hb2 hot hfp
   clear hot hfp hb2 ho2 hb;go_wp2_with fail;go_roundw
   case rel=>exact HR.out _ (by go_num)
   case measure=>simp [intOf];omega
  ·have he:k=xs.length:=by omega
   subst he;have HR:=hQ (Zqz (a:=kDc) (e:=101) (xs:=xs) (w:=w) (wr:=wr) (by omega) ⟨_,cells,fs,Nat.le_refl _,rfl,HO.out,HK.out,HN.out,HBD.out,HB.out⟩);clear HO HK HN HBD hb;go_wp2_with fail;go_ret;exact HR.out
theorem Zwh (x:Dc)(w:World)(cs ds:List Value)(h:kDc.R w x cs)(h':kDc.R w x ds):Calls Tryz.prog 88 #[.agg cs.toArray,.agg ds.toArray] w (Zej w):=by
 obtain ⟨tk,TL,TA,tl,tc,ta,td,rfl,hs,hy⟩:=Zcc h;obtain ⟨tk',TL',TA',tl',tc',ta',td',rfl,_,hy'⟩:=Zcc h';obtain ⟨W1,hW1⟩:∃ W1,(w.alloc (.cells #[.string x.1,.int .i64 tk,.slice TL tl tc,.slice TA ta td] 101)).alloc (.cells #[.string x.1,.int .i64 tk',.slice TL' tl' tc',.slice TA' ta' td'] 101)=W1:=⟨_,rfl⟩;obtain ⟨H,hH⟩:∃ H,w.heap.size=H:=⟨_,rfl⟩;have b0:Box4 W1 H 101 (.string x.1) (.int .i64 tk) (.slice TL tl tc) (.slice TA ta td):=by rw [<-hW1,<-hH];exact (Box4.new w _ _ _ _ _).alloc _
 have b1:Box4 W1 (H+1) 101 (.string x.1) (.int .i64 tk') (.slice TL' tl' tc') (.slice TA' ta' td'):=by
  rw [<-hW1,<-hH]
  have:=Box4.new (w.alloc (.cells #[.string x.1,.int .i64 tk,.slice TL tl tc,.slice TA ta td] 101)) 101 (.string x.1) (.int .i64 tk') (.slice TL' tl' tc') (.slice TA' ta' td')
  simpa using this
 have hb1:Below w.heap.size w W1:=by rw [<-hW1];exact (bQ.alloc nQ _).alloc (by simp) _
 have HC:=hQ (Zaez x.2 W1 _ _ (kTy.keep hy hb1) (kTy.keep hy' hb1));have HW1:=hQ hW1;have HB1:=hQ hb1;have x0:=b0.c0;have x1:=b0.c1;have x2:=b0.c2;have x3:=b0.c3;have y0:=b1.c0;have y1:=b1.c1;have y2:=b1.c2;have y3:=b1.c3;generalize x.1=nm at HW1 x0 y0 hs ⊢;clear h h' hy hy' hW1 b0 b1 hb1;go_enter Tryz.func88,Tryz.ntmps88;go_wp2_with fail;rw [HW1.out];go_wp2_with fail;refine HC.out.mono ?_;rintro e w2 ⟨rfl,hb2⟩;have HB2:=hQ (HB1.out.trans (hb2.mono HB1.out.size));clear hb2;go_wp2_with fail;go_ret;exact ⟨rfl,HB2.out⟩
theorem Zta (xs:List Dc)(w:World)(A B:Option Addr)(c d:Nat)(hA:RL kDc w A xs)(hB:RL kDc w B xs)(hl:xs.length<=9223372036854775807) :
  Calls Tryz.prog 46 #[.slice A xs.length c,.slice B xs.length d] w (Zej w):=by
 have HA:=hQ hA;have HB:=hQ hB;clear hA hB;go_enter Tryz.func46,Tryz.ntmps46;go_wp2_with fail;go_loopw [5] (fun i wr=>∃ k:Nat,k<=xs.length/\i=.int .i64 k/\Below w.heap.size w wr) (fun i _=>xs.length - (intOf i).toNat)
 case atStart=>exact ⟨0,Nat.zero_le _,rfl,Below.refl _ _⟩
 case round=>
  obtain ⟨k,hk,rfl,hb⟩:=hrel;by_cases hlt:k < xs.length
  ·obtain ⟨ad,p,c0,c1,c2,c3,rfl,hpe,hr,q0,q1,q2,q3⟩:=Zec kDc_n HA.out hb hlt
   obtain ⟨bd,p',d0,d1,d2,d3,rfl,hpe',hr',q0',q1',q2',q3'⟩:=Zec kDc_n HB.out hb hlt;have HR:=hQ hr;have HR':=hQ hr';have HBW:=hQ hb;clear hr hr' hb;go_wp2_with fail;go_still_tail 8,(by kernel_rfl)
   change wpList _ _ _ _ _ wr.drew
   have hd:Below wr.heap.size wr wr.drew:=bQ.drew;have HC:=hQ (Zwh xs[k] wr.drew [c0,c1,c2,c3] [d0,d1,d2,d3] (kDc.keep HR.out hd) (kDc.keep HR'.out hd));have HB2:=hQ (HBW.out.trans (hd.mono HBW.out.size));clear hd;go_wp2_with fail;refine HC.out.mono ?_;rintro e w2 ⟨rfl,hb2⟩;have HB3:=hQ (HB2.out.trans (hb2.mono HB2.out.size));clear hb2;go_wp2_with fail;go_roundw
   case rel=>exact ⟨k+1,hlt,by go_num,HB3.out⟩
   case measure=>simp [intOf];omega
  ·go_wp2_with fail
   go_ret
   exact ⟨rfl,hb⟩
theorem Zpe (t:Sc)(w:World)(cs:List Value)(left:Int)(h:RSc w t cs)(h0:0<=left)(h1:left<=1048576):Calls Tryz.prog 5 #[.agg cs.toArray,.int .i64 left] w (SzV (wSc t) left w):=by
 obtain ⟨A,d,rfl,hl,_,hp⟩:=h.open;obtain ⟨W1,hW1⟩:∃ W1,w.alloc (.cells #[.slice A t.length d] 24)=W1:=⟨_,rfl⟩;obtain ⟨H,hH⟩:∃ H,w.heap.size=H:=⟨_,rfl⟩;have hbox:Box1 W1 H 24 (.slice A t.length d):=by rw [<-hW1,<-hH];exact Box1.new w _ _
 have hb0:Below w.heap.size w W1:=by rw [<-hW1];exact bQ.alloc nQ _
 have HC:=hQ (Zyp t W1 A d left (hp.keep hb0) hl h0 h1);have HW1:=hQ hW1;have HB0:=hQ hb0;have x0:=hbox.c0;have HWX:Hid (wSc t=wL wDc t):=hQ rfl;generalize wSc t=wx at HWX ⊢;generalize wL wDc t=wy at HWX HC;generalize t.length=n at HC HW1 x0 ⊢;clear h hp hl hW1 hbox hb0;go_enter Tryz.func5,Tryz.ntmps5;go_wp2_with fail;rw [HW1.out];go_wp2_with fail;refine HC.out.mono ?_;rintro e w2 ⟨r,rfl,hs1,hs2,hs3,hb2⟩;have HS3:=hQ hs3;have HB2:=hQ (HB0.out.trans (hb2.mono HB0.out.size));clear hs3 hb2;by_cases hz:r < 0
 ·go_wp2_with fail
  go_ret
  exact ⟨-1,rfl,by omega,by omega,by omega,HB2.out⟩
 ·go_wp2_with fail
  go_ret
  exact ⟨r,rfl,by omega,by omega,fun _=>by rw [HWX.out];exact HS3.out (by omega),HB2.out⟩
theorem Zph (t:Sc)(w:World)(cs:List Value)(h:RSc w t cs)(hw:wSc t<=1048576):Calls Tryz.prog 9 #[.agg cs.toArray] w (Zvn t w):=by
 obtain ⟨A,d,rfl,hl,_,hp⟩:=h.open;obtain ⟨W1,hW1⟩:∃ W1,((w.alloc (.cells #[.slice A t.length d] 24)).alloc (.cells #[.slice none 0 0] 43)).alloc (.cells #[.slice none 0 0] 43)=W1:=⟨_,rfl⟩;obtain ⟨H,hH⟩:∃ H,w.heap.size=H:=⟨_,rfl⟩;have b0:Box1 W1 H 24 (.slice A t.length d):=by rw [<-hW1,<-hH];exact ((Box1.new w _ _).alloc _).alloc _
 have b1:Box1 W1 (H+1) 43 (.slice none 0 0):=by
  rw [<-hW1,<-hH]
  have:=(Box1.new (w.alloc (.cells #[.slice A t.length d] 24)) 43 (.slice none 0 0)).alloc (.cells #[.slice none 0 0] 43)
  simpa using this
 have b2:Box1 W1 (H+1+1) 43 (.slice none 0 0):=by
  rw [<-hW1,<-hH]
  have:=Box1.new ((w.alloc (.cells #[.slice A t.length d] 24)).alloc (.cells #[.slice none 0 0] 43)) 43 (.slice none 0 0)
  simpa using this
 have hb1:Below w.heap.size w W1:=by rw [<-hW1];exact ((bQ.alloc nQ _).alloc (by simp) _).alloc (by simp;omega) _
 have hs1:W1.heap.size=H+1+1+1:=by rw [<-hW1,<-hH];simp
 have HC:=hQ (Zyv t W1 A d (hp.keep hb1) hw);have HMK:Hid (∀ (U:World) (A5:Option Addr) (d5:Nat) (fp:List Nat),OL kDc 101 U t (.slice A5 t.length d5) fp->(∀ b∈fp,w.heap.size<=b/\b < U.heap.size)->Below w.heap.size w U->Zvn t w (.returned (.agg #[.slice A5 t.length d5])) U):=hQ (fun U A5 d5 fp h1 h2 h3=>⟨A5,d5,fp,rfl,OSc.ol.2 h1,h2,h3⟩);have HW1:=hQ hW1;have HB1:=hQ hb1;have HS1:=hQ hs1;have HH:=hQ hH;have B1:=hQ b1;have B2:=hQ b2;have x0:=b0.c0;clear h hp hl hW1 b0 b1 b2 hb1 hs1 hw;go_enter Tryz.func9,Tryz.ntmps9;go_wp2_with fail;rw [HW1.out];go_wp2_with fail;refine HC.out.mono ?_;rintro e w2 ⟨A5,d5,fp,rfl,ho,hfp,hb2⟩;have hz2:=hb2.size;have hz1:=HS1.out;have t1:=B1.out.under hb2 (by omega);have t2:=B2.out.under hb2 (by omega);have g0:=t2.c0;have gf0:=t2.free 0;have k0:=t1.c0;have kf0:=t1.free 0;have HO:=hQ ho;have HFP:=hQ hfp;have HB2:=hQ hb2;have T1:=hQ t1;have HZ2:=hQ hz2;clear ho hfp hb2 t1 t2 hz2 hz1 x0;obtain ⟨n,hn⟩:∃ n,t.length=n:=⟨_,rfl⟩;rw [hn] at HMK HO ⊢;clear hn;go_wp2_with fail;generalize hV:w2.setCell ⟨H+1+1,0,none⟩ (.slice A5 n d5)=V;generalize hU:V.setCell ⟨H+1,0,none⟩ (.slice A5 n d5)=U;have hg5:w2.grownBy V (some (H+1+1)):=by rw [<-hV];exact Zaa (gQ) _
 have hg6:V.grownBy U (some (H+1)):=by rw [<-hU];exact Zaa (gQ) _
 have u1:Box1 U (H+1) 43 (.slice A5 n d5):=by
  rw [<-hU,<-hV];exact (T1.out.far (by show H+1≠H+1+1;omega) _).set0 _
 have hww:=HH.out;have hz1:=HS1.out;have hz2:=HZ2.out;have hs5:=hg5.size;have hs6:=hg6.size;have hne:∀ b∈fp,H+1+1 < b:=fun b hb=>by have:=(HFP.out b hb).1;omega
 have hO:=OL.held (OL.held HO.out (K:=fun i=>some i≠some (H+1+1)) ⟨hg5.os,hg5.tape,hg5.output,hg5.size,fun i hi hd=>hg5.block i hi hd⟩ (fun b hb e=>by injection e with e;have:=hne b hb;omega)) (K:=fun i=>some i≠some (H+1)) ⟨hg6.os,hg6.tape,hg6.output,hg6.size,fun i hi hd=>hg6.block i hi hd⟩ (fun b hb e=>by injection e with e;have:=hne b hb;omega);have hbU:Below w.heap.size w U:=((HB1.out.trans (HB2.out.mono HB1.out.size)).grown hg5 (HB1.out.trans (HB2.out.mono HB1.out.size)).size (fun q hq=>by injection hq with hq;omega)).grown hg6 (by have:=(HB1.out.trans (HB2.out.mono HB1.out.size)).size;omega) (fun q hq=>by injection hq with hq;omega);have q0:=u1.c0;have HR:=hQ (HMK.out U A5 d5 fp hO (fun b hb=>by have:=HFP.out b hb;omega) hbU);clear hO hbU hne hg5 hg6 hV hU u1;exact bodyPost_ret (v:=.agg #[.slice A5 n d5]) (by simp [results,Tryz.results9,go_sem,q0]) rfl HR.out
theorem Zmq (t:Sc)(w:World)(cs ds:List Value)(h:RSc w t cs)(h':RSc w t ds):Calls Tryz.prog 14 #[.agg cs.toArray,.agg ds.toArray] w (Zej w):=by
 obtain ⟨A,c,rfl,hl,_,hp⟩:=h.open;obtain ⟨B,d,rfl,_,_,hp'⟩:=h'.open;obtain ⟨W1,hW1⟩:∃ W1,(w.alloc (.cells #[.slice A t.length c] 43)).alloc (.cells #[.slice B t.length d] 43)=W1:=⟨_,rfl⟩;obtain ⟨H,hH⟩:∃ H,w.heap.size=H:=⟨_,rfl⟩;have b0:Box1 W1 H 43 (.slice A t.length c):=by rw [<-hW1,<-hH];exact (Box1.new w _ _).alloc _
 have b1:Box1 W1 (H+1) 43 (.slice B t.length d):=by
  rw [<-hW1,<-hH]
  have:=Box1.new (w.alloc (.cells #[.slice A t.length c] 43)) 43 (.slice B t.length d)
  simpa using this
 have hb1:Below w.heap.size w W1:=by rw [<-hW1];exact (bQ.alloc nQ _).alloc (by simp) _
 have HC:=hQ (Zta t W1 A B c d (hp.keep hb1) (hp'.keep hb1) hl);have HW1:=hQ hW1;have HB1:=hQ hb1;have x0:=b0.c0;have y0:=b1.c0;generalize t.length=n at HC HW1 x0 y0 ⊢;clear h h' hp hp' hl hW1 b0 b1 hb1;go_enter Tryz.func14,Tryz.ntmps14;go_wp2_with fail;rw [HW1.out];go_wp2_with fail;refine HC.out.mono ?_;rintro e w2 ⟨rfl,hb2⟩;have HB2:=hQ (HB1.out.trans (hb2.mono HB1.out.size));clear hb2;go_wp2_with fail;go_ret;exact ⟨rfl,HB2.out⟩
abbrev Tg:=ByteArray×Ty
def kTg:Kd Tg:=kStr.prod kTy
theorem kTg_n:kTg.n=4:=rfl
def wTg (x:Tg):Nat:=x.1.size+wt x.2
theorem Zdq {w:World}{x:Tg}{cs:List Value}(h:kTg.R w x cs):∃ tk TL TA tl tc ta td,cs=[.string x.1,.int .i64 tk,.slice TL tl tc,.slice TA ta td]/\x.1.size<=9223372036854775807/\kTy.R w x.2 [.int .i64 tk,.slice TL tl tc,.slice TA ta td]:=by
 obtain ⟨c1,c2,rfl,⟨rfl,h1⟩,h2⟩:=h;obtain ⟨tk,TL,TA,tl,tc,ta,td,rfl⟩:=Zfo h2;exact ⟨tk,TL,TA,tl,tc,ta,td,rfl,h1,h2⟩
theorem Zgx {w:World}{x:Tg}{ys:List Value}(h1:x.1.size<=9223372036854775807)(h2:kTy.R w x.2 ys):kTg.R w x (.string x.1 :: ys):=⟨[.string x.1],ys,rfl,⟨rfl,h1⟩,h2⟩
theorem Zace:(Tryz.prog.info? 74).map (fun i=>(i.zero,i.size,i.bytes))=some (some (.agg #[.string ⟨#[]⟩,.int .i64 0,.slice none 0 0,.slice none 0 0]),4,72):=by kernel_rfl
end Go.Proofs.YtlcedleebbgebaaGreatDoor
