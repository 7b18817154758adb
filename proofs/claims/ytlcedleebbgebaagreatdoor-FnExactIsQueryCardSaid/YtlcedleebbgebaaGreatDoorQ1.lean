/-
  Merged by program: Words, Tree, Ty, Part, App, JoinA, EqStr, JoinB, Row.
-/
import Derived.WalkKit
import Derived.LoopTactic
import Derived.Below
import Derived.Lib.Hide
import Derived.Lib.Join
import Derived.Laws.OwnMore
import Derived.Deep.Draws
import Derived.Laws.MakeOwn
import Derived.Lib.AppendStr
import Derived.Test.YtlcedleebbgebaaGreatDoorProg
import Derived.Maps.AppendAt
import Derived.Lib.AppendZeros
import Derived.OwnWalk
import Derived.RegionTactic
import Derived.Deep.QuietTactic
import Derived.BigQuiet
import Derived.Lib.ItoaNum
import Derived.Laws.IdiomStrings
import Derived.Deep.RegionHeld3
set_option maxHeartbeats 800000
namespace Go.Proofs.YtlcedleebbgebaaGreatDoor
open Go.RowKit
theorem hQ {p:Prop}(h:p):Hid p:=Lib.hid h
theorem bQ {B:Nat}{w:World}:Below B w w:=Below.refl _ _
theorem gQ {w:World}{b:Option Nat}:w.grownBy w b:=World.grownBy.refl _ _
theorem nQ {n:Nat}:n<=n:=Nat.le_refl _
theorem sQ {α:Type}(l:List α)(i:Nat)(a:α):l.toArray.setIfInBounds i a=(l.set i a).toArray:=List.setIfInBounds_toArray l i a
theorem tQ {α:Type}(x:α)(l:List α)(a:α):(x :: l).set 0 a=a :: l:=rfl
theorem vQ {α:Type}(x:α)(l:List α)(i:Nat)(a:α):(x :: l).set (i+1) a=x :: l.set i a:=rfl
theorem uQ {w w':World}{p:Addr}{v:Value}(hB:Below w.heap.size w w')(h:w.cell? p=some v):w'.cell? p=some v:=(hB.cell (World.block_lt_of_cell? w _ h)).trans h
def Sl (w:World)(A:Option Addr)(xs:List Value):Prop:=∀ j u,xs[j]?=some u->∃ ad,A=some ad/\w.cell? (ad.add j)=some u
theorem Sl.below {w w':World}{A:Option Addr}{xs:List Value}(h:Sl w A xs)(hb:Below w.heap.size w w'):Sl w' A xs:=by
 intro j u hj
 obtain ⟨ad,e,hc⟩:=h j u hj;exact ⟨ad,e,(hb.cell (World.block_lt_of_cell? w _ hc)).trans hc⟩
theorem Sl.of_own {w:World}{base:Nat}{e:TypeId}{A:Option Addr}{n c:Nat}{xs:List Value}(h:w.ownsRow base e 1 (.slice A n c) n xs):Sl w A xs:=by
 intro j u hj
 rcases h.2 with ⟨h1,h2⟩|⟨g,cap,cur,hv,_⟩
 ·have:=h.1
  rw [h2] at this
  have:xs=[]:=List.eq_nil_of_length_eq_zero (by omega)
  subst this;simp at hj
 ·injection hv with h1 h2 h3
  subst h1;exact ⟨_,rfl,h.cells (g:=g) rfl j u hj⟩
def total (xs:List ByteArray):Nat:=(xs.map (·.size)).sum
theorem Zkt (xs:List ByteArray)(k:Nat)(x:ByteArray)(h:xs[k]?=some x):total (xs.take (k+1))=total (xs.take k)+x.size:=by
 unfold total;rw [List.take_add_one,h]
 simp
theorem Zwk (ys:List Value)(z:Value)(k:Nat)(u:Value)(h:ys[k]?=some u) :
  (ys.take k ++ List.replicate (ys.length - k) z).set k u=ys.take (k+1) ++ List.replicate (ys.length - (k+1)) z:=by
 have hk:k < ys.length:=by
  rcases Nat.lt_or_ge k ys.length with h1|h1
  ·exact h1
  ·rw [List.getElem?_eq_none h1] at h;cases h
 have e:ys.length - k=(ys.length - (k+1))+1:=by omega
 rw [e,List.replicate_succ,List.set_append_right _ _ (by rw [List.length_take];omega),List.take_add_one,h];have e2:k - (ys.take k).length=0:=by rw [List.length_take];omega
 rw [e2]
 simp
theorem Zacv (ys:List Value)(z:Value)(k:Nat)(hk:k < ys.length):(ys.take k ++ List.replicate (ys.length - k) z)[k]?=some z:=by
 rw [List.getElem?_append_right (by rw [List.length_take];omega),List.length_take,Nat.min_eq_left (by omega),Nat.sub_self,List.getElem?_replicate,if_pos (by omega)]
theorem Zzx (ys:List Value)(z:Value):ys.take ys.length ++ List.replicate (ys.length - ys.length) z=ys:=by simp
theorem Zaam (z:Value)(n:Nat):(madeCells #[z] n).toList=List.replicate n z:=by
 apply List.ext_getElem
 ·simp [madeCells]
 ·intro i h1 h2
  simp [madeCells,Nat.mod_one]
def SlNew (e:TypeId)(n:Nat)(xs:List Value)(w:World)(en:Ending)(w':World):Prop:=
 en=.returned (.slice (some ⟨w.heap.size,0,none⟩) n n)/\w'.ownsRow w.heap.size e 1 (.slice (some ⟨w.heap.size,0,none⟩) n n) n xs/\Below w.heap.size w w'
def Yes (w:World)(e:Ending)(w':World):Prop:=e=.returned (.bool true)/\∃ n,w'=w.drewN n
def Zej (w:World)(e:Ending)(w':World):Prop:=e=.returned (.bool true)/\Below w.heap.size w w'
theorem Zab {B:Nat}{w w':World}(h:Below B w w')(n:Nat):Below B w (w'.drewN n):=⟨h.os,h.tape,h.output,h.size,h.block⟩
theorem Zaa {a w:World}{g j:Nat}(h:a.grownBy w (some g))(u:Value):a.grownBy (w.setCell ⟨g,j,none⟩ u) (some g):=
 ⟨h.os,h.tape,h.output,by simpa [World.setCell] using h.size,fun i hi hne=>(Below.heap_setCell w ⟨g,j,none⟩ u i (fun e=>hne (by rw [e]))).trans (h.block i hi hne)⟩
theorem Zkg {w w':World}{b:Nat}{e:TypeId}{v:Value}{n:Nat}{xs:List Value}(h:w.ownsRow b e 1 v n xs)(hb:Below w.heap.size w w'):w'.ownsRow b e 1 v n xs:=
 h.kept (row:=none) ⟨hb.os,hb.tape,hb.output,hb.size,fun i hi _=>hb.block i hi⟩ (by cases hv:v.ownBlock <;> simp)
inductive Tr (α:Type):Type where
 | node (a:α) (ks:List (Tr α)):Tr α
section
variable {α:Type}
theorem Tr.ind {m:Tr α->Prop}(h:∀ a ks,(∀ t∈ks,m t)->m (.node a ks)):∀ t,m t
 | .node a ks=>h a ks (fun t _=>Tr.ind h t)
def Tr.top:Tr α->α
 | .node a _=>a
def Tr.kids:Tr α->List (Tr α)
 | .node _ ks=>ks
def Part (w:World)(A:Option Addr)(m k:Nat)(cs:List Value):Prop:=cs.length=m/\∃ ad,A=some ad/\∀ i u,cs[i]?=some u->w.cell? (ad.add (k * m+i))=some u
theorem Part.below {w w':World}{A:Option Addr}{m k:Nat}{cs:List Value}(h:Part w A m k cs)(hb:Below w.heap.size w w'):Part w' A m k cs:=by
 obtain ⟨h1,ad,h2,h3⟩:=h;exact ⟨h1,ad,h2,fun i u hi=>(hb.cell (World.block_lt_of_cell? w _ (h3 i u hi))).trans (h3 i u hi)⟩
structure Head (α:Type) where
 says:World->α->List Value->Prop
 kept:∀ {w w' a cs},says w a cs->Below w.heap.size w w'->says w' a cs
inductive Reads (H:Head α) (m:Nat) (w:World):Tr α->List Value->Prop where
 | node (a:α) (ks:List (Tr α)) (hs:List Value) (A:Option Addr) (c:Nat) (cs:Nat->List Value) (h1:H.says w a hs) (h2:hs.length+1=m) (h3:ks.length<=9223372036854775807)
   (h4:∀ j,j < ks.length->Part w A m j (cs j)) (h5:∀ j t,ks[j]?=some t->Reads H m w t (cs j)) (h6:ks.length<=c):Reads H m w (.node a ks) (hs ++ [.slice A ks.length c])
theorem Reads.keep {H:Head α}{m:Nat}{w w':World}{t:Tr α}{cs:List Value}(h:Reads H m w t cs)(hb:Below w.heap.size w w'):Reads H m w' t cs:=by
 induction h with
 | node a ks hs A c cs h1 h2 h3 h4 _ h6 ih=>exact .node a ks hs A c cs (H.kept h1 hb) h2 h3 (fun j hj=>(h4 j hj).below hb) ih h6
theorem Reads.len {H:Head α}{m:Nat}{w:World}{t:Tr α}{cs:List Value}(h:Reads H m w t cs):cs.length=m:=by
 cases h with
 | node a ks hs A c cs h1 h2=>simpa using h2
def Tr.sum (f:α->Nat):Tr α->Nat
 | .node a ks=>f a+(ks.attach.map fun ⟨t,_⟩=>t.sum f).sum
theorem Tr.sum_node (f:α->Nat)(a:α)(ks:List (Tr α)):(Tr.node a ks).sum f=f a+(ks.map (Tr.sum f)).sum:=by
 rw [Tr.sum]
 congr 2
 exact List.attach_map_val (l:=ks) (f:=Tr.sum f) ▸ rfl
end
structure TyA where
 kind:Int
 labels:List ByteArray
abbrev Ty:=Tr TyA
def Zsq:Head TyA where
 says w a cs:=∃ L c,cs=[.int .i64 a.kind,.slice L a.labels.length c]/\Sl w L (a.labels.map Value.string)/\-9223372036854775808<=a.kind/\a.kind<=9223372036854775807/\a.labels.length<=9223372036854775807/\∀ x∈a.labels,x.size<=9223372036854775807
 kept:=by
  rintro w w' a cs ⟨L,c,h1,h2,h3⟩ hb;exact ⟨L,c,h1,h2.below hb,h3⟩
def RTy (w:World)(t:Ty)(cs:List Value):Prop:=Reads Zsq 3 w t cs
theorem RTy.keep {w w':World}{t:Ty}{cs:List Value}(h:RTy w t cs)(hb:Below w.heap.size w w'):RTy w' t cs:=Reads.keep h hb
def RKids (w:World)(A:Option Addr)(ks:List Ty):Prop:=∃ ps:Nat->List Value,∀ j t,ks[j]?=some t->RTy w t (ps j)/\∃ ad,A=some ad/\∀ i u,(ps j)[i]?=some u->w.cell? (ad.add (j * 3+i))=some u
theorem RKids.keep {w w':World}{A:Option Addr}{ks:List Ty}(h:RKids w A ks)(hb:Below w.heap.size w w'):RKids w' A ks:=by
 obtain ⟨ps,hp⟩:=h;refine ⟨ps,fun j t hj=>?_⟩;obtain ⟨h1,ad,h2,h3⟩:=hp j t hj;exact ⟨h1.keep hb,ad,h2,fun i u hi=>(hb.cell (World.block_lt_of_cell? w _ (h3 i u hi))).trans (h3 i u hi)⟩
theorem RTy.out {w:World}{a:TyA}{ks:List Ty}{cs:List Value}(h:RTy w (.node a ks) cs):∃ L c A d,cs=[.int .i64 a.kind,.slice L a.labels.length c,.slice A ks.length d]/\
  Sl w L (a.labels.map Value.string)/\-9223372036854775808<=a.kind/\a.kind<=9223372036854775807/\a.labels.length<=9223372036854775807/\(∀ x∈a.labels,x.size<=9223372036854775807)/\ks.length<=9223372036854775807/\RKids w A ks:=by
 cases h with
 | node a ks hs A d ps h1 h2 h3 h4 h5 _=>
  obtain ⟨L,c,rfl,k1,k2,k3,k4,k5⟩:=h1;refine ⟨L,c,A,d,rfl,k1,k2,k3,k4,k5,h3,ps,fun j t hj=>⟨h5 j t hj,?_⟩⟩;exact (h4 j (List.getElem?_eq_some_iff.1 hj).1).2
theorem RTy.cap {w:World}{t:Ty}{c0 c1:Value}{A:Option Addr}{n d:Nat}(h:RTy w t [c0,c1,.slice A n d]):t.kids.length=n/\t.kids.length<=d:=by
 obtain ⟨cs,hcs⟩:∃ cs,[c0,c1,Value.slice A n d]=cs:=⟨_,rfl⟩;rw [hcs] at h;cases h with
 | node a ks hs A' d' ps h1 h2 h3 h4 h5 h6=>
  obtain ⟨L,c,rfl,_⟩:=h1;simp only [List.cons_append,List.nil_append,List.cons.injEq,Value.slice.injEq,and_true] at hcs;obtain ⟨_,_,_,e1,e2⟩:=hcs;exact ⟨e1.symm,by rw [e2];exact h6⟩
def Tr.size {α:Type}(t:Tr α):Nat:=t.sum fun _=>1
theorem Zet (a:TyA)(ks:List Ty):(Tr.node a ks).size=1+(ks.map Tr.size).sum:=Tr.sum_node _ a ks
theorem Zax {β:Type}(f:β->Nat)(xs:List β)(k:Nat)(h:k < xs.length):((xs.take (k+1)).map f).sum=((xs.take k).map f).sum+f xs[k]:=by
 rw [List.take_succ_eq_append_getElem h,List.map_append,List.sum_append]
 simp
theorem Zde {β:Type}(f:β->Nat)(xs:List β)(k:Nat):((xs.take k).map f).sum<=(xs.map f).sum:=by
 have h:(xs.map f).sum=((xs.take k).map f).sum+((xs.drop k).map f).sum:=by
  rw [<-List.sum_append,<-List.map_append,List.take_append_drop]
 omega
theorem Zao (ad:Addr)(n i:Nat)(hi:0 < i):ad.add (n+i)=⟨(ad.add n).block,(ad.add n).off+i,none⟩:=by
 unfold Addr.add;rw [if_neg (by omega)];by_cases hn:n=0
 ·subst hn;simp
 ·rw [if_neg hn]
  simp [Nat.add_assoc]
theorem Zal {w wr:World}{A:Option Addr}{ks:List Ty}(hp:RKids w A ks)(hb:Below w.heap.size w wr) {k:Nat}(hk:k < ks.length):∃ (ad p:Addr)(c0 c1 c2:Value),A=some ad/\ad.add (k * 3)=p/\RTy wr ks[k] [c0,c1,c2]/\wr.cell? p=some c0/\wr.cell? ⟨p.block,p.off+1,none⟩=some c1/\wr.cell? ⟨p.block,p.off+2,none⟩=some c2:=by
 obtain ⟨ps,hp⟩:=hp;obtain ⟨hr,ad,hA,hc⟩:=hp k ks[k] (List.getElem?_eq_getElem hk);have hl:(ps k).length=3:=Reads.len hr;have hcell:∀ i u,(ps k)[i]?=some u->wr.cell? (ad.add (k * 3+i))=some u:=fun i u hi=>(hb.cell (World.block_lt_of_cell? w _ (hc i u hi))).trans (hc i u hi)
 obtain ⟨c0,c1,c2,he⟩:∃ c0 c1 c2,ps k=[c0,c1,c2]:=by
  match ps k,hl with
  | [a,b,c],_=>exact ⟨a,b,c,rfl⟩
 rw [he] at hcell hr;refine ⟨ad,_,c0,c1,c2,hA,rfl,hr.keep hb,hcell 0 _ rfl,?_,?_⟩
 ·rw [<-Zao ad (k * 3) 1 (by omega)];exact hcell 1 _ rfl
 ·rw [<-Zao ad (k * 3) 2 (by omega)];exact hcell 2 _ rfl
def part3 {β:Type}(xs:List β)(j:Nat):List β:=(xs.drop (j * 3)).take 3
theorem Zcv {β:Type}(xs:List β)(j i:Nat)(hi:i < 3):(part3 xs j)[i]?=xs[j * 3+i]?:=by
 unfold part3;rw [List.getElem?_take_of_lt hi,List.getElem?_drop]
theorem Zhf {β:Type}(xs:List β)(j:Nat)(h:j * 3+3<=xs.length):(part3 xs j).length=3:=by
 unfold part3;rw [List.length_take,List.length_drop]
 omega
theorem Zhe {β:Type}{xs ys:List β}{j:Nat}(h:∀ i,i < 3->xs[j * 3+i]?=ys[j * 3+i]?):part3 xs j=part3 ys j:=by
 apply List.ext_getElem?
 intro i
 by_cases hi:i < 3
 ·rw [Zcv _ _ _ hi,Zcv _ _ _ hi];exact h i hi
 ·unfold part3
  rw [List.getElem?_take_eq_none (by omega),List.getElem?_take_eq_none (by omega)]
def put3 {β:Type}(xs:List β)(j:Nat)(a b c:β):List β:=((xs.set (j * 3) a).set (j * 3+1) b).set (j * 3+2) c
theorem Zaay {β:Type}(xs:List β)(j:Nat)(a b c:β):(put3 xs j a b c).length=xs.length:=by simp [put3]
theorem Zaef {β:Type}(xs:List β)(j:Nat)(a b c:β)(h:j * 3+3<=xs.length):part3 (put3 xs j a b c) j=[a,b,c]:=by
 apply List.ext_getElem?
 intro i
 by_cases hi:i < 3
 ·rw [Zcv _ _ _ hi]
  unfold put3;have h0:j * 3 < xs.length:=by omega
  have h1:j * 3+1 < xs.length:=by omega
  have h2:j * 3+2 < xs.length:=by omega
  match i,hi with
  | 0,_=>simp [h0]
  | 1,_=>simp [h1]
  | 2,_=>simp [h2]
 ·rw [List.getElem?_eq_none (by rw [Zhf _ _ (by rw [Zaay];exact h)];omega),List.getElem?_eq_none (by simp;omega)]
theorem Zuk {β:Type}(xs:List β)(j k:Nat)(a b c:β)(h:k≠j):part3 (put3 xs j a b c) k=part3 xs k:=by
 refine Zhe fun i hi=>?_
 unfold put3;rw [List.getElem?_set_ne (by omega),List.getElem?_set_ne (by omega),List.getElem?_set_ne (by omega)]
def Zsm (w:World)(g j:Nat)(a b c:Value):World:=((w.setCell ⟨g,j * 3,none⟩ a).setCell ⟨g,j * 3+1,none⟩ b).setCell ⟨g,j * 3+2,none⟩ c
theorem Zuf {w:World}{base g n cap:Nat}{e:TypeId}{xs:List Value}(h:w.ownsRow base e 3 (.slice (some ⟨g,0,none⟩) n cap) n xs)(j:Nat)(a b c:Value) :
  (Zsm w g j a b c).ownsRow base e 3 (.slice (some ⟨g,0,none⟩) n cap) n (put3 xs j a b c)/\w.grownBy (Zsm w g j a b c) (some g):=by
 have h1:=h.stored (j * 3) a;have h2:=h1.1.stored (j * 3+1) b;have h3:=h2.1.stored (j * 3+2) c;refine ⟨h3.1,⟨rfl,rfl,rfl,?_,fun k hk hne=>?_⟩⟩
 ·exact Nat.le_trans h1.2.size (Nat.le_trans h2.2.size h3.2.size)
 ·exact (h3.2.block k (Nat.lt_of_lt_of_le hk (Nat.le_trans h1.2.size h2.2.size)) hne).trans ((h2.2.block k (Nat.lt_of_lt_of_le hk h1.2.size) hne).trans (h1.2.block k hk hne))
theorem Zhc {w:World}{base:Nat}{e:TypeId}{v:Value}{n:Nat}{xs:List Value}(h:w.ownsRow base e 1 v n xs):∃ A c,v=.slice A n c:=by
 rcases h.2 with ⟨rfl,rfl⟩|⟨g,cap,cur,rfl,_⟩
 ·exact ⟨none,0,rfl⟩
 ·exact ⟨_,cap,rfl⟩
theorem Znd {w:World}{base base':Nat}{e:TypeId}{v:Value}{n:Nat}{xs:List Value}(h:w.ownsRow base e 1 v n xs)(hb:base'<=base):w.ownsRow base' e 1 v n xs:=
 ⟨h.1,h.2.imp id fun ⟨g,cap,cur,h1,h2,h3⟩=>⟨g,cap,cur,h1,Nat.le_trans hb h2,h3⟩⟩
section
variable {P:Program}
theorem Zkl (w:World)(base:Nat)(t ty e:TypeId)(i:TypeInfo)(ht:P.underlying t=some (.slice e))(hi:P.info? e=some i)(v:Value)(n:Nat)(xs:List Value)(hown:w.ownsRow base e 1 v n xs)(c:Nat) :
  (Builtin.append_ #[t,t] ty #[v,.slice none 0 c]).run P w=.ok v w:=by
 rcases hown.2 with ⟨rfl,rfl⟩|⟨g,cap,cur,rfl,_,_,hnc,_⟩
 ·simp [Builtin.append_,run_underlying ht,sizeOf,typeInfo,hi,Builtin.lenOf,Builtin.firstCells]
 ·simp [Builtin.append_,run_underlying ht,sizeOf,typeInfo,hi,Builtin.lenOf,Builtin.firstCells,hnc,storeCells]
theorem Zhq (w:World)(base:Nat)(t ty e:TypeId)(i:TypeInfo)(z:Value)(bytes:Nat)(ht:P.underlying t=some (.slice e))(hi:P.info? e=some i)(hz:i.zero=some z)(hsize:i.size=1)(hby:i.bytes=bytes)(hzs:z.cells.size=1)
  (v:Value) (n:Nat) (xs:List Value) (hown:w.ownsRow base e 1 v n xs) (A:Option Addr) (m c:Nat) (news:List Value) (hl:news.length=m) (hnews:Sl w A news) (h1:∀ u∈news,u.oneCell'=true)
  (h63:n+m<=maxLen) (hbytes:(n+m) * bytes<=140737488355328) (hbase:base<=w.heap.size) :
  ∃ v' w',(Builtin.append_ #[t,t] ty #[v,.slice A m c]).run P w=.ok v' w'/\w'.ownsRow base e 1 v' (n+m) (xs ++ news)/\w.grownBy w' v.ownBlock/\(v'.ownBlock=v.ownBlock∨v'.ownBlock=some w.heap.size):=by
 subst hl;cases A with
 | none=>
  have hn:news=[]:=by
   cases news with
   | nil=>rfl
   | cons u r=>
    obtain ⟨ad,e,_⟩:=hnews 0 u rfl;cases e
  subst hn;exact ⟨v,w,Zkl w base t ty e i ht hi v n xs hown c,by simpa using hown,World.grownBy.refl w _,.inl rfl⟩
 | some ad=>
  have hc:∀ j u,news[j]?=some u->w.cell? (ad.add j)=some u:=by
   intro j u hj
   obtain ⟨ad',e,hcc⟩:=hnews j u hj;injection e with e
   subst e;exact hcc
  obtain ⟨v',w',h2,h3,h4,_,h5⟩:=run_append_own_at (P:=P) w base t ty e i z 1 bytes ht hi hz hsize hby hzs (by omega) v n xs hown ad news.length c news (by omega) hc h1 h63 hbytes hbase;exact ⟨v',w',h2,h3,h4,h5⟩
theorem Zdm (w:World) {ops:Array Oper}{rest:List Oper}{o:Oper}{a:Act}{Q:Exit->Act->World->Prop}(hgd:o.guard=none)(s x:Operand)(t:TypeId)
  (ho:o.op=.call { callee:=.builtin .append,args:=#[s,x],argTypes:=#[t,t] })
  (base:Nat) (e:TypeId) (i:TypeInfo) (z:Value) (bytes:Nat) (ht:P.underlying t=some (.slice e)) (hi:P.info? e=some i) (hz:i.zero=some z) (hsize:i.size=1) (hby:i.bytes=bytes) (hzs:z.cells.size=1)
  (v:Value) (n:Nat) (xs:List Value) (hs:a.eval s=v) (hown:w.ownsRow base e 1 v n xs) (A:Option Addr) (m c:Nat) (news:List Value) (hx:a.eval x=.slice A m c) (hl:news.length=m) (hnews:Sl w A news) (h1:∀ u∈news,u.oneCell'=true)
  (h63:n+m<=maxLen) (hbytes:(n+m) * bytes<=140737488355328) (hbase:base<=w.heap.size)
  (h:∀ v' w',w'.ownsRow base e 1 v' (n+m) (xs ++ news)->w.grownBy w' v.ownBlock->(v'.ownBlock=v.ownBlock∨v'.ownBlock=some w.heap.size)->wpList P ops Q rest (a.put o.dst v') w'):wpList P ops Q (o :: rest) a w:=by
 obtain ⟨v',w',hr,h2,h3,h4⟩:=Zhq w base t o.type e i z bytes ht hi hz hsize hby hzs v n xs hown A m c news hl hnews h1 h63 hbytes hbase;exact Lib.wpList_append_run w hgd s x t t ho _ _ hs hx v' w' hr (h v' w' h2 h3 h4)
end
theorem Zaci (w:World)(u:Value)(t:TypeId):Sl (w.alloc (.cells #[u] t)) (some ⟨w.heap.size,0,none⟩) [u]:=by
 intro j x hj
 match j,hj with
 | 0,hj=>
  simp at hj
  subst hj;exact ⟨_,rfl,by rw [Addr.add_lit,cell_of_row _ _ 0 #[u] t (0,0) (heap_alloc_new w _)];rfl⟩
 | j+1,hj=>simp at hj
theorem Zbx (xs:List ByteArray):∀ u∈xs.map Value.string,u.oneCell'=true:=by
 intro u hu
 obtain ⟨_,_,rfl⟩:=List.mem_map.1 hu
 rfl
def Zaev (n:Nat)(xs:List ByteArray)(left:Int)(w:World)(e:Ending)(w':World):Prop:=
 ∃ r:Int,e=.returned (.int .i64 r)/\r<=left/\-1<=r/\(0<=r->r+n+total xs=left)/\w=w'
theorem Zht (A:Option Addr)(c:Nat)(xs:List ByteArray)(left:Int)(w:World)(h:Sl w A (xs.map Value.string))(hn:xs.length<=9223372036854775807)
  (hx:∀ x∈xs,x.size<=9223372036854775807) (h0:0<=left) (h1:left<=1048576) :
  Calls Tryz.prog 27 #[.slice A xs.length c,.int .i64 left] w (Zaev xs.length xs left w):=by
 go_enter Tryz.func27,Tryz.ntmps27
 by_cases hneg:left - xs.length < 0
 ·go_wp2
  go_ret
  exact ⟨-1,rfl,by omega,by omega,by omega,rfl⟩
 ·go_wp2
  go_loop [1,5] (fun l i=>∃ k:Nat,k<=xs.length/\i=.int .i64 k/\∃ r:Int,l=.int .i64 r/\0<=r/\r+xs.length+total (xs.take k)=left) (fun _ i=>xs.length - (intOf i).toNat)
  case atStart=>exact ⟨0,Nat.zero_le _,rfl,_,rfl,by omega,by simp [total]⟩
  case round=>
   obtain ⟨k,hk,rfl,r,rfl,hr0,hr⟩:=hrel;by_cases hlt:k < xs.length
   ·have hs:=Zkt xs k xs[k] (List.getElem?_eq_getElem hlt)
    obtain ⟨ad,rfl,hc⟩:=h k (.string xs[k]) (by simp [hlt]);have hxk:=hx xs[k] (List.getElem_mem hlt);have HS:=hQ hs;have HR:=hQ hr;clear hs hr;have hr1:r<=1048576:=by have:=HR.out;omega
    by_cases hz:r - (xs[k].size:Int) < 0
    ·go_wp2
     go_ret
     exact ⟨-1,rfl,by omega,by omega,by omega,rfl⟩
    ·go_wp2
     go_round
     case rel=>exact ⟨k+1,by omega,by go_num,_,rfl,by omega,by have:=HS.out;have:=HR.out;omega⟩
     case measure=>simp [intOf];omega
   ·have he:k=xs.length:=by omega
    have htk:xs.take k=xs:=by rw [he];exact List.take_length
    have HR:=hQ hr;have HT:=hQ htk;clear hr htk he;go_wp2;go_ret;exact ⟨r,rfl,by have:=HR.out;omega,by omega,fun _=>by have:=HR.out;rw [HT.out] at this;omega,rfl⟩
theorem Zky (A B:Option Addr)(c d:Nat)(xs:List ByteArray)(w:World)(hA:Sl w A (xs.map Value.string))(hB:Sl w B (xs.map Value.string))(hn:xs.length<=9223372036854775807) :
  Calls Tryz.prog 44 #[.slice A xs.length c,.slice B xs.length d] w (Yes w):=by
 go_enter Tryz.func44,Tryz.ntmps44
 go_wp2
 go_loopw [5] (fun i wr=>∃ k:Nat,k<=xs.length/\i=.int .i64 k/\∃ n,wr=w.drewN n) (fun i _=>xs.length - (intOf i).toNat)
 case atStart=>exact ⟨0,Nat.zero_le _,rfl,0,rfl⟩
 case round=>
  obtain ⟨k,hk,rfl,n,rfl⟩:=hrel;by_cases hlt:k < xs.length
  ·obtain ⟨ad,rfl,hc⟩:=hA k (.string xs[k]) (by simp [hlt])
   obtain ⟨bd,rfl,hd⟩:=hB k (.string xs[k]) (by simp [hlt]);go_wp2;go_quiet (fail);go_wp2;go_roundw
   case rel=>exact ⟨k+1,by omega,by go_num,_,rfl⟩
   case measure=>simp [intOf];omega
  ·go_wp2
   go_ret
   exact ⟨rfl,n,rfl⟩
theorem Zif:(Tryz.prog.info? 9).map (fun i=>(i.zero,i.size,i.bytes))=some (some (.string ⟨#[]⟩),1,16):=by kernel_rfl
theorem Znl (A:Option Addr)(c:Nat)(xs:List ByteArray)(w:World)(h:Sl w A (xs.map Value.string))(hn:xs.length<=1048576) :
  Calls Tryz.prog 36 #[.slice A xs.length c] w (SlNew 9 xs.length (xs.map Value.string) w):=by
 obtain ⟨i0,hi,hz0,hz1,hz2⟩:=info_parts Zif;have hle:xs.length<=9223372036854775807:=by omega
 go_enter Tryz.func36,Tryz.ntmps36
 go_wp2_with (at_make;refine wpList_make_full _ rfl _ _ 26 rfl w.heap.size 9 i0 (.string ⟨#[]⟩) 1 Tryz.underlying26 hi hz0 hz1 _ _ _ _ xs.length rfl rfl rfl rfl (by rw [hz2];omega) (by unfold maxLen;omega) nQ ?_;intro w0 hown0 hgrow0)
 go_loopw [4] (fun i wr=>∃ k:Nat,k<=xs.length/\i=.int .i64 k/\wr.ownsRow w.heap.size 9 1 (.slice (some ⟨w.heap.size,0,none⟩) xs.length xs.length) xs.length ((xs.map Value.string).take k ++ List.replicate (xs.length - k) (.string ⟨#[]⟩))/\Below w.heap.size w wr) (fun i _=>xs.length - (intOf i).toNat)
 case atStart=>
  refine ⟨0,Nat.zero_le _,rfl,?_,bQ.grown hgrow0 nQ (fun k hk=>by cases hk)⟩;have e:(madeCells (Value.string ⟨#[]⟩).cells (xs.length * 1)).toList=List.replicate xs.length (.string ⟨#[]⟩):=by rw [Nat.mul_one];exact Zaam _ _
  rw [e] at hown0
  simpa using hown0
 case round=>
  obtain ⟨k,hk,rfl,hown,hb⟩:=hrel;by_cases hlt:k < xs.length
  ·obtain ⟨ad,rfl,hc0⟩:=h k (.string xs[k]) (by simp [hlt])
   have hc:wr.cell? (ad.add k)=some (.string xs[k]):=(hb.cell (World.block_lt_of_cell? w _ hc0)).trans hc0;have hfr:wr.frozen? ⟨w.heap.size,k,none⟩=false:=hown.frozenAt k;have hat:wr.cell? ⟨w.heap.size,k,none⟩=some (.string ⟨#[]⟩):=by
    rw [hown.cellAt k (by omega)]
    have:=Zacv (xs.map Value.string) (.string ⟨#[]⟩) k (by simpa using hlt)
    simpa using this
   have hst:=(hown.stored k (.string xs[k])).1;have hfs:=Zwk (xs.map Value.string) (.string ⟨#[]⟩) k (.string xs[k]) (by simp [hlt]);rw [List.length_map] at hfs;rw [hfs] at hst;have HS:=hQ hst;clear hst hfs hown hc0;go_wp2;go_roundw
   case rel=>exact ⟨k+1,by omega,by go_num,HS.out,hb.setCell nQ _⟩
   case measure=>simp [intOf];omega
  ·have he:k=xs.length:=by omega
   subst he;have hf:=Zzx (xs.map Value.string) (.string ⟨#[]⟩);rw [List.length_map] at hf;rw [hf] at hown;clear hf;have HO:=hQ hown;clear hown;go_wp2;go_ret;exact ⟨rfl,HO.out,hb⟩
def Row (w:World)(lo hi:Nat)(A:Option Addr)(n c:Nat)(xs:List Value):Prop:=
 w.ownsRow lo 9 1 (.slice A n c) n xs/\∀ g,(Value.slice A n c).ownBlock=some g->g < hi
theorem Row.of {w:World}{lo:Nat}{A:Option Addr}{n c:Nat}{xs:List Value}(h:w.ownsRow lo 9 1 (.slice A n c) n xs):Row w lo w.heap.size A n c xs:=⟨h,fun g hg=>(h.lt g hg).2⟩
theorem Row.below {w w':World}{lo hi:Nat}{A:Option Addr}{n c:Nat}{xs:List Value}(h:Row w lo hi A n c xs)(hb:Below w.heap.size w w'):Row w' lo hi A n c xs:=⟨Zkg h.1 hb,h.2⟩
def Zaew (lo hi:Nat)(w w':World):Prop:=∃ row,w.grownBy w' row/\∀ g,row=some g->lo<=g/\g < hi
theorem Row.turned {w w':World}{lo hi lo' hi':Nat}{A:Option Addr}{n c:Nat}{xs:List Value}(h:Row w lo hi A n c xs)(ht:Zaew lo' hi' w w')(hd:hi<=lo'∨hi'<=lo):Row w' lo hi A n c xs:=by
 obtain ⟨row,hg,hr⟩:=ht;refine ⟨h.1.kept hg ?_,h.2⟩
 rcases hv:(Value.slice A n c).ownBlock with _|g
 ·exact .inl rfl
 ·refine .inr (fun e=>?_)
  have h1:=hr g e.symm;have h2:=h.1.lt g hv;have h3:=h.2 g hv
  omega
def MadeL (n:Nat)(xs:List Value)(w:World)(en:Ending)(w':World):Prop:=
 ∃ A c,en=.returned (.slice A n c)/\Row w' w.heap.size w'.heap.size A n c xs/\Below w.heap.size w w'
theorem Zqi {n:Nat}{xs:List Value}{w w':World}{en:Ending}(h:SlNew 9 n xs w en w'):MadeL n xs w en w':=⟨_,_,h.1,Row.of h.2.1,h.2.2⟩
theorem Znx (A:Option Addr)(c:Nat)(xs:List ByteArray)(w:World)(h:Sl w A (xs.map Value.string))(hn:xs.length<=1048576) :
  Calls Tryz.prog 36 #[.slice A xs.length c] w (MadeL xs.length (xs.map Value.string) w):=
 (Znl A c xs w h hn).mono fun _ _ h=>Zqi h
theorem Zwi (A B:Option Addr)(c d:Nat)(xs:List ByteArray)(w:World)(hA:Sl w A (xs.map Value.string))(hB:Sl w B (xs.map Value.string))(hn:xs.length<=9223372036854775807) :
  Calls Tryz.prog 44 #[.slice A xs.length c,.slice B xs.length d] w (Zej w):=
 (Zky A B c d xs w hA hB hn).mono fun _ _ ⟨h1,n,h2⟩=>⟨h1,by rw [h2];exact Zab bQ n⟩
end Go.Proofs.YtlcedleebbgebaaGreatDoor
