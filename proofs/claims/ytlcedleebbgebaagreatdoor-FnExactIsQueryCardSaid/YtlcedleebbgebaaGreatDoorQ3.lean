/-
  Merged by program: Kd, Part4, Kd4, Box4, VaSz, TyEq, KdTy, KDc, Box1, Close, Sc, CopyG.
-/
import Derived.Test.YtlcedleebbgebaaGreatDoorQ2
import Derived.StillTailTactics
import Derived.Carry
import Derived.ProofKit
import Derived.OpenShut
import Derived.SizedLaws
import Derived.Deep.RegionLaw
set_option maxRecDepth 100000
set_option maxHeartbeats 800000
namespace Go.Proofs.YtlcedleebbgebaaGreatDoor
open Go.RowKit
def partK {β:Type}(n:Nat)(xs:List β)(j:Nat):List β:=(xs.drop (j * n)).take n
theorem Zeq {β:Type}(n:Nat)(xs:List β)(j i:Nat)(hi:i < n):(partK n xs j)[i]?=xs[j * n+i]?:=by
 unfold partK;rw [List.getElem?_take_of_lt hi,List.getElem?_drop]
theorem Zft {w w':World}{base size n:Nat}{e:TypeId}{A:Option Addr}{c:Nat}{xs:List Value}{K:Nat->Prop}(h:w.ownsRow base e size (.slice A n c) n xs)(hH:Held K w w')(hK:∀ b∈blk A,K b):w'.ownsRow base e size (.slice A n c) n xs:=by
 refine ⟨h.1,h.2.imp id ?_⟩;rintro ⟨g,cap,cur,hv,h1,h2,h3⟩;injection hv with e1 e2 e3
 subst e1;exact ⟨g,cap,cur,by rw [e2,e3],h1,(hH.block g (h.lt g rfl).2 (hK g (by simp [blk]))).trans h2,h3⟩
structure Kd (α:Type) where
 n:Nat
 R:World->α->List Value->Prop
 O:World->α->List Value->List Nat->Prop
 len:∀ {w:World} {x:α} {cs:List Value},R w x cs->cs.length=n
 keep:∀ {w w':World} {x:α} {cs:List Value},R w x cs->Below w.heap.size w w'->R w' x cs
 reads:∀ {w:World} {x:α} {cs:List Value} {fp:List Nat},O w x cs fp->R w x cs
 held:∀ {w w':World} {x:α} {cs:List Value} {fp:List Nat} {K:Nat->Prop},O w x cs fp->Held K w w'->(∀ b∈fp,K b)->O w' x cs fp
 nodup:∀ {w:World} {x:α} {cs:List Value} {fp:List Nat},O w x cs fp->fp.Nodup
section
variable {α β:Type}
theorem Kd.okeep (a:Kd α) {w w':World}{x:α}{cs:List Value}{fp:List Nat}{row:Option Nat}(h:a.O w x cs fp)(hg:w.grownBy w' row)(hne:∀ b∈fp,some b≠row):a.O w' x cs fp:=
 a.held h (K:=fun i=>some i≠row) ⟨hg.os,hg.tape,hg.output,hg.size,fun i hi hd=>hg.block i hi hd⟩ hne
theorem Kd.under (a:Kd α) {w w':World}{x:α}{cs:List Value}{fp:List Nat}(h:a.O w x cs fp)(hb:Below w.heap.size w w'):a.O w' x cs fp:=
 a.okeep h (row:=none) ⟨hb.os,hb.tape,hb.output,hb.size,fun i hi _=>hb.block i hi⟩ (fun b _=>by simp)
def RL (a:Kd α)(w:World)(A:Option Addr)(xs:List α):Prop:=∃ ps:Nat->List Value,∀ (j:Nat)(x:α),xs[j]?=some x->a.R w x (ps j)/\∃ ad,A=some ad/\∀ (i:Nat)(u:Value),(ps j)[i]?=some u->w.cell? (ad.add (j * a.n+i))=some u
theorem RL.keep {a:Kd α}{w w':World}{A:Option Addr}{xs:List α}(h:RL a w A xs)(hb:Below w.heap.size w w'):RL a w' A xs:=by
 obtain ⟨ps,hp⟩:=h;refine ⟨ps,fun j t hj=>?_⟩;obtain ⟨h1,ad,h2,h3⟩:=hp j t hj;exact ⟨a.keep h1 hb,ad,h2,fun i u hi=>(hb.cell (World.block_lt_of_cell? w _ (h3 i u hi))).trans (h3 i u hi)⟩
theorem Zagc (a:Kd α)(w:World)(A:Option Addr):RL a w A []:=⟨fun _=>[],fun j x hj=>by simp at hj⟩
def OL (a:Kd α)(e:TypeId)(w:World)(xs:List α)(s:Value)(fp:List Nat):Prop:=
 ∃ (A:Option Addr) (d:Nat) (cells:List Value) (fs:Nat->List Nat),s=.slice A xs.length d/\xs.length<=9223372036854775807/\w.ownsRow 0 e a.n (.slice A xs.length d) xs.length cells/\(∀ (j:Nat) (x:α),xs[j]?=some x->a.O w x (partK a.n cells j) (fs j))/\
  fp=blk A ++ (List.range xs.length).flatMap fs/\fp.Nodup
theorem OL.reads {a:Kd α}{e:TypeId}{w:World}{xs:List α}{s:Value}{fp:List Nat}(h:OL a e w xs s fp):∃ A d,s=.slice A xs.length d/\xs.length<=9223372036854775807/\xs.length<=d/\RL a w A xs:=by
 obtain ⟨A,d,cells,fs,rfl,h1,h2,h3,_,_⟩:=h;refine ⟨A,d,rfl,h1,Zfs h2,partK a.n cells,fun j x hj=>⟨a.reads (h3 j x hj),?_⟩⟩;have hl:=a.len (a.reads (h3 j x hj));have hj':=(List.getElem?_eq_some_iff.1 hj).1
 rcases h2.2 with ⟨_,h0⟩|⟨g,cap,cur,hv,_⟩
 ·omega
 ·injection hv with e1 _ _
  subst e1;refine ⟨_,rfl,fun i u hi=>?_⟩;have hi3:i < a.n:=by
   have:=(List.getElem?_eq_some_iff.1 hi).1
   omega
  rw [Zeq _ _ _ _ hi3] at hi;exact h2.cells (g:=g) rfl _ u hi
theorem OL.held {a:Kd α}{e:TypeId}{w w':World}{xs:List α}{s:Value}{fp:List Nat}{K:Nat->Prop}(h:OL a e w xs s fp)(hH:Held K w w')(hK:∀ b∈fp,K b):OL a e w' xs s fp:=by
 obtain ⟨A,d,cells,fs,rfl,h1,h2,h3,rfl,h5⟩:=h;refine ⟨A,d,cells,fs,rfl,h1,Zft h2 hH fun b hb=>hK b (by simp [hb]),fun j x hj=>a.held (h3 j x hj) hH fun b hb=>hK b ?_,rfl,h5⟩;rw [List.mem_append,List.mem_flatMap];exact .inr ⟨j,List.mem_range.2 (List.getElem?_eq_some_iff.1 hj).1,hb⟩
def Kd.list (a:Kd α)(e:TypeId):Kd (List α) where
 n:=1
 R w xs cs:=∃ A d,cs=[.slice A xs.length d]/\xs.length<=9223372036854775807/\xs.length<=d/\RL a w A xs
 O w xs cs fp:=∃ s,cs=[s]/\OL a e w xs s fp
 len:=by rintro w x cs ⟨A,d,rfl,_⟩;rfl
 keep:=by rintro w w' x cs ⟨A,d,rfl,h1,h2,h3⟩ hb;exact ⟨A,d,rfl,h1,h2,h3.keep hb⟩
 reads:=by
  rintro w x cs fp ⟨s,rfl,h⟩;obtain ⟨A,d,rfl,h1⟩:=OL.reads h;exact ⟨A,d,rfl,h1⟩
 held:=by rintro w w' x cs fp K ⟨s,rfl,h⟩ hH hK;exact ⟨s,rfl,h.held hH hK⟩
 nodup:=by rintro w x cs fp ⟨s,rfl,A,d,cells,fs,_,_,_,_,_,h⟩;exact h
def Kd.prod (a:Kd α)(b:Kd β):Kd (α×β) where
 n:=a.n+b.n
 R w x cs:=∃ c1 c2,cs=c1 ++ c2/\a.R w x.1 c1/\b.R w x.2 c2
 O w x cs fp:=∃ c1 c2 f1 f2,cs=c1 ++ c2/\a.O w x.1 c1 f1/\b.O w x.2 c2 f2/\fp=f1 ++ f2/\fp.Nodup
 len:=by rintro w x cs ⟨c1,c2,rfl,h1,h2⟩;rw [List.length_append,a.len h1,b.len h2]
 keep:=by rintro w w' x cs ⟨c1,c2,rfl,h1,h2⟩ hb;exact ⟨c1,c2,rfl,a.keep h1 hb,b.keep h2 hb⟩
 reads:=by rintro w x cs fp ⟨c1,c2,f1,f2,rfl,h1,h2,_,_⟩;exact ⟨c1,c2,rfl,a.reads h1,b.reads h2⟩
 held:=by
  rintro w w' x cs fp K ⟨c1,c2,f1,f2,rfl,h1,h2,rfl,h3⟩ hH hK;exact ⟨c1,c2,f1,f2,rfl,a.held h1 hH fun q hq=>hK q (by simp [hq]),b.held h2 hH fun q hq=>hK q (by simp [hq]),rfl,h3⟩
 nodup:=by rintro w x cs fp ⟨c1,c2,f1,f2,_,_,_,_,h⟩;exact h
def kStr:Kd ByteArray where
 n:=1
 R _ s cs:=cs=[.string s]/\s.size<=9223372036854775807
 O _ s cs fp:=cs=[.string s]/\s.size<=9223372036854775807/\fp=[]
 len:=by rintro w x cs ⟨rfl,_⟩;rfl
 keep:=by rintro w w' x cs h _;exact h
 reads:=by rintro w x cs fp ⟨h1,h2,_⟩;exact ⟨h1,h2⟩
 held:=by rintro w w' x cs fp K h _ _;exact h
 nodup:=by rintro w x cs fp ⟨_,_,rfl⟩;simp
theorem OTy.heldK {w w':World}{t:Ty}{cs:List Value}{fp:List Nat}{K:Nat->Prop}(h:OTy w t cs fp)(hH:Held K w w')(hK:∀ b∈fp,K b):OTy w' t cs fp:=by
 induction h with
 | node a ks L A c d xs fs h0 h1 h2 h3 h4 h5 ih=>
  refine .node a ks L A c d xs fs h0 (Zft h1 hH fun b hb=>hK b (by simp [hb])) h2 (Zft h3 hH fun b hb=>hK b (by simp [hb])) (fun j t hj=>ih j t hj fun b hb=>hK b ?_) h5;rw [List.mem_append,List.mem_flatMap];exact .inr ⟨j,List.mem_range.2 (List.getElem?_eq_some_iff.1 hj).1,hb⟩
def kTy:Kd Ty where
 n:=3
 R:=RTy
 O:=OTy
 len h:=h.len
 keep h hb:=h.keep hb
 reads h:=h.reads
 held h hH hK:=h.heldK hH hK
 nodup h:=h.nodup
def wL (f:α->Nat)(xs:List α):Nat:=xs.length+(xs.map f).sum
theorem wL_le {f:α->Nat}{xs:List α}{k:Nat}{B:Nat}(hk:k < xs.length)(h:wL f xs<=B):f xs[k]<=B/\xs.length<=B:=by
 have h1:=Zax f xs k hk;have h2:=Zde f xs (k+1);unfold wL at h
 constructor <;> omega
def Zlj (a:Kd α)(e:TypeId)(xs:List α)(w:World)(i:Value)(wr:World):Prop:=
 ∃ (k:Nat) (cells:List Value) (fs:Nat->List Nat),k<=xs.length/\i=.int .i64 k/\wr.ownsRow w.heap.size e a.n (.slice (some ⟨w.heap.size,0,none⟩) xs.length xs.length) xs.length cells/\
  (∀ (j:Nat) (x:α),j < k->xs[j]?=some x->a.O wr x (partK a.n cells j) (fs j))/\((List.range k).flatMap fs).Nodup/\(∀ j,j < k->∀ b∈fs j,w.heap.size < b/\b < wr.heap.size)/\Below w.heap.size w wr
theorem Zrb (a:Kd α)(e:TypeId)(xs:List α) {w w0:World}{cells:List Value}(hown:w0.ownsRow w.heap.size e a.n (.slice (some ⟨w.heap.size,0,none⟩) xs.length xs.length) xs.length cells)(hb:Below w.heap.size w w0):Zlj a e xs w (.int .i64 0) w0:=
 ⟨0,cells,fun _=>[],Nat.zero_le _,rfl,hown,fun j t hj=>by omega,by simp,fun j hj=>by omega,hb⟩
theorem Zra {a:Kd α}{e:TypeId}{xs:List α}{w wr w2 w3:World}{k:Nat}{cells cells3 rs:List Value}{fs:Nat->List Nat}{fp:List Nat}{i:Value}(hk:k < xs.length)(hi:i=.int .i64 ((k+1:Nat):Int))
  (hown:wr.ownsRow w.heap.size e a.n (.slice (some ⟨w.heap.size,0,none⟩) xs.length xs.length) xs.length cells) (hkid:∀ (j:Nat) (x:α),j < k->xs[j]?=some x->a.O wr x (partK a.n cells j) (fs j)) (hnd:((List.range k).flatMap fs).Nodup)
  (hbd:∀ j,j < k->∀ b∈fs j,w.heap.size < b/\b < wr.heap.size) (hb:Below w.heap.size w wr) (hb2:Below wr.heap.size wr w2) (hot:a.O w2 xs[k] rs fp) (hfp:∀ b∈fp,wr.heap.size<=b/\b < w2.heap.size)
  (h3:w3.ownsRow w.heap.size e a.n (.slice (some ⟨w.heap.size,0,none⟩) xs.length xs.length) xs.length cells3) (hg3:w2.grownBy w3 (some w.heap.size)) (hput:partK a.n cells3 k=rs) (hother:∀ j,j≠k->partK a.n cells3 j=partK a.n cells j):Zlj a e xs w i w3:=by
 have hlt:w.heap.size < wr.heap.size:=(hown.lt w.heap.size rfl).2;have hs2:=hb2.size;have hs3:=hg3.size;refine ⟨k+1,cells3,fun j=>if j=k then fp else fs j,hk,hi,h3,fun j t hj ht=>?_,?_,fun j hj b hbm=>?_,(hb.trans (hb2.mono hb.size)).grown hg3 (by omega) (fun q hq=>by injection hq with hq;omega)⟩
 ·show a.O _ _ _ (if j=k then fp else fs j)
  by_cases ej:j=k
  ·subst ej
   rw [List.getElem?_eq_getElem hk] at ht;injection ht with ht
   subst ht;rw [if_pos rfl,hput];exact a.okeep hot hg3 (fun b hbm e=>by injection e with e;have:=(hfp b hbm).1;omega)
  ·rw [if_neg ej,hother j ej]
   exact a.okeep (a.under (hkid j t (by omega) ht) hb2) hg3 (fun b hbm e=>by injection e with e;have:=(hbd j (by omega) b hbm).1;omega)
 ·rw [Zel]
  refine List.nodup_append.2 ⟨hnd,?_,fun x hx y hy exy=>?_⟩
  ·exact a.nodup hot
  ·have h1:=Zez hbd x hx
   have h2:=hfp y hy
   omega
 ·change b∈(if j=k then fp else fs j) at hbm
  by_cases ej:j=k
  ·rw [if_pos ej] at hbm
   have:=hfp b hbm
   omega
  ·rw [if_neg ej] at hbm
   have:=hbd j (by omega) b hbm
   omega
def MadeK (a:Kd α)(x:α)(f:List Value->Value)(w:World)(e:Ending)(w':World):Prop:=
 ∃ (cs:List Value) (fp:List Nat),e=.returned (f cs)/\a.O w' x cs fp/\(∀ b∈fp,w.heap.size<=b/\b < w'.heap.size)/\Below w.heap.size w w'
def Zabv (a:Kd α)(e':TypeId)(xs:List α)(w:World)(e:Ending)(w':World):Prop:=
 ∃ (A:Option Addr) (d:Nat) (fp:List Nat),e=.returned (.slice A xs.length d)/\OL a e' w' xs (.slice A xs.length d) fp/\(∀ b∈fp,w.heap.size<=b/\b < w'.heap.size)/\Below w.heap.size w w'
theorem Zqz {a:Kd α}{e:TypeId}{xs:List α}{w wr:World}(hl:xs.length<=9223372036854775807)(h:Zlj a e xs w (.int .i64 (xs.length:Int)) wr):Zabv a e xs w (.returned (.slice (some ⟨w.heap.size,0,none⟩) xs.length xs.length)) wr:=by
 obtain ⟨k,cells,fs,hk,hi,ho,hkid,hnd,hbd,hb⟩:=h;have hk2:k=xs.length:=by
  injection hi with _ hi
  omega
 subst hk2;have hlt:=(ho.lt w.heap.size rfl).2;refine ⟨_,_,blk (some ⟨w.heap.size,0,none⟩) ++ (List.range xs.length).flatMap fs,rfl,⟨_,_,cells,fs,rfl,hl,⟨ho.1,ho.2.imp id fun ⟨g,cap,cur,h1,_,h3⟩=>⟨g,cap,cur,h1,Nat.zero_le _,h3⟩⟩,fun j t hj=>hkid j t (List.getElem?_eq_some_iff.1 hj).1 hj,rfl,?_⟩,fun b hbm=>?_,hb⟩
 ·show (w.heap.size :: _).Nodup
  refine List.nodup_cons.2 ⟨fun hm=>?_,hnd⟩
  have:=Zez hbd _ hm
  omega
 ·rcases List.mem_append.1 hbm with h|h
  ·simp [blk] at h
   omega
  ·have:=Zez hbd b h
   omega
end
def part4 {β:Type}(xs:List β)(j:Nat):List β:=(xs.drop (j * 4)).take 4
theorem Zkh {β:Type}(xs:List β)(j i:Nat)(hi:i < 4):(part4 xs j)[i]?=xs[j * 4+i]?:=by
 unfold part4;rw [List.getElem?_take_of_lt hi,List.getElem?_drop]
theorem Zxx {β:Type}(xs:List β)(j:Nat)(h:j * 4+4<=xs.length):(part4 xs j).length=4:=by
 unfold part4;rw [List.length_take,List.length_drop]
 omega
theorem Zxw {β:Type}{xs ys:List β}{j:Nat}(h:∀ i,i < 4->xs[j * 4+i]?=ys[j * 4+i]?):part4 xs j=part4 ys j:=by
 apply List.ext_getElem?
 intro i
 by_cases hi:i < 4
 ·rw [Zkh _ _ _ hi,Zkh _ _ _ hi];exact h i hi
 ·unfold part4
  rw [List.getElem?_take_eq_none (by omega),List.getElem?_take_eq_none (by omega)]
def put4 {β:Type}(xs:List β)(j:Nat)(a b c d:β):List β:=(((xs.set (j * 4) a).set (j * 4+1) b).set (j * 4+2) c).set (j * 4+3) d
theorem Zaaz {β:Type}(xs:List β)(j:Nat)(a b c d:β):(put4 xs j a b c d).length=xs.length:=by simp [put4]
theorem Zaeg {β:Type}(xs:List β)(j:Nat)(a b c d:β)(h:j * 4+4<=xs.length):part4 (put4 xs j a b c d) j=[a,b,c,d]:=by
 apply List.ext_getElem?
 intro i
 by_cases hi:i < 4
 ·rw [Zkh _ _ _ hi]
  unfold put4;have h0:j * 4 < xs.length:=by omega
  have h1:j * 4+1 < xs.length:=by omega
  have h2:j * 4+2 < xs.length:=by omega
  have h3:j * 4+3 < xs.length:=by omega
  match i,hi with
  | 0,_=>simp [h0]
  | 1,_=>simp [h1]
  | 2,_=>simp [h2]
  | 3,_=>simp [h3]
 ·rw [List.getElem?_eq_none (by rw [Zxx _ _ (by rw [Zaaz];exact h)];omega),List.getElem?_eq_none (by simp;omega)]
theorem Zul {β:Type}(xs:List β)(j k:Nat)(a b c d:β)(h:k≠j):part4 (put4 xs j a b c d) k=part4 xs k:=by
 refine Zxw fun i hi=>?_
 unfold put4;rw [List.getElem?_set_ne (by omega),List.getElem?_set_ne (by omega),List.getElem?_set_ne (by omega),List.getElem?_set_ne (by omega)]
def Zsn (w:World)(g j:Nat)(a b c d:Value):World:=(((w.setCell ⟨g,j * 4,none⟩ a).setCell ⟨g,j * 4+1,none⟩ b).setCell ⟨g,j * 4+2,none⟩ c).setCell ⟨g,j * 4+3,none⟩ d
theorem Zug {w:World}{base g n cap:Nat}{e:TypeId}{xs:List Value}(h:w.ownsRow base e 4 (.slice (some ⟨g,0,none⟩) n cap) n xs)(j:Nat)(a b c d:Value) :
  (Zsn w g j a b c d).ownsRow base e 4 (.slice (some ⟨g,0,none⟩) n cap) n (put4 xs j a b c d)/\w.grownBy (Zsn w g j a b c d) (some g):=by
 have h1:=h.stored (j * 4) a;have h2:=h1.1.stored (j * 4+1) b;have h3:=h2.1.stored (j * 4+2) c;have h4:=h3.1.stored (j * 4+3) d;have s3:=Nat.le_trans h1.2.size (Nat.le_trans h2.2.size h3.2.size);refine ⟨h4.1,⟨rfl,rfl,rfl,?_,fun k hk hne=>?_⟩⟩
 ·exact Nat.le_trans s3 h4.2.size
 ·exact (h4.2.block k (Nat.lt_of_lt_of_le hk s3) hne).trans ((h3.2.block k (Nat.lt_of_lt_of_le hk (Nat.le_trans h1.2.size h2.2.size)) hne).trans ((h2.2.block k (Nat.lt_of_lt_of_le hk h1.2.size) hne).trans (h1.2.block k hk hne)))
theorem Zec {α:Type}{a:Kd α}(hn:a.n=4) {w wr:World}{A:Option Addr}{xs:List α}(hp:RL a w A xs)(hb:Below w.heap.size w wr) {k:Nat}(hk:k < xs.length):∃ (ad p:Addr)(c0 c1 c2 c3:Value),A=some ad/\ad.add (k * 4)=p/\a.R wr xs[k] [c0,c1,c2,c3]/\wr.cell? p=some c0/\wr.cell? ⟨p.block,p.off+1,none⟩=some c1/\wr.cell? ⟨p.block,p.off+2,none⟩=some c2/\wr.cell? ⟨p.block,p.off+3,none⟩=some c3:=by
 obtain ⟨ps,hp⟩:=hp;obtain ⟨hr,ad,hA,hc⟩:=hp k xs[k] (List.getElem?_eq_getElem hk);have hl:(ps k).length=4:=by rw [a.len hr,hn]
 rw [hn] at hc;have hcell:∀ i u,(ps k)[i]?=some u->wr.cell? (ad.add (k * 4+i))=some u:=fun i u hi=>(hb.cell (World.block_lt_of_cell? w _ (hc i u hi))).trans (hc i u hi)
 obtain ⟨c0,c1,c2,c3,he⟩:∃ c0 c1 c2 c3,ps k=[c0,c1,c2,c3]:=by
  match ps k,hl with
  | [x0,x1,x2,x3],_=>exact ⟨x0,x1,x2,x3,rfl⟩
 rw [he] at hcell hr;refine ⟨ad,_,c0,c1,c2,c3,hA,rfl,a.keep hr hb,hcell 0 _ rfl,?_,?_,?_⟩
 ·rw [<-Zao ad (k * 4) 1 (by omega)];exact hcell 1 _ rfl
 ·rw [<-Zao ad (k * 4) 2 (by omega)];exact hcell 2 _ rfl
 ·rw [<-Zao ad (k * 4) 3 (by omega)];exact hcell 3 _ rfl
theorem Znm {α:Type}{a:Kd α}(hn:a.n=4) {e:TypeId}{xs:List α}{w wr w2:World}{k:Nat}{cells:List Value}{fs:Nat->List Nat}{fp:List Nat}{r0 r1 r2 r3:Value}{i:Value}(hk:k < xs.length)(hi:i=.int .i64 ((k+1:Nat):Int))
  (hown:wr.ownsRow w.heap.size e a.n (.slice (some ⟨w.heap.size,0,none⟩) xs.length xs.length) xs.length cells) (hkid:∀ (j:Nat) (x:α),j < k->xs[j]?=some x->a.O wr x (partK a.n cells j) (fs j)) (hnd:((List.range k).flatMap fs).Nodup)
  (hbd:∀ j,j < k->∀ b∈fs j,w.heap.size < b/\b < wr.heap.size) (hb:Below w.heap.size w wr) (hb2:Below wr.heap.size wr w2) (hot:a.O w2 xs[k] [r0,r1,r2,r3] fp) (hfp:∀ b∈fp,wr.heap.size<=b/\b < w2.heap.size) :
  Zlj a e xs w i (Zsn w2 w.heap.size k r0 r1 r2 r3):=by
 have hxl:cells.length=xs.length * 4:=by rw [<-hn];exact hown.1
 have ho2:w2.ownsRow w.heap.size e a.n (.slice (some ⟨w.heap.size,0,none⟩) xs.length xs.length) xs.length cells:=
  hown.kept (row:=none) ⟨hb2.os,hb2.tape,hb2.output,hb2.size,fun i hi _=>hb2.block i hi⟩ (.inr (by simp [Value.ownBlock]))
 rw [hn] at ho2;obtain ⟨h3,hg3⟩:=Zug ho2 k r0 r1 r2 r3;rw [<-hn] at h3;refine Zra hk hi hown hkid hnd hbd hb hb2 hot hfp h3 hg3 ?_ fun j hj=>?_
 ·rw [hn];exact Zaeg cells k r0 r1 r2 r3 (by omega)
 ·rw [hn];exact Zul cells k j r0 r1 r2 r3 hj
def Box4 (w:World)(g:Nat)(t:TypeId)(a b c d:Value):Prop:=w.heap[g]?=some (.cells #[a,b,c,d] t (0,0))
section
variable {w w':World} {g:Nat} {t:TypeId} {a b c d:Value}
theorem Box4.new (w:World)(t:TypeId)(a b c d:Value):Box4 (w.alloc (.cells #[a,b,c,d] t)) w.heap.size t a b c d:=heap_alloc_new w _
theorem Box4.lt (h:Box4 w g t a b c d):g < w.heap.size:=(Array.getElem?_eq_some_iff.1 h).1
theorem Box4.c0 (h:Box4 w g t a b c d):w.cell? ⟨g,0,none⟩=some a:=cell_of_row w g 0 _ t (0,0) h
theorem Box4.c1 (h:Box4 w g t a b c d):w.cell? ⟨g,1,none⟩=some b:=cell_of_row w g 1 _ t (0,0) h
theorem Box4.c2 (h:Box4 w g t a b c d):w.cell? ⟨g,2,none⟩=some c:=cell_of_row w g 2 _ t (0,0) h
theorem Box4.c3 (h:Box4 w g t a b c d):w.cell? ⟨g,3,none⟩=some d:=cell_of_row w g 3 _ t (0,0) h
theorem Box4.free (h:Box4 w g t a b c d)(i:Nat):w.frozen? ⟨g,i,none⟩=false:=frozen_of_row w g i _ t h
theorem Box4.under (h:Box4 w g t a b c d) {B:Nat}(hb:Below B w w')(hg:g < B):Box4 w' g t a b c d:=(hb.block g hg).trans h
theorem Box4.alloc (h:Box4 w g t a b c d)(o:Obj):Box4 (w.alloc o) g t a b c d:=(((bQ.alloc nQ o:Below w.heap.size w (w.alloc o))).block g h.lt).trans h
theorem Box4.far (h:Box4 w g t a b c d) {p:Addr}(hp:g≠p.block)(u:Value):Box4 (w.setCell p u) g t a b c d:=(Below.heap_setCell w p u g hp).trans h
theorem Box4.set0 (h:Box4 w g t a b c d)(u:Value):Box4 (w.setCell ⟨g,0,none⟩ u) g t u b c d:=heap_setCell_same w g 0 _ t u h
theorem Box4.set1 (h:Box4 w g t a b c d)(u:Value):Box4 (w.setCell ⟨g,1,none⟩ u) g t a u c d:=heap_setCell_same w g 1 _ t u h
theorem Box4.set2 (h:Box4 w g t a b c d)(u:Value):Box4 (w.setCell ⟨g,2,none⟩ u) g t a b u d:=heap_setCell_same w g 2 _ t u h
theorem Box4.set3 (h:Box4 w g t a b c d)(u:Value):Box4 (w.setCell ⟨g,3,none⟩ u) g t a b c u:=heap_setCell_same w g 3 _ t u h
end
def SzV (n:Nat)(left:Int)(w:World)(e:Ending)(w':World):Prop:=∃ r:Int,e=.returned (.int .i64 r)/\r<=left/\-1<=r/\(0<=r->r+n=left)/\Below w.heap.size w w'
def EqK (t:Ty):Prop:=∀ (w:World)(cs ds:List Value),RTy w t cs->RTy w t ds->Calls Tryz.prog 13 #[.agg cs.toArray,.agg ds.toArray] w (Zej w)
theorem Ztc (ks:List Ty)(ih:∀ t∈ks,EqK t)(w:World)(A B:Option Addr)(c d:Nat)(hA:RKids w A ks)(hB:RKids w B ks)(hl:ks.length<=9223372036854775807) :
  Calls Tryz.prog 45 #[.slice A ks.length c,.slice B ks.length d] w (Zej w):=by
 have HA:=hQ hA;have HB:=hQ hB;have HI:=hQ ih;clear hA hB ih;go_enter Tryz.func45,Tryz.ntmps45;go_wp2_with fail;go_loopw [5] (fun i wr=>∃ k:Nat,k<=ks.length/\i=.int .i64 k/\Below w.heap.size w wr) (fun i _=>ks.length - (intOf i).toNat)
 case atStart=>exact ⟨0,Nat.zero_le _,rfl,Below.refl _ _⟩
 case round=>
  obtain ⟨k,hk,rfl,hb⟩:=hrel;by_cases hlt:k < ks.length
  ·obtain ⟨ad,p,c0,c1,c2,rfl,hpe,hr,q0,q1,q2⟩:=Zal HA.out hb hlt
   obtain ⟨bd,p',d0,d1,d2,rfl,hpe',hr',q0',q1',q2'⟩:=Zal HB.out hb hlt;have HR:=hQ hr;have HR':=hQ hr';have HBW:=hQ hb;clear hr hr' hb;go_wp2_with fail;go_still_tail 8,(by kernel_rfl)
   change wpList _ _ _ _ _ wr.drew
   have hd:Below wr.heap.size wr wr.drew:=bQ.drew;have HC:=hQ (HI.out ks[k] (List.getElem_mem hlt) wr.drew [c0,c1,c2] [d0,d1,d2] (HR.out.keep hd) (HR'.out.keep hd));have HB2:=hQ (HBW.out.trans (hd.mono HBW.out.size));clear hd;go_wp2_with fail;refine HC.out.mono ?_;rintro e w2 ⟨rfl,hb2⟩;have HB3:=hQ (HB2.out.trans (hb2.mono HB2.out.size));clear hb2;go_wp2_with fail;go_roundw
   case rel=>exact ⟨k+1,hlt,by go_num,HB3.out⟩
   case measure=>simp [intOf];omega
  ·go_wp2_with fail
   go_ret
   exact ⟨rfl,hb⟩
theorem Zjr:∀ t:Ty,EqK t:=by
 refine Tr.ind ?_
 intro a ks ih w cs ds h h'
 obtain ⟨L,c,A,d,rfl,k1,k2,k3,k4,k5,k6,hp⟩:=h.out;obtain ⟨L',c',A',d',rfl,k1',_,_,_,_,_,hp'⟩:=h'.out;obtain ⟨W1,hW1⟩:∃ W1,(w.alloc (.cells #[.int .i64 a.kind,.slice L a.labels.length c,.slice A ks.length d] 38)).alloc (.cells #[.int .i64 a.kind,.slice L' a.labels.length c',.slice A' ks.length d'] 38)=W1:=⟨_,rfl⟩;obtain ⟨H,hH⟩:∃ H,w.heap.size=H:=⟨_,rfl⟩;have b0:Box3 W1 H 38 (.int .i64 a.kind) (.slice L a.labels.length c) (.slice A ks.length d):=by rw [<-hW1,<-hH];exact (Box3.new w _ _ _ _).alloc _
 have b1:Box3 W1 (H+1) 38 (.int .i64 a.kind) (.slice L' a.labels.length c') (.slice A' ks.length d'):=by
  rw [<-hW1,<-hH]
  have:=Box3.new (w.alloc (.cells #[.int .i64 a.kind,.slice L a.labels.length c,.slice A ks.length d] 38)) 38 (.int .i64 a.kind) (.slice L' a.labels.length c') (.slice A' ks.length d')
  simpa using this
 have hb1:Below w.heap.size w W1:=by rw [<-hW1];exact (bQ.alloc nQ _).alloc (by simp) _
 have HW1:=hQ hW1;have HP:=hQ (hp.keep hb1);have HP':=hQ (hp'.keep hb1);have HL:=hQ (k1.below hb1);have HL':=hQ (k1'.below hb1);have HB1:=hQ hb1;have HI:=hQ ih;have x0:=b0.c0;have x1:=b0.c1;have x2:=b0.c2;have y0:=b1.c0;have y1:=b1.c1;have y2:=b1.c2;have B0:=hQ b0;have B1:=hQ b1;clear hp hp' ih k1 k1' k5 h h' hW1 b0 b1 hb1;go_enter Tryz.func13,Tryz.ntmps13;go_wp2_with fail;rw [HW1.out];refine (Zwi _ _ _ _ a.labels W1 HL.out HL'.out k4).mono ?_;rintro e w2 ⟨rfl,hb2⟩;have hz:H+1 < W1.heap.size:=B1.out.lt;have z2:=(B0.out.under hb2 (by omega)).c2;have v2:=(B1.out.under hb2 (by omega)).c2;have HP2:=hQ (HP.out.keep hb2);have HP2':=hQ (HP'.out.keep hb2);have HB2:=hQ (HB1.out.trans (hb2.mono HB1.out.size));clear hb2 x0 x1 x2 y0 y1 y2;go_wp2_with fail;refine (Ztc ks HI.out w2 A A' d d' HP2.out HP2'.out k6).mono ?_;rintro e w3 ⟨rfl,hb3⟩;have HB3:=hQ (HB2.out.trans (hb3.mono HB2.out.size));clear hb3 z2 v2;go_wp2_with fail;go_ret;exact ⟨rfl,HB3.out⟩
theorem Zfo {w:World}{t:Ty}{cs:List Value}(h:kTy.R w t cs):∃ tk TL TA tl tc ta td,cs=[.int .i64 tk,.slice TL tl tc,.slice TA ta td]:=by
 cases t with
 | node a ks=>
  obtain ⟨L,c,A,d,rfl,_⟩:=RTy.out h;exact ⟨_,_,_,_,_,_,_,rfl⟩
theorem Zagg (t:Ty)(w:World)(cs:List Value)(left:Int)(h:kTy.R w t cs)(h0:0<=left)(h1:left<=1048576):Calls Tryz.prog 26 #[.agg cs.toArray,.int .i64 left] w (SzV (wt t) left w):=Zmc t w cs left h h0 h1
theorem Zagh (t:Ty)(w:World)(cs:List Value)(h:kTy.R w t cs)(hw:wt t<=1048576):Calls Tryz.prog 35 #[.agg cs.toArray] w (MadeK kTy t (fun cs=>.agg cs.toArray) w):=
 (Zmd t w cs h hw).mono fun _ _ ⟨_,_,_,_,fp,he,ho,hb,hbw⟩=>⟨_,fp,he,ho,hb,hbw⟩
theorem Zaez (t:Ty)(w:World)(cs ds:List Value)(h:kTy.R w t cs)(h':kTy.R w t ds):Calls Tryz.prog 13 #[.agg cs.toArray,.agg ds.toArray] w (Zej w):=Zjr t w cs ds h h'
abbrev Dc:=ByteArray×Ty
def kDc:Kd Dc:=kStr.prod kTy
theorem kDc_n:kDc.n=4:=rfl
def wDc (x:Dc):Nat:=x.1.size+wt x.2
theorem Zcc {w:World}{x:Dc}{cs:List Value}(h:kDc.R w x cs):∃ tk TL TA tl tc ta td,cs=[.string x.1,.int .i64 tk,.slice TL tl tc,.slice TA ta td]/\x.1.size<=9223372036854775807/\kTy.R w x.2 [.int .i64 tk,.slice TL tl tc,.slice TA ta td]:=by
 obtain ⟨c1,c2,rfl,⟨rfl,h1⟩,h2⟩:=h;obtain ⟨tk,TL,TA,tl,tc,ta,td,rfl⟩:=Zfo h2;exact ⟨tk,TL,TA,tl,tc,ta,td,rfl,h1,h2⟩
theorem Zwv {w:World}{x:Dc}{ys:List Value}{fp:List Nat}(h1:x.1.size<=9223372036854775807)(h2:kTy.O w x.2 ys fp):kDc.O w x (.string x.1 :: ys) fp:=⟨[.string x.1],ys,[],fp,rfl,⟨rfl,h1,rfl⟩,h2,rfl,kTy.nodup h2⟩
theorem Zww {w:World}{x:Dc}{cs:List Value}{fp:List Nat}(h:kDc.O w x cs fp):∃ tk TL TA tl tc ta td,cs=[.string x.1,.int .i64 tk,.slice TL tl tc,.slice TA ta td]/\x.1.size<=9223372036854775807/\kTy.O w x.2 [.int .i64 tk,.slice TL tl tc,.slice TA ta td] fp:=by
 obtain ⟨c1,c2,f1,f2,rfl,⟨rfl,h1,rfl⟩,h2,rfl,_⟩:=h;obtain ⟨tk,TL,TA,tl,tc,ta,td,rfl⟩:=Zfo (kTy.reads h2);exact ⟨tk,TL,TA,tl,tc,ta,td,rfl,h1,h2⟩
def Box1 (w:World)(g:Nat)(t:TypeId)(a0:Value):Prop:=w.heap[g]?=some (.cells #[a0] t (0,0))
section
variable {w w':World} {g:Nat} {t:TypeId} {a0:Value}
theorem Box1.new (w:World)(t:TypeId)(a0:Value):Box1 (w.alloc (.cells #[a0] t)) w.heap.size t a0:=heap_alloc_new w _
theorem Box1.lt (h:Box1 w g t a0):g < w.heap.size:=(Array.getElem?_eq_some_iff.1 h).1
theorem Box1.c0 (h:Box1 w g t a0):w.cell? ⟨g,0,none⟩=some a0:=cell_of_row w g 0 _ t (0,0) h
theorem Box1.free (h:Box1 w g t a0)(i:Nat):w.frozen? ⟨g,i,none⟩=false:=frozen_of_row w g i _ t h
theorem Box1.under (h:Box1 w g t a0) {B:Nat}(hb:Below B w w')(hg:g < B):Box1 w' g t a0:=(hb.block g hg).trans h
theorem Box1.alloc (h:Box1 w g t a0)(o:Obj):Box1 (w.alloc o) g t a0:=(((bQ.alloc nQ o:Below w.heap.size w (w.alloc o))).block g h.lt).trans h
theorem Box1.far (h:Box1 w g t a0) {p:Addr}(hp:g≠p.block)(u:Value):Box1 (w.setCell p u) g t a0:=(Below.heap_setCell w p u g hp).trans h
theorem Box1.set0 (h:Box1 w g t a0)(u:Value):Box1 (w.setCell ⟨g,0,none⟩ u) g t u:=heap_setCell_same w g 0 _ t u h
end
end Go.Proofs.YtlcedleebbgebaaGreatDoor
namespace Go.Proofs.YtlcedleebbgebaaGreatDoor
open Go.RowKit Go.ChangeShapes Go.WideShapes Go.ChangeAt
theorem Zhu {H:Type}{enc:TypeId×Value->H}{P:Program}(hl:laidOutB P=true) {W W':World}(hb:Below W.heap.size W W') :
  ∀ (ts:List TypeId) (vs:List Value) (ds:List (DataW H)) (ps:List MemPlace),(∀ t∈ts,P.readableRec t=true/\t < P.types.size)->(∀ x∈ps,x.block < W.heap.size)->
   DataW.TrodAll enc P W 0 (fun _=>true) true ts vs ds ps->DataW.TrodAll enc P W' 0 (fun b=>decide (b < W.heap.size)) true ts vs ds ps
 | [],[],[],ps,_,_,h=>h
 | t :: ts,v :: vs,d :: ds,ps,hr,hlt,h=>by
  obtain ⟨p,q,h1,h2,rfl⟩:=h;have ht:=hr t (by simp);exact ⟨p,q,Below.trod hl ht.1 ht.2 h1 hb (fun x hx=>hlt x (by simp [hx])),Zhu hl hb ts vs ds q (fun t' h'=>hr t' (by simp [h'])) (fun x hx=>hlt x (by simp [hx])) h2,rfl⟩
 | [],[],_ :: _,_,_,_,h=>h.elim
 | [],_ :: _,_,_,_,_,h=>h.elim
 | _ :: _,[],_,_,_,_,h=>h.elim
 | _ :: _,_ :: _,[],_,_,_,h=>h.elim
end Go.Proofs.YtlcedleebbgebaaGreatDoor
namespace Go.Proofs.YtlcedleebbgebaaGreatDoor
open Go.RowKit
abbrev Sc:=List Dc
def RSc (w:World)(t:Sc)(cs:List Value):Prop:=(kDc.list 101).R w t cs
def OSc (w:World)(t:Sc)(cs:List Value)(fp:List Nat):Prop:=(kDc.list 101).O w t cs fp
def wSc (t:Sc):Nat:=wL wDc t
theorem RSc.keep {w w':World}{t:Sc}{cs:List Value}(h:RSc w t cs)(hb:Below w.heap.size w w'):RSc w' t cs:=(kDc.list 101).keep h hb
theorem RSc.open {w:World}{t:Sc}{cs:List Value}(h:RSc w t cs):∃ A d,cs=[.slice A t.length d]/\t.length<=9223372036854775807/\t.length<=d/\RL kDc w A t:=h
theorem RSc.one {w:World}{t:Sc}{cs:List Value}(h:RSc w t cs):∃ c0,cs=[c0]:=by
 obtain ⟨A,d,rfl,_⟩:=h;exact ⟨_,rfl⟩
theorem OSc.reads {w:World}{t:Sc}{cs:List Value}{fp:List Nat}(h:OSc w t cs fp):RSc w t cs:=(kDc.list 101).reads h
theorem OSc.under {w w':World}{t:Sc}{cs:List Value}{fp:List Nat}(h:OSc w t cs fp)(hb:Below w.heap.size w w'):OSc w' t cs fp:=(kDc.list 101).under h hb
theorem OSc.ol {w:World}{t:Sc}{s:Value}{fp:List Nat}:OSc w t [s] fp↔OL kDc 101 w t s fp:=by
 constructor
 ·rintro ⟨s',e,h⟩
  injection e with e _
  subst e;exact h
 ·intro h
  exact ⟨s,rfl,h⟩
def Zvn (t:Sc)(w:World)(e:Ending)(w':World):Prop:=
 ∃ (A:Option Addr) (d:Nat) (fp:List Nat),e=.returned (.agg #[.slice A t.length d])/\OSc w' t [.slice A t.length d] fp/\(∀ b∈fp,w.heap.size<=b/\b < w'.heap.size)/\Below w.heap.size w w'
theorem Zmz (t:Sc):t.length<=wSc t:=by unfold wSc wL;omega
theorem Zxn {L A F:List Nat}:(L ++ A ++ F).Nodup↔L.Nodup/\A.Nodup/\F.Nodup/\(∀ x∈L,x∉A)/\(∀ x∈L,x∉F)/\(∀ x∈A,x∉F):=by
 rw [List.nodup_append,List.nodup_append]
 constructor
 ·rintro ⟨⟨h1,h2,h3⟩,h4,h5⟩
  exact ⟨h1,h2,h4,fun x hx hy=>h3 x hx x hy rfl,fun x hx hy=>h5 x (by simp [hx]) x hy rfl,fun x hx hy=>h5 x (by simp [hx]) x hy rfl⟩
 ·rintro ⟨h1,h2,h3,h4,h5,h6⟩
  refine ⟨⟨h1,h2,fun x hx y hy e=>h4 x hx (e ▸ hy)⟩,h3,fun x hx y hy e=>?_⟩;subst e
  rcases List.mem_append.1 hx with hx|hx
  ·exact h5 x hx hy
  ·exact h6 x hx hy
theorem Zek (A:Option Addr):(blk A).Nodup:=by cases A <;> simp [blk]
theorem Zep {w:World}{base size:Nat}{e:TypeId}{v:Value}{n:Nat}{xs:List Value}(h:w.ownsRow base e size v n xs):∃ A c,v=.slice A n c:=by
 rcases h.2 with ⟨rfl,rfl⟩|⟨g,cap,cur,rfl,_⟩
 ·exact ⟨none,0,rfl⟩
 ·exact ⟨_,cap,rfl⟩
theorem Zne {w:World}{base size:Nat}{e:TypeId}{v:Value}{n:Nat}{xs:List Value}(h:w.ownsRow base e size v n xs):w.ownsRow 0 e size v n xs:=
 ⟨h.1,h.2.imp id fun ⟨g,cap,cur,h1,_,h3⟩=>⟨g,cap,cur,h1,Nat.zero_le _,h3⟩⟩
theorem Ztq {β:Type}(f:β->Nat) {ks:List β}{t:β}(h:t∈ks):f t<=(ks.map f).sum:=by
 induction ks with
 | nil=>cases h
 | cons x xs ih=>
  rcases List.mem_cons.1 h with rfl|h
  ·simp
  ·have:=ih h;simp;omega
theorem Zdx {P:Program}{ops:Array Oper}{o:Oper}{a:Act}{w:World}{K:Act->World->Prop}{Q:Exit->Act->World->Prop}{E:Prop}(hgd:o.guard=none)(s x:Operand)(t:TypeId)
  (ho:o.op=.call { callee:=.builtin .append,args:=#[s,x],argTypes:=#[t,t] })
  (base:Nat) (e:TypeId) (i:TypeInfo) (z:Value) (bytes:Nat) (ht:P.underlying t=some (.slice e)) (hi:P.info? e=some i) (hz:i.zero=some z) (hsize:i.size=1) (hby:i.bytes=bytes) (hzs:z.cells.size=1)
  (v:Value) (hs:a.eval s=v) (hown:w.ownsRow base e 1 v 0 []) (A:Option Addr) (m c:Nat) (news:List Value) (hx:a.eval x=.slice A m c) (hl:news.length=m) (hnews:Sl w A news) (h1:∀ u∈news,u.oneCell'=true)
  (h63:m<=maxLen) (hbytes:m * bytes<=140737488355328) (hbase:base<=w.heap.size)
  (h:∀ LL lc w',w'.ownsRow base e 1 (.slice LL m lc) m news->w.grownBy w' v.ownBlock->(∀ b∈blk LL,v.ownBlock=some b∨b=w.heap.size)->K (a.put o.dst (.slice LL m lc)) w') :
  if Region.wanted o (yielded ops a.tmps)=true then Oper.wp P o a w K Q else E:=by
 obtain ⟨v',w',hr,h2,h3,h4⟩:=Zhq w base t o.type e i z bytes ht hi hz hsize hby hzs v 0 [] hown A m c news hl hnews h1 (by omega) (by rw [Nat.zero_add];exact hbytes) hbase;rw [Nat.zero_add,List.nil_append] at h2;obtain ⟨LL,lc,rfl⟩:=Zhc h2;have hw:Region.wanted o (yielded ops a.tmps)=true:=by simp [Region.wanted,hgd]
 rw [if_pos hw];refine Lib.wp_append_run w s x t t ho _ _ hs hx _ w' hr (h LL lc w' h2 h3 fun b hb=>?_);have e:=(Zam LL m lc b).2 hb
 rcases h4 with h4|h4
 ·rw [h4] at e;exact .inl e
 ·rw [h4] at e;injection e with e;exact .inr e.symm
theorem Zgj {P:Program}{ops:Array Oper}{o:Oper}{a:Act}{w:World}{K:Act->World->Prop}{Q:Exit->Act->World->Prop}{E:Prop}(hgd:o.guard=none)(s x:Operand)(t:TypeId)
  (ho:o.op=.call { callee:=.builtin .append,args:=#[s,x],argTypes:=#[t,t] })
  (base:Nat) (e:TypeId) (i:TypeInfo) (z:Value) (size bytes:Nat) (ht:P.underlying t=some (.slice e)) (hi:P.info? e=some i) (hz:i.zero=some z) (hsize:i.size=size) (hby:i.bytes=bytes) (hzs:z.cells.size=size) (hsz:0 < size)
  (v:Value) (n:Nat) (xs:List Value) (hs:a.eval s=v) (hown:w.ownsRow base e size v n xs) (ad:Addr) (m c:Nat) (news:List Value) (hx:a.eval x=.slice (some ad) m c) (hl:news.length=m * size)
  (hnews:∀ j u,news[j]?=some u->w.cell? (ad.add j)=some u) (h1:∀ u∈news,u.oneCell'=true) (h63:n+m<=maxLen) (hbytes:(n+m) * bytes<=140737488355328) (hbase:base<=w.heap.size)
  (h:∀ A4 d4 w4,w4.ownsRow base e size (.slice A4 (n+m) d4) (n+m) (xs ++ news)->w.grownBy w4 v.ownBlock->((Value.slice A4 (n+m) d4).ownBlock=v.ownBlock∨(Value.slice A4 (n+m) d4).ownBlock=some w.heap.size)->K (a.put o.dst (.slice A4 (n+m) d4)) w4) :
  if Region.wanted o (yielded ops a.tmps)=true then Oper.wp P o a w K Q else E:=by
 obtain ⟨v',w',hr,h2,h3,_,h4⟩:=run_append_own_at (P:=P) w base t o.type e i z size bytes ht hi hz hsize hby hzs hsz v n xs hown ad m c news hl hnews h1 h63 hbytes hbase;obtain ⟨A4,d4,rfl⟩:=Zep h2;have hw:Region.wanted o (yielded ops a.tmps)=true:=by simp [Region.wanted,hgd]
 rw [if_pos hw];exact Lib.wp_append_run w s x t t ho _ _ hs hx _ w' hr (h A4 d4 w' h2 h3 h4)
end Go.Proofs.YtlcedleebbgebaaGreatDoor
