/-
  Merged by program: Nod, NodVK, ValSeq.
-/
import Derived.Test.YtlikmgkjilmjpaaGreatD21
import Derived.Shelf.Abstract
import Derived.Shelf.RegionOpen
import Derived.WalkKit
import Derived.OwnWalkIn
import Derived.TacticsInMore
import Derived.LoopNIn
import Derived.LoopIn
import Derived.Maps.OwnIn
import Derived.Maps.AppendAt
import Derived.Deep.Slices
import Derived.Test.YtlikmgkjilmjpaaGreatD5
import Derived.Test.YtlikmgkjilmjpaaGreatD19
import Derived.Test.YtlikmgkjilmjpaaGreatD10
import Derived.WalkSmall

/-
  What a list of trees is in memory, whatever a node's cells are; what the iterator over the nodes of a tree keeps. Hangs on no program.
-/
namespace Go.Proofs.YtlikmgkjilmjpaaGreat
open Go.RowKit

section
variable {α : Type}
/-- the slice with the address A is a row of trees, m cells a tree: R says what cells read as a tree -/
def RowN (R : Tr α → List Value → Prop) (m : Nat) (W : World) (A : Option Addr) (ts : List (Tr α)) : Prop :=
  ∃ ps : Nat → List Value, ∀ j t, ts[j]? = some t → R t (ps j) ∧ ∃ ad, A = some ad ∧ ∀ i u, (ps j)[i]? = some u → W.cell? (ad.add (j * m + i)) = some u
/-- a list that is yet to be walked, and the slice in which it lies -/
def NList (R : Tr α → List Value → Prop) (m : Nat) (W : World) (K : Nat → Prop) (ts : List (Tr α)) (s : Value) : Prop :=
  ∃ ad c, s = .slice (some ad) ts.length c ∧ ts.length ≤ c ∧ ts.length ≤ 9223372036854775807 ∧ 0 < ts.length ∧ K ad.block ∧ RowN R m W (some ad) ts
theorem RowN.held {R : Tr α → List Value → Prop} {m : Nat} {W W' : World} {A : Option Addr} {ts : List (Tr α)} (h : RowN R m W A ts) (hb : ∀ b, b < W.heap.size → W'.heap[b]? = W.heap[b]?) : RowN R m W' A ts := by
  obtain ⟨ps, hp⟩ := h
  refine ⟨ps, fun j t hj => ?_⟩
  obtain ⟨h1, ad, h2, h3⟩ := hp j t hj
  exact ⟨h1, ad, h2, fun i u hi => (World.cell?_of_block (hb _ (World.block_lt_of_cell? W _ (h3 i u hi)))).trans (h3 i u hi)⟩
theorem addr_addN (a : Addr) (i j : Nat) : (a.add i).add j = a.add (i + j) := Go.Deep.add_add a i j
/-- the first tree of a row, and the rest -/
theorem RowN.hd {R : Tr α → List Value → Prop} {m : Nat} {W : World} {A : Option Addr} {x : Tr α} {xs : List (Tr α)} (h : RowN R m W A (x :: xs)) :
    ∃ ad cs, A = some ad ∧ R x cs ∧ (∀ i u, cs[i]? = some u → W.cell? (ad.add i) = some u) ∧ RowN R m W (some (ad.add m)) xs := by
  obtain ⟨ps, hp⟩ := h
  obtain ⟨h1, ad, hA, h3⟩ := hp 0 x rfl
  refine ⟨ad, ps 0, hA, h1, fun i u hi => by have := h3 i u hi; rwa [Nat.zero_mul, Nat.zero_add] at this, fun j => ps (j + 1), fun j t hj => ?_⟩
  obtain ⟨k1, ad', hA', k3⟩ := hp (j + 1) t hj
  rw [hA] at hA'
  injection hA' with hA'
  subst hA'
  refine ⟨k1, _, rfl, fun i u hi => ?_⟩
  have := k3 i u hi
  rwa [addr_addN, show m + (j * m + i) = (j + 1) * m + i by rw [Nat.succ_mul]; omega]
theorem RowN.one {R : Tr α → List Value → Prop} {m : Nat} {W : World} {ad : Addr} {x : Tr α} {cs : List Value} (h : R x cs) (hc : ∀ i u, cs[i]? = some u → W.cell? (ad.add i) = some u) : RowN R m W (some ad) [x] := by
  refine ⟨fun _ => cs, fun j t hj => ?_⟩
  match j, hj with
  | 0, hj =>
    have e : x = t := by simpa using hj
    subst e
    exact ⟨h, ad, rfl, fun i u hi => by rw [Nat.zero_mul, Nat.zero_add]; exact hc i u hi⟩
  | j + 1, hj => simp at hj

/-- what is known of the k-th pair that the iterator gives -/
def NRd (R : Tr α → List Value → Prop) (t : Tr α) (k : Nat) (v : Array Value) : Prop :=
  ∃ (d : Nat) (x : Tr α) (cs : List Value), (t.pre 1)[k]? = some (d, x) ∧ v = #[.int .i64 (d : Int), .agg cs.toArray] ∧ R x cs
theorem NRd.size {R : Tr α → List Value → Prop} {t : Tr α} {k : Nat} {v : Array Value} (h : NRd R t k v) : v.size = 2 := by
  obtain ⟨d, x, cs, _, rfl, _⟩ := h
  rfl
def rowN (S : NStk α) : List Value := S.reverse.flatMap fun p => [p.2.1, .int .i64 (p.2.2 : Int)]
theorem rowN_cons (p : List (Tr α) × Value × Nat) (S : NStk α) : rowN (p :: S) = rowN S ++ [p.2.1, .int .i64 (p.2.2 : Int)] := by simp [rowN]
theorem rowN_len (S : NStk α) : (rowN S).length = S.length * 2 := by
  induction S with
  | nil => rfl
  | cons p S ih => rw [rowN_cons, List.length_append, ih]; simp; omega
def NAll (R : Tr α → List Value → Prop) (m : Nat) (W : World) (K : Nat → Prop) (S : NStk α) : Prop := ∀ p ∈ S, NList R m W K p.1 p.2.1
/-- lists of trees as rows of ty in memory behind block B, and what the client keeps; the blocks of which K holds are as in W -/
def NSt (R : Tr α → List Value → Prop) (m : Nat) (W : World) (K : Nat → Prop) (ty : TypeId) (B : Nat) (J : Nat → (Nat → Prop) → World → Prop) (S : NStk α) (k : Nat) (v : Value) (wr : World) : Prop :=
  NAll R m W K S ∧ wr.ownsRow (B + 1) ty 2 v S.length (rowN S) ∧ Held K W wr ∧ ∃ F, J k F wr ∧ (∀ g, v.ownBlock = some g → ¬ F g) ∧ ∀ b, F b → ¬ K b
/-- what the loop keeps: the lists hold t's nodes from the k-th on -/
def NInv (R : Tr α → List Value → Prop) (m : Nat) (W : World) (K : Nat → Prop) (t : Tr α) (ty : TypeId) (B : Nat) (J : Nat → (Nat → Prop) → World → Prop) (S : NStk α) (k : Nat) (v : Value) (wr : World) : Prop :=
  k ≤ (t.pre 1).length ∧ preS S = (t.pre 1).drop k ∧ NSt R m W K ty B J S k v wr
theorem own_heldN {w w' : World} {base size : Nat} {e : TypeId} {v : Value} {n : Nat} {xs : List Value} (h : w.ownsRow base e size v n xs) (hb : ∀ g, v.ownBlock = some g → w'.heap[g]? = w.heap[g]?) : w'.ownsRow base e size v n xs := by
  refine ⟨h.1, h.2.imp id ?_⟩
  rintro ⟨g, cap, cur, rfl, h1, h2, h3⟩
  exact ⟨g, cap, cur, rfl, h1, (hb g rfl).trans h2, h3⟩
section
variable {R : Tr α → List Value → Prop} {m : Nat} {W : World} {K : Nat → Prop} {ty : TypeId} {B : Nat} {J : Nat → (Nat → Prop) → World → Prop} {S : NStk α} {k : Nat} {v : Value} {wr w' : World}
theorem NSt.under {sz : Nat} (h : NSt R m W K ty B J S k v wr) (hJ : ∀ k F A C, J k F A → Held (fun i => i < sz ∨ F i) A C → J k F C) (hb : Below wr.heap.size wr w') : NSt R m W K ty B J S k v w' := by
  obtain ⟨h1, h2, h3, F, h4, h5, h6⟩ := h
  exact ⟨h1, own_heldN h2 (fun g hg => hb.block g (h2.lt g hg).2), h3.trans (Held.of_below hb fun i hi _ => hi), F, hJ _ _ _ _ h4 (Held.of_below hb fun i hi _ => hi), h5, h6⟩
/-- a list was put on top -/
theorem NSt.push {sz : Nat} {Keep : Nat → Prop} {wa w4 : World} {v4 : Value} {ts : List (Tr α)} {s : Value} {d : Nat} (h : NSt R m W K ty B J S k v wr) (hJ : ∀ k F A C, J k F A → Held (fun i => i < sz ∨ F i) A C → J k F C)
    (hJB : ∀ k F A, J k F A → ∀ b, F b → ¬ Keep b ∧ b < A.heap.size) (hsz : sz ≤ B + 1) (hKB : ∀ b, K b → b < B + 1) (hl : NList R m W K ts s) (hb : Below wr.heap.size wr wa)
    (ho : w4.ownsRow (B + 1) ty 2 v4 (S.length + 1) (rowN S ++ [s, .int .i64 (d : Int)])) (hg : wa.grownBy w4 v.ownBlock) (hor : v4.ownBlock = v.ownBlock ∨ ∃ q, v4.ownBlock = some q ∧ wr.heap.size ≤ q) : NSt R m W K ty B J ((ts, s, d) :: S) k v4 w4 := by
  obtain ⟨h1, h2, h3, F, h4, h5, h6⟩ := h
  have hgn : ∀ q, v.ownBlock = some q → ¬ (q < B + 1) := fun q hq => by have := (h2.lt q hq).1; omega
  refine ⟨fun p hp => ?_, by rw [rowN_cons]; exact ho, (h3.trans (Held.of_below hb fun i hi _ => hi)).trans (Held.grown hg fun q hq hk => hgn q hq (hKB q hk)), F, hJ _ _ _ _ h4 ((Held.of_below hb fun i hi _ => hi).trans (Held.grown hg fun q hq hk => ?_)), fun q hq hF => ?_, h6⟩
  · rcases List.mem_cons.1 hp with rfl | hp
    · exact hl
    · exact h1 p hp
  · rcases hk with hk | hk
    · exact hgn q hq (by omega)
    · exact h5 q hq hk
  · rcases hor with e | ⟨q', e, hq'⟩
    · exact h5 q (by rw [← e]; exact hq) hF
    · rw [e] at hq
      injection hq with hq
      have := (hJB _ _ _ h4 q hF).2
      omega
end
theorem NAll.len {R : Tr α → List Value → Prop} {m : Nat} {W : World} {K : Nat → Prop} {S : NStk α} (h : NAll R m W K S) : S.length ≤ (preS S).length :=
  preS_len S fun p hp => by
    obtain ⟨_, _, _, _, _, h0, _⟩ := h p hp
    exact h0
theorem drop_head {β : Type} {l : List β} {k : Nat} {x : β} {r : List β} (h : x :: r = l.drop k) : l[k]? = some x ∧ r = l.drop (k + 1) ∧ k < l.length := by
  have h1 : (l.drop k)[0]? = some x := by rw [← h]; rfl
  rw [List.getElem?_drop, Nat.add_zero] at h1
  refine ⟨h1, ?_, (List.getElem?_eq_some_iff.1 h1).1⟩
  rw [← List.drop_drop, ← h]
  rfl
theorem own_is {w : World} {base size : Nat} {e : TypeId} {v : Value} {n : Nat} {xs : List Value} (h : w.ownsRow base e size v n xs) : ∃ A c, v = .slice A n c := by
  rcases h.2 with ⟨rfl, rfl⟩ | ⟨g, cap, cur, rfl, _⟩
  · exact ⟨none, 0, rfl⟩
  · exact ⟨_, cap, rfl⟩
theorem cell_twoN (w : World) (a b : Value) (t : TypeId) : ∀ j u, [a, b][j]? = some u → (w.alloc (.cells #[a, b] t)).cell? ((⟨w.heap.size, 0, none⟩ : Addr).add j) = some u := by
  intro j u hj
  match j, hj with
  | 0, hj => simp at hj; subst hj; simp [Addr.add]
  | 1, hj => simp at hj; subst hj; simp [Addr.add]
  | j + 2, hj => simp at hj
end
/-- a region that comes to one frame, whatever its order: the frame may hang on a value b -/
def framePost {β : Type} (A : β → Act) (R : β → World → Prop) : Exit → Act → World → Prop
  | .normal, a', w' => ∃ b, a' = A b ∧ R b w'
  | .ret, _, _ => False
  | .exit _, _, _ => False
  | .goto _, _, _ => False
  | .panic _, _, _ => False
  | .outgrown, _, _ => False
theorem frame_normal {β : Type} {A : β → Act} {R : β → World → Prop} (b : β) {w : World} (h : R b w) : framePost A R .normal (A b) w := ⟨b, rfl, h⟩
theorem wpIn_frame {β : Type} {F : Fence} {n : Nat} {P : Program} {c : Code} {Q : Exit → Act → World → Prop} {a : Act} {w : World} (A : β → Act) (R : β → World → Prop)
    (h : c.wpIn F n P (framePost A R) a w) (hq : ∀ b w', R b w' → Q .normal (A b) w') : c.wpIn F n P Q a w :=
  wpIn_mono h (by
    rintro e a' w' hr
    cases e with
    | normal => obtain ⟨b, rfl, hr⟩ := hr; exact hq b w' hr
    | ret => exact hr.elim
    | exit _ => exact hr.elim
    | goto _ => exact hr.elim
    | panic _ => exact hr.elim
    | outgrown => exact hr.elim)
def framePost0 (A : Act) (R : World → Prop) : Exit → Act → World → Prop
  | .normal, a', w' => a' = A ∧ R w'
  | .ret, _, _ => False
  | .exit _, _, _ => False
  | .goto _, _, _ => False
  | .panic _, _, _ => False
  | .outgrown, _, _ => False
theorem frame_normal0 {A : Act} {R : World → Prop} {w : World} (h : R w) : framePost0 A R .normal A w := ⟨rfl, h⟩
theorem wpIn_frame0 {F : Fence} {n : Nat} {P : Program} {c : Code} {Q : Exit → Act → World → Prop} {a : Act} {w : World} (A : Act) (R : World → Prop)
    (h : c.wpIn F n P (framePost0 A R) a w) (hq : ∀ w', R w' → Q .normal A w') : c.wpIn F n P Q a w :=
  wpIn_mono h (by
    rintro e a' w' hr
    cases e with
    | normal => obtain ⟨rfl, hr⟩ := hr; exact hq w' hr
    | ret => exact hr.elim
    | exit _ => exact hr.elim
    | goto _ => exact hr.elim
    | panic _ => exact hr.elim
    | outgrown => exact hr.elim)
/-- an append onto a row of the call's own, as a step of a region that draws its order, inside a fence -/
theorem stepIn_append_at {F : Fence} {nF : Nat} {P : Program} {ops : Array Oper} {o : Oper} {a : Act} {w : World} {K : Act → World → Prop} {Q : Exit → Act → World → Prop} {E : Prop} (hgd : o.guard = none) (s x : Operand) (t : TypeId)
    (ho : o.op = .call { callee := .builtin .append, args := #[s, x], argTypes := #[t, t] })
    (base : Nat) (e : TypeId) (i : TypeInfo) (z : Value) (size bytes : Nat) (ht : P.underlying t = some (.slice e)) (hi : P.info? e = some i) (hz : i.zero = some z) (hsize : i.size = size) (hby : i.bytes = bytes) (hzs : z.cells.size = size) (hsz : 0 < size)
    (v : Value) (n : Nat) (xs : List Value) (hs : a.eval s = v) (hown : w.ownsRow base e size v n xs) (ad : Addr) (m c : Nat) (news : List Value) (hx : a.eval x = .slice (some ad) m c) (hl : news.length = m * size)
    (hnews : ∀ j u, news[j]? = some u → w.cell? (ad.add j) = some u) (h1 : ∀ u ∈ news, u.oneCell' = true) (h63 : n + m ≤ maxLen) (hbytes : (n + m) * bytes ≤ 140737488355328) (hbase : base ≤ w.heap.size)
    (h : ∀ v4 w4, w4.ownsRow base e size v4 (n + m) (xs ++ news) → w.grownBy w4 v.ownBlock → (v4.ownBlock = v.ownBlock ∨ v4.ownBlock = some w.heap.size) → K (a.put o.dst v4) w4) :
    if Region.wanted o (yielded ops a.tmps) = true then Oper.wpIn F nF P o a w K Q else E := by
  obtain ⟨v', w', hr, h2, h3, _, h4⟩ := run_append_own_at (P := P) w base t o.type e i z size bytes ht hi hz hsize hby hzs hsz v n xs hown ad m c news hl hnews h1 h63 hbytes hbase
  have hw : Region.wanted o (yielded ops a.tmps) = true := by simp [Region.wanted, hgd]
  rw [if_pos hw]
  unfold Oper.wpIn
  refine ⟨by simp [Oper.about, ho, resolve, Target.leads, Sem.run_pure], ?_⟩
  rw [Oper.semAt_plain F _ _ (by rw [ho]; intro c hc'; cases hc')]
  simp [execOp, ho, resolve, invoke, builtin, hs, hx, hr, Result.andThen]
  exact h v' w' h2 h3 h4
end Go.Proofs.YtlikmgkjilmjpaaGreat

/-
  A node of impl.Value: its parts as a list to come; the program's argsOfValue. Written by wip/tools/mknod.py.
-/
namespace Go.Proofs.YtlikmgkjilmjpaaGreat
open Go.RowKit

/-- a node's cells in the form that a store asks for -/
theorem rd_shapeV {w : World} {x : Va} {c0 c1 c2 c3 : Value} (h : RVa w x [c0, c1, c2, c3]) : ∃ ek en eL el elc, c0 = .int .i64 ek ∧ c1 = .int .i64 en ∧ c2 = .slice eL el elc := by
  obtain ⟨LL, c, A, d, e, _⟩ := h.open
  simp only [List.cons.injEq, and_true] at e
  exact ⟨_, _, _, _, _, e.1, e.2.1, e.2.2.1⟩
/-- the parts of a node -/
theorem rd_kidsV {w : World} {x : Va} {c0 c1 c2 c3 : Value} (h : RVa w x [c0, c1, c2, c3]) : ∃ A d, c3 = .slice A x.kids.length d ∧ x.kids.length ≤ d ∧ x.kids.length ≤ 9223372036854775807 ∧ RowN (RVa w) 4 w A x.kids := by
  obtain ⟨LL, c, A, d, e, h1, h2, h3, h4⟩ := h.open
  simp only [List.cons.injEq, and_true] at e
  obtain ⟨rfl, rfl, rfl, rfl⟩ := e
  exact ⟨A, d, rfl, h.cap, h3, h4⟩
/-- the parts of a node, as a list to come -/
theorem nlist_kidsV {w W : World} {K : Nat → Prop} {x : Va} {A : Option Addr} {d : Nat} (h0 : 0 < x.kids.length) (hd : x.kids.length ≤ d) (hl : x.kids.length ≤ 9223372036854775807) (h : RowN (RVa w) 4 w A x.kids)
    (hW : Below w.heap.size w W) (hK : ∀ b, b < w.heap.size → K b) : ∃ ad, A = some ad ∧ NList (RVa w) 4 W K x.kids (.slice A x.kids.length d) := by
  obtain ⟨ps, hp⟩ := h
  obtain ⟨h1, ad, rfl, h3⟩ := hp 0 _ (List.getElem?_eq_getElem h0)
  obtain ⟨c0, c1, c2, c3, he⟩ := h1.four
  rw [he] at h3
  have hb := World.block_lt_of_cell? w _ (h3 0 _ rfl)
  rw [addr_block] at hb
  exact ⟨ad, rfl, ad, d, rfl, hd, hl, h0, hK _ hb, RowN.held ⟨ps, hp⟩ fun b hb => hW.block b hb⟩

def ArgsAtV (c0 c1 c2 c3 : Value) (w : World) (e : Ending) (w' : World) : Prop := e = .returned c3 ∧ w' = w.alloc (.cells #[c0, c1, c2, c3] 47)
theorem argsV_any (c0 c1 c2 c3 : Value) (w : World) : Calls Tryz.prog 106 #[.agg #[c0, c1, c2, c3]] w (ArgsAtV c0 c1 c2 c3 w) := by
  have hR : Hid (ArgsAtV c0 c1 c2 c3 w (.returned c3) (w.alloc (.cells #[c0, c1, c2, c3] 47))) := ⟨rfl, rfl⟩
  go_enter Tryz.func106, Tryz.ntmps106
  go_wp2_with fail
  go_ret
  exact hR.out
end Go.Proofs.YtlikmgkjilmjpaaGreat

/-
  The program's valueLists: all lists of a value, each later than the node that it belongs to.
-/
namespace Go.Proofs.YtlikmgkjilmjpaaGreat
open Go.RowKit Go.Shelf

attribute [local go_sem] Oper.semAt_some

theorem infoVas : (Tryz.prog.info? 45).map (fun i => (i.zero, i.size, i.bytes)) = some (some (.slice none 0 0), 1, 24) := by kernel_rfl
def FnAtV (p : Nat) (s : Value) (w : World) (e : Ending) (w' : World) : Prop := e = .returned (.func (.func 123) #[] #[.pointer (some ⟨p, 0, none⟩), .pointer (some ⟨p + 1, 0, none⟩)]) ∧ w' = (w.alloc (.cells #[s] 45)).alloc (.cells #[.func (.func 106) #[] #[]] 142)
theorem listsV_any (w : World) (A : Option Addr) (n c : Nat) : Calls Tryz.prog 105 #[.slice A n c, .func (.func 106) #[] #[]] w (FnAtV w.heap.size (.slice A n c) w) := by
  have hR : Hid (FnAtV w.heap.size (.slice A n c) w (.returned (.func (.func 123) #[] #[.pointer (some ⟨w.heap.size, 0, none⟩), .pointer (some ⟨w.heap.size + 1, 0, none⟩)])) ((w.alloc (.cells #[.slice A n c] 45)).alloc (.cells #[.func (.func 106) #[] #[]] 142))) := ⟨rfl, rfl⟩
  go_enter Tryz.func105, Tryz.ntmps105
  go_wp2_with fail
  go_ret
  exact hR.out
theorem valueLists_any (w : World) (A : Option Addr) (n c : Nat) : Calls Tryz.prog 95 #[.slice A n c] w (FnAtV w.heap.size (.slice A n c) w) := by
  have HC := Lib.hid (listsV_any w A n c)
  go_enter Tryz.func95, Tryz.ntmps95
  go_wp2_with fail
  refine HC.out.mono ?_
  rintro e w2 ⟨rfl, rfl⟩
  go_wp2_with fail
  go_ret
  exact ⟨rfl, rfl⟩

/-- the stack as it lies in memory -/
def RestV (J : Stk → (Nat → Prop) → World → Prop) (B Bf : Nat) (S T : Stk) (v : Value) (F : Nat → Prop) (wr : World) : Prop :=
  wr.ownsRow B 45 1 v T.length (T.reverse.map (·.2)) ∧ (∀ g, v.ownBlock = some g → ¬ F g) ∧ J S F wr ∧ B ≤ wr.heap.size ∧ Boxed wr Bf 142 (.func (.func 106) #[] #[]) ∧ Bf < B
/-- what the iterator's loop keeps -/
def StkInv (J : Stk → (Nat → Prop) → World → Prop) (B Bf M : Nat) (S : Stk) (v : Value) (wr : World) : Prop := wS S ≤ M ∧ ∃ F, RestV J B Bf S S v F wr

theorem RestV.held {J : Stk → (Nat → Prop) → World → Prop} {lo B Bf : Nat} {S T : Stk} {v : Value} {F : Nat → Prop} {A C : World} (hJ : ∀ S F A C, J S F A → Held (fun i => i < lo ∨ F i) A C → J S F C) (h : RestV J B Bf S T v F A) (hb : Below A.heap.size A C) : RestV J B Bf S T v F C := by
  obtain ⟨h1, h2, h3, h4, h5, h6⟩ := h
  exact ⟨h1.kept (row := none) ⟨hb.os, hb.tape, hb.output, hb.size, fun i hi _ => hb.block i hi⟩ (by cases hv : v.ownBlock <;> simp), h2, hJ _ _ _ _ h3 (Held.of_below hb fun i hi _ => hi), Nat.le_trans h4 hb.size, (hb.block _ h5.lt).trans h5, h6⟩
theorem own_held {w w' : World} {base size : Nat} {e : TypeId} {v : Value} {n : Nat} {xs : List Value} (h : w.ownsRow base e size v n xs) (hb : ∀ g, v.ownBlock = some g → w'.heap[g]? = w.heap[g]?) : w'.ownsRow base e size v n xs := by
  refine ⟨h.1, h.2.imp id ?_⟩
  rintro ⟨g, cap, cur, rfl, h1, h2, h3⟩
  exact ⟨g, cap, cur, rfl, h1, (hb g rfl).trans h2, h3⟩
/-- what the loop over the parts keeps -/
def KidInv (J : Stk → (Nat → Prop) → World → Prop) (B Bf lo : Nat) (ts : List Va) (As : Nat → Value) (S : Stk) (s : Value) (F : Nat → Prop) (p i : Value) (wr : World) : Prop :=
  ∃ k, k ≤ ts.length ∧ i = .int .i64 (k : Int) ∧ RestV J B Bf (pushAll ts As S) (pushTo ts As S k) p F wr ∧ RowC lo F wr s ts As
theorem RowC.at {lo : Nat} {F : Nat → Prop} {w : World} {A : Option Addr} {n c : Nat} {ts : List Va} {As : Nat → Value} (h : RowC lo F w (.slice A n c) ts As) {k : Nat} (hk : k < ts.length) :
    ∃ ad p k0 k1 L l lc A' c', A = some ad ∧ ad.add (k * 4) = p ∧ As k = .slice A' ts[k].kids.length c' ∧ w.cell? p = some (.int .i64 k0) ∧ w.cell? ⟨p.block, p.off + 1, none⟩ = some (.int .i64 k1) ∧ w.cell? ⟨p.block, p.off + 2, none⟩ = some (.slice L l lc) ∧ w.cell? ⟨p.block, p.off + 3, none⟩ = some (.slice A' ts[k].kids.length c') := by
  obtain ⟨A1, c1, h1, h2, h3⟩ := h
  injection h1 with e1 e2 e3
  subst e1
  obtain ⟨ad, d0, d1, L, l, d2, A', c', rfl, k2, k3, q0, q1, q2, q3⟩ := h3 k _ (List.getElem?_eq_getElem hk)
  refine ⟨ad, _, d0, d1, L, l, d2, A', c', rfl, rfl, k3, q0, ?_, ?_, ?_⟩
  · rw [← addr_next ad (k * 4) 1 (by omega)]; exact q1
  · rw [← addr_next ad (k * 4) 2 (by omega)]; exact q2
  · rw [← addr_next ad (k * 4) 3 (by omega), ← k3]; exact q3
theorem cell_one_at (w : World) (v : Value) (t : TypeId) : ∀ j u, [v][j]? = some u → (w.alloc (.cells #[v] t)).cell? ((⟨w.heap.size, 0, none⟩ : Addr).add j) = some u := by
  intro j u hj
  match j, hj with
  | 0, hj => simp at hj; subst hj; simp [Addr.add]
  | j + 1, hj => simp at hj

set_option maxRecDepth 100000 in
set_option maxHeartbeats 4000000 in
theorem valueLists1_gives (ts0 : List Va) (A0 : Option Addr) (c0 : Nat) (lo : Nat) (n Bx : Nat) (hn : 2 ≤ n) (W : World) (hlo : lo ≤ W.heap.size) (Keep : Nat → Prop) (hkx : Keep (Bx + 1)) (hbox : Boxed W Bx 45 (.slice A0 ts0.length c0)) (hbox2 : Boxed W (Bx + 1) 142 (.func (.func 106) #[] #[])) (hM : wS [(ts0, .slice A0 ts0.length c0)] ≤ 4194304) :
    GivesV Fence.wide n Tryz.prog 123 #[.pointer (some ⟨Bx, 0, none⟩), .pointer (some ⟨Bx + 1, 0, none⟩)] [(ts0, .slice A0 ts0.length c0)] lo Keep W := by
  intro l J Jx hJ hJB hY h0
  obtain ⟨i0, hi, hz0, hz1, hz2⟩ := info_parts infoVas
  have x0 := hbox.cell
  have h1 : 1 ≤ n := by omega
  obtain ⟨s0, hs0⟩ : ∃ s0 : Value, (.slice A0 ts0.length c0) = s0 := ⟨_, rfl⟩
  refine callsIn_of_wp Tryz.func123 rfl trivial ?_ rfl
  simp only [Tryz.ntmps123, List.size_toArray, List.length_cons, List.length_nil, Nat.reduceAdd, Nat.reduceSub, Array.replicate_succ, Array.replicate_zero, List.push_toArray, List.append_toArray, List.nil_append, List.cons_append]
  have H0 : Hid (StkInv J W.heap.size (Bx + 1) 4194304 [(ts0, .slice A0 ts0.length c0)] (.slice (some ⟨W.heap.size, 0, none⟩) 1 1) (W.alloc (.cells #[.slice A0 ts0.length c0] 45))) := by
    obtain ⟨F, hF⟩ := h0
    refine ⟨hM, F, ?_, ?_, hJ _ _ _ _ hF (Held.of_below ((Below.refl _ _).alloc (Nat.le_refl _) _) fun i hi _ => hi), by simp, (((Below.refl W.heap.size W).alloc (Nat.le_refl _) _).block _ hbox2.lt).trans hbox2, hbox2.lt⟩
    · exact World.ownsRow_lit W #[.slice A0 ts0.length c0] 1 (Nat.le_refl _) (by unfold maxLen; omega) rfl
    · intro g hg hf
      have := (hJB _ _ _ hF g hf).2
      injection hg with hg
      simp at hg
      omega
  have HJ := Lib.hid hJ
  have HJB := Lib.hid hJB
  have HY := Lib.hid hY
  have HKX := Lib.hid hkx
  clear hJ hJB hY h0 hM hbox hbox2 hs0 hkx
  gi_wp2
  gi_loopw [4] (fun p wr => ∃ S, StkInv J W.heap.size (Bx + 1) 4194304 S p wr) (fun p wr => Classical.epsilon (Least fun m => ∃ S, StkInv J W.heap.size (Bx + 1) 4194304 S p wr ∧ m = wS S))
  case atStart => exact ⟨_, H0.out⟩
  case round =>
    obtain ⟨p, hp0⟩ : ∃ p, u4 = p := ⟨_, rfl⟩
    rw [hp0] at hrel ⊢
    obtain ⟨k0, hk0⟩ := hrel
    have hle := least_at (Q := fun m => ∃ S, StkInv J W.heap.size (Bx + 1) 4194304 S p wr ∧ m = wS S) ⟨k0, hk0, rfl⟩
    obtain ⟨μ, hμ⟩ : ∃ μ, Classical.epsilon (Least fun m => ∃ S, StkInv J W.heap.size (Bx + 1) 4194304 S p wr ∧ m = wS S) = μ := ⟨_, rfl⟩
    rw [hμ] at hle
    obtain ⟨⟨S, ⟨hk, F, hrow, hnF, hJS, hB, hbf, hBf⟩, hmu⟩, _⟩ := hle
    clear hk0 k0
    have HMU := Lib.hid hμ
    have HME := Lib.hid hmu
    clear hμ hmu x0
    match S with
    | [] =>
      obtain ⟨A, c, rfl⟩ := own_is hrow
      clear hrow hnF
      gi_wp2
      go_end0
      exact ⟨⟨_, rfl⟩, .inl ⟨F, hJS⟩⟩
    | (ts, s) :: S' =>
      obtain ⟨m, hm⟩ : ∃ m, S'.length = m := ⟨_, rfl⟩
      have hrow' : wr.ownsRow W.heap.size 45 1 p (m + 1) (S'.reverse.map (·.2) ++ [s]) := by
        rw [← hm]; simpa using hrow
      have hml : m ≤ 4194304 := by
        have := wS_len ((ts, s) :: S'); simp only [List.length_cons] at this; omega
      have hxl : (S'.reverse.map (·.2)).length = m := by simpa using hm
      obtain ⟨g, cap, rfl⟩ := ownsRow_succ hrow'
      have hpop := ownsRow_pop (last := [s]) (by rw [hxl]; omega) hrow'
      have hc0 : wr.cell? ⟨g, m, none⟩ = some s := by
        rw [hrow'.cellAt m (by omega), List.getElem?_append_right (by omega), hxl]
        simp
      have hgF : ¬ F g := hnF g rfl
      have hglt := (hrow'.lt g rfl).2
      have hcap : m ≤ cap := by
        rcases hrow'.2 with ⟨h0, _⟩ | ⟨g', cap', cur, hv, _, _, h3, _⟩
        · cases h0
        · injection hv with _ _ hv; omega
      have HPOP := Lib.hid hpop
      have HM := Lib.hid hm
      have HYS := HY.out ts s S' F wr hJS
      obtain ⟨fn, tmps, assign, body, hy, hR⟩ := HYS
      have HK := Lib.hid hk
      have hnf : ¬ F (Bx + 1) := fun h => (HJB.out _ _ _ hJS _ h).1 HKX.out
      clear hrow hrow' hpop hm hxl hnF hk hJS
      gi_wp2
      refine hR.mono ?_
      rintro e W3 (⟨rfl, hH3, As, F', hF', hrc, hJ3⟩ | ⟨rfl, hJx3⟩)
      · obtain ⟨A, c, rfl, hlen, hcells⟩ := hrc
        have hsz3 := hH3.size
        have hbf3 := (hH3.block _ hbf.lt hnf).trans hbf
        have hgF' : ¬ F' g := fun h => (hF' g h).elim hgF (fun h => by omega)
        have hR0 : RestV J W.heap.size (Bx + 1) (pushAll ts As S') S' (.slice (some ⟨g, 0, none⟩) m cap) F' W3 := by
          refine ⟨by rw [HM.out]; exact own_held HPOP.out (fun q hq => by injection hq with hq; subst hq; exact hH3.block _ hglt hgF), fun q hq => by injection hq with hq; subst hq; exact hgF', hJ3, by omega, hbf3, hBf⟩
        have hK0 : KidInv J W.heap.size (Bx + 1) lo ts As S' (.slice A ts.length c) F' (.slice (some ⟨g, 0, none⟩) m cap) (.int .i64 0) W3 := ⟨0, Nat.zero_le _, rfl, hR0, A, c, rfl, hlen, hcells⟩
        have HK0 := Lib.hid hK0
        clear hcells hH3 hJ3 hR0 hK0 hF' hgF hc0 hgF' hbf hbf3 hnf
        gi_wp2
        gi_loopw [4, 30] (fun p i w3 => KidInv J W.heap.size (Bx + 1) lo ts As S' (.slice A ts.length c) F' p i w3) (fun _ i _ => ts.length - (intOf i).toNat)
        case atStart => exact HK0.out
        case round =>
          obtain ⟨k, hk, rfl, hrs, hrc⟩ := hrel
          have hlT := wS_len (pushTo ts As S' k)
          have hwT := wS_pushTo ts As S' k hk
          have hwk := HK.out
          rw [wS_cons] at hwk
          have hsk := sum_take_le Tr.size ts k
          have hT : (pushTo ts As S' k).length ≤ 4194304 := by
            show List.length _ ≤ _
            have e1 : sizesV (ts.take k) ≤ sizesV ts := hsk
            simp only at hwk
            omega
          by_cases hlt : k < ts.length
          · obtain ⟨ad, q, e0, e1, L, ll, lc, A', c', hA, hqe, hAk, q0, q1, q2, q3⟩ := hrc.at hlt
            obtain ⟨V, vc, rfl⟩ := own_is hrs.1
            have y0 := hrs.2.2.2.2.1.cell
            have nb := Box4.new wr 47 (.int .i64 e0) (.int .i64 e1) (.slice L ll lc) (.slice A' ts[k].kids.length c')
            have yb1 := hrs.2.2.2.2.1.alloc (.cells #[.int .i64 e0, .int .i64 e1, .slice L ll lc, .slice A' ts[k].kids.length c'] 47)
            have yb2 := yb1.alloc (.cells #[.int .i64 e0, .int .i64 e1, .slice L ll lc, .slice A' ts[k].kids.length c'] 47)
            have nb2 := nb.alloc (.cells #[.int .i64 e0, .int .i64 e1, .slice L ll lc, .slice A' ts[k].kids.length c'] 47)
            have y1 := yb1.cell
            have y2 := yb2.cell
            have z0 := nb2.c0
            have z1 := nb2.c1
            have z2 := nb2.c2
            have z3 := nb2.c3
            clear nb yb1 yb2 nb2
            by_cases hz : ts[k].kids.length = 0
            · have HN : Hid (∀ i, i = Value.int .i64 ((k + 1 : Nat) : Int) → ∀ w4, Below wr.heap.size wr w4 → KidInv J W.heap.size (Bx + 1) lo ts As S' (.slice A ts.length c) F' (.slice V (pushTo ts As S' k).length vc) i w4) := by
                intro i hi w4 hb4
                refine ⟨k + 1, hlt, hi, ?_, hrc.held (Held.of_below hb4 fun i hi _ => hi)⟩
                rw [pushTo_more hlt, if_pos hz]
                exact hrs.held HJ.out hb4
              rw [hz] at q3 z0 z1 z2 z3 y1 y2
              subst hA
              clear hrs hrc hlT hwT hwk hsk
              gi_wp2_with (refine ⟨trivial, ?_⟩; gi_at_call 106; refine (callsIn_wide.2 (argsV_any _ _ _ _ _)).mono ?_; rintro e w8 ⟨rfl, rfl⟩)
              go_roundw
              case rel => exact HN.out _ (by go_num) _ (((Below.refl _ _).alloc (Nat.le_refl _) _).alloc (by simp) _)
              case measure => simp [intOf]; omega
            · have hown2 := ((((hrs.1.alloc (.cells #[.int .i64 e0, .int .i64 e1, .slice L ll lc, .slice A' ts[k].kids.length c'] 47)).alloc (.cells #[.int .i64 e0, .int .i64 e1, .slice L ll lc, .slice A' ts[k].kids.length c'] 47)).alloc (.cells #[.int .i64 e0, .int .i64 e1, .slice L ll lc, .slice A' ts[k].kids.length c'] 47)).alloc (.cells #[.slice A' ts[k].kids.length c'] 45))
              have hcl := cell_one_at (((wr.alloc (.cells #[.int .i64 e0, .int .i64 e1, .slice L ll lc, .slice A' ts[k].kids.length c'] 47)).alloc (.cells #[.int .i64 e0, .int .i64 e1, .slice L ll lc, .slice A' ts[k].kids.length c'] 47)).alloc (.cells #[.int .i64 e0, .int .i64 e1, .slice L ll lc, .slice A' ts[k].kids.length c'] 47)) (.slice A' ts[k].kids.length c') 45
              rw [World.size_alloc, World.size_alloc, World.size_alloc] at hcl
              have HN : Hid (∀ v' w4, w4.ownsRow W.heap.size 45 1 v' ((pushTo ts As S' k).length + 1) ((pushTo ts As S' k).reverse.map (·.2) ++ [.slice A' ts[k].kids.length c']) →
                  ((((wr.alloc (.cells #[.int .i64 e0, .int .i64 e1, .slice L ll lc, .slice A' ts[k].kids.length c'] 47)).alloc (.cells #[.int .i64 e0, .int .i64 e1, .slice L ll lc, .slice A' ts[k].kids.length c'] 47)).alloc (.cells #[.int .i64 e0, .int .i64 e1, .slice L ll lc, .slice A' ts[k].kids.length c'] 47)).alloc (.cells #[.slice A' ts[k].kids.length c'] 45)).grownBy w4 (Value.slice V (pushTo ts As S' k).length vc).ownBlock →
                  (v'.ownBlock = (Value.slice V (pushTo ts As S' k).length vc).ownBlock ∨ v'.ownBlock = some (wr.heap.size + 1 + 1 + 1 + 1)) → ∀ i, i = Value.int .i64 ((k + 1 : Nat) : Int) → KidInv J W.heap.size (Bx + 1) lo ts As S' (.slice A ts.length c) F' v' i w4) := by
                intro v' w4 ho4 hg4 hor i hi
                have hal : Below wr.heap.size wr ((((wr.alloc (.cells #[.int .i64 e0, .int .i64 e1, .slice L ll lc, .slice A' ts[k].kids.length c'] 47)).alloc (.cells #[.int .i64 e0, .int .i64 e1, .slice L ll lc, .slice A' ts[k].kids.length c'] 47)).alloc (.cells #[.int .i64 e0, .int .i64 e1, .slice L ll lc, .slice A' ts[k].kids.length c'] 47)).alloc (.cells #[.slice A' ts[k].kids.length c'] 45)) := ((((Below.refl _ _).alloc (Nat.le_refl _) _).alloc (by simp) _).alloc (by simp; omega) _).alloc (by simp; omega) _
                have hz4 := hg4.size
                simp only [World.size_alloc] at hz4
                have hhold : Held (fun i => i < lo ∨ F' i) wr w4 := (Held.of_below hal fun i hi _ => hi).trans (Held.grown hg4 fun q hq hlo => by
                  have h1 := hrs.1.lt q hq
                  rcases hlo with h | h
                  · omega
                  · exact hrs.2.1 q hq h)
                refine ⟨k + 1, hlt, hi, ⟨?_, fun q hq hF => ?_, HJ.out _ _ _ _ hrs.2.2.1 hhold, by have := hrs.2.2.2.1; omega, (hg4.block _ (Nat.lt_of_lt_of_le hrs.2.2.2.2.1.lt hal.size) (fun e => by have := hrs.1.lt _ e.symm; have := hrs.2.2.2.2.2; omega)).trans ((hal.block _ hrs.2.2.2.2.1.lt).trans hrs.2.2.2.2.1), hrs.2.2.2.2.2⟩, hrc.held hhold⟩
                · rw [pushTo_more hlt, if_neg hz]
                  simpa [hAk] using ho4
                · have hlt' := (HJB.out _ _ _ hrs.2.2.1 q hF).2
                  rcases hor with h | h
                  · rw [h] at hq; exact hrs.2.1 q hq hF
                  · rw [h] at hq; injection hq with hq; omega
              subst hA
              obtain ⟨M, hM2⟩ : ∃ M, (pushTo ts As S' k).length = M := ⟨_, rfl⟩
              obtain ⟨xs, hxs⟩ : ∃ xs, (pushTo ts As S' k).reverse.map (·.2) = xs := ⟨_, rfl⟩
              obtain ⟨kl, hkl⟩ : ∃ kl, ts[k].kids.length = kl := ⟨_, rfl⟩
              have hBz := hrs.2.2.2.1
              rw [hM2] at hown2 hT HN ⊢
              rw [hxs] at hown2 HN
              rw [hkl] at hown2 HN q3 hcl hz z0 z1 z2 z3 y1 y2
              have hzp : (0 : Int) < (kl : Int) := by omega
              have HO := Lib.hid hown2
              have HCL := Lib.hid hcl
              clear hrs hrc hlT hwT hwk hsk hM2 hxs hkl hown2 hcl hAk
              gi_wp2_with (first | (refine ⟨trivial, ?_⟩; gi_at_call 106; refine (callsIn_wide.2 (argsV_any _ _ _ _ _)).mono ?_; rintro e w8 ⟨rfl, rfl⟩) | (gi_at_builtin; refine wpListIn_append_own_at _ rfl _ _ 108 rfl W.heap.size 45 i0 (.slice none 0 0) 1 24 Tryz.underlying108 hi hz0 hz1 hz2 rfl (by decide) (.slice V M vc) M xs rfl HO.out ⟨wr.heap.size + 1 + 1 + 1, 0, none⟩ 1 1 [.slice A' kl c'] rfl rfl HCL.out (by simp [Value.oneCell']) (by unfold maxLen; omega) (by omega) (by simp; omega) ?_; intro v' w4 hown4 hg4 _ hor4))
              have HF := Lib.hid (HN.out v' w4 hown4 hg4 (by simpa using hor4))
              clear hown4 hg4 hor4
              gi_wp2
              go_roundw
              case rel => exact HF.out _ (by go_num)
              case measure => simp [intOf]; omega
          · have he : k = ts.length := by omega
            obtain ⟨V, vc, rfl⟩ := own_is hrs.1
            have HG : Hid (∃ S, StkInv J W.heap.size (Bx + 1) 4194304 S (.slice V (pushTo ts As S' k).length vc) wr ∧ wS S < μ) := by
              have h1 := wS_push ts As S' (.slice A ts.length c)
              refine ⟨pushAll ts As S', ⟨by have := HK.out; omega, F', ?_⟩, by have := HME.out; omega⟩
              rw [he] at hrs ⊢
              exact hrs
            clear hrs hrc hlT hwT hwk hsk he hT
            gi_wp2
            go_roundw
            case rel =>
              obtain ⟨S, h1, h2⟩ := HG.out
              exact ⟨S, h1⟩
            case measure =>
              rw [HMU.out]
              obtain ⟨S, h1, h2⟩ := HG.out
              have h5 := (least_at (Q := fun m => ∃ S, StkInv J W.heap.size (Bx + 1) 4194304 S (.slice V (pushTo ts As S' k).length vc) wr ∧ m = wS S) ⟨S, h1, rfl⟩).2 _ ⟨S, h1, rfl⟩
              omega
      · clear hbf hnf
        gi_wp2
        refine bodyPost_ret (results_none rfl _ _ _) rfl ?_
        exact ⟨⟨_, rfl⟩, .inr hJx3⟩
end Go.Proofs.YtlikmgkjilmjpaaGreat
