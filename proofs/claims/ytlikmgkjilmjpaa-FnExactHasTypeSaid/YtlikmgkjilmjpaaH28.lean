/-
  Merged by program: Nod.
-/
import Derived.Test.YtlikmgkjilmjpaaH26
import Derived.Test.YtlikmgkjilmjpaaH27
import Derived.Shelf.Abstract
import Derived.Shelf.RegionOpen
import Derived.WalkKit
import Derived.OwnWalkIn
import Derived.TacticsInMore
import Derived.LoopNIn
import Derived.LoopIn
import Derived.Maps.OwnIn
import Derived.Maps.AppendAt
import Derived.Deep.Slices

/-
  What a list of trees is in memory, whatever a node's cells are; what the iterator over the nodes of a tree keeps. Hangs on no program.
-/
namespace Go.Proofs.Ytlikmgkjilmjpaa
open Go.RowKit

section
variable {α : Type}
/-- the slice with the address A is a row of trees, m cells a tree: R says what cells read as a tree -/
def RowN (R : Tr α → List Value → Prop) (m : Nat) (W : World) (A : Option Addr) (ts : List (Tr α)) : Prop :=
  ∃ ps : Nat → List Value, ∀ j t, ts[j]? = some t → R t (ps j) ∧ ∃ ad, A = some ad ∧ ∀ i u, (ps j)[i]? = some u → W.cell? (ad.add (j * m + i)) = some u
/-- a list that is yet to be walked, and the slice in which it lies -/
def NList (R : Tr α → List Value → Prop) (m : Nat) (W : World) (K : Nat → Prop) (ts : List (Tr α)) (s : Value) : Prop :=
  ∃ ad c, s = .slice (some ad) ts.length c ∧ ts.length ≤ c ∧ ts.length ≤ 9223372036854775807 ∧ 0 < ts.length ∧ K ad.block ∧ RowN R m W (some ad) ts
theorem RowN.held {R : Tr α → List Value → Prop} {m : Nat} {W W' : World} {A : Option Addr} {ts : List (Tr α)} (h : RowN R m W A ts) (hb : ∀ b, b < W.heap.size → W'.heap[b]? = W.heap[b]?) : RowN R m W' A ts := by
  obtain ⟨ps, hp⟩ := h
  refine ⟨ps, fun j t hj => ?_⟩
  obtain ⟨h1, ad, h2, h3⟩ := hp j t hj
  exact ⟨h1, ad, h2, fun i u hi => (World.cell?_of_block (hb _ (World.block_lt_of_cell? W _ (h3 i u hi)))).trans (h3 i u hi)⟩
theorem addr_addN (a : Addr) (i j : Nat) : (a.add i).add j = a.add (i + j) := Go.Deep.add_add a i j
/-- the first tree of a row, and the rest -/
theorem RowN.hd {R : Tr α → List Value → Prop} {m : Nat} {W : World} {A : Option Addr} {x : Tr α} {xs : List (Tr α)} (h : RowN R m W A (x :: xs)) :
    ∃ ad cs, A = some ad ∧ R x cs ∧ (∀ i u, cs[i]? = some u → W.cell? (ad.add i) = some u) ∧ RowN R m W (some (ad.add m)) xs := by
  obtain ⟨ps, hp⟩ := h
  obtain ⟨h1, ad, hA, h3⟩ := hp 0 x rfl
  refine ⟨ad, ps 0, hA, h1, fun i u hi => by have := h3 i u hi; rwa [Nat.zero_mul, Nat.zero_add] at this, fun j => ps (j + 1), fun j t hj => ?_⟩
  obtain ⟨k1, ad', hA', k3⟩ := hp (j + 1) t hj
  rw [hA] at hA'
  injection hA' with hA'
  subst hA'
  refine ⟨k1, _, rfl, fun i u hi => ?_⟩
  have := k3 i u hi
  rwa [addr_addN, show m + (j * m + i) = (j + 1) * m + i by rw [Nat.succ_mul]; omega]
theorem RowN.one {R : Tr α → List Value → Prop} {m : Nat} {W : World} {ad : Addr} {x : Tr α} {cs : List Value} (h : R x cs) (hc : ∀ i u, cs[i]? = some u → W.cell? (ad.add i) = some u) : RowN R m W (some ad) [x] := by
  refine ⟨fun _ => cs, fun j t hj => ?_⟩
  match j, hj with
  | 0, hj =>
    have e : x = t := by simpa using hj
    subst e
    exact ⟨h, ad, rfl, fun i u hi => by rw [Nat.zero_mul, Nat.zero_add]; exact hc i u hi⟩
  | j + 1, hj => simp at hj

/-- what is known of the k-th pair that the iterator gives -/
def NRd (R : Tr α → List Value → Prop) (t : Tr α) (k : Nat) (v : Array Value) : Prop :=
  ∃ (d : Nat) (x : Tr α) (cs : List Value), (t.pre 1)[k]? = some (d, x) ∧ v = #[.int .i64 (d : Int), .agg cs.toArray] ∧ R x cs
theorem NRd.size {R : Tr α → List Value → Prop} {t : Tr α} {k : Nat} {v : Array Value} (h : NRd R t k v) : v.size = 2 := by
  obtain ⟨d, x, cs, _, rfl, _⟩ := h
  rfl
def rowN (S : NStk α) : List Value := S.reverse.flatMap fun p => [p.2.1, .int .i64 (p.2.2 : Int)]
theorem rowN_cons (p : List (Tr α) × Value × Nat) (S : NStk α) : rowN (p :: S) = rowN S ++ [p.2.1, .int .i64 (p.2.2 : Int)] := by simp [rowN]
theorem rowN_len (S : NStk α) : (rowN S).length = S.length * 2 := by
  induction S with
  | nil => rfl
  | cons p S ih => rw [rowN_cons, List.length_append, ih]; simp; omega
def NAll (R : Tr α → List Value → Prop) (m : Nat) (W : World) (K : Nat → Prop) (S : NStk α) : Prop := ∀ p ∈ S, NList R m W K p.1 p.2.1
/-- lists of trees as rows of ty in memory behind block B, and what the client keeps; the blocks of which K holds are as in W -/
def NSt (R : Tr α → List Value → Prop) (m : Nat) (W : World) (K : Nat → Prop) (ty : TypeId) (B : Nat) (J : Nat → (Nat → Prop) → World → Prop) (S : NStk α) (k : Nat) (v : Value) (wr : World) : Prop :=
  NAll R m W K S ∧ wr.ownsRow (B + 1) ty 2 v S.length (rowN S) ∧ Held K W wr ∧ ∃ F, J k F wr ∧ (∀ g, v.ownBlock = some g → ¬ F g) ∧ ∀ b, F b → ¬ K b
/-- what the loop keeps: the lists hold t's nodes from the k-th on -/
def NInv (R : Tr α → List Value → Prop) (m : Nat) (W : World) (K : Nat → Prop) (t : Tr α) (ty : TypeId) (B : Nat) (J : Nat → (Nat → Prop) → World → Prop) (S : NStk α) (k : Nat) (v : Value) (wr : World) : Prop :=
  k ≤ (t.pre 1).length ∧ preS S = (t.pre 1).drop k ∧ NSt R m W K ty B J S k v wr
theorem own_heldN {w w' : World} {base size : Nat} {e : TypeId} {v : Value} {n : Nat} {xs : List Value} (h : w.ownsRow base e size v n xs) (hb : ∀ g, v.ownBlock = some g → w'.heap[g]? = w.heap[g]?) : w'.ownsRow base e size v n xs := by
  refine ⟨h.1, h.2.imp id ?_⟩
  rintro ⟨g, cap, cur, rfl, h1, h2, h3⟩
  exact ⟨g, cap, cur, rfl, h1, (hb g rfl).trans h2, h3⟩
section
variable {R : Tr α → List Value → Prop} {m : Nat} {W : World} {K : Nat → Prop} {ty : TypeId} {B : Nat} {J : Nat → (Nat → Prop) → World → Prop} {S : NStk α} {k : Nat} {v : Value} {wr w' : World}
theorem NSt.under {sz : Nat} (h : NSt R m W K ty B J S k v wr) (hJ : ∀ k F A C, J k F A → Held (fun i => i < sz ∨ F i) A C → J k F C) (hb : Below wr.heap.size wr w') : NSt R m W K ty B J S k v w' := by
  obtain ⟨h1, h2, h3, F, h4, h5, h6⟩ := h
  exact ⟨h1, own_heldN h2 (fun g hg => hb.block g (h2.lt g hg).2), h3.trans (Held.of_below hb fun i hi _ => hi), F, hJ _ _ _ _ h4 (Held.of_below hb fun i hi _ => hi), h5, h6⟩
/-- a list was put on top -/
theorem NSt.push {sz : Nat} {Keep : Nat → Prop} {wa w4 : World} {v4 : Value} {ts : List (Tr α)} {s : Value} {d : Nat} (h : NSt R m W K ty B J S k v wr) (hJ : ∀ k F A C, J k F A → Held (fun i => i < sz ∨ F i) A C → J k F C)
    (hJB : ∀ k F A, J k F A → ∀ b, F b → ¬ Keep b ∧ b < A.heap.size) (hsz : sz ≤ B + 1) (hKB : ∀ b, K b → b < B + 1) (hl : NList R m W K ts s) (hb : Below wr.heap.size wr wa)
    (ho : w4.ownsRow (B + 1) ty 2 v4 (S.length + 1) (rowN S ++ [s, .int .i64 (d : Int)])) (hg : wa.grownBy w4 v.ownBlock) (hor : v4.ownBlock = v.ownBlock ∨ ∃ q, v4.ownBlock = some q ∧ wr.heap.size ≤ q) : NSt R m W K ty B J ((ts, s, d) :: S) k v4 w4 := by
  obtain ⟨h1, h2, h3, F, h4, h5, h6⟩ := h
  have hgn : ∀ q, v.ownBlock = some q → ¬ (q < B + 1) := fun q hq => by have := (h2.lt q hq).1; omega
  refine ⟨fun p hp => ?_, by rw [rowN_cons]; exact ho, (h3.trans (Held.of_below hb fun i hi _ => hi)).trans (Held.grown hg fun q hq hk => hgn q hq (hKB q hk)), F, hJ _ _ _ _ h4 ((Held.of_below hb fun i hi _ => hi).trans (Held.grown hg fun q hq hk => ?_)), fun q hq hF => ?_, h6⟩
  · rcases List.mem_cons.1 hp with rfl | hp
    · exact hl
    · exact h1 p hp
  · rcases hk with hk | hk
    · exact hgn q hq (by omega)
    · exact h5 q hq hk
  · rcases hor with e | ⟨q', e, hq'⟩
    · exact h5 q (by rw [← e]; exact hq) hF
    · rw [e] at hq
      injection hq with hq
      have := (hJB _ _ _ h4 q hF).2
      omega
end
theorem NAll.len {R : Tr α → List Value → Prop} {m : Nat} {W : World} {K : Nat → Prop} {S : NStk α} (h : NAll R m W K S) : S.length ≤ (preS S).length :=
  preS_len S fun p hp => by
    obtain ⟨_, _, _, _, _, h0, _⟩ := h p hp
    exact h0
theorem drop_head {β : Type} {l : List β} {k : Nat} {x : β} {r : List β} (h : x :: r = l.drop k) : l[k]? = some x ∧ r = l.drop (k + 1) ∧ k < l.length := by
  have h1 : (l.drop k)[0]? = some x := by rw [← h]; rfl
  rw [List.getElem?_drop, Nat.add_zero] at h1
  refine ⟨h1, ?_, (List.getElem?_eq_some_iff.1 h1).1⟩
  rw [← List.drop_drop, ← h]
  rfl
theorem own_is {w : World} {base size : Nat} {e : TypeId} {v : Value} {n : Nat} {xs : List Value} (h : w.ownsRow base e size v n xs) : ∃ A c, v = .slice A n c := by
  rcases h.2 with ⟨rfl, rfl⟩ | ⟨g, cap, cur, rfl, _⟩
  · exact ⟨none, 0, rfl⟩
  · exact ⟨_, cap, rfl⟩
theorem cell_twoN (w : World) (a b : Value) (t : TypeId) : ∀ j u, [a, b][j]? = some u → (w.alloc (.cells #[a, b] t)).cell? ((⟨w.heap.size, 0, none⟩ : Addr).add j) = some u := by
  intro j u hj
  match j, hj with
  | 0, hj => simp at hj; subst hj; simp [Addr.add]
  | 1, hj => simp at hj; subst hj; simp [Addr.add]
  | j + 2, hj => simp at hj
end
/-- a region that comes to one frame, whatever its order: the frame may hang on a value b -/
def framePost {β : Type} (A : β → Act) (R : β → World → Prop) : Exit → Act → World → Prop
  | .normal, a', w' => ∃ b, a' = A b ∧ R b w'
  | .ret, _, _ => False
  | .exit _, _, _ => False
  | .goto _, _, _ => False
  | .panic _, _, _ => False
  | .outgrown, _, _ => False
theorem frame_normal {β : Type} {A : β → Act} {R : β → World → Prop} (b : β) {w : World} (h : R b w) : framePost A R .normal (A b) w := ⟨b, rfl, h⟩
theorem wpIn_frame {β : Type} {F : Fence} {n : Nat} {P : Program} {c : Code} {Q : Exit → Act → World → Prop} {a : Act} {w : World} (A : β → Act) (R : β → World → Prop)
    (h : c.wpIn F n P (framePost A R) a w) (hq : ∀ b w', R b w' → Q .normal (A b) w') : c.wpIn F n P Q a w :=
  wpIn_mono h (by
    rintro e a' w' hr
    cases e with
    | normal => obtain ⟨b, rfl, hr⟩ := hr; exact hq b w' hr
    | ret => exact hr.elim
    | exit _ => exact hr.elim
    | goto _ => exact hr.elim
    | panic _ => exact hr.elim
    | outgrown => exact hr.elim)
def framePost0 (A : Act) (R : World → Prop) : Exit → Act → World → Prop
  | .normal, a', w' => a' = A ∧ R w'
  | .ret, _, _ => False
  | .exit _, _, _ => False
  | .goto _, _, _ => False
  | .panic _, _, _ => False
  | .outgrown, _, _ => False
theorem frame_normal0 {A : Act} {R : World → Prop} {w : World} (h : R w) : framePost0 A R .normal A w := ⟨rfl, h⟩
theorem wpIn_frame0 {F : Fence} {n : Nat} {P : Program} {c : Code} {Q : Exit → Act → World → Prop} {a : Act} {w : World} (A : Act) (R : World → Prop)
    (h : c.wpIn F n P (framePost0 A R) a w) (hq : ∀ w', R w' → Q .normal A w') : c.wpIn F n P Q a w :=
  wpIn_mono h (by
    rintro e a' w' hr
    cases e with
    | normal => obtain ⟨rfl, hr⟩ := hr; exact hq w' hr
    | ret => exact hr.elim
    | exit _ => exact hr.elim
    | goto _ => exact hr.elim
    | panic _ => exact hr.elim
    | outgrown => exact hr.elim)
/-- an append onto a row of the call's own, as a step of a region that draws its order, inside a fence -/
theorem stepIn_append_at {F : Fence} {nF : Nat} {P : Program} {ops : Array Oper} {o : Oper} {a : Act} {w : World} {K : Act → World → Prop} {Q : Exit → Act → World → Prop} {E : Prop} (hgd : o.guard = none) (s x : Operand) (t : TypeId)
    (ho : o.op = .call { callee := .builtin .append, args := #[s, x], argTypes := #[t, t] })
    (base : Nat) (e : TypeId) (i : TypeInfo) (z : Value) (size bytes : Nat) (ht : P.underlying t = some (.slice e)) (hi : P.info? e = some i) (hz : i.zero = some z) (hsize : i.size = size) (hby : i.bytes = bytes) (hzs : z.cells.size = size) (hsz : 0 < size)
    (v : Value) (n : Nat) (xs : List Value) (hs : a.eval s = v) (hown : w.ownsRow base e size v n xs) (ad : Addr) (m c : Nat) (news : List Value) (hx : a.eval x = .slice (some ad) m c) (hl : news.length = m * size)
    (hnews : ∀ j u, news[j]? = some u → w.cell? (ad.add j) = some u) (h1 : ∀ u ∈ news, u.oneCell' = true) (h63 : n + m ≤ maxLen) (hbytes : (n + m) * bytes ≤ 140737488355328) (hbase : base ≤ w.heap.size)
    (h : ∀ v4 w4, w4.ownsRow base e size v4 (n + m) (xs ++ news) → w.grownBy w4 v.ownBlock → (v4.ownBlock = v.ownBlock ∨ v4.ownBlock = some w.heap.size) → K (a.put o.dst v4) w4) :
    if Region.wanted o (yielded ops a.tmps) = true then Oper.wpIn F nF P o a w K Q else E := by
  obtain ⟨v', w', hr, h2, h3, _, h4⟩ := run_append_own_at (P := P) w base t o.type e i z size bytes ht hi hz hsize hby hzs hsz v n xs hown ad m c news hl hnews h1 h63 hbytes hbase
  have hw : Region.wanted o (yielded ops a.tmps) = true := by simp [Region.wanted, hgd]
  rw [if_pos hw]
  unfold Oper.wpIn
  refine ⟨by simp [Oper.about, ho, resolve, Target.leads, Sem.run_pure], ?_⟩
  rw [Oper.semAt_plain F _ _ (by rw [ho]; intro c hc'; cases hc')]
  simp [execOp, ho, resolve, invoke, builtin, hs, hx, hr, Result.andThen]
  exact h v' w' h2 h3 h4
end Go.Proofs.Ytlikmgkjilmjpaa
