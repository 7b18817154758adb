/-
  Merged by program: PairC, NodTK.
-/
import Derived.Test.YtlcpekpgkllbkaaQ35
import Derived.Test.YtlcpekpgkllbkaaQ36
import Derived.Deep.RegionHeld3
import Derived.Deep.RegionLaw
import Derived.Lib.AppendZeros
import Derived.Test.YtlcpekpgkllbkaaQ2
import Derived.Test.YtlcpekpgkllbkaaQ8
import Derived.Test.YtlcpekpgkllbkaaQ26

/-
  What the iterator over pairs of nodes keeps. Hangs on no program.
-/
namespace Go.Proofs.Ytlcpekpgkllbkaa
open Go.RowKit

section
variable {α : Type}
/-- what is known of the k-th pair that the iterator gives -/
def PRdN (R : Tr α → List Value → Prop) (a b : Tr α) (k : Nat) (v : Array Value) : Prop :=
  ∃ (x y : Tr α) (cs ds : List Value), (pre2 a b)[k]? = some (x, y) ∧ v = #[.agg cs.toArray, .agg ds.toArray] ∧ R x cs ∧ R y ds
theorem PRdN.size {R : Tr α → List Value → Prop} {a b : Tr α} {k : Nat} {v : Array Value} (h : PRdN R a b k v) : v.size = 2 := by
  obtain ⟨x, y, cs, ds, _, rfl, _⟩ := h
  rfl
/-- the walk goes on behind the k-th pair only where the numbers of parts are equal -/
def POn (a b : Tr α) (k : Nat) : Prop := ∀ x y, (pre2 a b)[k]? = some (x, y) → x.kids.length = y.kids.length
def rowPN (S : NPStk α) : List Value := S.reverse.flatMap fun p => [p.1.2, p.2.2]
theorem rowPN_cons (p : (List (Tr α) × Value) × (List (Tr α) × Value)) (S : NPStk α) : rowPN (p :: S) = rowPN S ++ [p.1.2, p.2.2] := by simp [rowPN]
theorem rowPN_len (S : NPStk α) : (rowPN S).length = S.length * 2 := by
  induction S with
  | nil => rfl
  | cons p S ih => rw [rowPN_cons, List.length_append, ih]; simp; omega
def PAllN (R : Tr α → List Value → Prop) (m : Nat) (W : World) (K : Nat → Prop) (S : NPStk α) : Prop := ∀ p ∈ S, NList R m W K p.1.1 p.1.2 ∧ NList R m W K p.2.1 p.2.2 ∧ p.1.1.length = p.2.1.length
def PSt (R : Tr α → List Value → Prop) (m : Nat) (W : World) (K : Nat → Prop) (ty : TypeId) (B : Nat) (J : Nat → (Nat → Prop) → World → Prop) (S : NPStk α) (k : Nat) (v : Value) (wr : World) : Prop :=
  PAllN R m W K S ∧ wr.ownsRow B ty 2 v S.length (rowPN S) ∧ Held K W wr ∧ ∃ F, J k F wr ∧ (∀ g, v.ownBlock = some g → ¬ F g) ∧ ∀ b, F b → ¬ K b
def PInvN (R : Tr α → List Value → Prop) (m : Nat) (W : World) (K : Nat → Prop) (a b : Tr α) (ty : TypeId) (B : Nat) (J : Nat → (Nat → Prop) → World → Prop) (S : NPStk α) (k : Nat) (v : Value) (wr : World) : Prop :=
  k ≤ (pre2 a b).length ∧ pairS S = (pre2 a b).drop k ∧ PSt R m W K ty B J S k v wr
theorem PAllN.len {R : Tr α → List Value → Prop} {m : Nat} {W : World} {K : Nat → Prop} {S : NPStk α} (h : PAllN R m W K S) : S.length ≤ (pairS S).length :=
  pairS_len S fun p hp => by
    obtain ⟨⟨_, _, _, _, _, h0, _⟩, _, h2⟩ := h p hp
    exact ⟨h0, h2⟩
section
variable {R : Tr α → List Value → Prop} {m : Nat} {W : World} {K : Nat → Prop} {ty : TypeId} {B : Nat} {J : Nat → (Nat → Prop) → World → Prop} {S : NPStk α} {k : Nat} {v : Value} {wr w' : World}
theorem PSt.under {sz : Nat} (h : PSt R m W K ty B J S k v wr) (hJ : ∀ k F A C, J k F A → Held (fun i => i < sz ∨ F i) A C → J k F C) (hb : Below wr.heap.size wr w') : PSt R m W K ty B J S k v w' := by
  obtain ⟨h1, h2, h3, F, h4, h5, h6⟩ := h
  exact ⟨h1, own_heldN h2 (fun g hg => hb.block g (h2.lt g hg).2), h3.trans (Held.of_below hb fun i hi _ => hi), F, hJ _ _ _ _ h4 (Held.of_below hb fun i hi _ => hi), h5, h6⟩
/-- a pair of lists was put on top -/
theorem PSt.push {sz : Nat} {Keep : Nat → Prop} {wa w4 : World} {v4 : Value} {ts us : List (Tr α)} {s u : Value} (h : PSt R m W K ty B J S k v wr) (hJ : ∀ k F A C, J k F A → Held (fun i => i < sz ∨ F i) A C → J k F C)
    (hJB : ∀ k F A, J k F A → ∀ b, F b → ¬ Keep b ∧ b < A.heap.size) (hsz : sz ≤ B) (hKB : ∀ b, K b → b < B) (hl : NList R m W K ts s) (hl' : NList R m W K us u) (hlen : ts.length = us.length) (hb : Below wr.heap.size wr wa)
    (ho : w4.ownsRow B ty 2 v4 (S.length + 1) (rowPN S ++ [s, u])) (hg : wa.grownBy w4 v.ownBlock) (hor : v4.ownBlock = v.ownBlock ∨ ∃ q, v4.ownBlock = some q ∧ wr.heap.size ≤ q) : PSt R m W K ty B J (((ts, s), (us, u)) :: S) k v4 w4 := by
  obtain ⟨h1, h2, h3, F, h4, h5, h6⟩ := h
  have hgn : ∀ q, v.ownBlock = some q → ¬ (q < B) := fun q hq => by have := (h2.lt q hq).1; omega
  refine ⟨fun p hp => ?_, by rw [rowPN_cons]; exact ho, (h3.trans (Held.of_below hb fun i hi _ => hi)).trans (Held.grown hg fun q hq hk => hgn q hq (hKB q hk)), F, hJ _ _ _ _ h4 ((Held.of_below hb fun i hi _ => hi).trans (Held.grown hg fun q hq hk => ?_)), fun q hq hF => ?_, h6⟩
  · rcases List.mem_cons.1 hp with rfl | hp
    · exact ⟨hl, hl', hlen⟩
    · exact h1 p hp
  · rcases hk with hk | hk
    · exact hgn q hq (by omega)
    · exact h5 q hq hk
  · rcases hor with e | ⟨q', e, hq'⟩
    · exact h5 q (by rw [← e]; exact hq) hF
    · rw [e] at hq
      injection hq with hq
      have := (hJB _ _ _ h4 q hF).2
      omega
end
end
/-- a region that comes to one frame but for two numbers -/
def framePost2 {β γ : Type} (A : β → γ → Act) (R : β → γ → World → Prop) : Exit → Act → World → Prop
  | .normal, a', w' => ∃ x y, a' = A x y ∧ R x y w'
  | .ret, _, _ => False
  | .exit _, _, _ => False
  | .goto _, _, _ => False
  | .panic _, _, _ => False
  | .outgrown, _, _ => False
theorem frame_normal2 {β γ : Type} {A : β → γ → Act} {R : β → γ → World → Prop} (x : β) (y : γ) {w : World} (h : R x y w) : framePost2 A R .normal (A x y) w := ⟨x, y, rfl, h⟩
theorem wpIn_frame2 {β γ : Type} {F : Fence} {n : Nat} {P : Program} {c : Code} {Q : Exit → Act → World → Prop} {a : Act} {w : World} (A : β → γ → Act) (R : β → γ → World → Prop)
    (h : c.wpIn F n P (framePost2 A R) a w) (hq : ∀ x y w', R x y w' → Q .normal (A x y) w') : c.wpIn F n P Q a w :=
  wpIn_mono h (by
    rintro e a' w' hr
    cases e with
    | normal => obtain ⟨x, y, rfl, hr⟩ := hr; exact hq x y w' hr
    | ret => exact hr.elim
    | exit _ => exact hr.elim
    | goto _ => exact hr.elim
    | panic _ => exact hr.elim
    | outgrown => exact hr.elim)
/-- an append onto a row of the call's own, as a step of a region that draws its order -/
theorem step_append_v {P : Program} {ops : Array Oper} {o : Oper} {a : Act} {w : World} {K : Act → World → Prop} {Q : Exit → Act → World → Prop} {E : Prop} (hgd : o.guard = none) (s x : Operand) (t : TypeId)
    (ho : o.op = .call { callee := .builtin .append, args := #[s, x], argTypes := #[t, t] })
    (base : Nat) (e : TypeId) (i : TypeInfo) (z : Value) (size bytes : Nat) (ht : P.underlying t = some (.slice e)) (hi : P.info? e = some i) (hz : i.zero = some z) (hsize : i.size = size) (hby : i.bytes = bytes) (hzs : z.cells.size = size) (hsz : 0 < size)
    (v : Value) (n : Nat) (xs : List Value) (hs : a.eval s = v) (hown : w.ownsRow base e size v n xs) (ad : Addr) (m c : Nat) (news : List Value) (hx : a.eval x = .slice (some ad) m c) (hl : news.length = m * size)
    (hnews : ∀ j u, news[j]? = some u → w.cell? (ad.add j) = some u) (h1 : ∀ u ∈ news, u.oneCell' = true) (h63 : n + m ≤ maxLen) (hbytes : (n + m) * bytes ≤ 140737488355328) (hbase : base ≤ w.heap.size)
    (h : ∀ v4 w4, w4.ownsRow base e size v4 (n + m) (xs ++ news) → w.grownBy w4 v.ownBlock → (v4.ownBlock = v.ownBlock ∨ v4.ownBlock = some w.heap.size) → K (a.put o.dst v4) w4) :
    if Region.wanted o (yielded ops a.tmps) = true then Oper.wp P o a w K Q else E := by
  obtain ⟨v', w', hr, h2, h3, _, h4⟩ := run_append_own_at (P := P) w base t o.type e i z size bytes ht hi hz hsize hby hzs hsz v n xs hown ad m c news hl hnews h1 h63 hbytes hbase
  have hw : Region.wanted o (yielded ops a.tmps) = true := by simp [Region.wanted, hgd]
  rw [if_pos hw]
  exact Lib.wp_append_run w s x t t ho _ _ hs hx _ w' hr (h v' w' h2 h3 h4)
end Go.Proofs.Ytlcpekpgkllbkaa

/-
  A node of impl.Type: its parts as a list to come; the program's argsOfType. Written by wip/tools/mknod.py.
-/
namespace Go.Proofs.Ytlcpekpgkllbkaa
open Go.RowKit

/-- a node's cells in the form that a store asks for -/
theorem rd_shapeT {w : World} {x : Ty} {c0 c1 c2 : Value} (h : RTy w x [c0, c1, c2]) : ∃ ek eL el elc, c0 = .int .i64 ek ∧ c1 = .slice eL el elc := by
  cases x with
  | node a ks =>
    obtain ⟨L, c, A, d, e, _⟩ := h.out
    simp only [List.cons.injEq, and_true] at e
    exact ⟨_, _, _, _, e.1, e.2.1⟩
/-- the parts of a node -/
theorem rd_kidsT {w : World} {x : Ty} {c0 c1 c2 : Value} (h : RTy w x [c0, c1, c2]) : ∃ A d, c2 = .slice A x.kids.length d ∧ x.kids.length ≤ d ∧ x.kids.length ≤ 9223372036854775807 ∧ RowN (RTy w) 3 w A x.kids := by
  cases x with
  | node a ks =>
    obtain ⟨L, c, A, d, e, _, _, _, _, _, h3, h4⟩ := h.out
    simp only [List.cons.injEq, and_true] at e
    obtain ⟨rfl, rfl, rfl⟩ := e
    exact ⟨A, d, rfl, h.cap.2, h3, h4⟩
/-- the parts of a node, as a list to come -/
theorem nlist_kidsT {w W : World} {K : Nat → Prop} {x : Ty} {A : Option Addr} {d : Nat} (h0 : 0 < x.kids.length) (hd : x.kids.length ≤ d) (hl : x.kids.length ≤ 9223372036854775807) (h : RowN (RTy w) 3 w A x.kids)
    (hW : Below w.heap.size w W) (hK : ∀ b, b < w.heap.size → K b) : ∃ ad, A = some ad ∧ NList (RTy w) 3 W K x.kids (.slice A x.kids.length d) := by
  obtain ⟨ps, hp⟩ := h
  obtain ⟨h1, ad, rfl, h3⟩ := hp 0 _ (List.getElem?_eq_getElem h0)
  obtain ⟨c0, c1, c2, he⟩ := h1.three
  rw [he] at h3
  have hb := World.block_lt_of_cell? w _ (h3 0 _ rfl)
  rw [addr_block] at hb
  exact ⟨ad, rfl, ad, d, rfl, hd, hl, h0, hK _ hb, RowN.held ⟨ps, hp⟩ fun b hb => hW.block b hb⟩

def ArgsAtT (c0 c1 c2 : Value) (w : World) (e : Ending) (w' : World) : Prop := e = .returned c2 ∧ w' = w.alloc (.cells #[c0, c1, c2] 36)
theorem argsT_any (c0 c1 c2 : Value) (w : World) : Calls Try.prog 84 #[.agg #[c0, c1, c2]] w (ArgsAtT c0 c1 c2 w) := by
  have hR : Hid (ArgsAtT c0 c1 c2 w (.returned c2) (w.alloc (.cells #[c0, c1, c2] 36))) := ⟨rfl, rfl⟩
  go_enter Try.func84, Try.ntmps84
  go_wp2_with fail
  go_ret
  exact hR.out
end Go.Proofs.Ytlcpekpgkllbkaa
