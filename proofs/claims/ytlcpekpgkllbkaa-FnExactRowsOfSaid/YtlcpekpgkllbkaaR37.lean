/-
  Merged by program: Pre2, PairC.
-/
import Derived.Test.YtlcpekpgkllbkaaR32
import Derived.Test.YtlcpekpgkllbkaaR33
import Derived.Deep.RegionHeld3
import Derived.Deep.RegionLaw
import Derived.Lib.AppendZeros

/-
  Two trees walked side by side, each pair of nodes before those below. Hangs on no program.
-/
namespace Go.Proofs.Ytlcpekpgkllbkaa
open Go.RowKit

section
variable {α : Type}
def pre2 : Tr α → Tr α → List (Tr α × Tr α)
  | .node a ks, y => (.node a ks, y) :: ((ks.attach.zip y.kids).map fun ⟨⟨t, _⟩, u⟩ => pre2 t u).flatten
def pairL (ts us : List (Tr α)) : List (Tr α × Tr α) := ((ts.zip us).map fun p => pre2 p.1 p.2).flatten
theorem pre2_top (x y : Tr α) : pre2 x y = (x, y) :: pairL x.kids y.kids := by
  cases x with
  | node a ks =>
    rw [pre2]
    unfold pairL
    congr 2
    show _ = (ks.zip y.kids).map _
    conv => rhs; rw [← List.attach_map_subtype_val ks]
    rw [List.zip_map_left, List.map_map]
    rfl
theorem pairL_nil (us : List (Tr α)) : pairL ([] : List (Tr α)) us = [] := rfl
theorem pairL_cons (t u : Tr α) (ts us : List (Tr α)) : pairL (t :: ts) (u :: us) = pre2 t u ++ pairL ts us := rfl
theorem pairL_one (t u : Tr α) : pairL [t] [u] = pre2 t u := by rw [pairL_cons, pairL_nil, List.append_nil]
/-- pairs of lists that are yet to be walked, the next pair first, each list with its slice -/
abbrev NPStk (α : Type) := List ((List (Tr α) × Value) × (List (Tr α) × Value))
def pairS (S : NPStk α) : List (Tr α × Tr α) := (S.map fun p => pairL p.1.1 p.2.1).flatten
theorem pairS_cons (p : (List (Tr α) × Value) × (List (Tr α) × Value)) (S : NPStk α) : pairS (p :: S) = pairL p.1.1 p.2.1 ++ pairS S := rfl
theorem pairS_step (x y : Tr α) (xs ys : List (Tr α)) (s t : Value) (S : NPStk α) : pairS (((x :: xs, s), (y :: ys, t)) :: S) = (x, y) :: (pairL x.kids y.kids ++ (pairL xs ys ++ pairS S)) := by
  rw [pairS_cons, pairL_cons, pre2_top]
  simp
theorem pre2_pos (x y : Tr α) : 0 < (pre2 x y).length := by rw [pre2_top]; simp
theorem pairS_len (S : NPStk α) (h : ∀ p ∈ S, 0 < p.1.1.length ∧ p.1.1.length = p.2.1.length) : S.length ≤ (pairS S).length := by
  induction S with
  | nil => simp
  | cons p S ih =>
    have := ih fun q hq => h q (List.mem_cons_of_mem _ hq)
    obtain ⟨h1, h2⟩ := h p (List.mem_cons_self ..)
    rw [pairS_cons, List.length_append, List.length_cons]
    obtain ⟨⟨ts, s⟩, ⟨us, t⟩⟩ := p
    match ts, us, h1, h2 with
    | t1 :: ts, u1 :: us, _, _ =>
      rw [show pairL (((t1 :: ts, s), (u1 :: us, t)) : (List (Tr α) × Value) × (List (Tr α) × Value)).1.1 (((t1 :: ts, s), (u1 :: us, t)) : (List (Tr α) × Value) × (List (Tr α) × Value)).2.1 = pre2 t1 u1 ++ pairL ts us from rfl, List.length_append]
      have := pre2_pos t1 u1
      omega
theorem pre2_len : ∀ (x y : Tr α) (d : Nat), (pre2 x y).length ≤ (x.pre d).length := by
  refine Tr.ind ?_
  intro a ks ih y d
  rw [pre2_top, pre_node, List.length_cons, List.length_cons]
  have h : ∀ (ts us : List (Tr α)), (∀ t ∈ ts, t ∈ ks) → (pairL ts us).length ≤ (preL (d + 1) ts).length := by
    intro ts
    induction ts with
    | nil => intro us _; simp [pairL]
    | cons t ts iht =>
      intro us hm
      cases us with
      | nil => simp [pairL]
      | cons u us =>
        have h1 := ih t (hm t (by simp)) u (d + 1)
        have h2 := iht us fun x hx => hm x (by simp [hx])
        rw [pairL_cons, preL_cons, List.length_append, List.length_append]
        omega
  have := h ks y.kids fun t ht => ht
  show (pairL ks y.kids).length + 1 ≤ _
  omega
/-- the trees are the same exactly if the nodes of all pairs are -/
theorem pre2_same : ∀ x y : Tr α, x = y ↔ ∀ p ∈ pre2 x y, p.1.top = p.2.top ∧ p.1.kids.length = p.2.kids.length := by
  refine Tr.ind ?_
  intro a ks ih y
  cases y with
  | node b ls =>
  rw [pre2_top]
  show _ ↔ ∀ p ∈ (Tr.node a ks, Tr.node b ls) :: pairL ks ls, _
  have h : ∀ (ts us : List (Tr α)), (∀ t ∈ ts, t ∈ ks) → ts.length = us.length → (ts = us ↔ ∀ p ∈ pairL ts us, p.1.top = p.2.top ∧ p.1.kids.length = p.2.kids.length) := by
    intro ts
    induction ts with
    | nil =>
      intro us _ hl
      have : us = [] := List.eq_nil_of_length_eq_zero hl.symm
      subst this
      simp [pairL]
    | cons t ts iht =>
      intro us hm hl
      cases us with
      | nil => simp at hl
      | cons u us =>
        have h1 := ih t (hm t (by simp)) u
        have h2 := iht us (fun x hx => hm x (by simp [hx])) (by simpa using hl)
        rw [pairL_cons, List.cons.injEq, h1, h2]
        simp only [List.mem_append]
        constructor
        · rintro ⟨k1, k2⟩ p (hp | hp)
          · exact k1 p hp
          · exact k2 p hp
        · intro k
          exact ⟨fun p hp => k p (.inl hp), fun p hp => k p (.inr hp)⟩
  constructor
  · intro e
    injection e with e1 e2
    subst e1 e2
    intro p hp
    rcases List.mem_cons.1 hp with rfl | hp
    · exact ⟨rfl, rfl⟩
    · exact (h ks ks (fun _ h => h) rfl).1 rfl p hp
  · intro k
    obtain ⟨k1, k2⟩ := k _ (List.mem_cons_self ..)
    have k1 : a = b := k1
    have k2 : ks.length = ls.length := k2
    have := (h ks ls (fun _ h => h) k2).2 fun p hp => k p (List.mem_cons_of_mem _ hp)
    rw [k1, this]
end
end Go.Proofs.Ytlcpekpgkllbkaa

/-
  What the iterator over pairs of nodes keeps. Hangs on no program.
-/
namespace Go.Proofs.Ytlcpekpgkllbkaa
open Go.RowKit

section
variable {α : Type}
/-- what is known of the k-th pair that the iterator gives -/
def PRdN (R : Tr α → List Value → Prop) (a b : Tr α) (k : Nat) (v : Array Value) : Prop :=
  ∃ (x y : Tr α) (cs ds : List Value), (pre2 a b)[k]? = some (x, y) ∧ v = #[.agg cs.toArray, .agg ds.toArray] ∧ R x cs ∧ R y ds
theorem PRdN.size {R : Tr α → List Value → Prop} {a b : Tr α} {k : Nat} {v : Array Value} (h : PRdN R a b k v) : v.size = 2 := by
  obtain ⟨x, y, cs, ds, _, rfl, _⟩ := h
  rfl
/-- the walk goes on behind the k-th pair only where the numbers of parts are equal -/
def POn (a b : Tr α) (k : Nat) : Prop := ∀ x y, (pre2 a b)[k]? = some (x, y) → x.kids.length = y.kids.length
def rowPN (S : NPStk α) : List Value := S.reverse.flatMap fun p => [p.1.2, p.2.2]
theorem rowPN_cons (p : (List (Tr α) × Value) × (List (Tr α) × Value)) (S : NPStk α) : rowPN (p :: S) = rowPN S ++ [p.1.2, p.2.2] := by simp [rowPN]
theorem rowPN_len (S : NPStk α) : (rowPN S).length = S.length * 2 := by
  induction S with
  | nil => rfl
  | cons p S ih => rw [rowPN_cons, List.length_append, ih]; simp; omega
def PAllN (R : Tr α → List Value → Prop) (m : Nat) (W : World) (K : Nat → Prop) (S : NPStk α) : Prop := ∀ p ∈ S, NList R m W K p.1.1 p.1.2 ∧ NList R m W K p.2.1 p.2.2 ∧ p.1.1.length = p.2.1.length
def PSt (R : Tr α → List Value → Prop) (m : Nat) (W : World) (K : Nat → Prop) (ty : TypeId) (B : Nat) (J : Nat → (Nat → Prop) → World → Prop) (S : NPStk α) (k : Nat) (v : Value) (wr : World) : Prop :=
  PAllN R m W K S ∧ wr.ownsRow B ty 2 v S.length (rowPN S) ∧ Held K W wr ∧ ∃ F, J k F wr ∧ (∀ g, v.ownBlock = some g → ¬ F g) ∧ ∀ b, F b → ¬ K b
def PInvN (R : Tr α → List Value → Prop) (m : Nat) (W : World) (K : Nat → Prop) (a b : Tr α) (ty : TypeId) (B : Nat) (J : Nat → (Nat → Prop) → World → Prop) (S : NPStk α) (k : Nat) (v : Value) (wr : World) : Prop :=
  k ≤ (pre2 a b).length ∧ pairS S = (pre2 a b).drop k ∧ PSt R m W K ty B J S k v wr
theorem PAllN.len {R : Tr α → List Value → Prop} {m : Nat} {W : World} {K : Nat → Prop} {S : NPStk α} (h : PAllN R m W K S) : S.length ≤ (pairS S).length :=
  pairS_len S fun p hp => by
    obtain ⟨⟨_, _, _, _, _, h0, _⟩, _, h2⟩ := h p hp
    exact ⟨h0, h2⟩
section
variable {R : Tr α → List Value → Prop} {m : Nat} {W : World} {K : Nat → Prop} {ty : TypeId} {B : Nat} {J : Nat → (Nat → Prop) → World → Prop} {S : NPStk α} {k : Nat} {v : Value} {wr w' : World}
theorem PSt.under {sz : Nat} (h : PSt R m W K ty B J S k v wr) (hJ : ∀ k F A C, J k F A → Held (fun i => i < sz ∨ F i) A C → J k F C) (hb : Below wr.heap.size wr w') : PSt R m W K ty B J S k v w' := by
  obtain ⟨h1, h2, h3, F, h4, h5, h6⟩ := h
  exact ⟨h1, own_heldN h2 (fun g hg => hb.block g (h2.lt g hg).2), h3.trans (Held.of_below hb fun i hi _ => hi), F, hJ _ _ _ _ h4 (Held.of_below hb fun i hi _ => hi), h5, h6⟩
/-- a pair of lists was put on top -/
theorem PSt.push {sz : Nat} {Keep : Nat → Prop} {wa w4 : World} {v4 : Value} {ts us : List (Tr α)} {s u : Value} (h : PSt R m W K ty B J S k v wr) (hJ : ∀ k F A C, J k F A → Held (fun i => i < sz ∨ F i) A C → J k F C)
    (hJB : ∀ k F A, J k F A → ∀ b, F b → ¬ Keep b ∧ b < A.heap.size) (hsz : sz ≤ B) (hKB : ∀ b, K b → b < B) (hl : NList R m W K ts s) (hl' : NList R m W K us u) (hlen : ts.length = us.length) (hb : Below wr.heap.size wr wa)
    (ho : w4.ownsRow B ty 2 v4 (S.length + 1) (rowPN S ++ [s, u])) (hg : wa.grownBy w4 v.ownBlock) (hor : v4.ownBlock = v.ownBlock ∨ ∃ q, v4.ownBlock = some q ∧ wr.heap.size ≤ q) : PSt R m W K ty B J (((ts, s), (us, u)) :: S) k v4 w4 := by
  obtain ⟨h1, h2, h3, F, h4, h5, h6⟩ := h
  have hgn : ∀ q, v.ownBlock = some q → ¬ (q < B) := fun q hq => by have := (h2.lt q hq).1; omega
  refine ⟨fun p hp => ?_, by rw [rowPN_cons]; exact ho, (h3.trans (Held.of_below hb fun i hi _ => hi)).trans (Held.grown hg fun q hq hk => hgn q hq (hKB q hk)), F, hJ _ _ _ _ h4 ((Held.of_below hb fun i hi _ => hi).trans (Held.grown hg fun q hq hk => ?_)), fun q hq hF => ?_, h6⟩
  · rcases List.mem_cons.1 hp with rfl | hp
    · exact ⟨hl, hl', hlen⟩
    · exact h1 p hp
  · rcases hk with hk | hk
    · exact hgn q hq (by omega)
    · exact h5 q hq hk
  · rcases hor with e | ⟨q', e, hq'⟩
    · exact h5 q (by rw [← e]; exact hq) hF
    · rw [e] at hq
      injection hq with hq
      have := (hJB _ _ _ h4 q hF).2
      omega
end
end
/-- a region that comes to one frame but for two numbers -/
def framePost2 {β γ : Type} (A : β → γ → Act) (R : β → γ → World → Prop) : Exit → Act → World → Prop
  | .normal, a', w' => ∃ x y, a' = A x y ∧ R x y w'
  | .ret, _, _ => False
  | .exit _, _, _ => False
  | .goto _, _, _ => False
  | .panic _, _, _ => False
  | .outgrown, _, _ => False
theorem frame_normal2 {β γ : Type} {A : β → γ → Act} {R : β → γ → World → Prop} (x : β) (y : γ) {w : World} (h : R x y w) : framePost2 A R .normal (A x y) w := ⟨x, y, rfl, h⟩
theorem wpIn_frame2 {β γ : Type} {F : Fence} {n : Nat} {P : Program} {c : Code} {Q : Exit → Act → World → Prop} {a : Act} {w : World} (A : β → γ → Act) (R : β → γ → World → Prop)
    (h : c.wpIn F n P (framePost2 A R) a w) (hq : ∀ x y w', R x y w' → Q .normal (A x y) w') : c.wpIn F n P Q a w :=
  wpIn_mono h (by
    rintro e a' w' hr
    cases e with
    | normal => obtain ⟨x, y, rfl, hr⟩ := hr; exact hq x y w' hr
    | ret => exact hr.elim
    | exit _ => exact hr.elim
    | goto _ => exact hr.elim
    | panic _ => exact hr.elim
    | outgrown => exact hr.elim)
/-- an append onto a row of the call's own, as a step of a region that draws its order -/
theorem step_append_v {P : Program} {ops : Array Oper} {o : Oper} {a : Act} {w : World} {K : Act → World → Prop} {Q : Exit → Act → World → Prop} {E : Prop} (hgd : o.guard = none) (s x : Operand) (t : TypeId)
    (ho : o.op = .call { callee := .builtin .append, args := #[s, x], argTypes := #[t, t] })
    (base : Nat) (e : TypeId) (i : TypeInfo) (z : Value) (size bytes : Nat) (ht : P.underlying t = some (.slice e)) (hi : P.info? e = some i) (hz : i.zero = some z) (hsize : i.size = size) (hby : i.bytes = bytes) (hzs : z.cells.size = size) (hsz : 0 < size)
    (v : Value) (n : Nat) (xs : List Value) (hs : a.eval s = v) (hown : w.ownsRow base e size v n xs) (ad : Addr) (m c : Nat) (news : List Value) (hx : a.eval x = .slice (some ad) m c) (hl : news.length = m * size)
    (hnews : ∀ j u, news[j]? = some u → w.cell? (ad.add j) = some u) (h1 : ∀ u ∈ news, u.oneCell' = true) (h63 : n + m ≤ maxLen) (hbytes : (n + m) * bytes ≤ 140737488355328) (hbase : base ≤ w.heap.size)
    (h : ∀ v4 w4, w4.ownsRow base e size v4 (n + m) (xs ++ news) → w.grownBy w4 v.ownBlock → (v4.ownBlock = v.ownBlock ∨ v4.ownBlock = some w.heap.size) → K (a.put o.dst v4) w4) :
    if Region.wanted o (yielded ops a.tmps) = true then Oper.wp P o a w K Q else E := by
  obtain ⟨v', w', hr, h2, h3, _, h4⟩ := run_append_own_at (P := P) w base t o.type e i z size bytes ht hi hz hsize hby hzs hsz v n xs hown ad m c news hl hnews h1 h63 hbytes hbase
  have hw : Region.wanted o (yielded ops a.tmps) = true := by simp [Region.wanted, hgd]
  rw [if_pos hw]
  exact Lib.wp_append_run w s x t t ho _ _ hs hx _ w' hr (h v' w' h2 h3 h4)
end Go.Proofs.Ytlcpekpgkllbkaa
