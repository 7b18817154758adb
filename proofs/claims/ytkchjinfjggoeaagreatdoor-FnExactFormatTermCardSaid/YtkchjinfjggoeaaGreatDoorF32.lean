/-
  Merged by program: TySame, TnB, Pre2, PairC.
-/
import Derived.Test.YtkchjinfjggoeaaGreatDoorF7
import Derived.Lib.SlicesS
import Derived.StillTailTactics
import Derived.Test.YtkchjinfjggoeaaGreatDoorF10
import Derived.Test.YtkchjinfjggoeaaGreatDoorF26
import Derived.Test.YtkchjinfjggoeaaGreatDoorF27
import Derived.Deep.RegionHeld3
import Derived.Deep.RegionLaw
import Derived.Lib.AppendZeros

/-
  The model's EqualType: it says whether the two trees are one.
-/
namespace Go.Proofs.YtkchjinfjggoeaaGreatDoor
open Go.RowKit

/-- are the two one? -/
noncomputable def same {β : Type} (x y : β) : Bool := @decide (x = y) (Classical.propDecidable _)
theorem same_yes {β : Type} {x y : β} (h : x = y) : same x y = true := by unfold same; simp [h]
theorem same_no {β : Type} {x y : β} (h : x ≠ y) : same x y = false := by unfold same; simp [h]

def EqTo {β : Type} (xs ys : List β) (k : Nat) : Prop := ∀ j, j < k → xs[j]? = ys[j]?
theorem eqTo_zero {β : Type} (xs ys : List β) : EqTo xs ys 0 := fun j h => by omega
theorem eqTo_succ {β : Type} {xs ys : List β} {k : Nat} (h : EqTo xs ys k) (h1 : k < xs.length) (h2 : k < ys.length) (he : xs[k] = ys[k]) : EqTo xs ys (k + 1) := by
  intro j hj
  by_cases e : j = k
  · subst e
    rw [List.getElem?_eq_getElem h1, List.getElem?_eq_getElem h2, he]
  · exact h j (by omega)
theorem eqTo_all {β : Type} {xs ys : List β} (h : EqTo xs ys xs.length) (hl : xs.length = ys.length) : xs = ys := by
  apply List.ext_getElem?
  intro j
  by_cases hj : j < xs.length
  · exact h j hj
  · rw [List.getElem?_eq_none (by omega), List.getElem?_eq_none (by omega)]
theorem ne_at {β : Type} {xs ys : List β} {k : Nat} (h1 : k < xs.length) (h2 : k < ys.length) (he : xs[k] ≠ ys[k]) : xs ≠ ys := by
  rintro rfl
  exact he rfl

theorem ty_ne {a b : TyA} {ks js : List Ty} (h : a.kind ≠ b.kind ∨ a.labels ≠ b.labels ∨ ks ≠ js) : same (Tr.node a ks) (Tr.node b js) = false := by
  apply same_no
  intro e
  injection e with e1 e2
  subst e1
  subst e2
  rcases h with h | h | h <;> exact h rfl
theorem ty_eq {a b : TyA} {ks js : List Ty} (h1 : a.kind = b.kind) (h2 : a.labels = b.labels) (h3 : ks = js) : same (Tr.node a ks) (Tr.node b js) = true := by
  apply same_yes
  obtain ⟨k, l⟩ := a
  obtain ⟨k', l'⟩ := b
  simp only at h1 h2
  rw [h1, h2, h3]
theorem same_iff {β : Type} {x y : β} : same x y = true ↔ x = y := by unfold same; simp
theorem same_iff_no {β : Type} {x y : β} : same x y = false ↔ x ≠ y := by unfold same; simp

end Go.Proofs.YtkchjinfjggoeaaGreatDoor

/-
  What the program asks of a term's node, field by field, is what the model asks. Hangs on no program.
-/
namespace Go.Proofs.YtkchjinfjggoeaaGreatDoor
open Go.RowKit

def zeroTy : Ty := .node ⟨0, []⟩ []
def arTab : List Int := [0, 0, 0, 0, 0, 0, 1, 0, 1, 2, 2, 3, 0, 1, 2, 1, 1]
def tName (p : Int) (s : ByteArray) : Bool := if nmB p then nameB s else if p = 4 then decide (0 < arB s) else (s.toList == [])
noncomputable def tType (p : Int) (t : Ty) : Bool := if tyB p then validB t else same t zeroTy
def tLab (p : Int) (ls : List ByteArray) : Bool := if p = 5 then labB ls else decide (ls.length = 0)
def tArgs (p : Int) (s : ByteArray) (l n : Nat) : Bool := if p = 4 then decide ((n : Int) = arB s) else if p = 5 then decide ((n : Int) = (l : Int)) else decide ((n : Int) = arTab.getD p.toNat 0)
theorem nmB_4 : nmB 4 = false := by decide
theorem nameB_empty {s : ByteArray} (h : s.toList = []) : nameB s = false := by
  have h0 : s.size = 0 := by
    have e : s.toList.length = s.size := by rw [ByteArray.toList_eq, Array.length_toList]; rfl
    rw [← e, h]
    rfl
  unfold nameB
  rw [decide_eq_false (p := 1 ≤ s.size) (by omega), Bool.false_and, Bool.and_false]
theorem name_is (p : Int) (s : ByteArray) : nameOk p (arB s) (nameB s) (s.toList == []) = tName p s := by
  unfold nameOk tName
  by_cases h4 : p = 4
  · subst h4
    rw [if_pos rfl, nmB_4, if_pos rfl]
    have := arB_le s
    by_cases h : arB s = 0
    · rw [h]; rfl
    · rw [decide_eq_false h, decide_eq_true (by omega)]
      rfl
  · rw [if_neg h4]
    cases hn : nmB p with
    | true => cases nameB s <;> rfl
    | false =>
      rw [if_neg (by simp), if_neg h4]
      by_cases he : s.toList = []
      · rw [nameB_empty he]
        simp
      · have : (s.toList == []) = false := by simpa using he
        rw [this]
        simp
theorem zero_valid : validB zeroTy = false := by
  unfold validB zeroTy
  have : Tr.form (.node ⟨0, []⟩ [] : Ty) = false := by rw [form_node]; rfl
  rw [this]
  simp
theorem same_zero (t : Ty) : same t zeroTy = (decide (t.top.kind = 0) && (decide (t.top.labels.length = 0) && decide (t.kids.length = 0))) := by
  cases t with
  | node a ks =>
    show same (Tr.node a ks) zeroTy = (decide (a.kind = 0) && (decide (a.labels.length = 0) && decide (ks.length = 0)))
    by_cases h : a.kind = 0 ∧ a.labels.length = 0 ∧ ks.length = 0
    · obtain ⟨h1, h2, h3⟩ := h
      rw [decide_eq_true h1, decide_eq_true h2, decide_eq_true h3]
      exact ty_eq h1 (List.eq_nil_of_length_eq_zero h2) (List.eq_nil_of_length_eq_zero h3)
    · have hr : (decide (a.kind = 0) && (decide (a.labels.length = 0) && decide (ks.length = 0))) = false := by
        rw [Bool.eq_false_iff]
        intro e
        simp only [Bool.and_eq_true, decide_eq_true_eq] at e
        exact h e
      rw [hr]
      refine same_no fun e => h ?_
      unfold zeroTy at e
      injection e with e1 e2
      rw [e1, e2]
      exact ⟨rfl, rfl, rfl⟩
theorem type_is (p : Int) (t : Ty) : typeOk p (validB t) t.top.kind t.top.labels.length t.kids.length = tType p t := by
  unfold typeOk tType
  cases ht : tyB p with
  | true => cases validB t <;> rfl
  | false =>
    rw [if_neg (by simp), ← same_zero]
    by_cases h : t = zeroTy
    · rw [h, zero_valid, same_yes rfl]; rfl
    · rw [same_no h]; simp
theorem lab_is (p : Int) (ls : List ByteArray) : labOk p (labB ls) ls.length = tLab p ls := rfl
theorem args_is {p : Int} (h1 : 1 ≤ p) (h16 : p ≤ 16) (s : ByteArray) (l n : Nat) : decide ((n : Int) = arN p s l) = tArgs p s l n := by
  have h : p = 1 ∨ p = 2 ∨ p = 3 ∨ p = 4 ∨ p = 5 ∨ p = 6 ∨ p = 7 ∨ p = 8 ∨ p = 9 ∨ p = 10 ∨ p = 11 ∨ p = 12 ∨ p = 13 ∨ p = 14 ∨ p = 15 ∨ p = 16 := by omega
  rcases h with h | h | h | h | h | h | h | h | h | h | h | h | h | h | h | h <;> (subst h; rfl)
theorem arN_out {p : Int} (h : p < 1 ∨ 16 < p) (s : ByteArray) (l : Nat) : arN p s l = -1 := by
  unfold arN
  rw [if_neg (by omega), if_neg (by omega), if_neg (by omega), if_neg (by omega), if_neg (by omega), if_neg (by omega)]
theorem node_out {a : TeA} {n : Nat} (h : a.kind < 1 ∨ 16 < a.kind) : nodeE a n = false := by
  unfold nodeE
  rw [arN_out h, decide_eq_false (by omega), Bool.and_false]
theorem node_is {a : TeA} {n : Nat} (h1 : 1 ≤ a.kind) (h16 : a.kind ≤ 16) : nodeE a n = (tName a.kind a.name && (numOk a.kind a.num && (tType a.kind a.type && (tLab a.kind a.labels && tArgs a.kind a.name a.labels.length n)))) := by
  unfold nodeE fieldsB
  rw [name_is, type_is, lab_is, args_is h1 h16]
  cases tName a.kind a.name <;> cases tType a.kind a.type <;> cases tLab a.kind a.labels <;> cases numOk a.kind a.num <;> simp
/-- all nodes have the form of their kinds -/
theorem formE_pre : ∀ (t : Te) (d : Nat), t.formE = (t.pre d).all fun p => nodeE p.2.top p.2.kids.length := by
  refine Tr.ind ?_
  intro a ks ih d
  rw [formE_node, pre_node, List.all_cons, Bool.and_comm]
  congr 1
  have h : ∀ (ts : List Te), (∀ t ∈ ts, t ∈ ks) → ts.all Tr.formE = (preL (d + 1) ts).all fun p => nodeE p.2.top p.2.kids.length := by
    intro ts
    induction ts with
    | nil => intro _; rfl
    | cons t ts iht =>
      intro hm
      rw [preL_cons, List.all_append, List.all_cons, ih t (hm t (by simp)) (d + 1), iht (fun x hx => hm x (by simp [hx]))]
  exact h ks fun _ h => h
end Go.Proofs.YtkchjinfjggoeaaGreatDoor

/-
  Two trees walked side by side, each pair of nodes before those below. Hangs on no program.
-/
namespace Go.Proofs.YtkchjinfjggoeaaGreatDoor
open Go.RowKit

section
variable {α : Type}
def pre2 : Tr α → Tr α → List (Tr α × Tr α)
  | .node a ks, y => (.node a ks, y) :: ((ks.attach.zip y.kids).map fun ⟨⟨t, _⟩, u⟩ => pre2 t u).flatten
def pairL (ts us : List (Tr α)) : List (Tr α × Tr α) := ((ts.zip us).map fun p => pre2 p.1 p.2).flatten
theorem pre2_top (x y : Tr α) : pre2 x y = (x, y) :: pairL x.kids y.kids := by
  cases x with
  | node a ks =>
    rw [pre2]
    unfold pairL
    congr 2
    show _ = (ks.zip y.kids).map _
    conv => rhs; rw [← List.attach_map_subtype_val ks]
    rw [List.zip_map_left, List.map_map]
    rfl
theorem pairL_nil (us : List (Tr α)) : pairL ([] : List (Tr α)) us = [] := rfl
theorem pairL_cons (t u : Tr α) (ts us : List (Tr α)) : pairL (t :: ts) (u :: us) = pre2 t u ++ pairL ts us := rfl
theorem pairL_one (t u : Tr α) : pairL [t] [u] = pre2 t u := by rw [pairL_cons, pairL_nil, List.append_nil]
/-- pairs of lists that are yet to be walked, the next pair first, each list with its slice -/
abbrev NPStk (α : Type) := List ((List (Tr α) × Value) × (List (Tr α) × Value))
def pairS (S : NPStk α) : List (Tr α × Tr α) := (S.map fun p => pairL p.1.1 p.2.1).flatten
theorem pairS_cons (p : (List (Tr α) × Value) × (List (Tr α) × Value)) (S : NPStk α) : pairS (p :: S) = pairL p.1.1 p.2.1 ++ pairS S := rfl
theorem pairS_step (x y : Tr α) (xs ys : List (Tr α)) (s t : Value) (S : NPStk α) : pairS (((x :: xs, s), (y :: ys, t)) :: S) = (x, y) :: (pairL x.kids y.kids ++ (pairL xs ys ++ pairS S)) := by
  rw [pairS_cons, pairL_cons, pre2_top]
  simp
theorem pre2_pos (x y : Tr α) : 0 < (pre2 x y).length := by rw [pre2_top]; simp
theorem pairS_len (S : NPStk α) (h : ∀ p ∈ S, 0 < p.1.1.length ∧ p.1.1.length = p.2.1.length) : S.length ≤ (pairS S).length := by
  induction S with
  | nil => simp
  | cons p S ih =>
    have := ih fun q hq => h q (List.mem_cons_of_mem _ hq)
    obtain ⟨h1, h2⟩ := h p (List.mem_cons_self ..)
    rw [pairS_cons, List.length_append, List.length_cons]
    obtain ⟨⟨ts, s⟩, ⟨us, t⟩⟩ := p
    match ts, us, h1, h2 with
    | t1 :: ts, u1 :: us, _, _ =>
      rw [show pairL (((t1 :: ts, s), (u1 :: us, t)) : (List (Tr α) × Value) × (List (Tr α) × Value)).1.1 (((t1 :: ts, s), (u1 :: us, t)) : (List (Tr α) × Value) × (List (Tr α) × Value)).2.1 = pre2 t1 u1 ++ pairL ts us from rfl, List.length_append]
      have := pre2_pos t1 u1
      omega
theorem pre2_len : ∀ (x y : Tr α) (d : Nat), (pre2 x y).length ≤ (x.pre d).length := by
  refine Tr.ind ?_
  intro a ks ih y d
  rw [pre2_top, pre_node, List.length_cons, List.length_cons]
  have h : ∀ (ts us : List (Tr α)), (∀ t ∈ ts, t ∈ ks) → (pairL ts us).length ≤ (preL (d + 1) ts).length := by
    intro ts
    induction ts with
    | nil => intro us _; simp [pairL]
    | cons t ts iht =>
      intro us hm
      cases us with
      | nil => simp [pairL]
      | cons u us =>
        have h1 := ih t (hm t (by simp)) u (d + 1)
        have h2 := iht us fun x hx => hm x (by simp [hx])
        rw [pairL_cons, preL_cons, List.length_append, List.length_append]
        omega
  have := h ks y.kids fun t ht => ht
  show (pairL ks y.kids).length + 1 ≤ _
  omega
/-- the trees are the same exactly if the nodes of all pairs are -/
theorem pre2_same : ∀ x y : Tr α, x = y ↔ ∀ p ∈ pre2 x y, p.1.top = p.2.top ∧ p.1.kids.length = p.2.kids.length := by
  refine Tr.ind ?_
  intro a ks ih y
  cases y with
  | node b ls =>
  rw [pre2_top]
  show _ ↔ ∀ p ∈ (Tr.node a ks, Tr.node b ls) :: pairL ks ls, _
  have h : ∀ (ts us : List (Tr α)), (∀ t ∈ ts, t ∈ ks) → ts.length = us.length → (ts = us ↔ ∀ p ∈ pairL ts us, p.1.top = p.2.top ∧ p.1.kids.length = p.2.kids.length) := by
    intro ts
    induction ts with
    | nil =>
      intro us _ hl
      have : us = [] := List.eq_nil_of_length_eq_zero hl.symm
      subst this
      simp [pairL]
    | cons t ts iht =>
      intro us hm hl
      cases us with
      | nil => simp at hl
      | cons u us =>
        have h1 := ih t (hm t (by simp)) u
        have h2 := iht us (fun x hx => hm x (by simp [hx])) (by simpa using hl)
        rw [pairL_cons, List.cons.injEq, h1, h2]
        simp only [List.mem_append]
        constructor
        · rintro ⟨k1, k2⟩ p (hp | hp)
          · exact k1 p hp
          · exact k2 p hp
        · intro k
          exact ⟨fun p hp => k p (.inl hp), fun p hp => k p (.inr hp)⟩
  constructor
  · intro e
    injection e with e1 e2
    subst e1 e2
    intro p hp
    rcases List.mem_cons.1 hp with rfl | hp
    · exact ⟨rfl, rfl⟩
    · exact (h ks ks (fun _ h => h) rfl).1 rfl p hp
  · intro k
    obtain ⟨k1, k2⟩ := k _ (List.mem_cons_self ..)
    have k1 : a = b := k1
    have k2 : ks.length = ls.length := k2
    have := (h ks ls (fun _ h => h) k2).2 fun p hp => k p (List.mem_cons_of_mem _ hp)
    rw [k1, this]
end
end Go.Proofs.YtkchjinfjggoeaaGreatDoor

/-
  What the iterator over pairs of nodes keeps. Hangs on no program.
-/
namespace Go.Proofs.YtkchjinfjggoeaaGreatDoor
open Go.RowKit

section
variable {α : Type}
/-- what is known of the k-th pair that the iterator gives -/
def PRdN (R : Tr α → List Value → Prop) (a b : Tr α) (k : Nat) (v : Array Value) : Prop :=
  ∃ (x y : Tr α) (cs ds : List Value), (pre2 a b)[k]? = some (x, y) ∧ v = #[.agg cs.toArray, .agg ds.toArray] ∧ R x cs ∧ R y ds
theorem PRdN.size {R : Tr α → List Value → Prop} {a b : Tr α} {k : Nat} {v : Array Value} (h : PRdN R a b k v) : v.size = 2 := by
  obtain ⟨x, y, cs, ds, _, rfl, _⟩ := h
  rfl
/-- the walk goes on behind the k-th pair only where the numbers of parts are equal -/
def POn (a b : Tr α) (k : Nat) : Prop := ∀ x y, (pre2 a b)[k]? = some (x, y) → x.kids.length = y.kids.length
def rowPN (S : NPStk α) : List Value := S.reverse.flatMap fun p => [p.1.2, p.2.2]
theorem rowPN_cons (p : (List (Tr α) × Value) × (List (Tr α) × Value)) (S : NPStk α) : rowPN (p :: S) = rowPN S ++ [p.1.2, p.2.2] := by simp [rowPN]
theorem rowPN_len (S : NPStk α) : (rowPN S).length = S.length * 2 := by
  induction S with
  | nil => rfl
  | cons p S ih => rw [rowPN_cons, List.length_append, ih]; simp; omega
def PAllN (R : Tr α → List Value → Prop) (m : Nat) (W : World) (K : Nat → Prop) (S : NPStk α) : Prop := ∀ p ∈ S, NList R m W K p.1.1 p.1.2 ∧ NList R m W K p.2.1 p.2.2 ∧ p.1.1.length = p.2.1.length
def PSt (R : Tr α → List Value → Prop) (m : Nat) (W : World) (K : Nat → Prop) (ty : TypeId) (B : Nat) (J : Nat → (Nat → Prop) → World → Prop) (S : NPStk α) (k : Nat) (v : Value) (wr : World) : Prop :=
  PAllN R m W K S ∧ wr.ownsRow B ty 2 v S.length (rowPN S) ∧ Held K W wr ∧ ∃ F, J k F wr ∧ (∀ g, v.ownBlock = some g → ¬ F g) ∧ ∀ b, F b → ¬ K b
def PInvN (R : Tr α → List Value → Prop) (m : Nat) (W : World) (K : Nat → Prop) (a b : Tr α) (ty : TypeId) (B : Nat) (J : Nat → (Nat → Prop) → World → Prop) (S : NPStk α) (k : Nat) (v : Value) (wr : World) : Prop :=
  k ≤ (pre2 a b).length ∧ pairS S = (pre2 a b).drop k ∧ PSt R m W K ty B J S k v wr
theorem PAllN.len {R : Tr α → List Value → Prop} {m : Nat} {W : World} {K : Nat → Prop} {S : NPStk α} (h : PAllN R m W K S) : S.length ≤ (pairS S).length :=
  pairS_len S fun p hp => by
    obtain ⟨⟨_, _, _, _, _, h0, _⟩, _, h2⟩ := h p hp
    exact ⟨h0, h2⟩
section
variable {R : Tr α → List Value → Prop} {m : Nat} {W : World} {K : Nat → Prop} {ty : TypeId} {B : Nat} {J : Nat → (Nat → Prop) → World → Prop} {S : NPStk α} {k : Nat} {v : Value} {wr w' : World}
theorem PSt.under {sz : Nat} (h : PSt R m W K ty B J S k v wr) (hJ : ∀ k F A C, J k F A → Held (fun i => i < sz ∨ F i) A C → J k F C) (hb : Below wr.heap.size wr w') : PSt R m W K ty B J S k v w' := by
  obtain ⟨h1, h2, h3, F, h4, h5, h6⟩ := h
  exact ⟨h1, own_heldN h2 (fun g hg => hb.block g (h2.lt g hg).2), h3.trans (Held.of_below hb fun i hi _ => hi), F, hJ _ _ _ _ h4 (Held.of_below hb fun i hi _ => hi), h5, h6⟩
/-- a pair of lists was put on top -/
theorem PSt.push {sz : Nat} {Keep : Nat → Prop} {wa w4 : World} {v4 : Value} {ts us : List (Tr α)} {s u : Value} (h : PSt R m W K ty B J S k v wr) (hJ : ∀ k F A C, J k F A → Held (fun i => i < sz ∨ F i) A C → J k F C)
    (hJB : ∀ k F A, J k F A → ∀ b, F b → ¬ Keep b ∧ b < A.heap.size) (hsz : sz ≤ B) (hKB : ∀ b, K b → b < B) (hl : NList R m W K ts s) (hl' : NList R m W K us u) (hlen : ts.length = us.length) (hb : Below wr.heap.size wr wa)
    (ho : w4.ownsRow B ty 2 v4 (S.length + 1) (rowPN S ++ [s, u])) (hg : wa.grownBy w4 v.ownBlock) (hor : v4.ownBlock = v.ownBlock ∨ ∃ q, v4.ownBlock = some q ∧ wr.heap.size ≤ q) : PSt R m W K ty B J (((ts, s), (us, u)) :: S) k v4 w4 := by
  obtain ⟨h1, h2, h3, F, h4, h5, h6⟩ := h
  have hgn : ∀ q, v.ownBlock = some q → ¬ (q < B) := fun q hq => by have := (h2.lt q hq).1; omega
  refine ⟨fun p hp => ?_, by rw [rowPN_cons]; exact ho, (h3.trans (Held.of_below hb fun i hi _ => hi)).trans (Held.grown hg fun q hq hk => hgn q hq (hKB q hk)), F, hJ _ _ _ _ h4 ((Held.of_below hb fun i hi _ => hi).trans (Held.grown hg fun q hq hk => ?_)), fun q hq hF => ?_, h6⟩
  · rcases List.mem_cons.1 hp with rfl | hp
    · exact ⟨hl, hl', hlen⟩
    · exact h1 p hp
  · rcases hk with hk | hk
    · exact hgn q hq (by omega)
    · exact h5 q hq hk
  · rcases hor with e | ⟨q', e, hq'⟩
    · exact h5 q (by rw [← e]; exact hq) hF
    · rw [e] at hq
      injection hq with hq
      have := (hJB _ _ _ h4 q hF).2
      omega
end
end
/-- a region that comes to one frame but for two numbers -/
def framePost2 {β γ : Type} (A : β → γ → Act) (R : β → γ → World → Prop) : Exit → Act → World → Prop
  | .normal, a', w' => ∃ x y, a' = A x y ∧ R x y w'
  | .ret, _, _ => False
  | .exit _, _, _ => False
  | .goto _, _, _ => False
  | .panic _, _, _ => False
  | .outgrown, _, _ => False
theorem frame_normal2 {β γ : Type} {A : β → γ → Act} {R : β → γ → World → Prop} (x : β) (y : γ) {w : World} (h : R x y w) : framePost2 A R .normal (A x y) w := ⟨x, y, rfl, h⟩
theorem wpIn_frame2 {β γ : Type} {F : Fence} {n : Nat} {P : Program} {c : Code} {Q : Exit → Act → World → Prop} {a : Act} {w : World} (A : β → γ → Act) (R : β → γ → World → Prop)
    (h : c.wpIn F n P (framePost2 A R) a w) (hq : ∀ x y w', R x y w' → Q .normal (A x y) w') : c.wpIn F n P Q a w :=
  wpIn_mono h (by
    rintro e a' w' hr
    cases e with
    | normal => obtain ⟨x, y, rfl, hr⟩ := hr; exact hq x y w' hr
    | ret => exact hr.elim
    | exit _ => exact hr.elim
    | goto _ => exact hr.elim
    | panic _ => exact hr.elim
    | outgrown => exact hr.elim)
/-- an append onto a row of the call's own, as a step of a region that draws its order -/
theorem step_append_v {P : Program} {ops : Array Oper} {o : Oper} {a : Act} {w : World} {K : Act → World → Prop} {Q : Exit → Act → World → Prop} {E : Prop} (hgd : o.guard = none) (s x : Operand) (t : TypeId)
    (ho : o.op = .call { callee := .builtin .append, args := #[s, x], argTypes := #[t, t] })
    (base : Nat) (e : TypeId) (i : TypeInfo) (z : Value) (size bytes : Nat) (ht : P.underlying t = some (.slice e)) (hi : P.info? e = some i) (hz : i.zero = some z) (hsize : i.size = size) (hby : i.bytes = bytes) (hzs : z.cells.size = size) (hsz : 0 < size)
    (v : Value) (n : Nat) (xs : List Value) (hs : a.eval s = v) (hown : w.ownsRow base e size v n xs) (ad : Addr) (m c : Nat) (news : List Value) (hx : a.eval x = .slice (some ad) m c) (hl : news.length = m * size)
    (hnews : ∀ j u, news[j]? = some u → w.cell? (ad.add j) = some u) (h1 : ∀ u ∈ news, u.oneCell' = true) (h63 : n + m ≤ maxLen) (hbytes : (n + m) * bytes ≤ 140737488355328) (hbase : base ≤ w.heap.size)
    (h : ∀ v4 w4, w4.ownsRow base e size v4 (n + m) (xs ++ news) → w.grownBy w4 v.ownBlock → (v4.ownBlock = v.ownBlock ∨ v4.ownBlock = some w.heap.size) → K (a.put o.dst v4) w4) :
    if Region.wanted o (yielded ops a.tmps) = true then Oper.wp P o a w K Q else E := by
  obtain ⟨v', w', hr, h2, h3, _, h4⟩ := run_append_own_at (P := P) w base t o.type e i z size bytes ht hi hz hsize hby hzs hsz v n xs hown ad m c news hl hnews h1 h63 hbytes hbase
  have hw : Region.wanted o (yielded ops a.tmps) = true := by simp [Region.wanted, hgd]
  rw [if_pos hw]
  exact Lib.wp_append_run w s x t t ho _ _ hs hx _ w' hr (h v' w' h2 h3 h4)
end Go.Proofs.YtkchjinfjggoeaaGreatDoor
