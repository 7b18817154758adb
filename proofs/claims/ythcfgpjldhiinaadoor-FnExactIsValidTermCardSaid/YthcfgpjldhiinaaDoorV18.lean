/-
  Merged by program: TySame, Pre, PreD, TnB.
-/
import Derived.Test.YthcfgpjldhiinaaDoorV10
import Derived.Lib.SlicesS
import Derived.StillTailTactics
import Derived.Test.YthcfgpjldhiinaaDoorV1
import Derived.Test.YthcfgpjldhiinaaDoorV3
import Derived.Test.YthcfgpjldhiinaaDoorV17

/-
  The model's EqualType: it says whether the two trees are one.
-/
namespace Go.Proofs.YthcfgpjldhiinaaDoor
open Go.RowKit

/-- are the two one? -/
noncomputable def same {β : Type} (x y : β) : Bool := @decide (x = y) (Classical.propDecidable _)
theorem same_yes {β : Type} {x y : β} (h : x = y) : same x y = true := by unfold same; simp [h]
theorem same_no {β : Type} {x y : β} (h : x ≠ y) : same x y = false := by unfold same; simp [h]

def EqTo {β : Type} (xs ys : List β) (k : Nat) : Prop := ∀ j, j < k → xs[j]? = ys[j]?
theorem eqTo_zero {β : Type} (xs ys : List β) : EqTo xs ys 0 := fun j h => by omega
theorem eqTo_succ {β : Type} {xs ys : List β} {k : Nat} (h : EqTo xs ys k) (h1 : k < xs.length) (h2 : k < ys.length) (he : xs[k] = ys[k]) : EqTo xs ys (k + 1) := by
  intro j hj
  by_cases e : j = k
  · subst e
    rw [List.getElem?_eq_getElem h1, List.getElem?_eq_getElem h2, he]
  · exact h j (by omega)
theorem eqTo_all {β : Type} {xs ys : List β} (h : EqTo xs ys xs.length) (hl : xs.length = ys.length) : xs = ys := by
  apply List.ext_getElem?
  intro j
  by_cases hj : j < xs.length
  · exact h j hj
  · rw [List.getElem?_eq_none (by omega), List.getElem?_eq_none (by omega)]
theorem ne_at {β : Type} {xs ys : List β} {k : Nat} (h1 : k < xs.length) (h2 : k < ys.length) (he : xs[k] ≠ ys[k]) : xs ≠ ys := by
  rintro rfl
  exact he rfl

theorem ty_ne {a b : TyA} {ks js : List Ty} (h : a.kind ≠ b.kind ∨ a.labels ≠ b.labels ∨ ks ≠ js) : same (Tr.node a ks) (Tr.node b js) = false := by
  apply same_no
  intro e
  injection e with e1 e2
  subst e1
  subst e2
  rcases h with h | h | h <;> exact h rfl
theorem ty_eq {a b : TyA} {ks js : List Ty} (h1 : a.kind = b.kind) (h2 : a.labels = b.labels) (h3 : ks = js) : same (Tr.node a ks) (Tr.node b js) = true := by
  apply same_yes
  obtain ⟨k, l⟩ := a
  obtain ⟨k', l'⟩ := b
  simp only at h1 h2
  rw [h1, h2, h3]
theorem same_iff {β : Type} {x y : β} : same x y = true ↔ x = y := by unfold same; simp
theorem same_iff_no {β : Type} {x y : β} : same x y = false ↔ x ≠ y := by unfold same; simp

end Go.Proofs.YthcfgpjldhiinaaDoor

/-
  Trees in the order in which a node stands before those below it. Hangs on no program.
-/
namespace Go.Proofs.YthcfgpjldhiinaaDoor
open Go.RowKit

section
variable {α : Type}
/-- the nodes with their depths, each before those below -/
def Tr.pre : Tr α → Nat → List (Nat × Tr α)
  | .node a ks, d => (d, .node a ks) :: (ks.attach.map fun ⟨t, _⟩ => t.pre (d + 1)).flatten
def preL (d : Nat) (ts : List (Tr α)) : List (Nat × Tr α) := (ts.map fun t => t.pre d).flatten
theorem pre_node (a : α) (ks : List (Tr α)) (d : Nat) : (Tr.node a ks).pre d = (d, .node a ks) :: preL (d + 1) ks := by
  rw [Tr.pre]
  unfold preL
  congr 2
  exact List.attach_map_val (l := ks) (f := fun t => t.pre (d + 1)) ▸ rfl
theorem pre_top (t : Tr α) (d : Nat) : t.pre d = (d, t) :: preL (d + 1) t.kids := by
  cases t with
  | node a ks => exact pre_node a ks d
theorem preL_nil (d : Nat) : preL d ([] : List (Tr α)) = [] := rfl
theorem preL_cons (d : Nat) (t : Tr α) (ts : List (Tr α)) : preL d (t :: ts) = t.pre d ++ preL d ts := rfl
theorem preL_one (d : Nat) (t : Tr α) : preL d [t] = t.pre d := by rw [preL_cons, preL_nil, List.append_nil]
/-- lists that are yet to be walked, the next one first, with the slice in which each lies and the depth -/
abbrev NStk (α : Type) := List (List (Tr α) × Value × Nat)
def preS (S : NStk α) : List (Nat × Tr α) := (S.map fun p => preL p.2.2 p.1).flatten
theorem preS_cons (p : List (Tr α) × Value × Nat) (S : NStk α) : preS (p :: S) = preL p.2.2 p.1 ++ preS S := rfl
theorem preS_step (x : Tr α) (xs : List (Tr α)) (s : Value) (d : Nat) (S : NStk α) : preS ((x :: xs, s, d) :: S) = (d, x) :: (preL (d + 1) x.kids ++ (preL d xs ++ preS S)) := by
  rw [preS_cons, preL_cons, pre_top]
  simp
theorem pre_pos (t : Tr α) (d : Nat) : 0 < (t.pre d).length := by rw [pre_top]; simp
theorem preL_len (d : Nat) : ∀ ts : List (Tr α), ts.length ≤ (preL d ts).length
  | [] => Nat.le_refl _
  | t :: ts => by
    have := preL_len d ts
    have := pre_pos t d
    rw [preL_cons, List.length_append, List.length_cons]
    omega
theorem preS_len (S : NStk α) (h : ∀ p ∈ S, 0 < p.1.length) : S.length ≤ (preS S).length := by
  induction S with
  | nil => simp
  | cons p S ih =>
    have := ih fun q hq => h q (List.mem_cons_of_mem _ hq)
    have := h p (List.mem_cons_self ..)
    have := preL_len p.2.2 p.1
    rw [preS_cons, List.length_append, List.length_cons]
    omega
/-- what a sum over the tree is -/
theorem pre_sum (f : α → Nat) : ∀ (t : Tr α) (d : Nat), ((t.pre d).map fun p => f p.2.top).sum = t.sum f := by
  refine Tr.ind ?_
  intro a ks ih d
  rw [pre_node, Tr.sum_node, List.map_cons, List.sum_cons]
  congr 1
  have h : ∀ ts : List (Tr α), (∀ t ∈ ts, t ∈ ks) → ((preL (d + 1) ts).map fun p => f p.2.top).sum = (ts.map (Tr.sum f)).sum := by
    intro ts
    induction ts with
    | nil => intro _; rfl
    | cons t ts iht =>
      intro hm
      rw [preL_cons, List.map_append, List.sum_append, iht (fun x hx => hm x (by simp [hx])), ih t (hm t (by simp)) (d + 1), List.map_cons, List.sum_cons]
  exact h ks fun _ h => h
theorem pre_len (t : Tr α) (d : Nat) : (t.pre d).length = t.sum fun _ => 1 := by
  rw [← pre_sum (fun _ => 1) t d, List.map_const', List.sum_replicate_nat]
  simp
end
end Go.Proofs.YthcfgpjldhiinaaDoor

/-
  The depth of a tree is the greatest of those of its nodes.
-/
namespace Go.Proofs.YthcfgpjldhiinaaDoor
open Go.RowKit

section
variable {α : Type}
theorem le_foldl_max : ∀ (xs : List Nat) (a : Nat), a ≤ xs.foldl max a ∧ ∀ x ∈ xs, x ≤ xs.foldl max a
  | [], a => ⟨Nat.le_refl _, fun x h => by cases h⟩
  | y :: xs, a => by
    have ⟨h1, h2⟩ := le_foldl_max xs (max a y)
    refine ⟨Nat.le_trans (Nat.le_max_left _ _) h1, fun x hx => ?_⟩
    rcases List.mem_cons.1 hx with rfl | hx
    · exact Nat.le_trans (Nat.le_max_right _ _) h1
    · exact h2 x hx
theorem foldl_max_is : ∀ (xs : List Nat) (a : Nat), xs.foldl max a = a ∨ ∃ x ∈ xs, xs.foldl max a = x
  | [], a => .inl rfl
  | y :: xs, a => by
    rcases foldl_max_is xs (max a y) with h | ⟨x, hx, h⟩
    · rw [List.foldl_cons, h]
      rcases Nat.le_total a y with k | k
      · exact .inr ⟨y, by simp, Nat.max_eq_right k⟩
      · exact .inl (Nat.max_eq_left k)
    · exact .inr ⟨x, List.mem_cons_of_mem _ hx, h⟩
theorem deep_pos (t : Tr α) : 1 ≤ t.deep := by
  cases t with
  | node a ks => rw [deep_node]; omega
theorem pre_deep : ∀ (t : Tr α) (d : Nat), (∀ p ∈ t.pre d, d ≤ p.1 ∧ p.1 + 1 ≤ d + t.deep) ∧ ∃ p ∈ t.pre d, p.1 + 1 = d + t.deep := by
  refine Tr.ind ?_
  intro a ks ih d
  rw [pre_node, deep_node]
  constructor
  · intro p hp
    rcases List.mem_cons.1 hp with rfl | hp
    · exact ⟨Nat.le_refl _, by show d + 1 ≤ _; omega⟩
    · unfold preL at hp
      obtain ⟨l, hl, hp⟩ := List.mem_flatten.1 hp
      obtain ⟨t, ht, rfl⟩ := List.mem_map.1 hl
      have h1 := (ih t ht (d + 1)).1 p hp
      have h2 := (le_foldl_max (ks.map Tr.deep) 0).2 t.deep (List.mem_map_of_mem ht)
      omega
  · rcases foldl_max_is (ks.map Tr.deep) 0 with h | ⟨x, hx, h⟩
    · refine ⟨(d, .node a ks), List.mem_cons_self .., ?_⟩
      show d + 1 = _
      omega
    · obtain ⟨t, ht, rfl⟩ := List.mem_map.1 hx
      obtain ⟨p, hp, e⟩ := (ih t ht (d + 1)).2
      refine ⟨p, List.mem_cons_of_mem _ ?_, by omega⟩
      unfold preL
      exact List.mem_flatten.2 ⟨_, List.mem_map_of_mem ht, hp⟩
theorem deep_le_sizeN (t : Tr α) : t.deep ≤ t.size := by
  have h2 : ∀ (t : Tr α), t.deep ≤ t.size := by
    refine Tr.ind ?_
    intro a ks ih
    rw [deep_node]
    have e : (Tr.node a ks).size = 1 + (ks.map Tr.size).sum := Tr.sum_node _ a ks
    rw [e]
    have := foldl_max_le (m := (ks.map Tr.size).sum) (ks.map Tr.deep) 0 (Nat.zero_le _) (by
      intro x hx
      obtain ⟨t, ht, rfl⟩ := List.mem_map.1 hx
      exact Nat.le_trans (ih t ht) (kid_sum_le Tr.size ht))
    omega
  exact h2 t
/-- the greatest depth among the first k nodes -/
def topTo (t : Tr α) (k : Nat) : Nat := (((t.pre 1).take k).map Prod.fst).foldl max 0
theorem topTo_zero (t : Tr α) : topTo t 0 = 0 := rfl
theorem topTo_succ (t : Tr α) {k : Nat} {p : Nat × Tr α} (h : (t.pre 1)[k]? = some p) : topTo t (k + 1) = max (topTo t k) p.1 := by
  unfold topTo
  rw [List.take_add_one, h, List.map_append, List.foldl_append]
  rfl
theorem topTo_le (t : Tr α) (k : Nat) : topTo t k ≤ t.deep := by
  unfold topTo
  refine foldl_max_le _ _ (Nat.zero_le _) fun x hx => ?_
  obtain ⟨p, hp, rfl⟩ := List.mem_map.1 hx
  have := ((pre_deep t 1).1 p (List.mem_of_mem_take hp)).2
  omega
theorem topTo_all (t : Tr α) : topTo t (t.pre 1).length = t.deep := by
  have h1 := topTo_le t (t.pre 1).length
  obtain ⟨p, hp, e⟩ := (pre_deep t 1).2
  have h2 : p.1 ≤ topTo t (t.pre 1).length := by
    unfold topTo
    rw [List.take_length]
    exact (le_foldl_max _ 0).2 _ (List.mem_map_of_mem hp)
  omega
end
end Go.Proofs.YthcfgpjldhiinaaDoor

/-
  What the program asks of a term's node, field by field, is what the model asks. Hangs on no program.
-/
namespace Go.Proofs.YthcfgpjldhiinaaDoor
open Go.RowKit

def zeroTy : Ty := .node ⟨0, []⟩ []
def arTab : List Int := [0, 0, 0, 0, 0, 0, 1, 0, 1, 2, 2, 3, 0, 1, 2, 1, 1]
def tName (p : Int) (s : ByteArray) : Bool := if nmB p then nameB s else if p = 4 then decide (0 < arB s) else (s.toList == [])
noncomputable def tType (p : Int) (t : Ty) : Bool := if tyB p then validB t else same t zeroTy
def tLab (p : Int) (ls : List ByteArray) : Bool := if p = 5 then labB ls else decide (ls.length = 0)
def tArgs (p : Int) (s : ByteArray) (l n : Nat) : Bool := if p = 4 then decide ((n : Int) = arB s) else if p = 5 then decide ((n : Int) = (l : Int)) else decide ((n : Int) = arTab.getD p.toNat 0)
theorem nmB_4 : nmB 4 = false := by decide
theorem nameB_empty {s : ByteArray} (h : s.toList = []) : nameB s = false := by
  have h0 : s.size = 0 := by
    have e : s.toList.length = s.size := by rw [ByteArray.toList_eq, Array.length_toList]; rfl
    rw [← e, h]
    rfl
  unfold nameB
  rw [decide_eq_false (p := 1 ≤ s.size) (by omega), Bool.false_and, Bool.and_false]
theorem name_is (p : Int) (s : ByteArray) : nameOk p (arB s) (nameB s) (s.toList == []) = tName p s := by
  unfold nameOk tName
  by_cases h4 : p = 4
  · subst h4
    rw [if_pos rfl, nmB_4, if_pos rfl]
    have := arB_le s
    by_cases h : arB s = 0
    · rw [h]; rfl
    · rw [decide_eq_false h, decide_eq_true (by omega)]
      rfl
  · rw [if_neg h4]
    cases hn : nmB p with
    | true => cases nameB s <;> rfl
    | false =>
      rw [if_neg (by simp), if_neg h4]
      by_cases he : s.toList = []
      · rw [nameB_empty he]
        simp
      · have : (s.toList == []) = false := by simpa using he
        rw [this]
        simp
theorem zero_valid : validB zeroTy = false := by
  unfold validB zeroTy
  have : Tr.form (.node ⟨0, []⟩ [] : Ty) = false := by rw [form_node]; rfl
  rw [this]
  simp
theorem same_zero (t : Ty) : same t zeroTy = (decide (t.top.kind = 0) && (decide (t.top.labels.length = 0) && decide (t.kids.length = 0))) := by
  cases t with
  | node a ks =>
    show same (Tr.node a ks) zeroTy = (decide (a.kind = 0) && (decide (a.labels.length = 0) && decide (ks.length = 0)))
    by_cases h : a.kind = 0 ∧ a.labels.length = 0 ∧ ks.length = 0
    · obtain ⟨h1, h2, h3⟩ := h
      rw [decide_eq_true h1, decide_eq_true h2, decide_eq_true h3]
      exact ty_eq h1 (List.eq_nil_of_length_eq_zero h2) (List.eq_nil_of_length_eq_zero h3)
    · have hr : (decide (a.kind = 0) && (decide (a.labels.length = 0) && decide (ks.length = 0))) = false := by
        rw [Bool.eq_false_iff]
        intro e
        simp only [Bool.and_eq_true, decide_eq_true_eq] at e
        exact h e
      rw [hr]
      refine same_no fun e => h ?_
      unfold zeroTy at e
      injection e with e1 e2
      rw [e1, e2]
      exact ⟨rfl, rfl, rfl⟩
theorem type_is (p : Int) (t : Ty) : typeOk p (validB t) t.top.kind t.top.labels.length t.kids.length = tType p t := by
  unfold typeOk tType
  cases ht : tyB p with
  | true => cases validB t <;> rfl
  | false =>
    rw [if_neg (by simp), ← same_zero]
    by_cases h : t = zeroTy
    · rw [h, zero_valid, same_yes rfl]; rfl
    · rw [same_no h]; simp
theorem lab_is (p : Int) (ls : List ByteArray) : labOk p (labB ls) ls.length = tLab p ls := rfl
theorem args_is {p : Int} (h1 : 1 ≤ p) (h16 : p ≤ 16) (s : ByteArray) (l n : Nat) : decide ((n : Int) = arN p s l) = tArgs p s l n := by
  have h : p = 1 ∨ p = 2 ∨ p = 3 ∨ p = 4 ∨ p = 5 ∨ p = 6 ∨ p = 7 ∨ p = 8 ∨ p = 9 ∨ p = 10 ∨ p = 11 ∨ p = 12 ∨ p = 13 ∨ p = 14 ∨ p = 15 ∨ p = 16 := by omega
  rcases h with h | h | h | h | h | h | h | h | h | h | h | h | h | h | h | h <;> (subst h; rfl)
theorem arN_out {p : Int} (h : p < 1 ∨ 16 < p) (s : ByteArray) (l : Nat) : arN p s l = -1 := by
  unfold arN
  rw [if_neg (by omega), if_neg (by omega), if_neg (by omega), if_neg (by omega), if_neg (by omega), if_neg (by omega)]
theorem node_out {a : TeA} {n : Nat} (h : a.kind < 1 ∨ 16 < a.kind) : nodeE a n = false := by
  unfold nodeE
  rw [arN_out h, decide_eq_false (by omega), Bool.and_false]
theorem node_is {a : TeA} {n : Nat} (h1 : 1 ≤ a.kind) (h16 : a.kind ≤ 16) : nodeE a n = (tName a.kind a.name && (numOk a.kind a.num && (tType a.kind a.type && (tLab a.kind a.labels && tArgs a.kind a.name a.labels.length n)))) := by
  unfold nodeE fieldsB
  rw [name_is, type_is, lab_is, args_is h1 h16]
  cases tName a.kind a.name <;> cases tType a.kind a.type <;> cases tLab a.kind a.labels <;> cases numOk a.kind a.num <;> simp
/-- all nodes have the form of their kinds -/
theorem formE_pre : ∀ (t : Te) (d : Nat), t.formE = (t.pre d).all fun p => nodeE p.2.top p.2.kids.length := by
  refine Tr.ind ?_
  intro a ks ih d
  rw [formE_node, pre_node, List.all_cons, Bool.and_comm]
  congr 1
  have h : ∀ (ts : List Te), (∀ t ∈ ts, t ∈ ks) → ts.all Tr.formE = (preL (d + 1) ts).all fun p => nodeE p.2.top p.2.kids.length := by
    intro ts
    induction ts with
    | nil => intro _; rfl
    | cons t ts iht =>
      intro hm
      rw [preL_cons, List.all_append, List.all_cons, ih t (hm t (by simp)) (d + 1), iht (fun x hx => hm x (by simp [hx]))]
  exact h ks fun _ h => h
end Go.Proofs.YthcfgpjldhiinaaDoor
