/-
  Merged by program: CmpD, HasD, DbD, TabS.
-/
import Derived.Test.YtlcpekpgkllbkaaR23
import Derived.Test.YtlcpekpgkllbkaaR7
import Derived.Test.YtlcpekpgkllbkaaR22
import Derived.Test.YtlcpekpgkllbkaaR8
import Derived.Test.YtlcpekpgkllbkaaR13

/-
  The order of values: kinds, numbers, how many parts, labels, then the parts. It is an order, and none but equal values compare as equal. Plain lists and trees.
-/
namespace Go.Proofs.Ytlcpekpgkllbkaa

/-- the first answer that is not 0 -/
def orC (a b : Int) : Int := if a = 0 then b else a
def numC (a b : Int) : Int := if a < b then -1 else if b < a then 1 else 0
def ltB (x y : ByteArray) : Bool := Op.bytesLess x.toList y.toList
def strC (x y : ByteArray) : Int := if ltB x y = true then -1 else if ltB y x = true then 1 else 0
section
variable {α β : Type}
def lexC (c : α → α → Int) : List α → List α → Int
  | [], [] => 0
  | [], _ :: _ => -1
  | _ :: _, [] => 1
  | x :: xs, y :: ys => orC (c x y) (lexC c xs ys)
def pairC (c : α → α → Int) (d : β → β → Int) (p q : α × β) : Int := orC (c p.1 q.1) (d p.2 q.2)
structure Ord (c : α → α → Int) : Prop where
  zero : ∀ x y, c x y = 0 ↔ x = y
  neg : ∀ x y, c y x = - c x y
  trans : ∀ x y z, c x y < 0 → c y z < 0 → c x z < 0
theorem orC_zero (a b : Int) : orC a b = 0 ↔ a = 0 ∧ b = 0 := by unfold orC; split <;> simp_all
theorem orC_neg (a b : Int) : orC (-a) (-b) = - orC a b := by
  unfold orC
  by_cases h : a = 0
  · simp [h]
  · simp [h]
theorem orC_lt (a b : Int) : orC a b < 0 ↔ a < 0 ∨ (a = 0 ∧ b < 0) := by unfold orC; split <;> omega
theorem Ord.pair {c : α → α → Int} {d : β → β → Int} (hc : Ord c) (hd : Ord d) : Ord (pairC c d) where
  zero x y := by
    unfold pairC
    rw [orC_zero, hc.zero, hd.zero]
    exact ⟨fun h => Prod.ext h.1 h.2, fun h => by subst h; exact ⟨rfl, rfl⟩⟩
  neg x y := by
    unfold pairC
    rw [hc.neg x.1 y.1, hd.neg x.2 y.2, orC_neg]
  trans x y z h1 h2 := by
    unfold pairC at *
    rw [orC_lt] at *
    rcases h1 with h1 | ⟨h1, h1'⟩
    · rcases h2 with h2 | ⟨h2, h2'⟩
      · exact .inl (hc.trans _ _ _ h1 h2)
      · rw [← (hc.zero _ _).1 h2]; exact .inl h1
    · rw [(hc.zero _ _).1 h1]
      rcases h2 with h2 | ⟨h2, h2'⟩
      · exact .inl h2
      · exact .inr ⟨h2, hd.trans _ _ _ h1' h2'⟩
theorem Ord.numC : Ord numC where
  zero x y := by unfold Proofs.Ytlcpekpgkllbkaa.numC; split <;> (try split) <;> simp <;> omega
  neg x y := by unfold Proofs.Ytlcpekpgkllbkaa.numC; repeat' split
                all_goals omega
  trans x y z h1 h2 := by unfold Proofs.Ytlcpekpgkllbkaa.numC at *; repeat' split
                          all_goals (split at h1 <;> split at h2 <;> omega)
theorem ltB_iff (x y : ByteArray) : ltB x y = true ↔ Lt x y := lt_iff x y
theorem strC_cases (x y : ByteArray) : (Lt x y ∧ strC x y = -1) ∨ (Lt y x ∧ strC x y = 1) ∨ (x = y ∧ strC x y = 0) := by
  unfold strC
  by_cases h : ltB x y = true
  · exact .inl ⟨(ltB_iff x y).1 h, by rw [if_pos h]⟩
  · by_cases k : ltB y x = true
    · exact .inr (.inl ⟨(ltB_iff y x).1 k, by rw [if_neg h, if_pos k]⟩)
    · refine .inr (.inr ⟨Classical.byContradiction fun hne => k ((ltB_iff y x).2 (Lt.total (fun h' => h ((ltB_iff x y).2 h')) hne)), by rw [if_neg h, if_neg k]⟩)
theorem strC_lt (x y : ByteArray) : strC x y < 0 ↔ Lt x y := by
  rcases strC_cases x y with ⟨h, e⟩ | ⟨h, e⟩ | ⟨h, e⟩
  · rw [e]; exact ⟨fun _ => h, fun _ => by decide⟩
  · rw [e]; exact ⟨fun k => by omega, fun k => absurd k h.asymm⟩
  · rw [e]; subst h; exact ⟨fun k => by omega, fun k => absurd k (Lt.irrefl x)⟩
theorem Ord.strC : Ord strC where
  zero x y := by
    rcases strC_cases x y with ⟨h, e⟩ | ⟨h, e⟩ | ⟨h, e⟩
    · rw [e]; exact ⟨fun k => by omega, fun k => by subst k; exact absurd h (Lt.irrefl x)⟩
    · rw [e]; exact ⟨fun k => by omega, fun k => by subst k; exact absurd h (Lt.irrefl x)⟩
    · rw [e]; exact ⟨fun _ => h, fun _ => rfl⟩
  neg x y := by
    rcases strC_cases x y with ⟨h, e⟩ | ⟨h, e⟩ | ⟨h, e⟩ <;> rcases strC_cases y x with ⟨k, f⟩ | ⟨k, f⟩ | ⟨k, f⟩ <;> rw [e, f]
    all_goals first | rfl | exact absurd h k.asymm | (subst k; exact absurd h (Lt.irrefl _)) | (subst h; exact absurd k (Lt.irrefl _))
  trans x y z h1 h2 := by
    rw [strC_lt] at *
    exact h1.trans h2
theorem lexC_zero {c : α → α → Int} : ∀ xs ys : List α, (∀ x ∈ xs, ∀ y, c x y = 0 ↔ x = y) → (lexC c xs ys = 0 ↔ xs = ys)
  | [], [], _ => by simp [lexC]
  | [], _ :: _, _ => by simp [lexC]
  | _ :: _, [], _ => by simp [lexC]
  | x :: xs, y :: ys, h => by
    rw [lexC, orC_zero, h x (by simp), lexC_zero xs ys (fun z hz => h z (by simp [hz]))]
    simp
theorem lexC_neg {c : α → α → Int} : ∀ xs ys : List α, (∀ x ∈ xs, ∀ y, c y x = - c x y) → lexC c ys xs = - lexC c xs ys
  | [], [], _ => rfl
  | [], _ :: _, _ => rfl
  | _ :: _, [], _ => rfl
  | x :: xs, y :: ys, h => by
    rw [lexC, lexC, h x (by simp), lexC_neg xs ys (fun z hz => h z (by simp [hz])), orC_neg]
theorem lexC_trans {c : α → α → Int} (hz : ∀ x y, c x y = 0 ↔ x = y) : ∀ xs ys zs : List α, (∀ x ∈ xs, ∀ y z, c x y < 0 → c y z < 0 → c x z < 0) → lexC c xs ys < 0 → lexC c ys zs < 0 → lexC c xs zs < 0
  | [], [], zs, _, h1, h2 => h2
  | [], _ :: _, [], _, h1, h2 => by simp [lexC] at h2
  | [], _ :: _, _ :: _, _, h1, h2 => by simp [lexC]
  | _ :: _, [], _, _, h1, h2 => by simp [lexC] at h1
  | x :: xs, y :: ys, [], _, h1, h2 => by simp [lexC] at h2
  | x :: xs, y :: ys, z :: zs, h, h1, h2 => by
    rw [lexC, orC_lt] at *
    rcases h1 with h1 | ⟨h1, h1'⟩
    · rcases h2 with h2 | ⟨h2, h2'⟩
      · exact .inl (h x (by simp) _ _ h1 h2)
      · rw [← (hz _ _).1 h2]; exact .inl h1
    · rw [(hz _ _).1 h1]
      rcases h2 with h2 | ⟨h2, h2'⟩
      · exact .inl h2
      · exact .inr ⟨h2, lexC_trans hz xs ys zs (fun w hw => h w (by simp [hw])) h1' h2'⟩
theorem Ord.list {c : α → α → Int} (h : Ord c) : Ord (lexC c) where
  zero x y := lexC_zero x y fun x _ y => h.zero x y
  neg x y := lexC_neg x y fun x _ y => h.neg x y
  trans x y z := lexC_trans h.zero x y z fun x _ y z => h.trans x y z
end

def keyV (a : VaA) (n : Nat) : Int × Int × Int × List ByteArray := (a.kind, a.num, n, a.labels)
def nodeC (a : VaA) (m : Nat) (b : VaA) (n : Nat) : Int := pairC numC (pairC numC (pairC numC (lexC strC))) (keyV a m) (keyV b n)
theorem ordKey : Ord (pairC numC (pairC numC (pairC numC (lexC strC)))) := Ord.numC.pair (Ord.numC.pair (Ord.numC.pair Ord.strC.list))
theorem keyV_inj {a b : VaA} {m n : Nat} (h : keyV a m = keyV b n) : a = b ∧ m = n := by
  unfold keyV at h
  simp only [Prod.mk.injEq] at h
  obtain ⟨h1, h2, h3, h4⟩ := h
  cases a; cases b
  simp_all
  omega
mutual
def cmpV : Va → Va → Int
  | .node a ks, .node b ls => orC (nodeC a ks.length b ls.length) (cmpVs ks ls)
def cmpVs : List Va → List Va → Int
  | [], [] => 0
  | [], _ :: _ => -1
  | _ :: _, [] => 1
  | k :: ks, l :: ls => orC (cmpV k l) (cmpVs ks ls)
end
theorem cmpVs_eq : ∀ ks ls : List Va, cmpVs ks ls = lexC cmpV ks ls
  | [], [] => by simp [cmpVs, lexC]
  | [], _ :: _ => by simp [cmpVs, lexC]
  | _ :: _, [] => by simp [cmpVs, lexC]
  | k :: ks, l :: ls => by rw [cmpVs, lexC, cmpVs_eq ks ls]
theorem cmpV_node (a b : VaA) (ks ls : List Va) : cmpV (.node a ks) (.node b ls) = orC (nodeC a ks.length b ls.length) (lexC cmpV ks ls) := by
  rw [cmpV, cmpVs_eq]
theorem cmpV_zero : ∀ x y : Va, cmpV x y = 0 ↔ x = y := by
  refine Tr.ind ?_
  intro a ks ih y
  cases y with
  | node b ls =>
    rw [cmpV_node, orC_zero, lexC_zero ks ls ih]
    unfold nodeC
    rw [ordKey.zero]
    constructor
    · rintro ⟨h1, rfl⟩
      rw [(keyV_inj h1).1]
    · intro h
      injection h with h1 h2
      subst h1 h2
      exact ⟨rfl, rfl⟩
theorem cmpV_neg : ∀ x y : Va, cmpV y x = - cmpV x y := by
  refine Tr.ind ?_
  intro a ks ih y
  cases y with
  | node b ls =>
    rw [cmpV_node, cmpV_node, lexC_neg ks ls ih]
    unfold nodeC
    rw [ordKey.neg (keyV a ks.length) (keyV b ls.length), orC_neg]
theorem cmpV_trans : ∀ x y z : Va, cmpV x y < 0 → cmpV y z < 0 → cmpV x z < 0 := by
  refine Tr.ind ?_
  intro a ks ih y z h1 h2
  cases y with
  | node b ls =>
    cases z with
    | node c ms =>
      rw [cmpV_node, orC_lt] at *
      unfold nodeC at *
      rcases h1 with h1 | ⟨h1, h1'⟩
      · rcases h2 with h2 | ⟨h2, h2'⟩
        · exact .inl (ordKey.trans _ _ _ h1 h2)
        · rw [← (ordKey.zero _ _).1 h2]; exact .inl h1
      · rw [(ordKey.zero _ _).1 h1]
        rcases h2 with h2 | ⟨h2, h2'⟩
        · exact .inl h2
        · exact .inr ⟨h2, lexC_trans cmpV_zero ks ls ms ih h1' h2'⟩
theorem ordV : Ord cmpV := ⟨cmpV_zero, cmpV_neg, cmpV_trans⟩
/-- an answer is -1, 0 or 1 -/
def Sgn (n : Int) : Prop := n = -1 ∨ n = 0 ∨ n = 1
theorem Sgn.or {a b : Int} (ha : Sgn a) (hb : Sgn b) : Sgn (orC a b) := by unfold orC; split <;> assumption
theorem numC_sgn (a b : Int) : Sgn (numC a b) := by unfold numC Sgn; repeat' split
                                                    all_goals omega
theorem strC_sgn (a b : ByteArray) : Sgn (strC a b) := by unfold strC Sgn; repeat' split
                                                          all_goals omega
theorem lexC_sgn {α : Type} {c : α → α → Int} : ∀ xs ys : List α, (∀ x ∈ xs, ∀ y, Sgn (c x y)) → Sgn (lexC c xs ys)
  | [], [], _ => .inr (.inl rfl)
  | [], _ :: _, _ => .inl rfl
  | _ :: _, [], _ => .inr (.inr rfl)
  | x :: xs, y :: ys, h => (h x (by simp) y).or (lexC_sgn xs ys fun z hz => h z (by simp [hz]))
theorem nodeC_sgn (a : VaA) (m : Nat) (b : VaA) (n : Nat) : Sgn (nodeC a m b n) :=
  (numC_sgn _ _).or ((numC_sgn _ _).or ((numC_sgn _ _).or (lexC_sgn _ _ fun _ _ _ => strC_sgn _ _)))
theorem cmpV_sgn : ∀ x y : Va, Sgn (cmpV x y) := by
  refine Tr.ind ?_
  intro a ks ih y
  cases y with
  | node b ls =>
    rw [cmpV_node]
    exact (nodeC_sgn _ _ _ _).or (lexC_sgn ks ls ih)
theorem cmpV_self (x : Va) : cmpV x x = 0 := (cmpV_zero x x).2 rfl
end Go.Proofs.Ytlcpekpgkllbkaa

/-
  Whether a value has a type, over trees: by recursion on the type; what a data type looks like.
-/
namespace Go.Proofs.Ytlcpekpgkllbkaa

mutual
def hasT : Ty → Va → Bool
  | .node a ks, v =>
    if a.kind = 1 then decide (v.top.kind = 1) && (decide (v.top.labels.length = 0) && decide (v.kids.length = 0))
    else if a.kind = 2 then decide (v.top.kind = 2) && (decide (v.top.num = 0 ∨ v.top.num = 1) && (decide (v.top.labels.length = 0) && decide (v.kids.length = 0)))
    else if a.kind = 3 then decide (v.top.kind = 3) && (decide (v.top.num = 0) && (decide (v.top.labels = a.labels) && hasTs ks v.kids))
    else decide (v.top.kind = 4) && (decide (v.top.num = 0) && (decide (v.top.labels.length = 0) && v.kids.all fun x => hasTh ks x))
def hasTs : List Ty → List Va → Bool
  | [], [] => true
  | t :: ts, v :: vs => hasT t v && hasTs ts vs
  | [], _ :: _ => false
  | _ :: _, [] => false
def hasTh : List Ty → Va → Bool
  | [], _ => true
  | t :: _, v => hasT t v
end
theorem hasTs_len : ∀ {ts : List Ty} {vs : List Va}, hasTs ts vs = true → ts.length = vs.length
  | [], [], _ => rfl
  | t :: ts, v :: vs, h => by
    rw [hasTs, Bool.and_eq_true] at h
    simp [hasTs_len h.2]
  | [], _ :: _, h => by simp [hasTs] at h
  | _ :: _, [], h => by simp [hasTs] at h
/-- the types are the values', from the k-th on -/
theorem hasTs_step {ts : List Ty} {vs : List Va} {k : Nat} (h1 : k < ts.length) (h2 : k < vs.length) : hasTs (ts.drop k) (vs.drop k) = (hasT ts[k] vs[k] && hasTs (ts.drop (k + 1)) (vs.drop (k + 1))) := by
  rw [List.drop_eq_getElem_cons h1, List.drop_eq_getElem_cons h2, hasTs]
theorem hasTs_end {ts : List Ty} {vs : List Va} {k : Nat} (h1 : ts.length ≤ k) (h2 : vs.length ≤ k) : hasTs (ts.drop k) (vs.drop k) = true := by
  rw [List.drop_eq_nil_of_le h1, List.drop_eq_nil_of_le h2, hasTs]
/-- a data type -/
def DatT (t : Ty) : Prop := t.form = true ∧ Tr.has 5 t = false
theorem DatT.of {t : Ty} (h : dataB t = true) : DatT t := by
  unfold dataB validB at h
  simp only [Bool.and_eq_true, Bool.not_eq_true'] at h
  exact ⟨h.1.2.2, h.2⟩
theorem DatT.kid {a : TyA} {ks : List Ty} (h : DatT (.node a ks)) {t : Ty} (ht : t ∈ ks) : DatT t := by
  obtain ⟨h1, h2⟩ := h
  rw [form_node, Bool.and_eq_true, List.all_eq_true] at h1
  rw [has_node, Bool.or_eq_false_iff] at h2
  refine ⟨h1.1 t ht, ?_⟩
  have := h2.1
  rw [List.any_eq_false] at this
  simpa using this t ht
/-- the four kinds of data types -/
theorem DatT.cases {a : TyA} {ks : List Ty} (h : DatT (.node a ks)) :
    ((a.kind = 1 ∨ a.kind = 2) ∧ a.labels.length = 0 ∧ ks.length = 0) ∨ (a.kind = 3 ∧ ks.length = a.labels.length) ∨ (a.kind = 4 ∧ a.labels.length = 0 ∧ ks.length = 1) := by
  obtain ⟨h1, h2⟩ := h
  rw [form_node, Bool.and_eq_true] at h1
  have hf := h1.2
  rw [has_node, Bool.or_eq_false_iff] at h2
  have h5 : a.kind ≠ 5 := by simpa using h2.2
  unfold formA at hf
  by_cases h3 : a.kind = 3
  · rw [if_pos h3] at hf
    simp only [Bool.and_eq_true, decide_eq_true_eq] at hf
    exact .inr (.inl ⟨h3, hf.1⟩)
  · rw [if_neg h3] at hf
    simp only [Bool.and_eq_true, decide_eq_true_eq] at hf
    obtain ⟨_, hl, hw⟩ := hf
    unfold want at hw
    by_cases k1 : a.kind = 1
    · rw [if_pos k1] at hw
      exact .inl ⟨.inl k1, hl, by omega⟩
    · by_cases k2 : a.kind = 2
      · rw [if_neg k1, if_pos k2] at hw
        exact .inl ⟨.inr k2, hl, by omega⟩
      · by_cases k4 : a.kind = 4
        · rw [if_neg k1, if_neg k2, if_pos k4] at hw
          exact .inr (.inr ⟨k4, hl, by omega⟩)
        · rw [if_neg k1, if_neg k2, if_neg k4, if_neg h5] at hw
          omega
def hasV (v : Va) (t : Ty) : Bool := dataB t && (decide (v.size ≤ 2000) && hasT t v)
end Go.Proofs.Ytlcpekpgkllbkaa

/-
  When two databases are equal, in plain words. Hangs on no function of the program.
-/
namespace Go.Proofs.Ytlcpekpgkllbkaa
open Go.RowKit

def sameVa (u v : Va) : Bool := decide (cmpV u v = 0)
def sameDd (a b : Dd) : Bool := decide (a.1 = b.1) && (decide (a.2.length = b.2.length) && allPairs sameVa a.2 b.2)
def eqDbB (a b : Db) : Bool := decide (a.length = b.length) && allPairs sameDd a b
noncomputable def tdataB (x : Dc) (d : Dd) : Bool := decide (d.1 = x.1) && (decide (d.2.length ≤ 8) && d.2.all fun v => hasV v x.2)
noncomputable def dbB (xs : Sc) (ds : Db) : Bool := schB xs && (decide (xs.length = ds.length) && allPairs tdataB xs ds)
theorem str_neS {s t : ByteArray} (h : s ≠ t) : (s.toList == t.toList) = false := by
  rw [beq_eq_false_iff_ne, ByteArray.toList_eq, ByteArray.toList_eq]
  intro e
  exact h (ByteArray.ext (Array.toList_inj.1 e))
end Go.Proofs.Ytlcpekpgkllbkaa

/-
  The model's l9Table: the place of a table in a database.
-/
namespace Go.Proofs.Ytlcpekpgkllbkaa
open Go.RowKit

/-- n is the place of the first element with the name, -1 if there is none -/
def AtD {α : Type} (xs : List (ByteArray × α)) (nm : ByteArray) (n : Int) : Prop := (n = -1 ∧ xs.find? (fun d => decide (d.1 = nm)) = none) ∨ ∃ k : Nat, ∃ h : k < xs.length, n = (k : Int) ∧ xs[k].1 = nm ∧ xs.find? (fun d => decide (d.1 = nm)) = some xs[k]
def NoneAt {α : Type} (xs : List (ByteArray × α)) (nm : ByteArray) (k : Nat) : Prop := ∀ (j : Nat) (h : j < xs.length), j < k → xs[j].1 ≠ nm
theorem noneAt_zero {α : Type} (xs : List (ByteArray × α)) (nm : ByteArray) : NoneAt xs nm 0 := fun j _ h => by omega
theorem noneAt_more {α : Type} {xs : List (ByteArray × α)} {nm : ByteArray} {k : Nat} (h : NoneAt xs nm k) (hk : k < xs.length) (hn : xs[k].1 ≠ nm) : NoneAt xs nm (k + 1) := fun j hj hlt => by
  by_cases e : j = k
  · subst e; exact hn
  · exact h j hj (by omega)
theorem atD_none {α : Type} {xs : List (ByteArray × α)} {nm : ByteArray} (h : NoneAt xs nm xs.length) : xs.find? (fun d => decide (d.1 = nm)) = none := by
  rw [List.find?_eq_none]
  intro d hd
  obtain ⟨j, hj, rfl⟩ := List.getElem_of_mem hd
  have := h j hj hj
  simpa using this
theorem atD_some {α : Type} {xs : List (ByteArray × α)} {nm : ByteArray} {k : Nat} (h : NoneAt xs nm k) (hk : k < xs.length) (hn : xs[k].1 = nm) : xs.find? (fun d => decide (d.1 = nm)) = some xs[k] := by
  rw [List.find?_eq_some_iff_getElem]
  refine ⟨by simp [hn], k, hk, rfl, fun j hj => ?_⟩
  have := h j (by omega) hj
  simpa using this
def NumAt (t : Db) (nm : ByteArray) (w : World) (e : Ending) (w' : World) : Prop := ∃ n : Int, e = .returned (.int .i64 n) ∧ AtD t nm n ∧ Below w.heap.size w w'

set_option maxRecDepth 100000 in
set_option maxHeartbeats 1600000 in
theorem l9Table_any (t : Db) (nm : ByteArray) (w : World) (cs : List Value) (h : RDb w t cs) : Calls Try.prog 58 #[.agg cs.toArray, .string nm] w (NumAt t nm w) := by
  obtain ⟨A, c, rfl, hl, _, hp⟩ := h.open
  obtain ⟨W1, hW1⟩ : ∃ W1, w.alloc (.cells #[.slice A t.length c] 51) = W1 := ⟨_, rfl⟩
  obtain ⟨H, hH⟩ : ∃ H, w.heap.size = H := ⟨_, rfl⟩
  have b0 : Box1 W1 H 51 (.slice A t.length c) := by rw [← hW1, ← hH]; exact Box1.new w _ _
  have hb1 : Below w.heap.size w W1 := by rw [← hW1]; exact (Below.refl _ _).alloc (Nat.le_refl _) _
  have HA := Lib.hid (fun (W : World) (hB : Below W1.heap.size W1 W) => b0.under hB b0.lt)
  have HB1 := Lib.hid hb1
  have HP := Lib.hid (hp.keep hb1)
  have HW1 := Lib.hid hW1
  have x0 := b0.c0
  have HI0 : Hid (∃ k : Nat, k ≤ t.length ∧ Value.int .i64 0 = .int .i64 (k : Int) ∧ NoneAt t nm k ∧ Below W1.heap.size W1 W1) := Lib.hid ⟨0, Nat.zero_le _, rfl, noneAt_zero _ _, Below.refl _ _⟩
  clear h hp hW1 b0 hb1
  go_enter Try.func58, Try.ntmps58
  go_wp2_with fail
  rw [HW1.out]
  go_wp2_with fail
  go_loopw [5] (fun i wr => ∃ k : Nat, k ≤ t.length ∧ i = .int .i64 (k : Int) ∧ NoneAt t nm k ∧ Below W1.heap.size W1 wr) (fun i _ => t.length - (intOf i).toNat)
  case atStart => exact HI0.out
  case round =>
    obtain ⟨k, hk, rfl, hno, hb⟩ := hrel
    clear x0
    have x0 := (HA.out wr hb).c0
    by_cases hlt : k < t.length
    · obtain ⟨ad, p, c0, c1, rfl, hpe, hr, q0, q1⟩ := rl_at2 kDd_n HP.out hb hlt
      obtain ⟨TB, tb, te, hcs, hs, hy⟩ := kDd_open hr
      simp only [List.cons.injEq, and_true] at hcs
      obtain ⟨rfl, rfl⟩ := hcs
      have HBW := Lib.hid (HB1.out.trans (hb.mono HB1.out.size))
      by_cases hn : t[k].1 = nm
      · have HR : Hid (NumAt t nm w (.returned (.int .i64 (k : Int))) wr) := Lib.hid ⟨(k : Int), rfl, .inr ⟨k, hlt, rfl, hn, atD_some hno hlt hn⟩, HBW.out⟩
        rw [hn] at q0
        clear hr hs hy hno hk hn
        go_wp2_with fail
        go_ret
        exact HR.out
      · have HR : Hid (∃ j : Nat, j ≤ t.length ∧ Value.int .i64 ((k : Int) + 1) = .int .i64 (j : Int) ∧ NoneAt t nm j ∧ Below W1.heap.size W1 wr) := Lib.hid ⟨k + 1, hlt, by simp, noneAt_more hno hlt hn, hb⟩
        have f1 := str_neS hn
        generalize t[k].1 = nk at q0 f1
        clear hr hs hy hno hk hn hb
        go_wp2_with fail
        go_roundw
        case rel => exact HR.out
        case measure => simp [intOf]; omega
    · have he : k = t.length := by omega
      subst he
      have HR : Hid (NumAt t nm w (.returned (.int .i64 (-1))) wr) := Lib.hid ⟨-1, rfl, .inl ⟨rfl, atD_none hno⟩, HB1.out.trans (hb.mono HB1.out.size)⟩
      clear hno hb hk
      go_wp2_with fail
      go_ret
      exact HR.out
end Go.Proofs.Ytlcpekpgkllbkaa
