/-
  Merged by program: HasD, DbD, Seen, Plc, Stk.
-/
import Derived.Test.YtlikmgkjilmjpaaGreatI18
import Derived.Test.YtlikmgkjilmjpaaGreatI5
import Derived.Test.YtlikmgkjilmjpaaGreatProg
import Derived.Maps.OwnSet
import Derived.WalkKit
import Derived.Test.YtlikmgkjilmjpaaGreatI3

/-
  Whether a value has a type, over trees: by recursion on the type; what a data type looks like.
-/
namespace Go.Proofs.YtlikmgkjilmjpaaGreat

mutual
def hasT : Ty → Va → Bool
  | .node a ks, v =>
    if a.kind = 1 then decide (v.top.kind = 1) && (decide (v.top.labels.length = 0) && decide (v.kids.length = 0))
    else if a.kind = 2 then decide (v.top.kind = 2) && (decide (v.top.num = 0 ∨ v.top.num = 1) && (decide (v.top.labels.length = 0) && decide (v.kids.length = 0)))
    else if a.kind = 3 then decide (v.top.kind = 3) && (decide (v.top.num = 0) && (decide (v.top.labels = a.labels) && hasTs ks v.kids))
    else decide (v.top.kind = 4) && (decide (v.top.num = 0) && (decide (v.top.labels.length = 0) && v.kids.all fun x => hasTh ks x))
def hasTs : List Ty → List Va → Bool
  | [], [] => true
  | t :: ts, v :: vs => hasT t v && hasTs ts vs
  | [], _ :: _ => false
  | _ :: _, [] => false
def hasTh : List Ty → Va → Bool
  | [], _ => true
  | t :: _, v => hasT t v
end
theorem hasTs_len : ∀ {ts : List Ty} {vs : List Va}, hasTs ts vs = true → ts.length = vs.length
  | [], [], _ => rfl
  | t :: ts, v :: vs, h => by
    rw [hasTs, Bool.and_eq_true] at h
    simp [hasTs_len h.2]
  | [], _ :: _, h => by simp [hasTs] at h
  | _ :: _, [], h => by simp [hasTs] at h
/-- the types are the values', from the k-th on -/
theorem hasTs_step {ts : List Ty} {vs : List Va} {k : Nat} (h1 : k < ts.length) (h2 : k < vs.length) : hasTs (ts.drop k) (vs.drop k) = (hasT ts[k] vs[k] && hasTs (ts.drop (k + 1)) (vs.drop (k + 1))) := by
  rw [List.drop_eq_getElem_cons h1, List.drop_eq_getElem_cons h2, hasTs]
theorem hasTs_end {ts : List Ty} {vs : List Va} {k : Nat} (h1 : ts.length ≤ k) (h2 : vs.length ≤ k) : hasTs (ts.drop k) (vs.drop k) = true := by
  rw [List.drop_eq_nil_of_le h1, List.drop_eq_nil_of_le h2, hasTs]
/-- a data type -/
def DatT (t : Ty) : Prop := t.form = true ∧ Tr.has 5 t = false
theorem DatT.of {t : Ty} (h : dataB t = true) : DatT t := by
  unfold dataB validB at h
  simp only [Bool.and_eq_true, Bool.not_eq_true'] at h
  exact ⟨h.1.2.2, h.2⟩
theorem DatT.kid {a : TyA} {ks : List Ty} (h : DatT (.node a ks)) {t : Ty} (ht : t ∈ ks) : DatT t := by
  obtain ⟨h1, h2⟩ := h
  rw [form_node, Bool.and_eq_true, List.all_eq_true] at h1
  rw [has_node, Bool.or_eq_false_iff] at h2
  refine ⟨h1.1 t ht, ?_⟩
  have := h2.1
  rw [List.any_eq_false] at this
  simpa using this t ht
/-- the four kinds of data types -/
theorem DatT.cases {a : TyA} {ks : List Ty} (h : DatT (.node a ks)) :
    ((a.kind = 1 ∨ a.kind = 2) ∧ a.labels.length = 0 ∧ ks.length = 0) ∨ (a.kind = 3 ∧ ks.length = a.labels.length) ∨ (a.kind = 4 ∧ a.labels.length = 0 ∧ ks.length = 1) := by
  obtain ⟨h1, h2⟩ := h
  rw [form_node, Bool.and_eq_true] at h1
  have hf := h1.2
  rw [has_node, Bool.or_eq_false_iff] at h2
  have h5 : a.kind ≠ 5 := by simpa using h2.2
  unfold formA at hf
  by_cases h3 : a.kind = 3
  · rw [if_pos h3] at hf
    simp only [Bool.and_eq_true, decide_eq_true_eq] at hf
    exact .inr (.inl ⟨h3, hf.1⟩)
  · rw [if_neg h3] at hf
    simp only [Bool.and_eq_true, decide_eq_true_eq] at hf
    obtain ⟨_, hl, hw⟩ := hf
    unfold want at hw
    by_cases k1 : a.kind = 1
    · rw [if_pos k1] at hw
      exact .inl ⟨.inl k1, hl, by omega⟩
    · by_cases k2 : a.kind = 2
      · rw [if_neg k1, if_pos k2] at hw
        exact .inl ⟨.inr k2, hl, by omega⟩
      · by_cases k4 : a.kind = 4
        · rw [if_neg k1, if_neg k2, if_pos k4] at hw
          exact .inr (.inr ⟨k4, hl, by omega⟩)
        · rw [if_neg k1, if_neg k2, if_neg k4, if_neg h5] at hw
          omega
def hasV (v : Va) (t : Ty) : Bool := dataB t && (decide (v.size ≤ 2000) && hasT t v)
end Go.Proofs.YtlikmgkjilmjpaaGreat

/-
  When two databases are equal, in plain words. Hangs on no function of the program.
-/
namespace Go.Proofs.YtlikmgkjilmjpaaGreat
open Go.RowKit

def sameVa (u v : Va) : Bool := decide (cmpV u v = 0)
def sameDd (a b : Dd) : Bool := decide (a.1 = b.1) && (decide (a.2.length = b.2.length) && allPairs sameVa a.2 b.2)
def eqDbB (a b : Db) : Bool := decide (a.length = b.length) && allPairs sameDd a b
noncomputable def tdataB (x : Dc) (d : Dd) : Bool := decide (d.1 = x.1) && (decide (d.2.length ≤ 8) && d.2.all fun v => hasV v x.2)
noncomputable def dbB (xs : Sc) (ds : Db) : Bool := schB xs && (decide (xs.length = ds.length) && allPairs tdataB xs ds)
theorem str_neS {s t : ByteArray} (h : s ≠ t) : (s.toList == t.toList) = false := by
  rw [beq_eq_false_iff_ne, ByteArray.toList_eq, ByteArray.toList_eq]
  intro e
  exact h (ByteArray.ext (Array.toList_inj.1 e))
end Go.Proofs.YtlikmgkjilmjpaaGreat

/-
  The program's map of the texts that it has met, told by the list of them: a look-up, a store.
-/
namespace Go.Proofs.YtlikmgkjilmjpaaGreat
open Go.RowKit Go.Maps

theorem keyStr : Keyed Tryz.prog 9 := string_keyed Tryz.underlying9
theorem zeroBool (w : World) : (zeroValue 4).run Tryz.prog w = .ok (.bool false) w := by kernel_rfl
def lit (s : ByteArray) : Lit := .string s.data.toList
theorem lit_inj {a b : ByteArray} (h : lit a = lit b) : a = b := by
  injection h with h
  exact ByteArray.ext (Array.toList_inj.1 h)
theorem lit_key {s : ByteArray} (h : s.size ≤ maxLen) : keyOf Tryz.prog 9 (.string s) = some (lit s) := WideMaps.keyOf_string_mk Tryz.underlying9 h

/-- the block is a map that holds true at just the texts of the list -/
def Seen (w : World) (b n : Nat) (o : List ByteArray) : Prop :=
  ∃ D : DataW Unit, w.ownsMap Tryz.prog 9 (plainElem Tryz.prog 4) b n D ∧ IsMap D ∧ (∀ s ∈ o, D.atKey (lit s) (.lit (.bool false)) = .lit (.bool true)) ∧ ∀ s, ¬ s ∈ o → D.atKey (lit s) (.lit (.bool false)) = .lit (.bool false)
theorem Seen.made (w : World) : Seen (w.alloc (.map #[] 0)) w.heap.size 0 [] :=
  ⟨.map [], World.ownsMap_made _ _ _ _, isMap_empty, fun s h => by simp at h, fun s _ => rfl⟩
theorem Seen.mono {w : World} {b n n' : Nat} {o : List ByteArray} (h : Seen w b n o) (hn : n ≤ n') : Seen w b n' o := by
  obtain ⟨D, h1, h2⟩ := h
  exact ⟨D, h1.mono hn, h2⟩
theorem Seen.kept {w w' : World} {b n : Nat} {o : List ByteArray} {row : Option Nat} (h : Seen w b n o) (hg : w.grownBy w' row) (hne : some b ≠ row) : Seen w' b n o := by
  obtain ⟨D, h1, h2⟩ := h
  exact ⟨D, h1.kept hg hne, h2⟩
theorem Seen.lt {w : World} {b n : Nat} {o : List ByteArray} (h : Seen w b n o) : b < w.heap.size := by
  obtain ⟨D, h1, _⟩ := h
  exact h1.lt
theorem Seen.below {w w' : World} {b n : Nat} {o : List ByteArray} (h : Seen w b n o) (hb : Below w.heap.size w w') : Seen w' b n o :=
  h.kept (row := none) ⟨hb.os, hb.tape, hb.output, hb.size, fun i hi _ => hb.block i hi⟩ (by simp)
set_option maxRecDepth 100000 in
theorem plainElem_bool_inv {v : Value} {z : DataW Unit × List MemPlace} (h : plainElem Tryz.prog 4 v = some z) : ∃ x, v = .bool x ∧ z = (.lit (.bool x), []) := by
  unfold plainElem at h
  rw [Tryz.underlying4] at h
  cases v <;> simp at h
  exact ⟨_, rfl, h.symm⟩
theorem Seen.put {w : World} {b n : Nat} {o : List ByteArray} {D : DataW Unit} (h1 : IsMap D) (h3 : ∀ s ∈ o, D.atKey (lit s) (.lit (.bool false)) = .lit (.bool true)) (h4 : ∀ s, ¬ s ∈ o → D.atKey (lit s) (.lit (.bool false)) = .lit (.bool false)) {s : ByteArray}
    (h : w.ownsMap Tryz.prog 9 (plainElem Tryz.prog 4) b n (D.put (lit s) (.lit (.bool true)))) : Seen w b n (o ++ [s]) := by
  refine ⟨_, h, h1.put _ _, fun y hy => ?_, fun y hy => ?_⟩
  · by_cases e : y = s
    · subst e
      exact atKey_put_same (k := lit y) h1 trivial _ _
    · rw [atKey_put_other (fun e' => e (lit_inj e'))]
      exact h3 y (by simpa [e] using hy)
  · have e : y ≠ s := fun e => hy (by simp [e])
    rw [atKey_put_other (fun e' => e (lit_inj e'))]
    exact h4 y (fun hm => hy (by simp [hm]))
end Go.Proofs.YtlikmgkjilmjpaaGreat

/-
  The program's map of the places of names: each name's first place from k on.
-/
namespace Go.Proofs.YtlikmgkjilmjpaaGreat
open Go.RowKit Go.Maps

/-- the first place of a text -/
def idxN : List ByteArray → ByteArray → Option Nat
  | [], _ => none
  | n :: ns, s => if n = s then some 0 else (idxN ns s).map (· + 1)
def plc (ns : List ByteArray) (k : Nat) (s : ByteArray) : Option Nat := (idxN (ns.drop k) s).map (· + k)
theorem plc_end (ns : List ByteArray) (s : ByteArray) : plc ns ns.length s = none := by unfold plc; rw [List.drop_length]; rfl
theorem plc_zero (ns : List ByteArray) (s : ByteArray) : plc ns 0 s = idxN ns s := by
  unfold plc
  rw [List.drop_zero]
  cases idxN ns s <;> rfl
theorem plc_step {ns : List ByteArray} {k : Nat} (hk : k < ns.length) (s : ByteArray) : plc ns k s = if ns[k] = s then some k else plc ns (k + 1) s := by
  unfold plc
  rw [List.drop_eq_getElem_cons hk, idxN]
  split
  · simp
  · rw [Option.map_map]
    congr 1
    funext x
    show x + 1 + k = x + (k + 1)
    omega
theorem idxN_find {β : Type} (t : List (ByteArray × β)) (nm : ByteArray) : (∀ j, idxN (t.map fun d => d.1) nm = some j → ∃ h : j < t.length, t[j].1 = nm ∧ t.find? (fun d => decide (d.1 = nm)) = some t[j]) ∧ (idxN (t.map fun d => d.1) nm = none → t.find? (fun d => decide (d.1 = nm)) = none) := by
  induction t with
  | nil => exact ⟨fun j h => by simp [idxN] at h, fun _ => rfl⟩
  | cons d t ih =>
    rw [List.map_cons, idxN]
    by_cases e : d.1 = nm
    · rw [if_pos e, List.find?_cons_of_pos (by simp [e])]
      refine ⟨fun j h => ?_, fun h => by cases h⟩
      injection h with h
      subst h
      exact ⟨by simp, e, rfl⟩
    · rw [if_neg e, List.find?_cons_of_neg (by simp [e])]
      refine ⟨fun j h => ?_, fun h => ?_⟩
      · cases hi : idxN (t.map fun d => d.1) nm with
        | none => rw [hi] at h; cases h
        | some i =>
          rw [hi] at h
          injection h with h
          subst h
          obtain ⟨h1, h2, h3⟩ := ih.1 i hi
          exact ⟨by simpa using h1, by simpa using h2, by rw [h3]; simp⟩
      · cases hi : idxN (t.map fun d => d.1) nm with
        | none => exact ih.2 hi
        | some i => rw [hi] at h; cases h

theorem zeroInt (w : World) : (zeroValue 3).run Tryz.prog w = .ok (.int .i64 0) w := by kernel_rfl
theorem wf_nat (k : Nat) (h : k ≤ 1048576) : (Lit.int .i64 (k : Int)).wf = true := by
  show (decide (IntKind.i64.min ≤ (k : Int)) && decide ((k : Int) ≤ IntKind.i64.max)) = true
  rw [decide_eq_true (show IntKind.i64.min ≤ (k : Int) by show (-9223372036854775808 : Int) ≤ _; omega), decide_eq_true (show (k : Int) ≤ IntKind.i64.max by show _ ≤ (9223372036854775807 : Int); omega)]
  rfl
def PlcAt (D : DataW Unit) (s : ByteArray) (o : Option Nat) : Prop :=
  match o with
  | some j => ∀ z, D.atKey (lit s) z = .lit (.int .i64 (j : Int))
  | none => ∀ z, D.atKey (lit s) z = z
/-- the block is a map from the names' texts to their first places from k on -/
def Plc (w : World) (b n : Nat) (ns : List ByteArray) (k : Nat) : Prop :=
  ∃ D : DataW Unit, w.ownsMap Tryz.prog 9 (plainElem Tryz.prog 3) b n D ∧ IsMap D ∧ ∀ s, PlcAt D s (plc ns k s)
theorem Plc.made (w : World) (ns : List ByteArray) : Plc (w.alloc (.map #[] 0)) w.heap.size 0 ns ns.length :=
  ⟨.map [], World.ownsMap_made _ _ _ _, isMap_empty, fun s => by rw [plc_end]; exact fun z => rfl⟩
theorem Plc.at {w w' : World} {b n : Nat} {ns : List ByteArray} {k : Nat} (h : Plc w b n ns k) (he : w'.heap[b]? = w.heap[b]?) : Plc w' b n ns k := by
  obtain ⟨D, ⟨es, clock, hb, F, hs, hD⟩, h2⟩ := h
  exact ⟨D, ⟨es, clock, he.trans hb, F, hs, hD⟩, h2⟩
theorem Plc.lt {w : World} {b n : Nat} {ns : List ByteArray} {k : Nat} (h : Plc w b n ns k) : b < w.heap.size := by
  obtain ⟨D, h1, _⟩ := h
  exact h1.lt
set_option maxRecDepth 100000 in
theorem Plc.step {w : World} {b n : Nat} {ns : List ByteArray} {k : Nat} (h : Plc w b n ns (k + 1)) (hk : k < ns.length) (hl : ns.length ≤ 1048576) (hn : n < maxLen) {s : ByteArray} (hs : ns[k] = s) (hsz : s.size ≤ maxLen) :
    ∃ w', (Instr.mapUpdate 103 (.map (some b)) (.string s) (.int .i64 (k : Int))).run Tryz.prog w = .ok () w' ∧ Plc w' b (n + 1) ns k ∧ w.grownBy w' (some b) := by
  obtain ⟨D, h1, h2, h3⟩ := h
  obtain ⟨w', hrun, hown, hg⟩ := h1.update keyStr Tryz.underlying103 hn (lit_key hsz) (plainElem_int (a := (k : Int)) Tryz.underlying3 (wf_nat k (by omega)))
  refine ⟨w', hrun, ⟨_, hown, h2.put _ _, fun y => ?_⟩, hg⟩
  rw [plc_step hk]
  by_cases e : ns[k] = y
  · rw [if_pos e]
    have e2 : s = y := hs.symm.trans e
    subst e2
    exact fun z => atKey_put_same (k := lit s) h2 trivial _ _
  · rw [if_neg e]
    have hne : lit y ≠ lit s := fun e' => e (by rw [hs, lit_inj e'])
    have h4 := h3 y
    unfold PlcAt at h4 ⊢
    split
    · rename_i j hj
      rw [hj] at h4
      exact fun z => by rw [atKey_put_other hne]; exact h4 z
    · rename_i hj
      rw [hj] at h4
      exact fun z => by rw [atKey_put_other hne]; exact h4 z
set_option maxRecDepth 100000 in
/-- a look-up that asks whether there is one -/
theorem Plc.look {w : World} {b n : Nat} {ns : List ByteArray} {k : Nat} (h : Plc w b n ns k) {s : ByteArray} (hs : s.size ≤ maxLen) :
    ∃ c, (Instr.lookup 103 (.map (some b)) (.string s) true).run Tryz.prog w = .ok (.tuple #[.int .i64 c, .bool (plc ns k s).isSome]) w ∧ ∀ j, plc ns k s = some j → c = (j : Int) := by
  obtain ⟨D, h1, _, h3⟩ := h
  obtain ⟨v, ps, hrun, hv⟩ := h1.look_ok keyStr Tryz.underlying103 (zeroInt w) (plainElem_int (a := 0) Tryz.underlying3 (by decide)) (lit_key hs)
  obtain ⟨c, rfl, hc, _⟩ := plainElem_int_inv Tryz.underlying3 hv
  simp only [Prod.mk.injEq] at hc
  have h4 := h3 s
  unfold PlcAt at h4
  cases hp : plc ns k s with
  | none =>
    rw [hp] at h4
    rw [has_false_of_atKey h4] at hrun
    exact ⟨c, hrun, fun j hj => by cases hj⟩
  | some j =>
    rw [hp] at h4
    simp only at h4
    rw [has_true_of_atKey h4] at hrun
    refine ⟨c, hrun, fun j' hj => ?_⟩
    injection hj with hj
    subst hj
    rw [h4] at hc
    have := hc.1
    simp only [DataW.lit.injEq, Lit.int.injEq, true_and] at this
    exact this.symm
/-- the map of the first places -/
def PlcOf (ns : List ByteArray) (w : World) (e : Ending) (w' : World) : Prop := ∃ (b n : Nat), e = .returned (.map (some b)) ∧ Plc w' b n ns 0 ∧ Below w.heap.size w w'
end Go.Proofs.YtlikmgkjilmjpaaGreat

/-
  A range over a function that walks trees by a stack of lists: the iterator gives the topmost list, and what the round made of it is read behind the round. The round may write into blocks of its own. Hangs on no program.
-/
namespace Go.Proofs.YtlikmgkjilmjpaaGreat
open Go.RowKit

/-- lists of values that are yet to be given, the next one first, each with the slice in which it lies -/
abbrev Stk := List (List Va × Value)
def sizesV (ks : List Va) : Nat := (ks.map Tr.size).sum
def wS (S : Stk) : Nat := (S.map fun p => 2 * sizesV p.1 + 1).sum
/-- the parts of the first k values are put on top -/
def pushTo (ts : List Va) (As : Nat → Value) (S : Stk) : Nat → Stk
  | 0 => S
  | k + 1 => match ts[k]? with
    | some t => if t.kids.length = 0 then pushTo ts As S k else (t.kids, As k) :: pushTo ts As S k
    | none => pushTo ts As S k
def pushAll (ts : List Va) (As : Nat → Value) (S : Stk) : Stk := pushTo ts As S ts.length
theorem pushTo_more {ts : List Va} {As : Nat → Value} {S : Stk} {k : Nat} (hk : k < ts.length) : pushTo ts As S (k + 1) = if ts[k].kids.length = 0 then pushTo ts As S k else (ts[k].kids, As k) :: pushTo ts As S k := by
  show (match ts[k]? with | some t => _ | none => _) = _
  rw [List.getElem?_eq_getElem hk]
theorem sizesV_kids (t : Va) : sizesV t.kids + 1 = t.size := by
  cases t with
  | node a ks => rw [size_nodeV]; show (ks.map Tr.size).sum + 1 = _; omega
theorem wS_cons (p : List Va × Value) (S : Stk) : wS (p :: S) = 2 * sizesV p.1 + 1 + wS S := by simp [wS]
theorem wS_pushTo (ts : List Va) (As : Nat → Value) (S : Stk) : ∀ k, k ≤ ts.length → wS (pushTo ts As S k) + k ≤ wS S + 2 * sizesV (ts.take k)
  | 0, _ => by simp [pushTo, sizesV]
  | k + 1, hk => by
    have ih := wS_pushTo ts As S k (by omega)
    have hk' : k < ts.length := by omega
    have h1 := sum_take_succ Tr.size ts k hk'
    have h2 := sizesV_kids ts[k]
    have h3 : sizesV (ts.take (k + 1)) = sizesV (ts.take k) + ts[k].size := h1
    rw [pushTo_more hk']
    split
    · omega
    · rw [wS_cons]
      show 2 * sizesV ts[k].kids + 1 + _ + _ ≤ _
      omega
theorem wS_push (ts : List Va) (As : Nat → Value) (S : Stk) (s : Value) : wS (pushAll ts As S) + ts.length + 1 ≤ wS ((ts, s) :: S) := by
  have h := wS_pushTo ts As S ts.length (Nat.le_refl _)
  rw [List.take_length] at h
  unfold pushAll
  have : wS ((ts, s) :: S) = 2 * sizesV ts + 1 + wS S := wS_cons _ _
  omega
theorem wS_len (S : Stk) : S.length ≤ wS S := by
  unfold wS
  induction S with
  | nil => simp
  | cons p S ih => simp only [List.map_cons, List.sum_cons, List.length_cons]; omega

/-- the slice s has a value's cells in each of its places, with the parts' slices As; it lies below lo or in a block of F -/
def RowC (lo : Nat) (F : Nat → Prop) (w : World) (s : Value) (ts : List Va) (As : Nat → Value) : Prop :=
  ∃ A c, s = .slice A ts.length c ∧ ts.length ≤ 9223372036854775807 ∧ (∀ j t, ts[j]? = some t → ∃ ad c0 c1 L l c A' c', A = some ad ∧ (ad.block < lo ∨ F ad.block) ∧ As j = .slice A' t.kids.length c' ∧ w.cell? (ad.add (j * 4)) = some (.int .i64 c0) ∧ w.cell? (ad.add (j * 4 + 1)) = some (.int .i64 c1) ∧ w.cell? (ad.add (j * 4 + 2)) = some (.slice L l c) ∧ w.cell? (ad.add (j * 4 + 3)) = some (As j))

/-- the iterator's contract: all lists of the stack, and what comes of them -/
def GivesV (N : Fence) (n : Nat) (P : Program) (g : Nat) (lb : Array Value) (S0 : Stk) (lo : Nat) (Keep : Nat → Prop) (W : World) : Prop :=
  ∀ (l : Nat) (J : Stk → (Nat → Prop) → World → Prop) (Jx : World → Prop), (∀ S F A C, J S F A → Held (fun i => i < lo ∨ F i) A C → J S F C) → (∀ S F A, J S F A → ∀ b, F b → ¬ Keep b ∧ b < A.heap.size) →
    (∀ ts s S F W1, J ((ts, s) :: S) F W1 → YieldAt N (n - 1) P l #[s] W1 fun e W' =>
      (e = .returned (.bool true) ∧ Held (fun i => ¬ F i) W1 W' ∧ ∃ As F', (∀ b, F' b → F b ∨ W1.heap.size ≤ b) ∧ RowC lo F' W' s ts As ∧ J (pushAll ts As S) F' W') ∨ (e = .returned (.bool false) ∧ Jx W')) →
    (∃ F, J S0 F W) → CallsIn N n P g (#[.func (.yield l) #[] #[]] ++ lb) W fun e W' => (∃ v, e = .returned v) ∧ ((∃ F, J [] F W') ∨ Jx W')

/-- how a round's body is left -/
def givesPostV (lo : Nat) (I : Stk → (Nat → Prop) → World → Prop) (Ix : World → Prop) (ts : List Va) (s : Value) (S : Stk) (F : Nat → Prop) (W : World) : Exit → Act → World → Prop
  | .normal, _, W' => Held (fun i => ¬ F i) W W' ∧ ∃ As F', (∀ b, F' b → F b ∨ W.heap.size ≤ b) ∧ RowC lo F' W' s ts As ∧ I (pushAll ts As S) F' W'
  | .ret, _, W' => Held (fun i => ¬ F i) W W' ∧ Ix W'
  | .exit _, _, _ => False
  | .goto _, _, _ => False
  | .panic _, _, _ => False
  | .outgrown, _, _ => False

theorem RowC.more {lo : Nat} {F F' : Nat → Prop} {w : World} {s : Value} {ts : List Va} {As : Nat → Value} (h : RowC lo F w s ts As) (hF : ∀ b, F b → F' b) : RowC lo F' w s ts As := by
  obtain ⟨A, c, h1, h2, h3⟩ := h
  refine ⟨A, c, h1, h2, fun j t hj => ?_⟩
  obtain ⟨ad, c0, c1, L, l, c2, A', c', k1, k2, k3⟩ := h3 j t hj
  exact ⟨ad, c0, c1, L, l, c2, A', c', k1, k2.imp id (hF _), k3⟩
theorem addr_blk (a : Addr) (j : Nat) : (a.add j).block = a.block := by unfold Addr.add; split <;> rfl
theorem RowC.held {lo : Nat} {F : Nat → Prop} {w w' : World} {s : Value} {ts : List Va} {As : Nat → Value} (h : RowC lo F w s ts As) (hH : Held (fun i => i < lo ∨ F i) w w') : RowC lo F w' s ts As := by
  obtain ⟨A, c, h1, h2, h3⟩ := h
  refine ⟨A, c, h1, h2, fun j t hj => ?_⟩
  obtain ⟨ad, c0, c1, L, l, c2, A', c', k1, k2, k3, q0, q1, q2, q3⟩ := h3 j t hj
  exact ⟨ad, c0, c1, L, l, c2, A', c', k1, k2, k3, hH.cell (by rw [addr_blk]; exact k2) q0, hH.cell (by rw [addr_blk]; exact k2) q1, hH.cell (by rw [addr_blk]; exact k2) q2, hH.cell (by rw [addr_blk]; exact k2) q3⟩

section
variable {N : Fence} {n : Nat} {P : Program}
theorem wpIn_givesV {g : Operand} {p0 : Tmp} {assign body : Code} {Q : Exit → Act → World → Prop} {a : Act} {w : World}
    (hro : N.round = none) (h1 : 1 ≤ n) {gf : Nat} {lb : Array Value} (hg : a.eval g = .func (.func gf) #[] lb) (hFg : N.fn gf) (eg : ∀ args w, (callFunc gf args).run P w = .ok (.enter gf args) w)
    {S0 : Stk} {lo : Nat} {Keep : Nat → Prop} (hlo : lo ≤ w.heap.size) (hkeep : ∀ b, Keep b → b < w.heap.size)
    (hgives : ∀ W, Below w.heap.size w W → W.heap.size = w.heap.size + 2 → GivesV N (n - 1) P gf lb S0 lo Keep W)
    (I : Stk → (Nat → Prop) → World → Prop) (Ix : World → Prop) (hI : ∀ S F A C, I S F A → Held (fun i => i < lo ∨ F i) A C → I S F C) (hB : ∀ S F A, I S F A → ∀ b, F b → ¬ Keep b ∧ b < A.heap.size)
    (hIx : ∀ A C, Ix A → Held (fun i => i ≠ w.heap.size + 1) A C → Ix C) (F0 : Nat → Prop) (h0 : I S0 F0 w) (a₁ : Value → Act)
    (hassign : ∀ (l : Nat) (v : Value) (W : World) (K : Act → World → Prop), K (a₁ v) W →
      assign.wpIn (N.inRound l) (n - 1 - 1) P (Exit.then K (fun _ _ _ => False)) { tmps := a.tmps.setIfInBounds p0 v, defers := [] } W)
    (hbody : ∀ (l : Nat) (ts : List Va) (s : Value) (S : Stk) (F : Nat → Prop) (W : World), I ((ts, s) :: S) F W → w.heap.size + 2 ≤ W.heap.size → ¬ F w.heap.size → ¬ F (w.heap.size + 1) → body.wpIn (N.inRound l) (n - 1 - 1) P (givesPostV lo I Ix ts s S F W) (a₁ s) W)
    (hdone : ∀ F W, I [] F W → W.heap[w.heap.size]? = some (.deferred (some [])) → Q .normal { a with defers := { target := .collected w.heap.size, args := #[] } :: a.defers } W)
    (hstop : ∀ W, Ix W → W.heap[w.heap.size]? = some (.deferred (some [])) → Code.ret.wpIn N n P Q { a with defers := { target := .collected w.heap.size, args := #[] } :: a.defers } W) :
    (Code.rangeFunc g #[p0] assign body).wpIn N n P Q a w := by
  refine wpIn_rangeFunc ?_
  intro fn hfn
  rw [hro]
  -- the loop's record, in each of its states
  obtain ⟨R, hR⟩ : ∃ R : LoopState → Option Code → Loop, R = fun st pe => { state := st, pending := pe, fn, tmps := a.tmps, params := #[p0], assign, body, defers := w.heap.size } := ⟨_, rfl⟩
  obtain ⟨D, hD⟩ : ∃ D, w.heap.size = D := ⟨_, rfl⟩
  obtain ⟨W1, hW1⟩ : ∃ W1, (w.alloc (.deferred (some []))).alloc (.loop (R .ready none)) = W1 := ⟨_, rfl⟩
  have hb1 : Below D w W1 := by rw [← hW1, ← hD]; exact ((Below.refl _ w).alloc (Nat.le_refl _) _).alloc (by simp) _
  have hz1 : W1.heap.size = D + 2 := by rw [← hW1, ← hD]; simp
  have hrec : W1.heap[D + 1]? = some (.loop (R .ready none)) := by
    rw [← hW1, ← hD]; have := World.alloc_heap_new (w.alloc (.deferred (some []))) (.loop (R .ready none)); rwa [World.size_alloc] at this
  have hdef : W1.heap[D]? = some (.deferred (some [])) := by
    rw [← hW1, ← hD]; exact (Below.heap_alloc _ _ _ (by simp)).trans (World.alloc_heap_new w _)
  have hGV := hgives W1 (by rw [hD]; exact hb1) (by rw [hD]; exact hz1)
  have hent := run_enterLoop_outer (P := P) (w := w) fn a.tmps #[p0] assign body
  have hRe : (.loop { state := .ready, pending := none, fn, tmps := a.tmps, params := #[p0], assign, body, defers := w.heap.size } : Obj) = .loop (R .ready none) := by rw [hR]
  rw [hRe, hW1, hD] at hent
  have hF0 := hB _ _ _ h0
  rw [hD] at hlo hkeep hIx hbody hdone hstop hF0
  refine ⟨D + 1, [{ target := .collected D, args := #[] }], W1, { target := .fn (.func gf) lb, args := #[.func (.yield (D + 1)) #[] #[]] }, W1, gf, #[.func (.yield (D + 1)) #[] #[]] ++ lb, W1, hent, ?_, ?_, ?_, fun _ => h1, ?_⟩
  · simp only [resolve, hg]
    simp [go_sem]
  · intro f' hf'; simp [Target.leads] at hf'; subst hf'; exact hFg
  · simp [invoke, go_sem, eg]
  -- what the rounds keep: the client's own, and the loop's record
  obtain ⟨J, hJd⟩ : ∃ J : Stk → (Nat → Prop) → World → Prop, J = fun S F W => ∃ G : Nat → Prop, (∀ b, F b ↔ (G b ∨ b = D ∨ b = D + 1)) ∧ ¬ G D ∧ ¬ G (D + 1) ∧ D + 2 ≤ W.heap.size ∧ I S G W ∧ W.heap[D + 1]? = some (.loop (R .ready none)) ∧ W.heap[D]? = some (.deferred (some [])) := ⟨_, rfl⟩
  refine (hGV (D + 1) J (fun W => Ix W ∧ W.heap[D + 1]? = some (.loop (R .done (some .ret))) ∧ W.heap[D]? = some (.deferred (some []))) ?_ ?_ ?_ ?_).mono ?_
  · rw [hJd]
    rintro S F A C ⟨G, hG, g1, g2, hz, hi, hl, hd⟩ hb
    exact ⟨G, hG, g1, g2, Nat.le_trans hz hb.size, hI _ _ _ _ hi (hb.mono fun i _ h => h.imp id fun h => (hG i).2 (.inl h)), (hb.block _ (by omega) (.inr ((hG _).2 (.inr (.inr rfl))))).trans hl, (hb.block _ (by omega) (.inr ((hG _).2 (.inr (.inl rfl))))).trans hd⟩
  · rw [hJd]
    rintro S F A ⟨G, hG, g1, g2, hz, hi, hl, hd⟩ b hb
    rcases (hG b).1 hb with h | h | h
    · exact hB _ _ _ hi b h
    · subst h; exact ⟨fun h => by have := hkeep _ h; omega, by omega⟩
    · subst h; exact ⟨fun h => by have := hkeep _ h; omega, by omega⟩
  · rw [hJd]
    rintro ts s S F W ⟨G, hG, g1, g2, hz, hi, hl, hd⟩
    have hlt : D + 1 < W.heap.size := by omega
    have hy : (Instr.yield (D + 1) #[s]).run P W = .ok (.round (D + 1) fn (a.tmps.setIfInBounds p0 s) assign body) W := by
      rw [run_yield (P := P) (args := #[s]) hl (by rw [hR]; rfl), hR]
      simp
    refine ⟨fn, _, assign, body, hy, roundIn_of_wpIn hfn (hassign _ s W _ ?_)⟩
    refine ⟨_, run_beginRound hl (by rw [hR]), ?_⟩
    clear hy
    obtain ⟨W2, hW2⟩ : ∃ W2, W.putObj (D + 1) (.loop { R .ready none with state := .busy }) = W2 := ⟨_, rfl⟩
    have hl2 : W2.heap[D + 1]? = some (.loop { R .ready none with state := .busy }) := by rw [← hW2]; exact World.putObj_heap_same hlt
    have hd2 : W2.heap[D]? = some (.deferred (some [])) := by rw [← hW2]; exact (World.putObj_heap_other (by omega)).trans hd
    have hz2 : W2.heap.size = W.heap.size := by rw [← hW2]; simp
    have hap : ∀ K : Nat → Prop, ¬ K (D + 1) → Held K W W2 := fun K hK => by rw [← hW2]; exact Held.put W hK
    have hnot : ¬ (D + 1 < lo ∨ G (D + 1)) := fun h => h.elim (fun h => by omega) g2
    rw [hW2]
    refine wpIn_mono (hbody _ ts s S G W2 (hI _ _ _ _ hi (hap _ hnot)) (by omega) g1 g2) ?_
    rintro e a3 W3 hp
    have fin : ∀ (jump : Option Code), Held (fun i => ¬ G i) W2 W3 → (Instr.endRound (D + 1) jump).run P W3 = .ok (.bool jump.isNone) (W3.putObj (D + 1) (.loop (R (if jump.isNone then .ready else .done) jump))) ∧
        (W3.putObj (D + 1) (.loop (R (if jump.isNone then .ready else .done) jump))).heap[D + 1]? = some (.loop (R (if jump.isNone then .ready else .done) jump)) ∧
        (W3.putObj (D + 1) (.loop (R (if jump.isNone then .ready else .done) jump))).heap[D]? = some (.deferred (some [])) := by
      intro jump h3
      have hlt2 : D + 1 < W2.heap.size := (Array.getElem?_eq_some_iff.1 hl2).1
      have hl3 := (h3.block (D + 1) hlt2 g2).trans hl2
      have hr3 := run_endRound (P := P) jump hl3
      rw [hR] at hr3 ⊢
      exact ⟨hr3, World.putObj_heap_same (Array.getElem?_eq_some_iff.1 hl3).1, (World.putObj_heap_other (by omega)).trans ((h3.block D (by omega) g1).trans hd2)⟩
    cases e with
    | normal =>
      obtain ⟨h3, As, G', hG', hrow, hi3⟩ := hp
      obtain ⟨hr, hl4, hd4⟩ := fin none h3
      have n1 : ¬ G' D := fun h => (hG' D h).elim g1 (fun h => by omega)
      have n2 : ¬ G' (D + 1) := fun h => (hG' (D + 1) h).elim g2 (fun h => by omega)
      have hnot' : ¬ (D + 1 < lo ∨ G' (D + 1)) := fun h => h.elim (fun h => by omega) n2
      have hz3 := h3.size
      refine ⟨_, _, hr, .inl ⟨rfl, ?_, As, fun b => G' b ∨ b = D ∨ b = D + 1, fun b hb => ?_, ?_, G', fun b => Iff.rfl, n1, n2, by simp; omega, hI _ _ _ _ hi3 (Held.put W3 hnot'), hl4, hd4⟩⟩
      · refine (hap _ (fun h => h ((hG _).2 (.inr (.inr rfl))))).trans ((h3.mono (fun i _ h => fun hg => h ((hG i).2 (.inl hg)))).trans (Held.put W3 (fun h => h ((hG _).2 (.inr (.inr rfl))))))
      · rcases hb with h | h | h
        · rcases hG' b h with h | h
          · exact .inl ((hG b).2 (.inl h))
          · exact .inr (by omega)
        · exact .inl ((hG b).2 (.inr (.inl h)))
        · exact .inl ((hG b).2 (.inr (.inr h)))
      · exact (hrow.held (Held.put W3 hnot')).more (fun b h => .inl h)
    | ret =>
      obtain ⟨h3, hi3⟩ := hp
      obtain ⟨hr, hl4, hd4⟩ := fin (some .ret) h3
      exact ⟨_, _, hr, .inr ⟨rfl, hIx _ _ hi3 (Held.put W3 (fun h => h rfl)), hl4, hd4⟩⟩
    | exit _ => exact hp.elim
    | goto _ => exact hp.elim
    | panic _ => exact hp.elim
    | outgrown => exact hp.elim
  · rw [hJd]
    refine ⟨fun b => F0 b ∨ b = D ∨ b = D + 1, F0, fun b => Iff.rfl, fun h => by have := (hF0 _ h).2; omega, fun h => by have := (hF0 _ h).2; omega, by omega, hI _ _ _ _ h0 (Held.of_below hb1 (fun i hi _ => by omega)), hrec, hdef⟩
  · rw [hJd]
    rintro e W2 ⟨⟨v, rfl⟩, (⟨F, G, hG, g1, g2, hz, hi, hl, hd⟩ | ⟨hi, hl, hd⟩)⟩
    · exact ⟨none, _, by have := run_endLoop (P := P) hl (by rw [hR]; simp); rw [hR] at this; exact this, by rw [hD]; exact hdone G _ (hI _ _ _ _ hi (Held.put W2 (fun h => h.elim (fun h => by omega) g2))) ((World.putObj_heap_other (by omega)).trans hd)⟩
    · exact ⟨some .ret, _, by have := run_endLoop (P := P) hl (by rw [hR]; simp); rw [hR] at this; exact this, by rw [hD]; exact hstop _ (hIx _ _ hi (Held.put W2 (fun h => h rfl))) ((World.putObj_heap_other (by omega)).trans hd)⟩
end
end Go.Proofs.YtlikmgkjilmjpaaGreat
