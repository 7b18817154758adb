/-
  Merged by program: Lev.
-/
import Derived.Test.YtlikmgkjilmjpaaH3
import Derived.Test.YtlikmgkjilmjpaaH16
import Derived.Test.YtlikmgkjilmjpaaH17
import Derived.Test.YtlikmgkjilmjpaaH13

/-
  The program's argsOfAll: the nodes below a list of nodes, in new memory. And the levels of a type: what is counted over them.
-/
namespace Go.Proofs.Ytlikmgkjilmjpaa
open Go.RowKit

/-- the nodes one level down -/
def nextL (ks : List Ty) : List Ty := ks.flatMap Tr.kids
/-- the k-th level -/
def lev (ks : List Ty) : Nat → List Ty
  | 0 => ks
  | k + 1 => nextL (lev ks k)
def sizes (ks : List Ty) : Nat := (ks.map Tr.size).sum
def bagsL (ks : List Ty) : Nat := (ks.map Tr.bags).sum
def deeps (ks : List Ty) : Nat := (ks.map Tr.deep).foldl max 0
/-- the bags among a list of nodes themselves -/
def bagsTop (ks : List Ty) : Nat := (ks.map fun t => if t.top.kind = 4 then 1 else 0).sum
theorem sizes_next : ∀ ks : List Ty, sizes ks = ks.length + sizes (nextL ks)
  | [] => rfl
  | .node a cs :: ks => by
    have ih := sizes_next ks
    unfold sizes nextL at *
    simp only [List.map_cons, List.sum_cons, List.flatMap_cons, List.map_append, List.sum_append, List.length_cons, size_node, Tr.kids]
    omega
theorem bags_next : ∀ ks : List Ty, bagsL ks = bagsTop ks + bagsL (nextL ks)
  | [] => rfl
  | .node a cs :: ks => by
    have ih := bags_next ks
    unfold bagsL bagsTop nextL at *
    simp only [List.map_cons, List.sum_cons, List.flatMap_cons, List.map_append, List.sum_append, bags_node, Tr.kids, show (Tr.node a cs).top = a from rfl]
    omega
theorem foldl_max_at {xs : List Nat} : ∀ a : Nat, xs.foldl max a = max a (xs.foldl max 0) := by
  induction xs with
  | nil => intro a; simp
  | cons x xs ih => intro a; simp only [List.foldl_cons]; rw [ih (max a x), ih (max 0 x)]; omega
theorem deeps_cons (t : Ty) (ks : List Ty) : deeps (t :: ks) = max t.deep (deeps ks) := by
  unfold deeps
  simp only [List.map_cons, List.foldl_cons]
  rw [foldl_max_at]
  omega
theorem deeps_app (xs ys : List Ty) : deeps (xs ++ ys) = max (deeps xs) (deeps ys) := by
  induction xs with
  | nil => unfold deeps; simp
  | cons x xs ih => rw [List.cons_append, deeps_cons, deeps_cons, ih]; omega
theorem deeps_next : ∀ ks : List Ty, deeps (nextL ks) = deeps ks - 1
  | [] => rfl
  | .node a cs :: ks => by
    have ih := deeps_next ks
    have h : nextL (.node a cs :: ks) = cs ++ nextL ks := rfl
    rw [h, deeps_app, deeps_cons, ih, deep_node]
    have : deeps cs = (cs.map Tr.deep).foldl max 0 := rfl
    omega
theorem deep_posL (t : Ty) : 0 < t.deep := by
  cases t with
  | node a ks => rw [deep_node]; omega
theorem deeps_nil {ks : List Ty} : deeps ks = 0 ↔ ks = [] := by
  cases ks with
  | nil => exact ⟨fun _ => rfl, fun _ => rfl⟩
  | cons t ks =>
    rw [deeps_cons]
    have := deep_posL t
    exact ⟨fun h => by omega, fun h => by cases h⟩
theorem deeps_lev (ks : List Ty) : ∀ k, deeps (lev ks k) = deeps ks - k
  | 0 => rfl
  | k + 1 => by
    show deeps (nextL (lev ks k)) = _
    rw [deeps_next, deeps_lev ks k]
    omega
theorem deeps_one (t : Ty) : deeps [t] = t.deep := by
  rw [deeps_cons]
  unfold deeps
  simp
theorem lev_pos {t : Ty} {k : Nat} (h : k < t.deep) : 0 < (lev [t] k).length := by
  rcases Nat.eq_zero_or_pos (lev [t] k).length with h0 | h0
  · have h1 := deeps_lev [t] k
    rw [List.eq_nil_of_length_eq_zero h0, deeps_one] at h1
    have : deeps ([] : List Ty) = 0 := rfl
    omega
  · exact h0
theorem lev_end {t : Ty} {k : Nat} (h : t.deep ≤ k) : lev [t] k = [] := by
  refine deeps_nil.1 ?_
  rw [deeps_lev, deeps_one]
  omega
/-- what is counted in the first k levels -/
def upTo (f : List Ty → Nat) (ks : List Ty) : Nat → Nat
  | 0 => 0
  | k + 1 => upTo f ks k + f (lev ks k)
theorem upTo_size (ks : List Ty) : ∀ k, upTo List.length ks k + sizes (lev ks k) = sizes ks
  | 0 => by simp [upTo, lev]
  | k + 1 => by
    have h1 := upTo_size ks k
    have h2 := sizes_next (lev ks k)
    show upTo List.length ks k + (lev ks k).length + sizes (nextL (lev ks k)) = _
    omega
theorem upTo_bags (ks : List Ty) : ∀ k, upTo bagsTop ks k + bagsL (lev ks k) = bagsL ks
  | 0 => by simp [upTo, lev]
  | k + 1 => by
    have h1 := upTo_bags ks k
    have h2 := bags_next (lev ks k)
    show upTo bagsTop ks k + bagsTop (lev ks k) + bagsL (nextL (lev ks k)) = _
    omega
theorem sizes_one (t : Ty) : sizes [t] = t.size := by simp [sizes]
theorem bagsL_one (t : Ty) : bagsL [t] = t.bags := by simp [bagsL]
theorem upTo_size_all (t : Ty) : upTo List.length [t] t.deep = t.size := by
  have h := upTo_size [t] t.deep
  rw [lev_end (Nat.le_refl _), sizes_one] at h
  exact h
theorem upTo_bags_all (t : Ty) : upTo bagsTop [t] t.deep = t.bags := by
  have h := upTo_bags [t] t.deep
  rw [lev_end (Nat.le_refl _), bagsL_one] at h
  exact h
theorem upTo_mono (f : List Ty → Nat) (ks : List Ty) : ∀ {i k : Nat}, i ≤ k → upTo f ks i ≤ upTo f ks k
  | i, 0, h => by rw [Nat.le_zero.1 h]; exact Nat.le_refl _
  | i, k + 1, h => by
    rcases Nat.lt_or_ge i (k + 1) with h1 | h1
    · have := upTo_mono f ks (i := i) (k := k) (by omega)
      show _ ≤ upTo f ks k + f (lev ks k)
      omega
    · rw [show i = k + 1 by omega]; exact Nat.le_refl _
theorem lev_sizes (t : Ty) (k : Nat) : sizes (lev [t] k) ≤ t.size := by
  have := upTo_size [t] k
  rw [sizes_one] at this
  omega
theorem len_le_sizes (ks : List Ty) : ks.length ≤ sizes ks := by rw [sizes_next]; omega

/-- the slice with the address A, in the world w, holds a row of types that read in the world w0 -/
def RowL (w0 w : World) (A : Option Addr) (ks : List Ty) : Prop := ∃ xs : List Value, xs.length = ks.length * 3 ∧ Sl w A xs ∧ ∀ j t, ks[j]? = some t → RTy w0 t (part3 xs j)
theorem RowL.under {w0 w w' : World} {A : Option Addr} {ks : List Ty} (h : RowL w0 w A ks) (hb : Below w.heap.size w w') : RowL w0 w' A ks := by
  obtain ⟨xs, h1, h2, h3⟩ := h
  exact ⟨xs, h1, h2.below hb, h3⟩
theorem RTy.three' {w : World} {t : Ty} {cs : List Value} (h : RTy w t cs) : ∃ c0 c1 c2, cs = [c0, c1, c2] ∧ ∀ u ∈ cs, u.oneCell' = true := by
  cases t with
  | node a ks =>
    obtain ⟨L, c, A, d, rfl, _⟩ := h.out
    exact ⟨_, _, _, rfl, by intro u hu; simp at hu; rcases hu with rfl | rfl | rfl <;> rfl⟩
/-- the nodes below one node, as a row -/
theorem RKids.row {w : World} {A : Option Addr} {ks : List Ty} (h : RKids w A ks) : RowL w w A ks := by
  obtain ⟨ps, hp⟩ := h
  have hl : ∀ j, j < ks.length → (ps j).length = 3 := fun j hj => Reads.len (hp j ks[j] (List.getElem?_eq_getElem hj)).1
  refine ⟨(List.range (ks.length * 3)).map fun i => ((ps (i / 3))[i % 3]?).getD (.int .i64 0), by simp, fun i u hi => ?_, fun j t hj => ?_⟩
  · rw [List.getElem?_map] at hi
    obtain ⟨i', h1, h2⟩ := Option.map_eq_some_iff.1 hi
    have hil : i < ks.length * 3 := by have := (List.getElem?_eq_some_iff.1 h1).1; simpa using this
    rw [List.getElem?_range hil] at h1
    injection h1 with h1
    subst h1
    have hj : i / 3 < ks.length := by omega
    obtain ⟨_, ad, e, hc⟩ := hp (i / 3) ks[i / 3] (List.getElem?_eq_getElem hj)
    have hm : i % 3 < (ps (i / 3)).length := by rw [hl _ hj]; omega
    rw [List.getElem?_eq_getElem hm] at h2
    refine ⟨ad, e, ?_⟩
    have := hc (i % 3) u (by rw [List.getElem?_eq_getElem hm]; exact congrArg some h2)
    rwa [show i / 3 * 3 + i % 3 = i by omega] at this
  · have hjl := (List.getElem?_eq_some_iff.1 hj).1
    have hr := (hp j t hj).1
    have e : part3 ((List.range (ks.length * 3)).map fun i => ((ps (i / 3))[i % 3]?).getD (.int .i64 0)) j = ps j := by
      apply List.ext_getElem?
      intro i
      by_cases hi : i < 3
      · rw [part3_get _ _ _ hi, List.getElem?_map, List.getElem?_range (by omega)]
        have hd : (j * 3 + i) / 3 = j := by omega
        have hm : (j * 3 + i) % 3 = i := by omega
        rw [Option.map_some, hd, hm, List.getElem?_eq_getElem (by rw [hl _ hjl]; exact hi)]
        rfl
      · rw [List.getElem?_eq_none (by rw [part3_len _ _ (by simp; omega)]; omega), List.getElem?_eq_none (by rw [hl _ hjl]; omega)]
    rw [e]
    exact hr
/-- the k-th node of a row, as the walk asks for it -/
theorem row_at {w0 w : World} {A : Option Addr} {ks : List Ty} (h : RowL w0 w A ks) {k : Nat} (hk : k < ks.length) : ∃ (ad p : Addr) (c0 c1 c2 : Value), A = some ad ∧ ad.add (k * 3) = p ∧ RTy w0 ks[k] [c0, c1, c2] ∧ w.cell? p = some c0 ∧ w.cell? ⟨p.block, p.off + 1, none⟩ = some c1 ∧ w.cell? ⟨p.block, p.off + 2, none⟩ = some c2 := by
  obtain ⟨xs, h1, h2, h3⟩ := h
  have hr := h3 k ks[k] (List.getElem?_eq_getElem hk)
  obtain ⟨c0, c1, c2, e, _⟩ := hr.three'
  rw [e] at hr
  have hx : ∀ i, i < 3 → xs[k * 3 + i]? = [c0, c1, c2][i]? := fun i hi => by rw [← part3_get _ _ _ hi, e]
  obtain ⟨ad, rfl, q0⟩ := h2 (k * 3 + 0) c0 (hx 0 (by omega))
  obtain ⟨_, e1, q1⟩ := h2 (k * 3 + 1) c1 (hx 1 (by omega))
  injection e1 with e1
  subst e1
  obtain ⟨_, e2, q2⟩ := h2 (k * 3 + 2) c2 (hx 2 (by omega))
  injection e2 with e2
  subst e2
  refine ⟨_, _, c0, c1, c2, rfl, rfl, hr, q0, ?_, ?_⟩
  · rw [← addr_next _ (k * 3) 1 (by omega)]; exact q1
  · rw [← addr_next _ (k * 3) 2 (by omega)]; exact q2

theorem nextL_take (ks : List Ty) (k : Nat) (h : k < ks.length) : nextL (ks.take (k + 1)) = nextL (ks.take k) ++ ks[k].kids := by
  unfold nextL
  rw [List.take_succ_eq_append_getElem h, List.flatMap_append]
  simp
theorem part3_appL {xs ys : List Value} {n j : Nat} (hl : xs.length = n * 3) (hj : j < n) : part3 (xs ++ ys) j = part3 xs j :=
  part3_ext fun i hi => by rw [List.getElem?_append_left (by omega)]
theorem part3_appR {xs ys : List Value} {n j : Nat} (hl : xs.length = n * 3) : part3 (xs ++ ys) (n + j) = part3 ys j := by
  unfold part3
  have e : (n + j) * 3 = xs.length + j * 3 := by omega
  rw [e, List.drop_append, List.drop_eq_nil_of_le (by omega), Nat.add_sub_cancel_left, List.nil_append]
theorem rowL_app {w0 : World} {ks ls : List Ty} {xs ys : List Value} (hx : xs.length = ks.length * 3) (h1 : ∀ j t, ks[j]? = some t → RTy w0 t (part3 xs j)) (h2 : ∀ j t, ls[j]? = some t → RTy w0 t (part3 ys j)) :
    ∀ j t, (ks ++ ls)[j]? = some t → RTy w0 t (part3 (xs ++ ys) j) := by
  intro j t hj
  by_cases h : j < ks.length
  · rw [List.getElem?_append_left h] at hj
    rw [part3_appL hx h]
    exact h1 j t hj
  · obtain ⟨i, rfl⟩ : ∃ i, j = ks.length + i := ⟨j - ks.length, by omega⟩
    rw [List.getElem?_append_right (by omega), Nat.add_sub_cancel_left] at hj
    rw [part3_appR hx]
    exact h2 i t hj
theorem row_oneCell {w0 : World} {ks : List Ty} {xs : List Value} (hx : xs.length = ks.length * 3) (h : ∀ j t, ks[j]? = some t → RTy w0 t (part3 xs j)) : ∀ u ∈ xs, u.oneCell' = true := by
  intro u hu
  obtain ⟨i, hi, rfl⟩ := List.getElem_of_mem hu
  have hj : i / 3 < ks.length := by omega
  obtain ⟨_, _, _, _, h1⟩ := (h (i / 3) ks[i / 3] (List.getElem?_eq_getElem hj)).three'
  refine h1 _ (List.mem_of_getElem? (i := i % 3) ?_)
  rw [part3_get _ _ _ (by omega), show i / 3 * 3 + i % 3 = i by omega, List.getElem?_eq_getElem hi]

theorem own_slice3 {w : World} {base size : Nat} {e : TypeId} {v : Value} {n : Nat} {xs : List Value} (h : w.ownsRow base e size v n xs) : ∃ A c, v = .slice A n c := by
  rcases h.2 with ⟨rfl, rfl⟩ | ⟨g, cap, cur, rfl, _⟩
  · exact ⟨none, 0, rfl⟩
  · exact ⟨_, cap, rfl⟩
section
variable {P : Program}
theorem run_append_none3 (w : World) (base size : Nat) (t ty e : TypeId) (i : TypeInfo) (ht : P.underlying t = some (.slice e)) (hi : P.info? e = some i) (v : Value) (n : Nat) (xs : List Value) (hown : w.ownsRow base e size v n xs) (c : Nat) :
    (Builtin.append_ #[t, t] ty #[v, .slice none 0 c]).run P w = .ok v w := by
  rcases hown.2 with ⟨rfl, rfl⟩ | ⟨g, cap, cur, rfl, _, _, hnc, _⟩
  · simp [Builtin.append_, run_underlying ht, sizeOf, typeInfo, hi, Builtin.lenOf, Builtin.firstCells]
  · simp [Builtin.append_, run_underlying ht, sizeOf, typeInfo, hi, Builtin.lenOf, Builtin.firstCells, hnc, storeCells]
theorem wpList_append_row3 (w : World) {ops : Array Oper} {rest : List Oper} {o : Oper} {a : Act} {Q : Exit → Act → World → Prop} (hgd : o.guard = none) (s x : Operand) (t : TypeId)
    (ho : o.op = .call { callee := .builtin .append, args := #[s, x], argTypes := #[t, t] })
    (base : Nat) (e : TypeId) (i : TypeInfo) (z : Value) (bytes : Nat) (ht : P.underlying t = some (.slice e)) (hi : P.info? e = some i) (hz : i.zero = some z) (hsize : i.size = 3) (hby : i.bytes = bytes) (hzs : z.cells.size = 3)
    (v : Value) (n : Nat) (xs : List Value) (hs : a.eval s = v) (hown : w.ownsRow base e 3 v n xs) (A : Option Addr) (m c : Nat) (news : List Value) (hx : a.eval x = .slice A m c) (hl : news.length = m * 3) (hnews : Sl w A news) (h1 : ∀ u ∈ news, u.oneCell' = true)
    (h63 : n + m ≤ maxLen) (hbytes : (n + m) * bytes ≤ 140737488355328) (hbase : base ≤ w.heap.size)
    (h : ∀ v' w', w'.ownsRow base e 3 v' (n + m) (xs ++ news) → w.grownBy w' v.ownBlock → wpList P ops Q rest (a.put o.dst v') w') : wpList P ops Q (o :: rest) a w := by
  cases A with
  | none =>
    have hn : news = [] := by
      cases news with
      | nil => rfl
      | cons u r =>
        obtain ⟨ad, e, _⟩ := hnews 0 u rfl
        cases e
    subst hn
    have hm : m = 0 := by simp at hl; omega
    subst hm
    exact Lib.wpList_append_run w hgd s x t t ho _ _ hs hx v w (run_append_none3 w base 3 t o.type e i ht hi v n xs hown c) (h v w (by simpa using hown) (World.grownBy.refl w _))
  | some ad =>
    have hc : ∀ j u, news[j]? = some u → w.cell? (ad.add j) = some u := by
      intro j u hj
      obtain ⟨ad', e, hcc⟩ := hnews j u hj
      injection e with e
      subst e
      exact hcc
    obtain ⟨v', w', h2, h3, h4, _, h5⟩ := run_append_own_at (P := P) w base t o.type e i z 3 bytes ht hi hz hsize hby hzs (by omega) v n xs hown ad m c news hl hc h1 h63 hbytes hbase
    exact Lib.wpList_append_run w hgd s x t t ho _ _ hs hx v' w' h2 (h v' w' h3 h4)
end

/-- a row in new memory -/
def MadeN (w0 : World) (ks : List Ty) (w : World) (e : Ending) (w' : World) : Prop := ∃ A c, e = .returned (.slice A ks.length c) ∧ RowL w0 w' A ks ∧ (∀ b ∈ blk A, w.heap.size ≤ b) ∧ Below w.heap.size w w'
def ArgsInv (w0 : World) (ks : List Ty) (w : World) (i v : Value) (wr : World) : Prop := ∃ (k : Nat) (xs : List Value), k ≤ ks.length ∧ i = .int .i64 k ∧ wr.ownsRow w.heap.size 41 3 v (nextL (ks.take k)).length xs ∧ (∀ j t, (nextL (ks.take k))[j]? = some t → RTy w0 t (part3 xs j)) ∧ Below w.heap.size w wr
theorem sizes_le {t : Ty} {ks : List Ty} (h : t ∈ ks) : t.size ≤ sizes ks := kid_sum_le Tr.size h
theorem nextL_len (ks : List Ty) (k : Nat) : (nextL (ks.take k)).length ≤ sizes ks := by
  have h1 := len_le_sizes (nextL (ks.take k))
  have h2 := sizes_next (ks.take k)
  have h3 := sum_take_le Tr.size ks k
  unfold sizes at *
  omega
end Go.Proofs.Ytlikmgkjilmjpaa
