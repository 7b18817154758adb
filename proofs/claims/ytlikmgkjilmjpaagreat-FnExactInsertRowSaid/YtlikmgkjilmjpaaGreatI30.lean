/-
  Merged by program: Lev, HasSp, IsDbS.
-/
import Derived.Test.YtlikmgkjilmjpaaGreatI7
import Derived.Test.YtlikmgkjilmjpaaGreatI2
import Derived.Test.YtlikmgkjilmjpaaGreatI4
import Derived.Test.YtlikmgkjilmjpaaGreatI1
import Derived.Test.YtlikmgkjilmjpaaGreatI3
import Derived.Test.YtlikmgkjilmjpaaGreatI29
import Derived.Test.YtlikmgkjilmjpaaGreatI19
import Derived.Test.YtlikmgkjilmjpaaGreatI28
import Derived.Test.YtlikmgkjilmjpaaGreatI6
import Derived.Test.YtlikmgkjilmjpaaGreatI11
import Derived.Deep.RegionHeld3
import Derived.StillTailTactics

/-
  The program's argsOfAll: the nodes below a list of nodes, in new memory. And the levels of a type: what is counted over them.
-/
namespace Go.Proofs.YtlikmgkjilmjpaaGreat
open Go.RowKit

/-- the nodes one level down -/
def nextL (ks : List Ty) : List Ty := ks.flatMap Tr.kids
/-- the k-th level -/
def lev (ks : List Ty) : Nat → List Ty
  | 0 => ks
  | k + 1 => nextL (lev ks k)
def sizes (ks : List Ty) : Nat := (ks.map Tr.size).sum
def bagsL (ks : List Ty) : Nat := (ks.map Tr.bags).sum
def deeps (ks : List Ty) : Nat := (ks.map Tr.deep).foldl max 0
/-- the bags among a list of nodes themselves -/
def bagsTop (ks : List Ty) : Nat := (ks.map fun t => if t.top.kind = 4 then 1 else 0).sum
theorem sizes_next : ∀ ks : List Ty, sizes ks = ks.length + sizes (nextL ks)
  | [] => rfl
  | .node a cs :: ks => by
    have ih := sizes_next ks
    unfold sizes nextL at *
    simp only [List.map_cons, List.sum_cons, List.flatMap_cons, List.map_append, List.sum_append, List.length_cons, size_node, Tr.kids]
    omega
theorem bags_next : ∀ ks : List Ty, bagsL ks = bagsTop ks + bagsL (nextL ks)
  | [] => rfl
  | .node a cs :: ks => by
    have ih := bags_next ks
    unfold bagsL bagsTop nextL at *
    simp only [List.map_cons, List.sum_cons, List.flatMap_cons, List.map_append, List.sum_append, bags_node, Tr.kids, show (Tr.node a cs).top = a from rfl]
    omega
theorem foldl_max_at {xs : List Nat} : ∀ a : Nat, xs.foldl max a = max a (xs.foldl max 0) := by
  induction xs with
  | nil => intro a; simp
  | cons x xs ih => intro a; simp only [List.foldl_cons]; rw [ih (max a x), ih (max 0 x)]; omega
theorem deeps_cons (t : Ty) (ks : List Ty) : deeps (t :: ks) = max t.deep (deeps ks) := by
  unfold deeps
  simp only [List.map_cons, List.foldl_cons]
  rw [foldl_max_at]
  omega
theorem deeps_app (xs ys : List Ty) : deeps (xs ++ ys) = max (deeps xs) (deeps ys) := by
  induction xs with
  | nil => unfold deeps; simp
  | cons x xs ih => rw [List.cons_append, deeps_cons, deeps_cons, ih]; omega
theorem deeps_next : ∀ ks : List Ty, deeps (nextL ks) = deeps ks - 1
  | [] => rfl
  | .node a cs :: ks => by
    have ih := deeps_next ks
    have h : nextL (.node a cs :: ks) = cs ++ nextL ks := rfl
    rw [h, deeps_app, deeps_cons, ih, deep_node]
    have : deeps cs = (cs.map Tr.deep).foldl max 0 := rfl
    omega
theorem deep_posL (t : Ty) : 0 < t.deep := by
  cases t with
  | node a ks => rw [deep_node]; omega
theorem deeps_nil {ks : List Ty} : deeps ks = 0 ↔ ks = [] := by
  cases ks with
  | nil => exact ⟨fun _ => rfl, fun _ => rfl⟩
  | cons t ks =>
    rw [deeps_cons]
    have := deep_posL t
    exact ⟨fun h => by omega, fun h => by cases h⟩
theorem deeps_lev (ks : List Ty) : ∀ k, deeps (lev ks k) = deeps ks - k
  | 0 => rfl
  | k + 1 => by
    show deeps (nextL (lev ks k)) = _
    rw [deeps_next, deeps_lev ks k]
    omega
theorem deeps_one (t : Ty) : deeps [t] = t.deep := by
  rw [deeps_cons]
  unfold deeps
  simp
theorem lev_pos {t : Ty} {k : Nat} (h : k < t.deep) : 0 < (lev [t] k).length := by
  rcases Nat.eq_zero_or_pos (lev [t] k).length with h0 | h0
  · have h1 := deeps_lev [t] k
    rw [List.eq_nil_of_length_eq_zero h0, deeps_one] at h1
    have : deeps ([] : List Ty) = 0 := rfl
    omega
  · exact h0
theorem lev_end {t : Ty} {k : Nat} (h : t.deep ≤ k) : lev [t] k = [] := by
  refine deeps_nil.1 ?_
  rw [deeps_lev, deeps_one]
  omega
/-- what is counted in the first k levels -/
def upTo (f : List Ty → Nat) (ks : List Ty) : Nat → Nat
  | 0 => 0
  | k + 1 => upTo f ks k + f (lev ks k)
theorem upTo_size (ks : List Ty) : ∀ k, upTo List.length ks k + sizes (lev ks k) = sizes ks
  | 0 => by simp [upTo, lev]
  | k + 1 => by
    have h1 := upTo_size ks k
    have h2 := sizes_next (lev ks k)
    show upTo List.length ks k + (lev ks k).length + sizes (nextL (lev ks k)) = _
    omega
theorem upTo_bags (ks : List Ty) : ∀ k, upTo bagsTop ks k + bagsL (lev ks k) = bagsL ks
  | 0 => by simp [upTo, lev]
  | k + 1 => by
    have h1 := upTo_bags ks k
    have h2 := bags_next (lev ks k)
    show upTo bagsTop ks k + bagsTop (lev ks k) + bagsL (nextL (lev ks k)) = _
    omega
theorem sizes_one (t : Ty) : sizes [t] = t.size := by simp [sizes]
theorem bagsL_one (t : Ty) : bagsL [t] = t.bags := by simp [bagsL]
theorem upTo_size_all (t : Ty) : upTo List.length [t] t.deep = t.size := by
  have h := upTo_size [t] t.deep
  rw [lev_end (Nat.le_refl _), sizes_one] at h
  exact h
theorem upTo_bags_all (t : Ty) : upTo bagsTop [t] t.deep = t.bags := by
  have h := upTo_bags [t] t.deep
  rw [lev_end (Nat.le_refl _), bagsL_one] at h
  exact h
theorem upTo_mono (f : List Ty → Nat) (ks : List Ty) : ∀ {i k : Nat}, i ≤ k → upTo f ks i ≤ upTo f ks k
  | i, 0, h => by rw [Nat.le_zero.1 h]; exact Nat.le_refl _
  | i, k + 1, h => by
    rcases Nat.lt_or_ge i (k + 1) with h1 | h1
    · have := upTo_mono f ks (i := i) (k := k) (by omega)
      show _ ≤ upTo f ks k + f (lev ks k)
      omega
    · rw [show i = k + 1 by omega]; exact Nat.le_refl _
theorem lev_sizes (t : Ty) (k : Nat) : sizes (lev [t] k) ≤ t.size := by
  have := upTo_size [t] k
  rw [sizes_one] at this
  omega
theorem len_le_sizes (ks : List Ty) : ks.length ≤ sizes ks := by rw [sizes_next]; omega

/-- the slice with the address A, in the world w, holds a row of types that read in the world w0 -/
def RowL (w0 w : World) (A : Option Addr) (ks : List Ty) : Prop := ∃ xs : List Value, xs.length = ks.length * 3 ∧ Sl w A xs ∧ ∀ j t, ks[j]? = some t → RTy w0 t (part3 xs j)
theorem RowL.under {w0 w w' : World} {A : Option Addr} {ks : List Ty} (h : RowL w0 w A ks) (hb : Below w.heap.size w w') : RowL w0 w' A ks := by
  obtain ⟨xs, h1, h2, h3⟩ := h
  exact ⟨xs, h1, h2.below hb, h3⟩
theorem RTy.three' {w : World} {t : Ty} {cs : List Value} (h : RTy w t cs) : ∃ c0 c1 c2, cs = [c0, c1, c2] ∧ ∀ u ∈ cs, u.oneCell' = true := by
  cases t with
  | node a ks =>
    obtain ⟨L, c, A, d, rfl, _⟩ := h.out
    exact ⟨_, _, _, rfl, by intro u hu; simp at hu; rcases hu with rfl | rfl | rfl <;> rfl⟩
/-- the nodes below one node, as a row -/
theorem RKids.row {w : World} {A : Option Addr} {ks : List Ty} (h : RKids w A ks) : RowL w w A ks := by
  obtain ⟨ps, hp⟩ := h
  have hl : ∀ j, j < ks.length → (ps j).length = 3 := fun j hj => Reads.len (hp j ks[j] (List.getElem?_eq_getElem hj)).1
  refine ⟨(List.range (ks.length * 3)).map fun i => ((ps (i / 3))[i % 3]?).getD (.int .i64 0), by simp, fun i u hi => ?_, fun j t hj => ?_⟩
  · rw [List.getElem?_map] at hi
    obtain ⟨i', h1, h2⟩ := Option.map_eq_some_iff.1 hi
    have hil : i < ks.length * 3 := by have := (List.getElem?_eq_some_iff.1 h1).1; simpa using this
    rw [List.getElem?_range hil] at h1
    injection h1 with h1
    subst h1
    have hj : i / 3 < ks.length := by omega
    obtain ⟨_, ad, e, hc⟩ := hp (i / 3) ks[i / 3] (List.getElem?_eq_getElem hj)
    have hm : i % 3 < (ps (i / 3)).length := by rw [hl _ hj]; omega
    rw [List.getElem?_eq_getElem hm] at h2
    refine ⟨ad, e, ?_⟩
    have := hc (i % 3) u (by rw [List.getElem?_eq_getElem hm]; exact congrArg some h2)
    rwa [show i / 3 * 3 + i % 3 = i by omega] at this
  · have hjl := (List.getElem?_eq_some_iff.1 hj).1
    have hr := (hp j t hj).1
    have e : part3 ((List.range (ks.length * 3)).map fun i => ((ps (i / 3))[i % 3]?).getD (.int .i64 0)) j = ps j := by
      apply List.ext_getElem?
      intro i
      by_cases hi : i < 3
      · rw [part3_get _ _ _ hi, List.getElem?_map, List.getElem?_range (by omega)]
        have hd : (j * 3 + i) / 3 = j := by omega
        have hm : (j * 3 + i) % 3 = i := by omega
        rw [Option.map_some, hd, hm, List.getElem?_eq_getElem (by rw [hl _ hjl]; exact hi)]
        rfl
      · rw [List.getElem?_eq_none (by rw [part3_len _ _ (by simp; omega)]; omega), List.getElem?_eq_none (by rw [hl _ hjl]; omega)]
    rw [e]
    exact hr
/-- the k-th node of a row, as the walk asks for it -/
theorem row_at {w0 w : World} {A : Option Addr} {ks : List Ty} (h : RowL w0 w A ks) {k : Nat} (hk : k < ks.length) : ∃ (ad p : Addr) (c0 c1 c2 : Value), A = some ad ∧ ad.add (k * 3) = p ∧ RTy w0 ks[k] [c0, c1, c2] ∧ w.cell? p = some c0 ∧ w.cell? ⟨p.block, p.off + 1, none⟩ = some c1 ∧ w.cell? ⟨p.block, p.off + 2, none⟩ = some c2 := by
  obtain ⟨xs, h1, h2, h3⟩ := h
  have hr := h3 k ks[k] (List.getElem?_eq_getElem hk)
  obtain ⟨c0, c1, c2, e, _⟩ := hr.three'
  rw [e] at hr
  have hx : ∀ i, i < 3 → xs[k * 3 + i]? = [c0, c1, c2][i]? := fun i hi => by rw [← part3_get _ _ _ hi, e]
  obtain ⟨ad, rfl, q0⟩ := h2 (k * 3 + 0) c0 (hx 0 (by omega))
  obtain ⟨_, e1, q1⟩ := h2 (k * 3 + 1) c1 (hx 1 (by omega))
  injection e1 with e1
  subst e1
  obtain ⟨_, e2, q2⟩ := h2 (k * 3 + 2) c2 (hx 2 (by omega))
  injection e2 with e2
  subst e2
  refine ⟨_, _, c0, c1, c2, rfl, rfl, hr, q0, ?_, ?_⟩
  · rw [← addr_next _ (k * 3) 1 (by omega)]; exact q1
  · rw [← addr_next _ (k * 3) 2 (by omega)]; exact q2

theorem nextL_take (ks : List Ty) (k : Nat) (h : k < ks.length) : nextL (ks.take (k + 1)) = nextL (ks.take k) ++ ks[k].kids := by
  unfold nextL
  rw [List.take_succ_eq_append_getElem h, List.flatMap_append]
  simp
theorem part3_appL {xs ys : List Value} {n j : Nat} (hl : xs.length = n * 3) (hj : j < n) : part3 (xs ++ ys) j = part3 xs j :=
  part3_ext fun i hi => by rw [List.getElem?_append_left (by omega)]
theorem part3_appR {xs ys : List Value} {n j : Nat} (hl : xs.length = n * 3) : part3 (xs ++ ys) (n + j) = part3 ys j := by
  unfold part3
  have e : (n + j) * 3 = xs.length + j * 3 := by omega
  rw [e, List.drop_append, List.drop_eq_nil_of_le (by omega), Nat.add_sub_cancel_left, List.nil_append]
theorem rowL_app {w0 : World} {ks ls : List Ty} {xs ys : List Value} (hx : xs.length = ks.length * 3) (h1 : ∀ j t, ks[j]? = some t → RTy w0 t (part3 xs j)) (h2 : ∀ j t, ls[j]? = some t → RTy w0 t (part3 ys j)) :
    ∀ j t, (ks ++ ls)[j]? = some t → RTy w0 t (part3 (xs ++ ys) j) := by
  intro j t hj
  by_cases h : j < ks.length
  · rw [List.getElem?_append_left h] at hj
    rw [part3_appL hx h]
    exact h1 j t hj
  · obtain ⟨i, rfl⟩ : ∃ i, j = ks.length + i := ⟨j - ks.length, by omega⟩
    rw [List.getElem?_append_right (by omega), Nat.add_sub_cancel_left] at hj
    rw [part3_appR hx]
    exact h2 i t hj
theorem row_oneCell {w0 : World} {ks : List Ty} {xs : List Value} (hx : xs.length = ks.length * 3) (h : ∀ j t, ks[j]? = some t → RTy w0 t (part3 xs j)) : ∀ u ∈ xs, u.oneCell' = true := by
  intro u hu
  obtain ⟨i, hi, rfl⟩ := List.getElem_of_mem hu
  have hj : i / 3 < ks.length := by omega
  obtain ⟨_, _, _, _, h1⟩ := (h (i / 3) ks[i / 3] (List.getElem?_eq_getElem hj)).three'
  refine h1 _ (List.mem_of_getElem? (i := i % 3) ?_)
  rw [part3_get _ _ _ (by omega), show i / 3 * 3 + i % 3 = i by omega, List.getElem?_eq_getElem hi]

theorem own_slice3 {w : World} {base size : Nat} {e : TypeId} {v : Value} {n : Nat} {xs : List Value} (h : w.ownsRow base e size v n xs) : ∃ A c, v = .slice A n c := by
  rcases h.2 with ⟨rfl, rfl⟩ | ⟨g, cap, cur, rfl, _⟩
  · exact ⟨none, 0, rfl⟩
  · exact ⟨_, cap, rfl⟩
section
variable {P : Program}
theorem run_append_none3 (w : World) (base size : Nat) (t ty e : TypeId) (i : TypeInfo) (ht : P.underlying t = some (.slice e)) (hi : P.info? e = some i) (v : Value) (n : Nat) (xs : List Value) (hown : w.ownsRow base e size v n xs) (c : Nat) :
    (Builtin.append_ #[t, t] ty #[v, .slice none 0 c]).run P w = .ok v w := by
  rcases hown.2 with ⟨rfl, rfl⟩ | ⟨g, cap, cur, rfl, _, _, hnc, _⟩
  · simp [Builtin.append_, run_underlying ht, sizeOf, typeInfo, hi, Builtin.lenOf, Builtin.firstCells]
  · simp [Builtin.append_, run_underlying ht, sizeOf, typeInfo, hi, Builtin.lenOf, Builtin.firstCells, hnc, storeCells]
theorem wpList_append_row3 (w : World) {ops : Array Oper} {rest : List Oper} {o : Oper} {a : Act} {Q : Exit → Act → World → Prop} (hgd : o.guard = none) (s x : Operand) (t : TypeId)
    (ho : o.op = .call { callee := .builtin .append, args := #[s, x], argTypes := #[t, t] })
    (base : Nat) (e : TypeId) (i : TypeInfo) (z : Value) (bytes : Nat) (ht : P.underlying t = some (.slice e)) (hi : P.info? e = some i) (hz : i.zero = some z) (hsize : i.size = 3) (hby : i.bytes = bytes) (hzs : z.cells.size = 3)
    (v : Value) (n : Nat) (xs : List Value) (hs : a.eval s = v) (hown : w.ownsRow base e 3 v n xs) (A : Option Addr) (m c : Nat) (news : List Value) (hx : a.eval x = .slice A m c) (hl : news.length = m * 3) (hnews : Sl w A news) (h1 : ∀ u ∈ news, u.oneCell' = true)
    (h63 : n + m ≤ maxLen) (hbytes : (n + m) * bytes ≤ 140737488355328) (hbase : base ≤ w.heap.size)
    (h : ∀ v' w', w'.ownsRow base e 3 v' (n + m) (xs ++ news) → w.grownBy w' v.ownBlock → wpList P ops Q rest (a.put o.dst v') w') : wpList P ops Q (o :: rest) a w := by
  cases A with
  | none =>
    have hn : news = [] := by
      cases news with
      | nil => rfl
      | cons u r =>
        obtain ⟨ad, e, _⟩ := hnews 0 u rfl
        cases e
    subst hn
    have hm : m = 0 := by simp at hl; omega
    subst hm
    exact Lib.wpList_append_run w hgd s x t t ho _ _ hs hx v w (run_append_none3 w base 3 t o.type e i ht hi v n xs hown c) (h v w (by simpa using hown) (World.grownBy.refl w _))
  | some ad =>
    have hc : ∀ j u, news[j]? = some u → w.cell? (ad.add j) = some u := by
      intro j u hj
      obtain ⟨ad', e, hcc⟩ := hnews j u hj
      injection e with e
      subst e
      exact hcc
    obtain ⟨v', w', h2, h3, h4, _, h5⟩ := run_append_own_at (P := P) w base t o.type e i z 3 bytes ht hi hz hsize hby hzs (by omega) v n xs hown ad m c news hl hc h1 h63 hbytes hbase
    exact Lib.wpList_append_run w hgd s x t t ho _ _ hs hx v' w' h2 (h v' w' h3 h4)
end

/-- a row in new memory -/
def MadeN (w0 : World) (ks : List Ty) (w : World) (e : Ending) (w' : World) : Prop := ∃ A c, e = .returned (.slice A ks.length c) ∧ RowL w0 w' A ks ∧ (∀ b ∈ blk A, w.heap.size ≤ b) ∧ Below w.heap.size w w'
def ArgsInv (w0 : World) (ks : List Ty) (w : World) (i v : Value) (wr : World) : Prop := ∃ (k : Nat) (xs : List Value), k ≤ ks.length ∧ i = .int .i64 k ∧ wr.ownsRow w.heap.size 96 3 v (nextL (ks.take k)).length xs ∧ (∀ j t, (nextL (ks.take k))[j]? = some t → RTy w0 t (part3 xs j)) ∧ Below w.heap.size w wr
theorem sizes_le {t : Ty} {ks : List Ty} (h : t ∈ ks) : t.size ≤ sizes ks := kid_sum_le Tr.size h
theorem nextL_len (ks : List Ty) (k : Nat) : (nextL (ks.take k)).length ≤ sizes ks := by
  have h1 := len_le_sizes (nextL (ks.take k))
  have h2 := sizes_next (ks.take k)
  have h3 := sum_take_le Tr.size ks k
  unfold sizes at *
  omega
end Go.Proofs.YtlikmgkjilmjpaaGreat

/-
  The model's HasType.
-/
namespace Go.Proofs.YtlikmgkjilmjpaaGreat
open Go.RowKit

set_option maxRecDepth 100000 in
set_option maxHeartbeats 1600000 in
theorem specHas_any (v : Va) (t : Ty) (w : World) (cs ds : List Value) (h : RVa w v cs) (h' : RTy w t ds) (hw : wt t ≤ 1048576) : Calls Tryz.prog 52 #[.agg cs.toArray, .agg ds.toArray] w (Truth (hasV v t) w) := by
  obtain ⟨c0, c1, c2, c3, rfl⟩ := h.four
  obtain ⟨d0, d1, d2, rfl, _⟩ := h'.three'
  obtain ⟨W1, hW1⟩ : ∃ W1, (w.alloc (.cells #[c0, c1, c2, c3] 47)).alloc (.cells #[d0, d1, d2] 96) = W1 := ⟨_, rfl⟩
  obtain ⟨H, hH⟩ : ∃ H, w.heap.size = H := ⟨_, rfl⟩
  have b0 : Box4 W1 H 47 c0 c1 c2 c3 := by rw [← hW1, ← hH]; exact (Box4.new w _ _ _ _ _).alloc _
  have b1 : Box3 W1 (H + 1) 96 d0 d1 d2 := by
    rw [← hW1, ← hH]
    have := Box3.new (w.alloc (.cells #[c0, c1, c2, c3] 47)) 96 d0 d1 d2
    simpa using this
  have hb1 : Below w.heap.size w W1 := by rw [← hW1]; exact ((Below.refl _ _).alloc (Nat.le_refl _) _).alloc (by simp) _
  have HC := Lib.hid (specData_any t W1 _ (h'.keep hb1) hw)
  have HL := Lib.hid (fun W (hB : Below w.heap.size w W) => l5Left_any v W _ 2000 (h.keep hB) (by decide) (by decide))
  have HH := Lib.hid (fun (hd : DatT t) W (hB : Below w.heap.size w W) => l5Has_any v t W _ _ hd (h.keep hB) (h'.keep hB))
  have HDT := Lib.hid (fun (hd : dataB t = true) => DatT.of hd)
  have hV : hasV v t = (dataB t && (decide (v.size ≤ 2000) && hasT t v)) := rfl
  obtain ⟨N, hN⟩ : ∃ N, hasV v t = N := ⟨_, rfl⟩
  rw [hN] at hV ⊢
  have HV := Lib.hid hV
  have HW1 := Lib.hid hW1
  have HB1 := Lib.hid hb1
  have B0 := Lib.hid b0
  have B1 := Lib.hid b1
  have x0 := b0.c0
  have x1 := b0.c1
  have x2 := b0.c2
  have x3 := b0.c3
  have y0 := b1.c0
  have y1 := b1.c1
  have y2 := b1.c2
  clear h h' hw b0 b1 hb1 hW1 hN hV
  go_enter Tryz.func52, Tryz.ntmps52
  go_wp2_with fail
  rw [HW1.out]
  go_wp2_with fail
  refine HC.out.mono ?_
  rintro e w1 ⟨rfl, hb⟩
  have HB2 := Lib.hid (HB1.out.trans (hb.mono HB1.out.size))
  have C0 := Lib.hid (B0.out.under hb B0.out.lt)
  have C1 := Lib.hid (B1.out.under hb B1.out.lt)
  clear x0 x1 x2 x3 y0 y1 y2 hb HC
  cases hd : dataB t
  · have HR : Hid (Truth N w (.returned (.bool false)) w1) := truth_iff (by rw [HV.out, hd]; rfl) HB2.out
    clear hd
    go_wp2_with fail
    go_ret
    exact HR.out
  · have HD := Lib.hid (HDT.out hd)
    have HV2 : Hid (N = (decide (v.size ≤ 2000) && hasT t v)) := by rw [hd] at HV; exact HV
    have HC := Lib.hid (HL.out w1 HB2.out)
    have x0 := C0.out.c0
    have x1 := C0.out.c1
    have x2 := C0.out.c2
    have x3 := C0.out.c3
    clear hd HV HL HDT
    go_wp2_with fail
    refine HC.out.mono ?_
    rintro e w2 ⟨r, rfl, r1, r2, r3, r4, hb⟩
    have HB3 := Lib.hid (HB2.out.trans (hb.mono HB2.out.size))
    have D0 := Lib.hid (C0.out.under hb C0.out.lt)
    have D1 := Lib.hid (C1.out.under hb C1.out.lt)
    clear x0 x1 x2 x3 hb HC
    by_cases hr : 0 ≤ r
    · have HV3 : Hid (N = hasT t v) := by
        show _ = _
        have := r3 hr
        rw [HV2.out, decide_eq_true (show v.size ≤ 2000 by omega), Bool.true_and]
      have HC := Lib.hid (HH.out HD.out w2 HB3.out)
      have x0 := D0.out.c0
      have x1 := D0.out.c1
      have x2 := D0.out.c2
      have x3 := D0.out.c3
      have y0 := D1.out.c0
      have y1 := D1.out.c1
      have y2 := D1.out.c2
      clear HV2 HH r3 r4
      go_wp2_with fail
      refine HC.out.mono ?_
      rintro e w3 ⟨rfl, hb⟩
      have HR : Hid (Truth N w (.returned (.bool (hasT t v))) w3) := truth_iff HV3.out (HB3.out.trans (hb.mono HB3.out.size))
      clear hb
      go_wp2_with fail
      go_ret
      exact HR.out
    · have HR : Hid (Truth N w (.returned (.bool false)) w2) := by
        have := r4 (by omega)
        exact truth_iff (by rw [HV2.out, decide_eq_false (show ¬ v.size ≤ 2000 by omega)]; rfl) HB3.out
      clear r3 r4
      go_wp2_with fail
      go_ret
      exact HR.out
end Go.Proofs.YtlikmgkjilmjpaaGreat

/-
  The model's IsDB.
-/
namespace Go.Proofs.YtlikmgkjilmjpaaGreat
open Go.RowKit

def IsdInv (t : Sc) (s : Db) (w : World) (i : Value) (wr : World) : Prop := ∃ k : Nat, k ≤ t.length ∧ i = .int .i64 (k : Int) ∧ PairsTo tdataB t s k ∧ Below w.heap.size w wr
def IsrInv (us : List Va) (ty : Ty) (w : World) (i : Value) (wr : World) : Prop := ∃ k : Nat, k ≤ us.length ∧ i = .int .i64 (k : Int) ∧ (us.take k).all (fun v => hasV v ty) = true ∧ Below w.heap.size w wr

set_option maxRecDepth 100000 in
set_option maxHeartbeats 6400000 in
theorem specIsDb_any (t : Sc) (s : Db) (w : World) (cs ds : List Value) (h : RSc w t cs) (h' : RDb w s ds) (hw : wSc t ≤ 1048576) : Calls Tryz.prog 28 #[.agg cs.toArray, .agg ds.toArray] w (Truth (dbB t s) w) := by
  obtain ⟨A, c, rfl, hl, _, hp⟩ := h.open
  obtain ⟨B, d, rfl, hl', _, hp'⟩ := h'.open
  obtain ⟨W1, hW1⟩ : ∃ W1, (w.alloc (.cells #[.slice A t.length c] 42)).alloc (.cells #[.slice B s.length d] 37) = W1 := ⟨_, rfl⟩
  obtain ⟨H, hH⟩ : ∃ H, w.heap.size = H := ⟨_, rfl⟩
  have b0 : Box1 W1 H 42 (.slice A t.length c) := by rw [← hW1, ← hH]; exact (Box1.new w _ _).alloc _
  have b1 : Box1 W1 (H + 1) 37 (.slice B s.length d) := by
    rw [← hW1, ← hH]
    have := Box1.new (w.alloc (.cells #[.slice A t.length c] 42)) 37 (.slice B s.length d)
    simpa using this
  have hb1 : Below w.heap.size w W1 := by rw [← hW1]; exact ((Below.refl _ _).alloc (Nat.le_refl _) _).alloc (by simp) _
  have HSCH := Lib.hid (specSch_any t W1 _ (h.keep hb1) hw)
  have HWT := Lib.hid hw
  have HA := Lib.hid (fun (W : World) (hB : Below W1.heap.size W1 W) => b0.under hB b0.lt)
  have HB := Lib.hid (fun (W : World) (hB : Below W1.heap.size W1 W) => b1.under hB b1.lt)
  have HP := Lib.hid (hp.keep hb1)
  have HP' := Lib.hid (hp'.keep hb1)
  have HW1 := Lib.hid hW1
  have HT : Hid (∀ b W, b = dbB t s → Below W1.heap.size W1 W → Truth (dbB t s) w (.returned (.bool b)) W) := Lib.hid (fun b W hb hB => ⟨by rw [hb], hb1.trans (hB.mono hb1.size)⟩)
  have x0 := b0.c0
  have y0 := b1.c0
  clear h h' hp hp' hW1 b0 b1 hb1 hw
  cases hsb : schB t
  · have HR := Lib.hid (fun W => HT.out false W (by unfold dbB; rw [hsb]; rfl))
    rw [hsb] at HSCH
    clear hsb
    go_enter Tryz.func28, Tryz.ntmps28
    go_wp2_with fail
    rw [HW1.out]
    go_wp2_with fail
    refine HSCH.out.mono ?_
    rintro e w2 ⟨rfl, hb2⟩
    have HRR := Lib.hid (HR.out w2 hb2)
    clear hb2
    go_wp2_with fail
    go_ret
    exact HRR.out
  rw [hsb] at HSCH
  go_enter Tryz.func28, Tryz.ntmps28
  go_wp2_with fail
  rw [HW1.out]
  go_wp2_with fail
  refine HSCH.out.mono ?_
  rintro e w2 ⟨rfl, hb2⟩
  have HB2 := Lib.hid hb2
  clear x0 y0
  have x0 := (HA.out w2 hb2).c0
  have y0 := (HB.out w2 hb2).c0
  clear hb2
  by_cases hlen : t.length = s.length
  rotate_left
  · have HR := Lib.hid (HT.out false w2 (by unfold dbB; rw [decide_eq_false hlen]; simp) HB2.out)
    have f1 : ((t.length : Int) != (s.length : Int)) = true := by simp; omega
    generalize t.length = n at *
    generalize s.length = m at *
    clear hlen
    go_wp2_with fail
    go_ret
    exact HR.out
  have HE : Hid (∀ b, b = allPairs tdataB t s → b = dbB t s) := Lib.hid (fun b hb => by unfold dbB; rw [hsb, decide_eq_true hlen, hb]; rfl)
  have HLEN := Lib.hid hlen
  rw [← hlen] at HB y0
  have HI0 : Hid (IsdInv t s W1 (.int .i64 0) w2) := Lib.hid ⟨0, Nat.zero_le _, rfl, pairsTo_zero _ _ _, HB2.out⟩
  clear hlen hl' hsb HSCH
  go_wp2_with fail
  go_loopw [5] (fun i wr => IsdInv t s W1 i wr) (fun i _ => t.length - (intOf i).toNat)
  case atStart => exact HI0.out
  case round =>
    obtain ⟨k, hk, rfl, hpt, hb⟩ := hrel
    clear x0 y0
    have x0 := (HA.out wr hb).c0
    have y0 := (HB.out wr hb).c0
    by_cases hlt : k < t.length
    · have hlt' : k < s.length := by have := HLEN.out; omega
      obtain ⟨ad, p, c0, c1, c2, c3, rfl, hpe, hr, q0, q1, q2, q3⟩ := rl_at4 kDc_n HP.out hb hlt
      obtain ⟨bd, p', d0, d1, rfl, hpe', hr', q0', q1'⟩ := rl_at2 kDd_n HP'.out hb hlt'
      obtain ⟨tk, TL, TA, tl, tc, ta, td, hcs, hs, hy⟩ := kDc_open hr
      obtain ⟨TB, tb, te, hds, hs', hy'⟩ := kDd_open hr'
      simp only [List.cons.injEq, and_true] at hcs hds
      obtain ⟨rfl, rfl, rfl, rfl⟩ := hcs
      obtain ⟨rfl, rfl⟩ := hds
      obtain ⟨rfl, hvl, _, hvs⟩ := kVas_slice hy'
      obtain ⟨_, hwty, _⟩ := dc_bounds hlt HWT.out
      have HNO : Hid (tdataB t[k] s[k] = false → ∀ W, Below wr.heap.size wr W → Truth (dbB t s) w (.returned (.bool false)) W) := Lib.hid (fun hf W hB => HT.out false W (HE.out false (pairs_no hlt hlt' hf).symm) (hb.trans (hB.mono hb.size)))
      have HMORE : Hid (tdataB t[k] s[k] = true → ∀ W i, Below wr.heap.size wr W → i = .int .i64 ((k + 1 : Nat) : Int) → IsdInv t s W1 i W) := Lib.hid (fun hf W i hB hi => ⟨k + 1, hlt, hi, pairsTo_more hpt hlt hlt' hf, hb.trans (hB.mono hb.size)⟩)
      have HSD : Hid (tdataB t[k] s[k] = (decide (s[k].1 = t[k].1) && (decide (s[k].2.length ≤ 8) && s[k].2.all fun v => hasV v t[k].2))) := Lib.hid rfl
      generalize tdataB t[k] s[k] = sd at HNO HMORE HSD
      generalize t[k].2 = ty at *
      generalize s[k].2 = vs at *
      generalize t[k].1 = nm at *
      generalize s[k].1 = nm' at *
      have HVS := Lib.hid hvs
      have HTY := Lib.hid (fun (W : World) (hB : Below wr.heap.size wr W) => kTy.keep hy hB)
      have HWTY := Lib.hid hwty
      clear hr hr' hs hs' hy hy' hpt hk hvs hwty
      by_cases hn : nm' = nm
      rotate_left
      · have HR := Lib.hid (HNO.out (by rw [HSD.out, decide_eq_false hn]; rfl))
        have f1 := str_neS hn
        clear hn HMORE
        go_wp2_with fail
        go_quiet (fail)
        go_wp2_with fail
        go_ret
        exact HR.out _ (below_drewN (Below.refl _ _) _)
      subst hn
      by_cases h8 : vs.length ≤ 8
      rotate_left
      · have HR := Lib.hid (HNO.out (by rw [HSD.out, decide_eq_false h8]; simp))
        clear HMORE
        go_wp2_with fail
        go_quiet (fail)
        go_wp2_with fail
        go_ret
        exact HR.out _ (below_drewN (Below.refl _ _) _)
      have HNF : Hid ((vs.all fun v => hasV v ty) = false → ∀ W, Below wr.heap.size wr W → Truth (dbB t s) w (.returned (.bool false)) W) := Lib.hid (fun hf => HNO.out (by rw [HSD.out, hf]; simp))
      have HNT : Hid ((vs.all fun v => hasV v ty) = true → ∀ W i, Below wr.heap.size wr W → i = .int .i64 ((k + 1 : Nat) : Int) → IsdInv t s W1 i W) := Lib.hid (fun hf => HMORE.out (by rw [HSD.out, hf, decide_eq_true h8]; simp))
      have HCE : Hid (∀ W : World, Below wr.heap.size wr W → W.cell? ⟨H, 0, none⟩ = some (.slice (some ad) t.length c) ∧ W.cell? ⟨p.block, p.off + 1, none⟩ = some (.int .i64 tk) ∧ W.cell? ⟨p.block, p.off + 2, none⟩ = some (.slice TL tl tc) ∧ W.cell? ⟨p.block, p.off + 3, none⟩ = some (.slice TA ta td)) := Lib.hid (fun W hB => by
        have up : ∀ (q : Addr) (u : Value), wr.cell? q = some u → W.cell? q = some u := fun q u h => (hB.cell (World.block_lt_of_cell? wr _ h)).trans h
        exact ⟨up _ _ x0, up _ _ q1, up _ _ q2, up _ _ q3⟩)
      clear HNO HMORE HSD
      go_wp2_with fail
      go_quiet (fail)
      go_wp2_with fail
      have HI2 : Hid (IsrInv vs ty wr (.int .i64 0) (wr.drewN nq)) := Lib.hid ⟨0, Nat.zero_le _, rfl, by simp, below_drewN (Below.refl _ _) _⟩
      go_loopw [7] (fun i wr2 => IsrInv vs ty wr i wr2) (fun i _ => vs.length - (intOf i).toNat)
      case atStart => exact HI2.out
      case round =>
        obtain ⟨i, hik, rfl, hall, hb⟩ := hrel
        have HBO := Lib.hid hb
        clear x0 y0 q0 q1 q2 q3 q0' q1'
        obtain ⟨z0, z1, z2, z3⟩ := HCE.out wr hb
        by_cases hlt2 : i < vs.length
        · obtain ⟨ae, r, e0, e1, e2, e3, rfl, hre, hr, g0, g1, g2, g3⟩ := vid_at HVS.out HBO.out hlt2
          have hd : Below wr.heap.size wr wr.drew := (Below.refl _ _).drew
          have HCM := Lib.hid (specHas_any vs[i] ty wr.drew _ _ (hr.keep hd) (HTY.out wr.drew (HBO.out.trans (hd.mono HBO.out.size))) HWTY.out)
          have HN2 : Hid (hasV vs[i] ty = false → ∀ W, Below wr.heap.size wr W → Truth (dbB t s) w (.returned (.bool false)) W) := Lib.hid (fun hf W hB => HNF.out (all_no hlt2 hf) W (HBO.out.trans (hB.mono HBO.out.size)))
          have HM2 : Hid (hasV vs[i] ty = true → ∀ W j, Below wr.heap.size wr W → j = .int .i64 ((i + 1 : Nat) : Int) → IsrInv vs ty _ j W) := Lib.hid (fun hf W j hB hj => ⟨i + 1, hlt2, hj, all_take hall hlt2 hf, HBO.out.trans (hB.mono HBO.out.size)⟩)
          have HF : Hid (∀ W : World, Below wr.drew.heap.size wr.drew W → W.cell? ⟨H, 0, none⟩ = some (.slice (some ad) t.length c) ∧ W.cell? ⟨p.block, p.off + 1, none⟩ = some (.int .i64 tk) ∧ W.cell? ⟨p.block, p.off + 2, none⟩ = some (.slice TL tl tc) ∧ W.cell? ⟨p.block, p.off + 3, none⟩ = some (.slice TA ta td) ∧ W.cell? r = some e0 ∧ W.cell? ⟨r.block, r.off + 1, none⟩ = some e1 ∧ W.cell? ⟨r.block, r.off + 2, none⟩ = some e2 ∧ W.cell? ⟨r.block, r.off + 3, none⟩ = some e3) := Lib.hid (fun W hB => by
            have up : ∀ (q : Addr) (u : Value), wr.cell? q = some u → W.cell? q = some u := fun q u h => (hB.cell (World.block_lt_of_cell? wr.drew _ h)).trans h
            exact ⟨up _ _ z0, up _ _ z1, up _ _ z2, up _ _ z3, up _ _ g0, up _ _ g1, up _ _ g2, up _ _ g3⟩)
          generalize hasV vs[i] ty = cv at HCM HN2 HM2
          clear hr hall hb hik hd
          go_wp2_with fail
          go_region_held3 (fun W => W.cell? ⟨H, 0, none⟩ = some (.slice (some ad) t.length c) ∧ W.cell? ⟨p.block, p.off + 1, none⟩ = some (.int .i64 tk) ∧ W.cell? ⟨p.block, p.off + 2, none⟩ = some (.slice TL tl tc) ∧ W.cell? ⟨p.block, p.off + 3, none⟩ = some (.slice TA ta td) ∧ W.cell? r = some e0 ∧ W.cell? ⟨r.block, r.off + 1, none⟩ = some e1 ∧ W.cell? ⟨r.block, r.off + 2, none⟩ = some e2 ∧ W.cell? ⟨r.block, r.off + 3, none⟩ = some e3)
            (first | (refine ⟨?_, ?_, ?_, ?_, ?_, ?_, ?_, ?_⟩ <;> assumption) | go_keep)
            (first
              | (go_at_call 52; refine HCM.out.mono ?_; rintro e w2 ⟨rfl, hb2⟩; have HB2 := Lib.hid (show Below wr.heap.size wr w2 from (Below.refl wr.heap.size wr).drew.trans hb2); obtain ⟨a0, a1, a2, a3, a4, a5, a6, a7⟩ := HF.out w2 hb2; clear hb2))
          cases hc0 : cv
          · have HR := Lib.hid (HN2.out hc0 w2 HB2.out)
            clear hc0 HN2 HM2
            go_wp2_with fail
            go_ret
            exact HR.out
          · have HR := Lib.hid (HM2.out hc0 w2)
            clear hc0 HN2 HM2
            go_wp2_with fail
            go_roundw
            case rel => exact HR.out _ HB2.out (by go_num)
            case measure => simp [intOf]; omega
        · have he : i = vs.length := by omega
          subst he
          have HR := Lib.hid (HNT.out (by rw [List.take_length] at hall; exact hall) wr)
          clear hall hik
          go_wp2_with fail
          go_roundw
          case rel => exact HR.out _ HBO.out (by go_num)
          case measure => simp [intOf]; omega
    · have he : k = t.length := by omega
      subst he
      have HR := Lib.hid (HT.out true wr (HE.out true (pairsTo_all hpt).symm) hb)
      clear hpt hb hk
      go_wp2_with fail
      go_ret
      exact HR.out
end Go.Proofs.YtlikmgkjilmjpaaGreat
