/-
  Merged by program: CopI, ChgD, MadC.
-/
import Derived.Test.YtlikmgkjilmjpaaGreatD20
import Derived.Test.YtlikmgkjilmjpaaGreatD21
import Derived.Test.YtlikmgkjilmjpaaGreatD22
import Derived.Test.YtlikmgkjilmjpaaGreatD19
import Derived.Test.YtlikmgkjilmjpaaGreatD11
import Derived.Test.YtlikmgkjilmjpaaGreatD8
import Derived.Test.YtlikmgkjilmjpaaGreatD9
import Derived.Test.YtlikmgkjilmjpaaGreatD5

/-
  The program's copyValue: what its inner loop keeps.
-/
namespace Go.Proofs.YtlikmgkjilmjpaaGreat
open Go.RowKit Go.Shelf

attribute [local go_sem] Oper.semAt_some

/-- the cells of a list of values, one behind the other -/
theorem rvas_cells {w : World} {A : Option Addr} {ks : List Va} (h : RVas w A ks) : ∃ news : List Value, news.length = ks.length * 4 ∧ Sl w A news ∧ (∀ u ∈ news, u.oneCell' = true) ∧ ∀ j t, ks[j]? = some t → RVa w t (part4 news j) := by
  obtain ⟨ps, hp⟩ := h
  have go : ∀ k, k ≤ ks.length → ∃ news : List Value, news.length = k * 4 ∧ Sl w A news ∧ (∀ u ∈ news, u.oneCell' = true) ∧ ∀ j t, j < k → ks[j]? = some t → RVa w t (part4 news j) := by
    intro k
    induction k with
    | zero => intro _; exact ⟨[], rfl, fun j u hj => by simp at hj, fun u hu => by simp at hu, fun j t hj => by omega⟩
    | succ k ih =>
      intro hk
      obtain ⟨news, h1, h2, h3, h4⟩ := ih (by omega)
      obtain ⟨hr, ad, hA, hc⟩ := hp k _ (List.getElem?_eq_getElem (show k < ks.length by omega))
      obtain ⟨L, c, A', d, he, _⟩ := hr.open
      rw [he] at hc hr
      refine ⟨news ++ [.int .i64 ks[k].top.kind, .int .i64 ks[k].top.num, .slice L ks[k].top.labels.length c, .slice A' ks[k].kids.length d], by simp [h1]; omega, fun j u hj => ?_, fun u hu => ?_, fun j t hj ht => ?_⟩
      · rcases Nat.lt_or_ge j news.length with hlt | hge
        · rw [List.getElem?_append_left hlt] at hj
          exact h2 j u hj
        · rw [List.getElem?_append_right hge] at hj
          refine ⟨ad, hA, ?_⟩
          have e : j = k * 4 + (j - news.length) := by omega
          rw [e]
          exact hc _ u hj
      · rcases List.mem_append.1 hu with hu | hu
        · exact h3 u hu
        · simp only [List.mem_cons, List.not_mem_nil, or_false] at hu
          rcases hu with rfl | rfl | rfl | rfl <;> rfl
      · rcases Nat.lt_or_ge j k with hlt | hge
        · have e : part4 (news ++ [.int .i64 ks[k].top.kind, .int .i64 ks[k].top.num, .slice L ks[k].top.labels.length c, .slice A' ks[k].kids.length d]) j = part4 news j := part4_ext fun i hi => by rw [List.getElem?_append_left (by omega)]
          rw [e]
          exact h4 j t hlt ht
        · have ej : j = k := by omega
          subst ej
          rw [List.getElem?_eq_getElem (by omega)] at ht
          injection ht with ht
          subst ht
          have e : part4 (news ++ [.int .i64 ks[j].top.kind, .int .i64 ks[j].top.num, .slice L ks[j].top.labels.length c, .slice A' ks[j].kids.length d]) j = [.int .i64 ks[j].top.kind, .int .i64 ks[j].top.num, .slice L ks[j].top.labels.length c, .slice A' ks[j].kids.length d] := by
            unfold part4
            rw [List.drop_append_of_le_length (by omega), List.drop_eq_nil_of_le (by omega)]
            rfl
          rw [e]
          exact hr
  obtain ⟨news, h1, h2, h3, h4⟩ := go ks.length (Nat.le_refl _)
  exact ⟨news, h1, h2, h3, fun j t hj => h4 j t (List.getElem?_eq_some_iff.1 hj).1 hj⟩
theorem wv_labels (t : Va) : t.top.labels.length ≤ wv t := by
  cases t with
  | node a ks => rw [wv_node]; show a.labels.length ≤ _; unfold wvA; omega
theorem wv_kid {t k : Va} (h : k ∈ t.kids) : wv k ≤ wv t := by
  cases t with
  | node a ks =>
    rw [wv_node]
    have : wv k ≤ (ks.map wv).sum := by
      have h' : k ∈ ks := h
      clear h
      induction ks with
      | nil => cases h'
      | cons x xs ih =>
        rcases List.mem_cons.1 h' with rfl | h'
        · simp
        · have := ih h'; simp; omega
    unfold wvK
    omega
theorem wv_kids (t : Va) : t.kids.length ≤ wv t := by
  cases t with
  | node a ks => rw [wv_node]; show ks.length ≤ _; unfold wvK; omega
/-- two cells of the j-th struct replaced -/
def put4b {β : Type} (xs : List β) (j : Nat) (c d : β) : List β := (xs.set (j * 4 + 2) c).set (j * 4 + 3) d
theorem put4b_other {β : Type} (xs : List β) (j k : Nat) (c d : β) (h : k ≠ j) : part4 (put4b xs j c d) k = part4 xs k := by
  refine part4_ext fun i hi => ?_
  unfold put4b
  rw [List.getElem?_set_ne (by omega), List.getElem?_set_ne (by omega)]
theorem put4b_at {xs : List Value} {j : Nat} {a b c0 d0 : Value} (c d : Value) (h : j * 4 + 4 ≤ xs.length) (hp : part4 xs j = [a, b, c0, d0]) : part4 (put4b xs j c d) j = [a, b, c, d] := by
  have g : ∀ i, i < 4 → xs[j * 4 + i]? = [a, b, c0, d0][i]? := fun i hi => by rw [← part4_get _ _ _ hi, hp]
  apply List.ext_getElem?
  intro i
  by_cases hi : i < 4
  · rw [part4_get _ _ _ hi]
    unfold put4b
    have h2 : j * 4 + 2 < xs.length := by omega
    have h3 : j * 4 + 3 < xs.length := by omega
    match i, hi with
    | 0, _ => rw [List.getElem?_set_ne (by omega), List.getElem?_set_ne (by omega), g 0 (by omega)]; rfl
    | 1, _ => rw [List.getElem?_set_ne (by omega), List.getElem?_set_ne (by omega), g 1 (by omega)]; rfl
    | 2, _ => rw [List.getElem?_set_ne (by omega)]; simp [h2]
    | 3, _ => simp [h3]
  · rw [List.getElem?_eq_none (by rw [part4_len _ _ (by unfold put4b; simp; omega)]; omega), List.getElem?_eq_none (by simp; omega)]

/-- node j is whole but for what its parts still share -/
def CopD (w wr : World) (ys : List Value) (Ls : Nat → Option Addr) (cs : Nat → Nat) (As : Nat → Value) (j : Nat) (t : Va) : Prop :=
  part4 ys j = [.int .i64 t.top.kind, .int .i64 t.top.num, .slice (Ls j) t.top.labels.length (cs j), As j] ∧ t.top.ok ∧ wr.ownsRow 0 9 1 (.slice (Ls j) t.top.labels.length (cs j)) t.top.labels.length (t.top.labels.map Value.string) ∧ ListC w wr (t.kids, As j) ∧ (t.kids.length = 0 → As j = .slice none 0 0)
/-- between two rounds of the inner loop -/
def CopRel (w W : World) (ts : List Va) (g cap : Nat) (xs : List Value) (k : Nat) (wr : World) : Prop :=
  ∃ ys Ls cs As, wr.ownsRow 0 47 4 (.slice (some ⟨g, 0, none⟩) ts.length cap) ts.length ys ∧ (∀ j t, j < k → ts[j]? = some t → CopD w wr ys Ls cs As j t) ∧ (∀ j, k ≤ j → part4 ys j = part4 xs j) ∧
    ((List.range k).flatMap fun j => blk (Ls j) ++ rowBk (As j)).Nodup ∧ (∀ b ∈ (List.range k).flatMap fun j => blk (Ls j) ++ rowBk (As j), W.heap.size ≤ b ∧ b < wr.heap.size) ∧ Held (fun i => i ≠ g) W wr
theorem CopD.held {w wr w' : World} {ys ys' : List Value} {Ls : Nat → Option Addr} {cs : Nat → Nat} {As : Nat → Value} {j : Nat} {t : Va} {K : Nat → Prop} (h : CopD w wr ys Ls cs As j t) (hH : Held K wr w') (hp : part4 ys' j = part4 ys j) (hK : ∀ b ∈ blk (Ls j) ++ rowBk (As j), K b) : CopD w w' ys' Ls cs As j t := by
  obtain ⟨h1, h2, h3, h4, h5⟩ := h
  exact ⟨hp.trans h1, h2, own_heldv h3 hH fun b hb => hK b (List.mem_append.2 (.inl hb)), h4.held hH fun b hb => hK b (List.mem_append.2 (.inr hb)), h5⟩
theorem cop_more {w W wr w' : World} {ts : List Va} {g cap k : Nat} {xs ys : List Value} {Ls : Nat → Option Addr} {cs : Nat → Nat} {As : Nat → Value} (hgW : g < W.heap.size) (hk : k < ts.length)
    (h1 : wr.ownsRow 0 47 4 (.slice (some ⟨g, 0, none⟩) ts.length cap) ts.length ys) (h2 : ∀ j t, j < k → ts[j]? = some t → CopD w wr ys Ls cs As j t) (h3 : ∀ j, k ≤ j → part4 ys j = part4 xs j)
    (h4 : ((List.range k).flatMap fun j => blk (Ls j) ++ rowBk (As j)).Nodup) (h5 : ∀ b ∈ (List.range k).flatMap fun j => blk (Ls j) ++ rowBk (As j), W.heap.size ≤ b ∧ b < wr.heap.size) (h6 : Held (fun i => i ≠ g) W wr)
    {v1 v2 c0 d0 : Value} {news : List Value} (hp : part4 xs k = [.int .i64 ts[k].top.kind, .int .i64 ts[k].top.num, c0, d0]) (hok : ts[k].top.ok)
    (q1 : w'.ownsRow 0 47 4 (.slice (some ⟨g, 0, none⟩) ts.length cap) ts.length (put4b ys k v1 v2)) (q2 : w'.ownsRow 0 9 1 v1 ts[k].top.labels.length (ts[k].top.labels.map Value.string)) (q3 : w'.ownsRow 0 47 4 v2 ts[k].kids.length news)
    (q4 : ts[k].kids.length = 0 → v2 = .slice none 0 0) (q5 : ∀ j t, ts[k].kids[j]? = some t → RVa w t (part4 news j) ∧ wv t ≤ 1048576) (q6 : ts[k].kids.length ≤ 1048577) (q7 : Held (fun i => i ≠ g) wr w') (q8 : ∀ b, v1.ownBlock = some b → wr.heap.size ≤ b) (q9 : ∀ b, v2.ownBlock = some b → wr.heap.size ≤ b) (q10 : ∀ b, v1.ownBlock = some b → v2.ownBlock = some b → False) :
    CopRel w W ts g cap xs (k + 1) w' := by
  obtain ⟨L1, c1, rfl⟩ := own_is q2
  obtain ⟨A2, c2, rfl⟩ := own_is q3
  have hsz := q7.size
  have hWr := h6.size
  have hyl : ys.length = ts.length * 4 := h1.1
  have hb1 : ∀ b ∈ blk L1, wr.heap.size ≤ b ∧ b < w'.heap.size := fun b hb => ⟨q8 b ((blk_own _ _ _ _).2 hb), (q2.lt b ((blk_own _ _ _ _).2 hb)).2⟩
  have hb2 : ∀ b ∈ blk A2, wr.heap.size ≤ b ∧ b < w'.heap.size := fun b hb => ⟨q9 b ((blk_own _ _ _ _).2 hb), (q3.lt b ((blk_own _ _ _ _).2 hb)).2⟩
  have hfl : ((List.range (k + 1)).flatMap fun j => blk ((fun j => if j = k then L1 else Ls j) j) ++ rowBk ((fun j => if j = k then .slice A2 ts[k].kids.length c2 else As j) j)) = ((List.range k).flatMap fun j => blk (Ls j) ++ rowBk (As j)) ++ (blk L1 ++ blk A2) := by
    rw [List.range_succ, List.flatMap_append]
    congr 1
    · refine flatMap_same fun j hj => ?_
      simp only
      rw [if_neg (by omega), if_neg (by omega)]
    · simp [rowBk]
  refine ⟨_, fun j => if j = k then L1 else Ls j, fun j => if j = k then c1 else cs j, fun j => if j = k then .slice A2 ts[k].kids.length c2 else As j, q1, fun j t hj ht => ?_, fun j hj => ?_, ?_, ?_, h6.trans q7⟩
  · by_cases e : j = k
    · subst e
      rw [List.getElem?_eq_getElem hk] at ht
      injection ht with ht
      subst ht
      unfold CopD
      simp only [if_true]
      exact ⟨put4b_at _ _ (by omega) ((h3 j (Nat.le_refl _)).trans hp), hok, q2, ⟨A2, c2, news, rfl, q6, q3, q5⟩, q4⟩
    · have hd := (h2 j t (by omega) ht).held q7 (ys' := put4b ys k (.slice L1 ts[k].top.labels.length c1) (.slice A2 ts[k].kids.length c2)) (put4b_other _ _ _ _ _ e) (fun b hb e => by
        have := h5 b (in_flat.2 ⟨j, by omega, hb⟩); omega)
      unfold CopD at hd ⊢
      simp only [if_neg e]
      exact hd
  · rw [put4b_other _ _ _ _ _ (by omega)]
    exact h3 j (by omega)
  · rw [hfl]
    refine List.nodup_append.2 ⟨h4, List.nodup_append.2 ⟨by cases L1 <;> simp [blk], by cases A2 <;> simp [blk], fun x hx y hy e => ?_⟩, fun x hx y hy e => ?_⟩
    · subst e; exact q10 x ((blk_own _ _ _ _).2 hx) ((blk_own _ _ _ _).2 hy)
    · have := h5 x hx
      rcases List.mem_append.1 hy with h | h
      · have := (hb1 y h).1; omega
      · have := (hb2 y h).1; omega
  · rw [hfl]
    intro b hb
    rcases List.mem_append.1 hb with h | h
    · have := h5 b h; exact ⟨this.1, by omega⟩
    · rcases List.mem_append.1 h with h | h
      · have := hb1 b h; omega
      · have := hb2 b h; omega
end Go.Proofs.YtlikmgkjilmjpaaGreat

/-
  What a change of a table's rows makes of a database, in plain words; the rows as the program's functions read them. 
-/
namespace Go.Proofs.YtlikmgkjilmjpaaGreat
open Go.RowKit

def insF (v : Va) (rows : List Va) : Option (List Va) := some (rows ++ [v])
def delF (k : Int) (rows : List Va) : Option (List Va) := if 0 ≤ k ∧ k < (rows.length : Int) then some (rows.take k.toNat ++ rows.drop (k.toNat + 1)) else none
def rowsAt (ds : Db) (j : Nat) : List Va := (ds[j]?.map fun d => d.2).getD []
theorem rowsAt_get {ds : Db} {j : Nat} (h : j < ds.length) : rowsAt ds j = ds[j].2 := by unfold rowsAt; rw [List.getElem?_eq_getElem h]; rfl
noncomputable def chgD (xs : Sc) (ds : Db) (nm : ByteArray) (f : List Va → Option (List Va)) : Db × Bool :=
  match idxN (ds.map fun d => d.1) nm with
  | none => (ds, false)
  | some j => if dbB xs ds = true then (match f (rowsAt ds j) with
    | none => (ds, false)
    | some rs => if dbB xs (ds.set j (nm, rs)) = true then (ds.set j (nm, rs), true) else (ds, false)) else (ds, false)
theorem chgD_none {xs : Sc} {ds : Db} {nm : ByteArray} {f : List Va → Option (List Va)} (h : idxN (ds.map fun d => d.1) nm = none) : chgD xs ds nm f = (ds, false) := by unfold chgD; rw [h]
theorem chgD_bad {xs : Sc} {ds : Db} {nm : ByteArray} {f : List Va → Option (List Va)} {j : Nat} (h : idxN (ds.map fun d => d.1) nm = some j) (hb : dbB xs ds = false) : chgD xs ds nm f = (ds, false) := by unfold chgD; rw [h]; simp [hb]
theorem chgD_no {xs : Sc} {ds : Db} {nm : ByteArray} {f : List Va → Option (List Va)} {j : Nat} (h : idxN (ds.map fun d => d.1) nm = some j) (hb : dbB xs ds = true) (hf : f (rowsAt ds j) = none) : chgD xs ds nm f = (ds, false) := by unfold chgD; rw [h]; simp [hb, hf]
theorem chgD_some {xs : Sc} {ds : Db} {nm : ByteArray} {f : List Va → Option (List Va)} {j : Nat} {rs : List Va} (h : idxN (ds.map fun d => d.1) nm = some j) (hb : dbB xs ds = true) (hf : f (rowsAt ds j) = some rs) : chgD xs ds nm f = if dbB xs (ds.set j (nm, rs)) = true then (ds.set j (nm, rs), true) else (ds, false) := by unfold chgD; rw [h]; simp [hb, hf]

/-- the answer of a function that changes rows which are read in w0: the new rows are read in w0, too, and in blocks of its own -/
def ChgPost (f : List Va → Option (List Va)) (rows : List Va) (w0 w : World) (e : Ending) (w' : World) : Prop :=
  Below w.heap.size w w' ∧ ((f rows = none ∧ e = .returned (.tuple #[.slice none 0 0, .bool false])) ∨ ∃ rs A d, f rows = some rs ∧ e = .returned (.tuple #[.slice A rs.length d, .bool true]) ∧ rs.length ≤ d ∧ rs.length ≤ 9223372036854775807 ∧ ∀ U, Held (fun i => i < w0.heap.size ∨ w.heap.size ≤ i) w' U → RVas U A rs)
/-- the cells of a row of the call's own are a list of values -/
theorem rvas_row {w : World} {base n c : Nat} {A : Option Addr} {cells : List Value} {rs : List Va} (h : w.ownsRow base 47 4 (.slice A n c) n cells) (hn : rs.length = n) (hr : ∀ j t, rs[j]? = some t → RVa w t (part4 cells j)) : RVas w A rs := by
  refine ⟨part4 cells, fun j t hj => ⟨hr j t hj, ?_⟩⟩
  have hjl := (List.getElem?_eq_some_iff.1 hj).1
  obtain ⟨g, rfl⟩ : ∃ g, A = some ⟨g, 0, none⟩ := by
    rcases h.2 with ⟨_, h2⟩ | ⟨g, cap, cur, h1, _⟩
    · omega
    · injection h1 with h1 _ _
      exact ⟨g, h1⟩
  refine ⟨_, rfl, fun i u hi => ?_⟩
  have hl := (hr j t hj).len
  have hi4 : i < 4 := by
    have := (List.getElem?_eq_some_iff.1 hi).1
    omega
  rw [part4_get _ _ _ hi4] at hi
  exact h.cells (g := g) rfl _ u hi
theorem part4_apps {xs ys : List Value} {n j : Nat} (hx : xs.length = n * 4) (hj : j < n) : part4 (xs ++ ys) j = part4 xs j := part4_ext fun i hi => by rw [List.getElem?_append_left (by omega)]
theorem part4_behind {xs ys : List Value} {n j : Nat} (hx : xs.length = n * 4) : part4 (xs ++ ys) (n + j) = part4 ys j := by
  unfold part4
  rw [show (n + j) * 4 = xs.length + j * 4 by omega, List.drop_append]
  rw [List.drop_eq_nil_of_le (by omega), List.nil_append, show xs.length + j * 4 - xs.length = j * 4 by omega]

/-- the cells of a list of any kind, one behind the other -/
theorem rl_cells {α : Type} {a : Kd α} (hone : ∀ {w : World} {x : α} {cs : List Value}, a.R w x cs → ∀ u ∈ cs, u.oneCell' = true) {w : World} {A : Option Addr} {ks : List α} (h : RL a w A ks) : ∃ news : List Value, news.length = ks.length * a.n ∧ Sl w A news ∧ (∀ u ∈ news, u.oneCell' = true) ∧ ∀ j x, ks[j]? = some x → a.R w x (partK a.n news j) := by
  obtain ⟨ps, hp⟩ := h
  have go : ∀ k, k ≤ ks.length → ∃ news : List Value, news.length = k * a.n ∧ Sl w A news ∧ (∀ u ∈ news, u.oneCell' = true) ∧ ∀ j x, j < k → ks[j]? = some x → a.R w x (partK a.n news j) := by
    intro k
    induction k with
    | zero => intro _; exact ⟨[], by simp, fun j u hj => by simp at hj, fun u hu => by simp at hu, fun j t hj => by omega⟩
    | succ k ih =>
      intro hk
      obtain ⟨news, h1, h2, h3, h4⟩ := ih (by omega)
      obtain ⟨hr, ad, hA, hc⟩ := hp k _ (List.getElem?_eq_getElem (show k < ks.length by omega))
      have hl := a.len hr
      refine ⟨news ++ ps k, by rw [List.length_append, h1, hl, Nat.succ_mul], fun j u hj => ?_, fun u hu => ?_, fun j x hj hx => ?_⟩
      · rcases Nat.lt_or_ge j news.length with hlt | hge
        · rw [List.getElem?_append_left hlt] at hj
          exact h2 j u hj
        · rw [List.getElem?_append_right hge] at hj
          refine ⟨ad, hA, ?_⟩
          have e : j = k * a.n + (j - news.length) := by omega
          rw [e]
          exact hc _ u hj
      · rcases List.mem_append.1 hu with hu | hu
        · exact h3 u hu
        · exact hone hr u hu
      · rcases Nat.lt_or_ge j k with hlt | hge
        · rw [partK_app h1 hlt]
          exact h4 j x hlt hx
        · have ej : j = k := by omega
          subst ej
          rw [List.getElem?_eq_getElem (by omega)] at hx
          injection hx with hx
          subst hx
          rw [partK_end h1 hl]
          exact hr
  obtain ⟨news, h1, h2, h3, h4⟩ := go ks.length (Nat.le_refl _)
  exact ⟨news, h1, h2, h3, fun j x hj => h4 j x (List.getElem?_eq_some_iff.1 hj).1 hj⟩
theorem kDd_one {w : World} {x : Dd} {cs : List Value} (h : kDd.R w x cs) : ∀ u ∈ cs, u.oneCell' = true := by
  obtain ⟨TA, ta, td, rfl, _⟩ := kDd_open h
  intro u hu
  simp at hu
  rcases hu with rfl | rfl <;> rfl
/-- a database whose j-th rows are others -/
theorem rl_set {w U : World} {s : Db} {base g c n j m d : Nat} {cells : List Value} {nm : ByteArray} {rs : List Va} {B : Option Addr} (hn : s.length = n) (h : U.ownsRow base 66 2 (.slice (some ⟨g, 0, none⟩) n c) n (cells.set (j * 2 + 1) (.slice B m d))) (hcl : cells.length = n * 2)
    (hr : ∀ i x, s[i]? = some x → kDd.R w x (partK 2 cells i)) (hb : Below w.heap.size w U) (hj : j < s.length) (hnm : s[j].1 = nm) (hm : m = rs.length) (hrs : RVas U B rs) (hld : rs.length ≤ d) (hl : rs.length ≤ 9223372036854775807) : RL kDd U (some ⟨g, 0, none⟩) (s.set j (nm, rs)) := by
  refine ⟨partK 2 (cells.set (j * 2 + 1) (.slice B m d)), fun i x hi => ⟨?_, _, rfl, fun q u hq => ?_⟩⟩
  · by_cases e : i = j
    · subst e
      rw [List.getElem?_set_self hj] at hi
      injection hi with hi
      subst hi
      obtain ⟨TA, ta, td, hcs, hs, _⟩ := kDd_open (hr i _ (List.getElem?_eq_getElem hj))
      have e2 : partK 2 (cells.set (i * 2 + 1) (.slice B m d)) i = [.string nm, .slice B rs.length d] := by
        have g0 : ∀ q, q < 2 → cells[i * 2 + q]? = [Value.string s[i].1, .slice TA ta td][q]? := fun q hq => by rw [← partK_get _ _ _ _ hq, hcs]
        apply List.ext_getElem?
        intro q
        match q with
        | 0 => rw [partK_get _ _ _ _ (by omega), List.getElem?_set_ne (by omega), g0 0 (by omega), ← hnm]; rfl
        | 1 => rw [partK_get _ _ _ _ (by omega), List.getElem?_set_self (by omega), hm]; rfl
        | q + 2 =>
          unfold partK
          rw [List.getElem?_take_eq_none (by omega)]
          rfl
      rw [e2]
      exact ⟨[.string nm], [.slice B rs.length d], rfl, ⟨rfl, by rw [← hnm]; exact hs⟩, ⟨B, d, rfl, hl, hld, hrs⟩⟩
    · rw [List.getElem?_set_ne (fun h => e h.symm)] at hi
      have e2 : partK 2 (cells.set (j * 2 + 1) (.slice B m d)) i = partK 2 cells i := by
        apply List.ext_getElem?
        intro q
        by_cases hq : q < 2
        · rw [partK_get _ _ _ _ hq, partK_get _ _ _ _ hq, List.getElem?_set_ne (by omega)]
        · unfold partK
          rw [List.getElem?_take_eq_none (by omega), List.getElem?_take_eq_none (by omega)]
      rw [e2]
      exact kDd.keep (hr i x hi) hb
  · have hq2 : q < 2 := by
      have := (List.getElem?_eq_some_iff.1 hq).1
      unfold partK at this
      rw [List.length_take] at this
      omega
    rw [partK_get _ _ _ _ hq2] at hq
    exact h.cells (g := g) rfl _ u hq
end Go.Proofs.YtlikmgkjilmjpaaGreat

/-
  A database in new memory, handed back beside a truth.
-/
namespace Go.Proofs.YtlikmgkjilmjpaaGreat
open Go.RowKit

def MadeChg (p : Db × Bool) (w : World) (e : Ending) (w' : World) : Prop :=
  ∃ (A : Option Addr) (d : Nat) (fp : List Nat), e = .returned (.tuple #[.agg #[.slice A p.1.length d], .bool p.2]) ∧ ODb w' p.1 [.slice A p.1.length d] fp ∧ (∀ b ∈ fp, w.heap.size ≤ b ∧ b < w'.heap.size) ∧ Below w.heap.size w w'
theorem made_chg {w W2 w3 U : World} {s : Db} {e : Ending} {G : Nat} {b : Bool} (h : MadeDb s W2 e w3) (hb : Below w.heap.size w W2) (hG : G < W2.heap.size) (hwG : w.heap.size ≤ G) (hU : w3.grownBy U (some G)) :
    ∃ (A : Option Addr) (d : Nat), e = .returned (.agg #[.slice A s.length d]) ∧ MadeChg (s, b) w (.returned (.tuple #[.agg #[.slice A s.length d], .bool b])) U := by
  obtain ⟨A, d, fp, rfl, ho, hfp, hb3⟩ := h
  have hsU := hU.size
  have hs := hb.size
  have hs3 := hb3.size
  refine ⟨A, d, rfl, A, d, fp, rfl, ?_, fun q hq => by have := hfp q hq; omega, ?_⟩
  · exact ODb.ol.2 (OL.held (ODb.ol.1 ho) (K := fun i => some i ≠ some G) ⟨hU.os, hU.tape, hU.output, hU.size, fun i hi hd => hU.block i hi hd⟩ (fun q hq e1 => by injection e1 with e1; have := hfp q hq; omega))
  · have h1 := hb.trans (hb3.mono hs)
    exact h1.grown hU h1.size (fun q hq => by injection hq with hq; omega)
theorem made_chgN {w W2 w3 U : World} {s : Db} {e : Ending} {G n : Nat} {b : Bool} (hn : s.length = n) (h : MadeDb s W2 e w3) (hb : Below w.heap.size w W2) (hG : G < W2.heap.size) (hwG : w.heap.size ≤ G) (hU : w3.grownBy U (some G)) :
    ∃ (A : Option Addr) (d : Nat), e = .returned (.agg #[.slice A n d]) ∧ MadeChg (s, b) w (.returned (.tuple #[.agg #[.slice A n d], .bool b])) U := by
  subst hn
  exact made_chg h hb hG hwG hU
theorem made_chg2 {w W2 w3 U : World} {p : Db × Bool} {e : Ending} {G : Nat} (h : MadeChg p W2 e w3) (hb : Below w.heap.size w W2) (hG : G < W2.heap.size) (hwG : w.heap.size ≤ G) (hU : w3.grownBy U (some G)) :
    ∃ (A : Option Addr) (d : Nat), e = .returned (.tuple #[.agg #[.slice A p.1.length d], .bool p.2]) ∧ MadeChg p w (.returned (.tuple #[.agg #[.slice A p.1.length d], .bool p.2])) U := by
  obtain ⟨A, d, fp, rfl, ho, hfp, hb3⟩ := h
  have hsU := hU.size
  have hs := hb.size
  have hs3 := hb3.size
  refine ⟨A, d, rfl, A, d, fp, rfl, ?_, fun q hq => by have := hfp q hq; omega, ?_⟩
  · exact ODb.ol.2 (OL.held (ODb.ol.1 ho) (K := fun i => some i ≠ some G) ⟨hU.os, hU.tape, hU.output, hU.size, fun i hi hd => hU.block i hi hd⟩ (fun q hq e1 => by injection e1 with e1; have := hfp q hq; omega))
  · have h1 := hb.trans (hb3.mono hs)
    exact h1.grown hU h1.size (fun q hq => by injection hq with hq; omega)
theorem wv_insF {v : Va} {rows rs : List Va} (hwv : wv v ≤ 1048576) (h1 : ∀ x ∈ rows, wv x ≤ 1048576) (hrs : insF v rows = some rs) : ∀ x ∈ rs, wv x ≤ 1048576 := by
  have e : rows ++ [v] = rs := by simpa [insF] using hrs
  subst e
  intro x hx
  rcases List.mem_append.1 hx with hx | hx
  · exact h1 x hx
  · simp at hx; subst hx; exact hwv
theorem wv_delF {k : Int} {rows rs : List Va} (h1 : ∀ x ∈ rows, wv x ≤ 1048576) (hrs : delF k rows = some rs) : ∀ x ∈ rs, wv x ≤ 1048576 := by
  unfold delF at hrs
  split at hrs
  · injection hrs with e
    subst e
    intro x hx
    rcases List.mem_append.1 hx with hx | hx
    · exact h1 x (List.mem_of_mem_take hx)
    · exact h1 x (List.mem_of_mem_drop hx)
  · cases hrs
theorem rl_at2w {w wr : World} {A : Option Addr} {xs : Db} (hp : RL kDd w A xs) (hb : Below w.heap.size w wr) {k : Nat} (hk : k < xs.length) : ∃ (ad p : Addr) (c0 c1 : Value), A = some ad ∧ ad.add (k * 2) = p ∧ kDd.R wr xs[k] [c0, c1] ∧ wr.cell? p = some c0 ∧ wr.cell? ⟨p.block, p.off + 1, none⟩ = some c1 ∧ kDd.R w xs[k] [c0, c1] := by
  obtain ⟨ad, p, c0, c1, h1, h2, h3, h4, h5⟩ := rl_at2 kDd_n hp (Below.refl _ _) hk
  exact ⟨ad, p, c0, c1, h1, h2, kDd.keep h3 hb, (hb.cell (World.block_lt_of_cell? w _ h4)).trans h4, (hb.cell (World.block_lt_of_cell? w _ h5)).trans h5, h3⟩
theorem own_someG {w : World} {base size n : Nat} {e : TypeId} {A : Option Addr} {c : Nat} {xs : List Value} (h : w.ownsRow base e size (.slice A n c) n xs) (hn : 0 < n) : ∃ g, A = some ⟨g, 0, none⟩ := by
  rcases h.2 with ⟨_, h2⟩ | ⟨g, cap, cur, h1, _⟩
  · omega
  · injection h1 with h1 _ _
    exact ⟨g, h1⟩
end Go.Proofs.YtlikmgkjilmjpaaGreat
